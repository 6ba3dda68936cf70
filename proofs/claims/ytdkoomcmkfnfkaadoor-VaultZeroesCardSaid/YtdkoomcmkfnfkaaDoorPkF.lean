/-
  What other texts lean on: FrRefSum, FrRefPut, FrRefGet, FrSame.
-/
import Derived.Test.YtdkoomcmkfnfkaaDoorPkA
import Derived.Test.YtdkoomcmkfnfkaaDoorPkD
import Derived.Laws.Rows
/-
  The document's checksum and its numbers of four bytes.
-/
namespace Go.Proofs.YtdkoomcmkfnfkaaDoor
open Go.RowKit Go.Proofs.ShaWords
theorem bitN_step (k : Nat) (r : BitVec 32) : bit1 (bitN k r) = bitN (k + 1) r := (bitN_succ k r).symm
theorem not32_end (x : BitVec 32) : bits .xor .u32 (n32 x) 4294967295 = n32 (~~~ x) := by
  have h := xor32 x 4294967295#32
  rw [show ~~~ x = x ^^^ 4294967295#32 by
    rw [show (4294967295#32 : BitVec 32) = BitVec.allOnes 32 by decide, BitVec.xor_allOnes]]
  exact h
theorem crcR_takeE {l : List (BitVec 8)} {k : Nat} (h : k < l.length) (r : BitVec 32) : crcR r (l.take (k + 1)) = bitN 8 (crcR r (l.take k) ^^^ ext l[k]) := by
  rw [List.take_succ_eq_append_getElem h, crcR_append]
  rfl
theorem tmod2_32 (r : BitVec 32) : (n32 r).tmod (2 : Int) = if r.getLsbD 0 then 1 else 0 := by
  rw [Int.tmod_eq_emod_of_nonneg (n32_nonneg r), mod2_32]
theorem tdiv2_32 (r : BitVec 32) : (n32 r).tdiv (2 : Int) % (4294967296 : Int) = n32 (r >>> 1) := by
  rw [Int.tdiv_eq_ediv_of_nonneg (n32_nonneg r)]
  unfold n32
  rw [BitVec.toNat_ushiftRight, Nat.shiftRight_eq_div_pow]
  have := r.isLt
  omega
theorem xorP (r : BitVec 32) : bits .xor .u32 (n32 r) 3988292384 = n32 (r ^^^ 3988292384#32) := xor32 r 3988292384#32
attribute [local go_sem] xor32 wrap32_n8 not32_end xorP tdiv2_32
set_option maxRecDepth 100000 in
set_option maxHeartbeats 1000000 in
theorem refSum9_any (l : List (BitVec 8)) (n : Nat) (p : Option Addr) (c : Nat) (w : World) (hn : l.length = n) (hl : n < 140737488355328) (hL : Lies w p l) :
    Calls Tryd.prog 81 #[.slice p n c] w fun e w' => e = .returned (.int .u32 (n32 (crcOf l))) ∧ w' = w := by
  have HL := Lib.hid hL; clear hL
  have HN := Lib.hid hn; clear hn
  go_enter Tryd.func81, Tryd.ntmps81
  go_wp2_with fail
  go_loopw [3, 4] (fun r i wr => ∃ k : Nat, k ≤ n ∧ i = .int .i64 k ∧ r = .int .u32 (n32 (crcR (~~~ 0#32) (l.take k))) ∧ wr = w) (fun _ i _ => n - (intOf i).toNat)
  case atStart => exact ⟨0, Nat.zero_le _, rfl, rfl, rfl⟩
  case round =>
    obtain ⟨k, hk, rfl, rfl, rfl⟩ := hrel
    by_cases hlt : k < n
    · have hlt' : k < l.length := by rw [HN.out]; exact hlt
      have hv : (bytesV l)[k]? = some (.int .u8 (n8 l[k])) := by simp [bytesV, hlt']
      rcases HL.out with h0 | ⟨b, off, rfl, hr⟩
      · exfalso; rw [h0] at hlt'; simp at hlt'
      have hc := hr k _ hv
      have HT := Lib.hid (crcR_takeE hlt' (~~~ 0#32))
      generalize l[k] = x at hc HT
      generalize crcR (~~~ 0#32) (l.take k) = r at HT ⊢
      clear hr hv hlt'
      have q0 : (k : Int) < (n : Int) := by omega
      go_wp2_with fail
      go_loopw [3, 5] (fun v i wr2 => ∃ j : Nat, j ≤ 8 ∧ i = .int .i64 j ∧ v = .int .u32 (n32 (bitN j (r ^^^ ext x))) ∧ wr2 = wr) (fun _ i _ => 8 - (intOf i).toNat)
      case atStart => exact ⟨0, Nat.zero_le _, rfl, rfl, rfl⟩
      case round =>
        obtain ⟨j, hj, rfl, rfl, rfl⟩ := hrel
        by_cases hj8 : j < 8
        · have qj : (j : Int) < 8 := by omega
          have HBS := Lib.hid (bitN_step j (r ^^^ ext x))
          generalize bitN j (r ^^^ ext x) = y at HBS ⊢
          have ht := tmod2_32 y
          have hm := mod2_32 y
          cases hy : y.getLsbD 0 with
          | true =>
            rw [hy, if_pos rfl] at ht hm
            have HB1 := Lib.hid (bit1_on hy)
            clear hy
            go_wp2_with fail
            go_roundw
            case rel => exact ⟨j + 1, by omega, by go_num, by rw [← HBS.out, HB1.out], by trivial⟩
            case measure => simp [intOf]; omega
          | false =>
            rw [hy] at ht hm
            simp only [Bool.false_eq_true, if_false] at ht hm
            have HB1 := Lib.hid (bit1_even hy)
            clear hy
            go_wp2_with fail
            go_roundw
            case rel => exact ⟨j + 1, by omega, by go_num, by rw [← HBS.out, HB1.out]; exact congrArg (Value.int .u32) (tdiv2_32 y), by trivial⟩
            case measure => simp [intOf]; omega
        · have e8 : j = 8 := by omega
          subst e8
          go_wp2_with fail
          go_roundw
          case rel => exact ⟨k + 1, by omega, by go_num, by rw [HT.out], by trivial⟩
          case measure => simp [intOf]; omega
    · have e : k = n := by omega
      subst e
      go_wp2_with fail
      go_ret
      refine ⟨?_, rfl⟩
      unfold crcOf
      rw [List.take_of_length_le (by rw [HN.out]; exact Nat.le_refl _)]
      rfl
end Go.Proofs.YtdkoomcmkfnfkaaDoor

/-
  The document's answer of what is put.
-/
namespace Go.Proofs.YtdkoomcmkfnfkaaDoor
open Go.RowKit Go.Proofs.ShaWords
theorem four24 (x : BitVec 32) : (n32 x).tdiv (16777216 : Int) % (4294967296 : Int) = n32 (x >>> 24) := by
  rw [Int.tdiv_eq_ediv_of_nonneg (n32_nonneg x)]
  unfold n32
  rw [BitVec.toNat_ushiftRight, Nat.shiftRight_eq_div_pow]
  have := x.isLt
  omega
theorem four16 (x : BitVec 32) : (n32 x).tdiv (65536 : Int) % (4294967296 : Int) = n32 (x >>> 16) := by
  rw [Int.tdiv_eq_ediv_of_nonneg (n32_nonneg x)]
  unfold n32
  rw [BitVec.toNat_ushiftRight, Nat.shiftRight_eq_div_pow]
  have := x.isLt
  omega
theorem four8 (x : BitVec 32) : (n32 x).tdiv (256 : Int) % (4294967296 : Int) = n32 (x >>> 8) := by
  rw [Int.tdiv_eq_ediv_of_nonneg (n32_nonneg x)]
  unfold n32
  rw [BitVec.toNat_ushiftRight, Nat.shiftRight_eq_div_pow]
  have := x.isLt
  omega
theorem rem256 (x : BitVec 32) : IntKind.u8.wrap ((n32 x).tmod (256 : Int)) = n8 (lo8 x) := by
  rw [Int.tmod_eq_emod_of_nonneg (n32_nonneg x), ← wrap8_n32, IntKind.wrap_u8', IntKind.wrap_u8']
  omega
theorem own_four (x : BitVec 32) (w w' : World) (h : w'.heap[w.heap.size]? = some (.cells (bytesV (be4 x)).toArray 5 (0, 0))) : Own w.heap.size w' (be4 x) (.slice (some ⟨w.heap.size, 0, none⟩) 4 4) :=
  ⟨rfl, .inr ⟨w.heap.size, 4, _, rfl, Nat.le_refl _, h, Nat.le_refl _, by unfold maxLen; omega, rfl, rfl⟩⟩
theorem own_one (x : BitVec 8) (w w' : World) (h : w'.heap[w.heap.size]? = some (.cells (bytesV [x]).toArray 5 (0, 0))) : Own w.heap.size w' [x] (.slice (some ⟨w.heap.size, 0, none⟩) 1 1) :=
  ⟨rfl, .inr ⟨w.heap.size, 1, _, rfl, Nat.le_refl _, h, Nat.le_refl _, by unfold maxLen; omega, rfl, rfl⟩⟩
attribute [local go_sem] wrap8_n32 four24 four16 four8 rem256
end Go.Proofs.YtdkoomcmkfnfkaaDoor

/-
  The document's answer of what is got.
-/
namespace Go.Proofs.YtdkoomcmkfnfkaaDoor
open Go.RowKit Go.Proofs.ShaWords
/-- The length as the document adds it up. -/
def lenTo (l : List (BitVec 8)) : Nat → Nat
  | 0 => 0
  | k + 1 => lenTo l k * 256 + (l.getD (k + 1) 0#8).toNat
theorem w4_num (a b c d : BitVec 8) : (w4 [a, b, c, d]).toNat = a.toNat * 16777216 + b.toNat * 65536 + c.toNat * 256 + d.toNat := by
  have h := lo8_w4 a b c d
  generalize w4 [a, b, c, d] = x at h
  unfold be4 at h
  simp only [List.cons.injEq, and_true] at h
  obtain ⟨h1, h2, h3, h4⟩ := h
  have e : ∀ (y : BitVec 32), (lo8 y).toNat = y.toNat % 256 := fun y => by unfold lo8; rw [BitVec.toNat_setWidth]
  have s : ∀ (y : BitVec 32) (k : Nat), (y >>> k).toNat = y.toNat / 2 ^ k := fun y k => by rw [BitVec.toNat_ushiftRight, Nat.shiftRight_eq_div_pow]
  have g1 := congrArg BitVec.toNat h1
  have g2 := congrArg BitVec.toNat h2
  have g3 := congrArg BitVec.toNat h3
  have g4 := congrArg BitVec.toNat h4
  rw [e, s] at g1 g2 g3
  rw [e] at g4
  have := x.isLt
  omega
theorem lenTo_four (l : List (BitVec 8)) : lenTo l 4 = len4 l := by
  unfold len4
  have e : ∀ j, (l.drop 1).getD j 0#8 = l.getD (j + 1) 0#8 := fun j => by simp only [List.getD, List.getElem?_drop]; rw [Nat.add_comm 1 j]
  have h : w4 (l.drop 1) = w4 [l.getD 1 0#8, l.getD 2 0#8, l.getD 3 0#8, l.getD 4 0#8] := by
    unfold w4
    rw [e, e, e, e]
    rfl
  rw [h, w4_num]
  show (((0 * 256 + (l.getD 1 0#8).toNat) * 256 + (l.getD 2 0#8).toNat) * 256 + (l.getD 3 0#8).toNat) * 256 + (l.getD 4 0#8).toNat = _
  omega
theorem lenTo_lt (l : List (BitVec 8)) : ∀ k, lenTo l k < 256 ^ k
  | 0 => by show 0 < 1; decide
  | k + 1 => by
    have := lenTo_lt l k
    have h := (l.getD (k + 1) 0#8).isLt
    show lenTo l k * 256 + _ < _
    rw [Nat.pow_succ]
    omega
/-- The frame that was put of what is there is what is there just if the sum is right. -/
theorem put_same {l : List (BitVec 8)} (h1 : ¬ l.length < 5) (h2 : ¬ l.getD 0 0#8 = 0#8) (h3 : ¬ 2039 < len4 l) (h4 : ¬ l.length < len4 l + 9) : l.take (len4 l + 9) = frameB (l.getD 0 0#8) (getB l) ↔ w4 (l.drop (len4 l + 5)) = crcOf (l.take (len4 l + 5)) := by
  have hgl : (getB l).length = len4 l := by unfold getB; rw [List.length_take, List.length_drop]; omega
  constructor
  · intro h
    have e : l = frameB (l.getD 0 0#8) (getB l) ++ l.drop (len4 l + 9) := by rw [← h, List.take_append_drop]
    have g : getE l = 0 := by rw [e]; exact getE_frame _ _ _ h2 (by omega)
    exact (getE_zero g).2.2.2.2
  · intro h
    have g := (getE_form (getE_ok h1 h2 h3 h4 h)).1
    have hfl := frameB_length (l.getD 0 0#8) (getB l)
    rw [hgl] at hfl
    have t := congrArg (List.take (len4 l + 9)) g
    rwa [List.take_append_of_le_length (by omega), List.take_of_length_le (l := frameB _ _) (by omega)] at t
section
variable {ρ : Operand → Value} {o : Oper} {x y z : Operand}
theorem r_addC {n C : Nat} (ho : o.op = .binOp .add 3 (.const (.int .i64 (C : Int))) x 3) (h0 : ρ (.const (.int .i64 (C : Int))) = .int .i64 (C : Int)) (hx : ρ x = .int .i64 (n : Int)) (hb : n + C < 1000000000) (w : World) : (execOp ρ o).run Tryd.prog w = .ok (.value (.int .i64 ((n + C : Nat) : Int))) w := by
  obtain ⟨dst, op, ty', pos, after, guard⟩ := o
  simp only at ho
  subst ho
  have h : IntKind.i64.wrap ((C : Int) + (n : Int)) = ((n + C : Nat) : Int) := by rw [IntKind.wrap_i64]; omega
  go_simp
theorem r_addD {n C : Nat} (ho : o.op = .binOp .add 3 x (.const (.int .i64 (C : Int))) 3) (h0 : ρ (.const (.int .i64 (C : Int))) = .int .i64 (C : Int)) (hx : ρ x = .int .i64 (n : Int)) (hb : n + C < 1000000000) (w : World) : (execOp ρ o).run Tryd.prog w = .ok (.value (.int .i64 ((n + C : Nat) : Int))) w := by
  obtain ⟨dst, op, ty', pos, after, guard⟩ := o
  simp only at ho
  subst ho
  have h : IntKind.i64.wrap ((n : Int) + (C : Int)) = ((n + C : Nat) : Int) := by rw [IntKind.wrap_i64]; omega
  go_simp
theorem run_fromTo {b off n c k m : Nat} (ho : o.op = .slice 37 x (some y) (some z) none) (hx : ρ x = .slice (some ⟨b, off, none⟩) n c) (hy : ρ y = .int .i64 (k : Int)) (hz : ρ z = .int .i64 ((m + k : Nat) : Int)) (hm : m + k ≤ c) (hk : k < c) (w : World) :
    (execOp ρ o).run Tryd.prog w = .ok (.value (.slice (some ⟨b, off + k, none⟩) m (c - k))) w := by
  obtain ⟨dst, op, ty', pos, after, guard⟩ := o
  simp only at ho
  subst ho
  have q1 : (k : Int) ≤ ((m + k : Nat) : Int) := by omega
  have q2 : ((m + k : Nat) : Int) ≤ (c : Int) := by omega
  have q3 : ¬ c = k := by omega
  have q4 : (m : Int) + (k : Int) ≤ (c : Int) := by omega
  have q5 : m + k - k = m := by omega
  have q6 : ((m : Int) + (k : Int)).toNat = m + k := by omega
  have q7 : (0 : Int) ≤ (m : Int) + (k : Int) := by omega
  go_simp
end
end Go.Proofs.YtdkoomcmkfnfkaaDoor

/-
  The kit's SameFrames, SpoilFrames and SpoilFramesDeep.
-/
namespace Go.Proofs.YtdkoomcmkfnfkaaDoor
open Go.RowKit Go.Proofs.ShaWords
theorem run_eqKind {ρ : Operand → Value} {o : Oper} {x y : Operand} {n : Int} {ty : TypeId} (ho : o.op = .binOp .eql 3 x y ty) (hx : ρ x = .int .i64 n) (hy : ρ y = .int .i64 n) (w : World) : (execOp ρ o).run Tryd.prog w = .ok (.value (.bool true)) w := by
  obtain ⟨dst, op, ty', pos, after, guard⟩ := o
  simp only at ho
  subst ho
  go_simp
end Go.Proofs.YtdkoomcmkfnfkaaDoor
