/-
  What other texts lean on: FrRefSum, FrRefPut, FrRefGet, FrRefScan, FrSame.
-/
import Derived.Test.YtejekgceompjpaaDoorPkA
import Derived.Test.YtejekgceompjpaaDoorPkD
import Derived.Laws.Rows
/-
  The document's checksum and its numbers of four bytes.
-/
namespace Go.Proofs.YtejekgceompjpaaDoor
open Go.RowKit Go.Proofs.ShaWords
theorem bitN_step (k : Nat) (r : BitVec 32) : bit1 (bitN k r) = bitN (k + 1) r := (bitN_succ k r).symm
theorem not32_end (x : BitVec 32) : bits .xor .u32 (n32 x) 4294967295 = n32 (~~~ x) := by
  have h := xor32 x 4294967295#32
  rw [show ~~~ x = x ^^^ 4294967295#32 by
    rw [show (4294967295#32 : BitVec 32) = BitVec.allOnes 32 by decide, BitVec.xor_allOnes]]
  exact h
theorem crcR_takeE {l : List (BitVec 8)} {k : Nat} (h : k < l.length) (r : BitVec 32) : crcR r (l.take (k + 1)) = bitN 8 (crcR r (l.take k) ^^^ ext l[k]) := by
  rw [List.take_succ_eq_append_getElem h, crcR_append]
  rfl
theorem tmod2_32 (r : BitVec 32) : (n32 r).tmod (2 : Int) = if r.getLsbD 0 then 1 else 0 := by
  rw [Int.tmod_eq_emod_of_nonneg (n32_nonneg r), mod2_32]
theorem tdiv2_32 (r : BitVec 32) : (n32 r).tdiv (2 : Int) % (4294967296 : Int) = n32 (r >>> 1) := by
  rw [Int.tdiv_eq_ediv_of_nonneg (n32_nonneg r)]
  unfold n32
  rw [BitVec.toNat_ushiftRight, Nat.shiftRight_eq_div_pow]
  have := r.isLt
  omega
theorem xorP (r : BitVec 32) : bits .xor .u32 (n32 r) 3988292384 = n32 (r ^^^ 3988292384#32) := xor32 r 3988292384#32
attribute [local go_sem] xor32 wrap32_n8 not32_end xorP tdiv2_32
set_option maxRecDepth 100000 in
set_option maxHeartbeats 1000000 in
theorem refSum9_any (l : List (BitVec 8)) (n : Nat) (p : Option Addr) (c : Nat) (w : World) (hn : l.length = n) (hl : n < 140737488355328) (hL : Lies w p l) :
    Calls Tryd.prog 17 #[.slice p n c] w fun e w' => e = .returned (.int .u32 (n32 (crcOf l))) ∧ w' = w := by
  have HL := Lib.hid hL; clear hL
  have HN := Lib.hid hn; clear hn
  go_enter Tryd.func17, Tryd.ntmps17
  go_wp2_with fail
  go_loopw [3, 4] (fun r i wr => ∃ k : Nat, k ≤ n ∧ i = .int .i64 k ∧ r = .int .u32 (n32 (crcR (~~~ 0#32) (l.take k))) ∧ wr = w) (fun _ i _ => n - (intOf i).toNat)
  case atStart => exact ⟨0, Nat.zero_le _, rfl, rfl, rfl⟩
  case round =>
    obtain ⟨k, hk, rfl, rfl, rfl⟩ := hrel
    by_cases hlt : k < n
    · have hlt' : k < l.length := by rw [HN.out]; exact hlt
      have hv : (bytesV l)[k]? = some (.int .u8 (n8 l[k])) := by simp [bytesV, hlt']
      rcases HL.out with h0 | ⟨b, off, rfl, hr⟩
      · exfalso; rw [h0] at hlt'; simp at hlt'
      have hc := hr k _ hv
      have HT := Lib.hid (crcR_takeE hlt' (~~~ 0#32))
      generalize l[k] = x at hc HT
      generalize crcR (~~~ 0#32) (l.take k) = r at HT ⊢
      clear hr hv hlt'
      have q0 : (k : Int) < (n : Int) := by omega
      go_wp2_with fail
      go_loopw [3, 5] (fun v i wr2 => ∃ j : Nat, j ≤ 8 ∧ i = .int .i64 j ∧ v = .int .u32 (n32 (bitN j (r ^^^ ext x))) ∧ wr2 = wr) (fun _ i _ => 8 - (intOf i).toNat)
      case atStart => exact ⟨0, Nat.zero_le _, rfl, rfl, rfl⟩
      case round =>
        obtain ⟨j, hj, rfl, rfl, rfl⟩ := hrel
        by_cases hj8 : j < 8
        · have qj : (j : Int) < 8 := by omega
          have HBS := Lib.hid (bitN_step j (r ^^^ ext x))
          generalize bitN j (r ^^^ ext x) = y at HBS ⊢
          have ht := tmod2_32 y
          have hm := mod2_32 y
          cases hy : y.getLsbD 0 with
          | true =>
            rw [hy, if_pos rfl] at ht hm
            have HB1 := Lib.hid (bit1_on hy)
            clear hy
            go_wp2_with fail
            go_roundw
            case rel => exact ⟨j + 1, by omega, by go_num, by rw [← HBS.out, HB1.out], by trivial⟩
            case measure => simp [intOf]; omega
          | false =>
            rw [hy] at ht hm
            simp only [Bool.false_eq_true, if_false] at ht hm
            have HB1 := Lib.hid (bit1_even hy)
            clear hy
            go_wp2_with fail
            go_roundw
            case rel => exact ⟨j + 1, by omega, by go_num, by rw [← HBS.out, HB1.out]; exact congrArg (Value.int .u32) (tdiv2_32 y), by trivial⟩
            case measure => simp [intOf]; omega
        · have e8 : j = 8 := by omega
          subst e8
          go_wp2_with fail
          go_roundw
          case rel => exact ⟨k + 1, by omega, by go_num, by rw [HT.out], by trivial⟩
          case measure => simp [intOf]; omega
    · have e : k = n := by omega
      subst e
      go_wp2_with fail
      go_ret
      refine ⟨?_, rfl⟩
      unfold crcOf
      rw [List.take_of_length_le (by rw [HN.out]; exact Nat.le_refl _)]
      rfl
end Go.Proofs.YtejekgceompjpaaDoor

/-
  The document's answer of what is put.
-/
namespace Go.Proofs.YtejekgceompjpaaDoor
open Go.RowKit Go.Proofs.ShaWords
theorem four24 (x : BitVec 32) : (n32 x).tdiv (16777216 : Int) % (4294967296 : Int) = n32 (x >>> 24) := by
  rw [Int.tdiv_eq_ediv_of_nonneg (n32_nonneg x)]
  unfold n32
  rw [BitVec.toNat_ushiftRight, Nat.shiftRight_eq_div_pow]
  have := x.isLt
  omega
theorem four16 (x : BitVec 32) : (n32 x).tdiv (65536 : Int) % (4294967296 : Int) = n32 (x >>> 16) := by
  rw [Int.tdiv_eq_ediv_of_nonneg (n32_nonneg x)]
  unfold n32
  rw [BitVec.toNat_ushiftRight, Nat.shiftRight_eq_div_pow]
  have := x.isLt
  omega
theorem four8 (x : BitVec 32) : (n32 x).tdiv (256 : Int) % (4294967296 : Int) = n32 (x >>> 8) := by
  rw [Int.tdiv_eq_ediv_of_nonneg (n32_nonneg x)]
  unfold n32
  rw [BitVec.toNat_ushiftRight, Nat.shiftRight_eq_div_pow]
  have := x.isLt
  omega
theorem rem256 (x : BitVec 32) : IntKind.u8.wrap ((n32 x).tmod (256 : Int)) = n8 (lo8 x) := by
  rw [Int.tmod_eq_emod_of_nonneg (n32_nonneg x), ← wrap8_n32, IntKind.wrap_u8', IntKind.wrap_u8']
  omega
theorem own_four (x : BitVec 32) (w w' : World) (h : w'.heap[w.heap.size]? = some (.cells (bytesV (be4 x)).toArray 5 (0, 0))) : Own w.heap.size w' (be4 x) (.slice (some ⟨w.heap.size, 0, none⟩) 4 4) :=
  ⟨rfl, .inr ⟨w.heap.size, 4, _, rfl, Nat.le_refl _, h, Nat.le_refl _, by unfold maxLen; omega, rfl, rfl⟩⟩
theorem own_one (x : BitVec 8) (w w' : World) (h : w'.heap[w.heap.size]? = some (.cells (bytesV [x]).toArray 5 (0, 0))) : Own w.heap.size w' [x] (.slice (some ⟨w.heap.size, 0, none⟩) 1 1) :=
  ⟨rfl, .inr ⟨w.heap.size, 1, _, rfl, Nat.le_refl _, h, Nat.le_refl _, by unfold maxLen; omega, rfl, rfl⟩⟩
attribute [local go_sem] wrap8_n32 four24 four16 four8 rem256
set_option maxHeartbeats 400000 in
theorem four_any (x : BitVec 32) (w : World) : Calls Tryd.prog 31 #[.int .u32 (n32 x)] w fun e w' => ∃ v, e = .returned v ∧ Own w.heap.size w' (be4 x) v ∧ Below w.heap.size w w' := by
  go_enter Tryd.func31, Tryd.ntmps31
  go_wp2_with fail
  go_ret
  exact ⟨_, rfl, own_four x w _ (heap_new_at rfl), (Below.refl _ _).alloc (Nat.le_refl _) _⟩
set_option maxHeartbeats 1000000 in
theorem refPut9_any (z : Int) (l : List (BitVec 8)) (n : Nat) (p : Option Addr) (c : Nat) (w : World) (hn : l.length = n) (hl : n < 140737488355000) (hL : Lies w p l) :
    Calls Tryd.prog 14 #[.int .i64 z, .slice p n c] w fun e w' => Below w.heap.size w w' ∧ ∃ v, e = .returned (.tuple #[v, .int .i64 (putE z l)]) ∧ Own w.heap.size w' (putV z l) v := by
  by_cases h1 : z < 1
  · have HE := Lib.hid (putE_kind (l := l) (Or.inl h1))
    clear hL
    go_enter Tryd.func14, Tryd.ntmps14
    go_wp2_with fail
    go_ret2
    rw [HE.out.1, HE.out.2]
    exact ⟨Below.refl _ _, _, rfl, Own.nil _ _⟩
  by_cases h2 : 255 < z
  · have HE := Lib.hid (putE_kind (l := l) (Or.inr h2))
    clear hL
    go_enter Tryd.func14, Tryd.ntmps14
    go_wp2_with fail
    go_ret2
    rw [HE.out.1, HE.out.2]
    exact ⟨Below.refl _ _, _, rfl, Own.nil _ _⟩
  by_cases h3 : 2039 < n
  · have HE := Lib.hid (putE_long (l := l) (show 1 ≤ z by omega) (show z ≤ 255 by omega) (by omega))
    have h3' : (2039 : Int) < (n : Int) := by omega
    clear hL
    go_enter Tryd.func14, Tryd.ntmps14
    go_wp2_with fail
    go_ret2
    rw [HE.out.1, HE.out.2]
    exact ⟨Below.refl _ _, _, rfl, Own.nil _ _⟩
  · have HE := Lib.hid (putE_ok (l := l) (show 1 ≤ z by omega) (show z ≤ 255 by omega) (by omega))
    have h3' : ¬ (2039 : Int) < (n : Int) := by omega
    have hz := wrap8_kb z
    have hw := wrap32_len n
    have HN := Lib.hid hn
    have HL := Lib.hid hL
    clear hL hn
    obtain ⟨W, hW⟩ : ∃ W, W = w.alloc (.cells #[.int .u8 (n8 (kb z))] 5) := ⟨_, rfl⟩
    have HO1 : Hid (Own w.heap.size W [kb z] (.slice (some ⟨w.heap.size, 0, none⟩) 1 1)) := show Own _ _ _ _ from own_one (kb z) w W (by rw [hW]; exact heap_new_at rfl)
    have HB1 : Hid (Below w.heap.size w W) := show Below _ _ _ by rw [hW]; exact (Below.refl _ _).alloc (Nat.le_refl _) _
    have hs1 := HB1.out.size
    have HWW := Lib.hid hW
    clear hW
    go_enter Tryd.func14, Tryd.ntmps14
    go_upto_region 6 with (fail)
    rw [← HWW.out]
    go_wp2_with (first
      | (go_at_call 31; refine (four_any (BitVec.ofNat 32 n) W).mono ?_; rintro e w2 ⟨v2, rfl, h2, b2⟩; obtain ⟨q2, c2, rfl, -, -, l2⟩ := h2.lies; have HL2 := Lib.hid l2; have HO2 := Lib.hid (HO1.out.below b2); have HB2 : Hid (Below w.heap.size w w2) := show Below _ _ _ from HB1.out.trans (b2.mono hs1); have hs2 := HB2.out.size; clear h2 b2 l2)
      | (at_builtin; refine wpList_append_listB rfl (.tmp 19) (.tmp 23) rfl w.heap.size _ [kb z] (be4 (BitVec.ofNat 32 n)) _ _ rfl HO2.out rfl HL2.out (by simp [be4_length]) hs2 ?_; intro v3 w3 h3 b3; have HO3 := Lib.hid h3; have HB3 := Lib.hid (HB2.out.trans b3); have hs3 := HB3.out.size; clear h3 b3)
      | (at_builtin; refine wpList_append_listB rfl (.tmp 25) (.tmp 26) rfl w.heap.size _ ([kb z] ++ be4 (BitVec.ofNat 32 n)) l p c rfl HO3.out (by rw [HN.out]; rfl) (HL.out.below HB3.out) (by rw [HN.out]; simp [be4_length]; omega) hs3 ?_; intro v4 w4 h4 b4; have HO4 := Lib.hid h4; have HB4 := Lib.hid (HB3.out.trans b4); clear h4 b4))
    have hq : ([kb z] ++ be4 (BitVec.ofNat 32 n) ++ l : List (BitVec 8)) = headF (kb z) l := by unfold headF; rw [HN.out]; simp
    have h4 := HO4.out
    rw [hq] at h4
    have hlen : (headF (kb z) l).length = n + 5 := by rw [headF_length, HN.out]
    have hs4 := HB4.out.size
    obtain ⟨q4, c4, rfl, -, -, l4⟩ := h4.lies
    have HO5 := Lib.hid h4
    rw [hlen]
    refine (refSum9_any (headF (kb z) l) (n + 5) q4 c4 w4 hlen (by omega) l4).mono ?_
    rintro e w5 ⟨rfl, rfl⟩
    rw [hlen] at HO5
    have HLEN := Lib.hid hlen
    clear h4 l4 hq HO4 hlen
    go_wp2_with (first
      | (go_at_call 31; refine (four_any (crcOf (headF (kb z) l)) w5).mono ?_; rintro e w6 ⟨v6, rfl, h6, b6⟩; obtain ⟨q6, c6, rfl, -, -, l6⟩ := h6.lies; have HL6 := Lib.hid l6; have HO6 := Lib.hid (HO5.out.below b6); have HB6 : Hid (Below w.heap.size w w6) := show Below _ _ _ from HB4.out.trans (b6.mono hs4); have hs6 := HB6.out.size; clear h6 b6 l6)
      | (at_builtin; refine wpList_append_listB rfl (.tmp 28) (.tmp 31) rfl w.heap.size _ (headF (kb z) l) (be4 (crcOf (headF (kb z) l))) _ _ rfl HO6.out rfl HL6.out (by rw [HLEN.out]; simp [be4_length]; omega) hs6 ?_; intro v7 w7 h7 b7; have HO7 := Lib.hid h7; have HB7 := Lib.hid (HB6.out.trans b7); clear h7 b7))
    go_ret2
    rw [HE.out.1, HE.out.2]
    exact ⟨HB7.out, _, rfl, HO7.out⟩
end Go.Proofs.YtejekgceompjpaaDoor

/-
  The document's answer of what is got.
-/
namespace Go.Proofs.YtejekgceompjpaaDoor
open Go.RowKit Go.Proofs.ShaWords
/-- The length as the document adds it up. -/
def lenTo (l : List (BitVec 8)) : Nat → Nat
  | 0 => 0
  | k + 1 => lenTo l k * 256 + (l.getD (k + 1) 0#8).toNat
theorem w4_num (a b c d : BitVec 8) : (w4 [a, b, c, d]).toNat = a.toNat * 16777216 + b.toNat * 65536 + c.toNat * 256 + d.toNat := by
  have h := lo8_w4 a b c d
  generalize w4 [a, b, c, d] = x at h
  unfold be4 at h
  simp only [List.cons.injEq, and_true] at h
  obtain ⟨h1, h2, h3, h4⟩ := h
  have e : ∀ (y : BitVec 32), (lo8 y).toNat = y.toNat % 256 := fun y => by unfold lo8; rw [BitVec.toNat_setWidth]
  have s : ∀ (y : BitVec 32) (k : Nat), (y >>> k).toNat = y.toNat / 2 ^ k := fun y k => by rw [BitVec.toNat_ushiftRight, Nat.shiftRight_eq_div_pow]
  have g1 := congrArg BitVec.toNat h1
  have g2 := congrArg BitVec.toNat h2
  have g3 := congrArg BitVec.toNat h3
  have g4 := congrArg BitVec.toNat h4
  rw [e, s] at g1 g2 g3
  rw [e] at g4
  have := x.isLt
  omega
theorem lenTo_four (l : List (BitVec 8)) : lenTo l 4 = len4 l := by
  unfold len4
  have e : ∀ j, (l.drop 1).getD j 0#8 = l.getD (j + 1) 0#8 := fun j => by simp only [List.getD, List.getElem?_drop]; rw [Nat.add_comm 1 j]
  have h : w4 (l.drop 1) = w4 [l.getD 1 0#8, l.getD 2 0#8, l.getD 3 0#8, l.getD 4 0#8] := by
    unfold w4
    rw [e, e, e, e]
    rfl
  rw [h, w4_num]
  show (((0 * 256 + (l.getD 1 0#8).toNat) * 256 + (l.getD 2 0#8).toNat) * 256 + (l.getD 3 0#8).toNat) * 256 + (l.getD 4 0#8).toNat = _
  omega
theorem lenTo_lt (l : List (BitVec 8)) : ∀ k, lenTo l k < 256 ^ k
  | 0 => by show 0 < 1; decide
  | k + 1 => by
    have := lenTo_lt l k
    have h := (l.getD (k + 1) 0#8).isLt
    show lenTo l k * 256 + _ < _
    rw [Nat.pow_succ]
    omega
/-- The frame that was put of what is there is what is there just if the sum is right. -/
theorem put_same {l : List (BitVec 8)} (h1 : ¬ l.length < 5) (h2 : ¬ l.getD 0 0#8 = 0#8) (h3 : ¬ 2039 < len4 l) (h4 : ¬ l.length < len4 l + 9) : l.take (len4 l + 9) = frameB (l.getD 0 0#8) (getB l) ↔ w4 (l.drop (len4 l + 5)) = crcOf (l.take (len4 l + 5)) := by
  have hgl : (getB l).length = len4 l := by unfold getB; rw [List.length_take, List.length_drop]; omega
  constructor
  · intro h
    have e : l = frameB (l.getD 0 0#8) (getB l) ++ l.drop (len4 l + 9) := by rw [← h, List.take_append_drop]
    have g : getE l = 0 := by rw [e]; exact getE_frame _ _ _ h2 (by omega)
    exact (getE_zero g).2.2.2.2
  · intro h
    have g := (getE_form (getE_ok h1 h2 h3 h4 h)).1
    have hfl := frameB_length (l.getD 0 0#8) (getB l)
    rw [hgl] at hfl
    have t := congrArg (List.take (len4 l + 9)) g
    rwa [List.take_append_of_le_length (by omega), List.take_of_length_le (l := frameB _ _) (by omega)] at t
section
variable {ρ : Operand → Value} {o : Oper} {x y z : Operand}
theorem r_addC {n C : Nat} (ho : o.op = .binOp .add 3 (.const (.int .i64 (C : Int))) x 3) (h0 : ρ (.const (.int .i64 (C : Int))) = .int .i64 (C : Int)) (hx : ρ x = .int .i64 (n : Int)) (hb : n + C < 1000000000) (w : World) : (execOp ρ o).run Tryd.prog w = .ok (.value (.int .i64 ((n + C : Nat) : Int))) w := by
  obtain ⟨dst, op, ty', pos, after, guard⟩ := o
  simp only at ho
  subst ho
  have h : IntKind.i64.wrap ((C : Int) + (n : Int)) = ((n + C : Nat) : Int) := by rw [IntKind.wrap_i64]; omega
  go_simp
theorem r_addD {n C : Nat} (ho : o.op = .binOp .add 3 x (.const (.int .i64 (C : Int))) 3) (h0 : ρ (.const (.int .i64 (C : Int))) = .int .i64 (C : Int)) (hx : ρ x = .int .i64 (n : Int)) (hb : n + C < 1000000000) (w : World) : (execOp ρ o).run Tryd.prog w = .ok (.value (.int .i64 ((n + C : Nat) : Int))) w := by
  obtain ⟨dst, op, ty', pos, after, guard⟩ := o
  simp only at ho
  subst ho
  have h : IntKind.i64.wrap ((n : Int) + (C : Int)) = ((n + C : Nat) : Int) := by rw [IntKind.wrap_i64]; omega
  go_simp
theorem run_fromTo {b off n c k m : Nat} (ho : o.op = .slice 22 x (some y) (some z) none) (hx : ρ x = .slice (some ⟨b, off, none⟩) n c) (hy : ρ y = .int .i64 (k : Int)) (hz : ρ z = .int .i64 ((m + k : Nat) : Int)) (hm : m + k ≤ c) (hk : k < c) (w : World) :
    (execOp ρ o).run Tryd.prog w = .ok (.value (.slice (some ⟨b, off + k, none⟩) m (c - k))) w := by
  obtain ⟨dst, op, ty', pos, after, guard⟩ := o
  simp only at ho
  subst ho
  have q1 : (k : Int) ≤ ((m + k : Nat) : Int) := by omega
  have q2 : ((m + k : Nat) : Int) ≤ (c : Int) := by omega
  have q3 : ¬ c = k := by omega
  have q4 : (m : Int) + (k : Int) ≤ (c : Int) := by omega
  have q5 : m + k - k = m := by omega
  have q6 : ((m : Int) + (k : Int)).toNat = m + k := by omega
  have q7 : (0 : Int) ≤ (m : Int) + (k : Int) := by omega
  go_simp
theorem run_buildFr {a : Int} {p : Option Addr} {n c : Nat} (ho : o.op = .build 34 #[(0, x), (1, y)]) (hx : ρ x = .int .i64 a) (hy : ρ y = .slice p n c) (w : World) : (execOp ρ o).run Tryd.prog w = .ok (.value (.agg #[.int .i64 a, .slice p n c])) w := by
  obtain ⟨dst, op, ty', pos, after, guard⟩ := o
  simp only at ho
  subst ho
  go_simp
theorem run_storeFr {T n c : Nat} {z : Int} {p : Option Addr} {u v : Value} {w : World} (ho : o.op = .store 34 x y) (hx : ρ x = .pointer (some ⟨T, 0, none⟩)) (hy : ρ y = .agg #[.int .i64 z, .slice p n c]) (hC : FrC w T u v) : (execOp ρ o).run Tryd.prog w = .ok .skip ((w.setCell ⟨T, 0, none⟩ (.int .i64 z)).setCell ⟨T, 1, none⟩ (.slice p n c)) := by
  obtain ⟨dst, op, ty', pos, after, guard⟩ := o
  simp only at ho
  subst ho
  obtain ⟨c0, c1, cf⟩ := hC.cells
  go_simp
end
set_option maxRecDepth 100000 in
set_option maxHeartbeats 4000000 in
theorem refGet9_any (l : List (BitVec 8)) (n : Nat) (p : Option Addr) (c : Nat) (w : World) (hn : l.length = n) (hl : n < 100000) (hc : n ≤ c) (hL : Lies w p l) :
    Calls Tryd.prog 21 #[.slice p n c] w fun e w' => Below w.heap.size w w' ∧ ∃ v, e = .returned (.tuple #[.agg #[.int .i64 (getK l), v], .int .i64 (getN l : Int), .int .i64 (getE l : Int)]) ∧ Own w.heap.size w' (getV l) v := by
  by_cases h1 : n < 5
  · have HE := Lib.hid (getE_short (b := l) (by omega))
    have HG := Lib.hid (get_err HE.out (by decide))
    have h1' : (n : Int) < 5 := by omega
    clear hL
    go_enter Tryd.func21, Tryd.ntmps21
    go_wp2_with fail
    refine bodyPost_ret (v := .tuple #[.agg #[.int .i64 0, .slice none 0 0], .int .i64 0, .int .i64 4]) (results_frame Tryd.results21 rfl rfl rfl (heap_new_at rfl)) rfl ?_
    rw [HG.out.1, HG.out.2.1, HG.out.2.2, HE.out]
    exact ⟨(Below.refl _ _).alloc (Nat.le_refl _) _, _, rfl, Own.nil _ _⟩
  have h1' : ¬ (n : Int) < 5 := by omega
  have HN := Lib.hid hn
  obtain ⟨W, hW⟩ : ∃ W, W = w.alloc (.cells #[.int .i64 0, .slice none 0 0] 34) := ⟨_, rfl⟩
  have hB0 : Below w.heap.size w W := by rw [hW]; exact (Below.refl _ _).alloc (Nat.le_refl _) _
  have HZ : Hid (FrC W w.heap.size (.int .i64 0) (.slice none 0 0)) := show _ = _ by rw [hW]; exact heap_new_at rfl
  obtain ⟨b, off, rfl, hr⟩ := lies_at hL (by omega)
  have hrw : ∀ w', Below w.heap.size w w' → ∀ k, k < n → w'.cell? ⟨b, off + k, none⟩ = some (.int .u8 (n8 (l.getD k 0#8))) := fun w' hb k hk => (hb.cell (p := ⟨b, off + k, none⟩) (World.block_lt_of_cell? w _ (hr k (by omega)))).trans (hr k (by omega))
  have hc0 := hrw W hB0 0 (by omega)
  rw [Nat.add_zero] at hc0
  obtain ⟨m, hm⟩ : ∃ m, m = len4 l := ⟨_, rfl⟩
  have HM := Lib.hid hm
  have HL := Lib.hid hL
  have HB0 := Lib.hid hB0
  have HRW := Lib.hid hrw
  obtain ⟨x0, hx0⟩ : ∃ x0, x0 = l.getD 0 0#8 := ⟨_, rfl⟩
  rw [← hx0] at hc0
  have HX0 := Lib.hid hx0
  have HC0 : Hid (∀ w', Below w.heap.size w w' → w'.cell? ⟨b, off, none⟩ = some (.int .u8 (n8 x0))) := show _ from fun w' hb => by have := hrw w' hb 0 (by omega); rw [Nat.add_zero, ← hx0] at this; exact this
  have h5 : 0 < n := by omega
  have hs0 := hB0.size
  clear hL hr hm hx0 hB0 hrw hn
  go_enter Tryd.func21, Tryd.ntmps21
  go_upto_region 3 with (fail)
  rw [← hW]
  clear hW
  by_cases h2 : x0 = 0#8
  · have e0 : n8 x0 = 0 := by rw [h2]; decide
    have HE := Lib.hid (getE_kind (b := l) (by rw [HN.out]; exact h1) (by rw [← HX0.out]; exact h2))
    have HG := Lib.hid (get_err HE.out (by decide))
    obtain ⟨c30, c31, c3f⟩ := HZ.out.cells
    go_wp2_with fail
    refine bodyPost_ret (v := .tuple #[.agg #[.int .i64 0, .slice none 0 0], .int .i64 0, .int .i64 2]) (results_frame Tryd.results21 rfl rfl rfl (HZ.out.set2 _ _)) rfl ?_
    rw [HG.out.1, HG.out.2.1, HG.out.2.2, HE.out]
    exact ⟨below_set2 HB0.out _ _, _, rfl, Own.nil _ _⟩
  have e0 : ¬ n8 x0 = 0 := fun e => h2 (n8_inj (e.trans (by decide)))
  go_wp2_with fail
  go_loopw [5, 6] (fun a i wr => ∃ k : Nat, k ≤ 4 ∧ i = .int .i64 ((k : Int) + 1) ∧ a = .int .i64 (lenTo l k : Int) ∧ wr = W) (fun _ i _ => 5 - (intOf i).toNat)
  case atStart => exact ⟨0, by omega, rfl, rfl, rfl⟩
  case round =>
    obtain ⟨k, hk, rfl, rfl, rfl⟩ := hrel
    by_cases hlt : k < 4
    · have q0 : (k : Int) + 1 < 5 := by omega
      have q1 : (k : Int) + 1 < (n : Int) := by omega
      have hck := HRW.out wr HB0.out (k + 1) (by omega)
      have HST : Hid (lenTo l (k + 1) = lenTo l k * 256 + (l.getD (k + 1) 0#8).toNat) := show _ = _ from rfl
      have hlk : lenTo l k < 256 ^ 4 := Nat.lt_of_lt_of_le (lenTo_lt l k) (Nat.pow_le_pow_right (by decide) (by omega))
      have hy0 := n8_nonneg (l.getD (k + 1) 0#8)
      have hy1 := n8_lt (l.getD (k + 1) 0#8)
      have hyn : n8 (l.getD (k + 1) 0#8) = ((l.getD (k + 1) 0#8).toNat : Int) := rfl
      have HYN := Lib.hid hyn
      generalize l.getD (k + 1) 0#8 = y at hck HST hy0 hy1 HYN
      have hlk2 : lenTo l k < 4294967296 := hlk
      generalize lenTo l k = L at HST hlk2 ⊢
      clear hlk hyn hc0
      go_wp2_with fail
      go_roundw
      case rel => exact ⟨k + 1, by omega, by go_num, by rw [HST.out]; have := HYN.out; congr 1, by trivial⟩
      case measure => simp [intOf]; omega
    · have hk4 : k = 4 := by omega
      rw [hk4, lenTo_four, ← HM.out]
      have q0 : ¬ (4 : Int) + 1 < 5 := by decide
      clear hk hlt hk4 hc0
      obtain ⟨c30, c31, c3f⟩ := HZ.out.cells
      by_cases h3 : 2039 < m
      · have e3 : (2039 : Int) < (m : Int) := by omega
        have HE := Lib.hid (getE_long (b := l) (by rw [HN.out]; exact h1) (by rw [← HX0.out]; exact h2) (by rw [← HM.out]; exact h3))
        have HG := Lib.hid (get_err HE.out (by decide))
        go_wp2_with fail
        refine bodyPost_ret (v := .tuple #[.agg #[.int .i64 0, .slice none 0 0], .int .i64 0, .int .i64 5]) (results_frame Tryd.results21 rfl rfl rfl (HZ.out.set2 _ _)) rfl ?_
        rw [HG.out.1, HG.out.2.1, HG.out.2.2, HE.out]
        exact ⟨below_set2 HB0.out _ _, _, rfl, Own.nil _ _⟩
      have e3 : ¬ (2039 : Int) < (m : Int) := by omega
      by_cases h4 : n < m + 9
      · have e4 : (n : Int) < (m : Int) + 9 := by omega
        have HE := Lib.hid (getE_short2 (b := l) (by rw [HN.out]; exact h1) (by rw [← HX0.out]; exact h2) (by rw [← HM.out]; exact h3) (by rw [← HM.out, HN.out]; exact h4))
        have HG := Lib.hid (get_err HE.out (by decide))
        go_wp2_with fail
        refine bodyPost_ret (v := .tuple #[.agg #[.int .i64 0, .slice none 0 0], .int .i64 0, .int .i64 4]) (results_frame Tryd.results21 rfl rfl rfl (HZ.out.set2 _ _)) rfl ?_
        rw [HG.out.1, HG.out.2.1, HG.out.2.2, HE.out]
        exact ⟨below_set2 HB0.out _ _, _, rfl, Own.nil _ _⟩
      have e4 : ¬ (n : Int) < (m : Int) + 9 := by omega
      have HQ : Hid (l.take (m + 9) = frameB x0 ((l.drop 5).take m) ↔ w4 (l.drop (m + 5)) = crcOf (l.take (m + 5))) := show _ ↔ _ by
        have h := put_same (l := l) (by rw [HN.out]; exact h1) (by rw [← HX0.out]; exact h2) (by rw [← HM.out]; exact h3) (by rw [← HM.out, HN.out]; exact h4)
        rw [← HM.out, ← HX0.out] at h
        unfold getB at h
        rw [← HM.out] at h
        exact h
      have HLB : Hid (((l.drop 5).take m).length = m) := show _ = _ by rw [List.length_take, List.length_drop, HN.out]; omega
      have HL5 : Hid (∀ w', Below w.heap.size w w' → Lies w' (some ⟨b, off + 5, none⟩) ((l.drop 5).take m)) := show _ from fun w' hb => by
        obtain ⟨p2, ha, hl2⟩ := from_lies (HL.out.below hb) HN.out 5 (by omega) hc
        rcases ha with ⟨h0, _, _⟩ | ⟨g, o, e1, e2⟩
        · cases h0
        · cases e1
          rw [if_neg (by omega)] at e2
          subst e2
          exact lies_takeF hl2 m
      have HPE := Lib.hid (putE_ok (z := n8 x0) (l := (l.drop 5).take m) (n8_kind h2).1 (n8_kind h2).2 (by rw [HLB.out]; omega))
      have hm5 : 5 < c := by omega
      have hmc : m + 5 ≤ c := by omega
      go_upto_region 14 with (fail)
      have HD : Hid (Below w.heap.size w wr.drew) := show Below _ _ _ from HB0.out.trans ((Below.refl wr.heap.size wr).drew.mono HB0.out.size)
      have HZD : Hid (FrC wr.drew w.heap.size (.int .i64 0) (.slice none 0 0)) := show _ = _ from HZ.out
      refine region_phase (fun w' => Below w.heap.size w w') (fun _ => True) 8 (HD.out) trivial [(0, .free), (1, .free), (2, .free), (3, .free), (4, .free), (5, .free), (6, .free), (7, .free), (8, .behind), (9, .free), (10, .free), (11, .free), (12, .free), (13, .free)] (by kernel_rfl) (by kernel_rfl) (by kernel_rfl) (by kernel_rfl) (fun ops hops A hA => ?_)
      have hsz : A.tmps.size = 71 := by rw [hA]; rfl
      have base0 : A.eval (.tmp 0) = .slice (some ⟨b, off, none⟩) n c := by rw [hA]; rfl
      have base5 : A.eval (.tmp 5) = .int .i64 (m : Int) := by rw [hA]; rfl
      have HAA := Lib.hid hA; clear hA
      obtain ⟨o0, po0, q0, d0, gd0⟩ : ∃ o, ops[0]? = some o ∧ o.op = .move (.tmp 0) ∧ o.dst = some 40 ∧ o.guard = none := ⟨_, by rw [hops]; rfl, rfl, rfl, rfl⟩
      obtain ⟨o1, po1, q1, d1, gd1⟩ : ∃ o, ops[1]? = some o ∧ o.op = .indexAddr 22 (.tmp 40) (.const (.int .i64 0)) ∧ o.dst = some 41 ∧ o.guard = none := ⟨_, by rw [hops]; rfl, rfl, rfl, rfl⟩
      obtain ⟨o2, po2, q2, d2, gd2⟩ : ∃ o, ops[2]? = some o ∧ o.op = .load 5 (.tmp 41) ∧ o.dst = some 42 ∧ o.guard = none := ⟨_, by rw [hops]; rfl, rfl, rfl, rfl⟩
      obtain ⟨o3, po3, q3, d3, gd3⟩ : ∃ o, ops[3]? = some o ∧ o.op = .convert 5 3 (.tmp 42) ∧ o.dst = some 43 ∧ o.guard = none := ⟨_, by rw [hops]; rfl, rfl, rfl, rfl⟩
      obtain ⟨o4, po4, q4, d4, gd4⟩ : ∃ o, ops[4]? = some o ∧ o.op = .move (.tmp 0) ∧ o.dst = some 44 ∧ o.guard = none := ⟨_, by rw [hops]; rfl, rfl, rfl, rfl⟩
      obtain ⟨o5, po5, q5, d5, gd5⟩ : ∃ o, ops[5]? = some o ∧ o.op = .move (.tmp 5) ∧ o.dst = some 45 ∧ o.guard = none := ⟨_, by rw [hops]; rfl, rfl, rfl, rfl⟩
      obtain ⟨o6, po6, q6, d6, gd6⟩ : ∃ o, ops[6]? = some o ∧ o.op = .binOp .add 3 (.const (.int .i64 5)) (.tmp 45) 3 ∧ o.dst = some 46 ∧ o.guard = none := ⟨_, by rw [hops]; rfl, rfl, rfl, rfl⟩
      obtain ⟨o7, po7, q7, d7, gd7⟩ : ∃ o, ops[7]? = some o ∧ o.op = .slice 22 (.tmp 44) (some (.const (.int .i64 5))) (some (.tmp 46)) none ∧ o.dst = some 47 ∧ o.guard = none := ⟨_, by rw [hops]; rfl, rfl, rfl, rfl⟩
      obtain ⟨o8, po8, q8, d8, gd8⟩ : ∃ o, ops[8]? = some o ∧ o.op = .call { callee := .value (.func 14), args := #[.tmp 43, .tmp 47], argTypes := #[3, 22] } ∧ o.dst = some 48 ∧ o.guard = none := ⟨_, by rw [hops]; rfl, rfl, rfl, rfl⟩
      obtain ⟨o9, po9, q9, d9, gd9⟩ : ∃ o, ops[9]? = some o ∧ o.op = .move (.tmp 48) ∧ o.dst = some 39 ∧ o.guard = none := ⟨_, by rw [hops]; rfl, rfl, rfl, rfl⟩
      obtain ⟨o10, po10, q10, d10, gd10⟩ : ∃ o, ops[10]? = some o ∧ o.op = .extract (.tmp 39) 0 ∧ o.dst = some 49 ∧ o.guard = none := ⟨_, by rw [hops]; rfl, rfl, rfl, rfl⟩
      obtain ⟨o11, po11, q11, d11, gd11⟩ : ∃ o, ops[11]? = some o ∧ o.op = .extract (.tmp 39) 1 ∧ o.dst = some 50 ∧ o.guard = none := ⟨_, by rw [hops]; rfl, rfl, rfl, rfl⟩
      obtain ⟨o12, po12, q12, d12, gd12⟩ : ∃ o, ops[12]? = some o ∧ o.op = .assign (.tmp 49) ∧ o.dst = some 7 ∧ o.guard = none := ⟨_, by rw [hops]; rfl, rfl, rfl, rfl⟩
      obtain ⟨o13, po13, q13, d13, gd13⟩ : ∃ o, ops[13]? = some o ∧ o.op = .assign (.tmp 50) ∧ o.dst = some 8 ∧ o.guard = none := ⟨_, by rw [hops]; rfl, rfl, rfl, rfl⟩
      clear hops
      refine met_free po0 d0 (wanted_of gd0) (fun w' h' => run_move q0 base0 w') ?_
      refine met_free po1 d1 (wanted_of gd1) (fun w' h' => run_ixSliceK q1 (eval_same _ _ _ (by rw [hsz]; decide)) rfl h5 w') ?_
      refine met_free po2 d2 (wanted_of gd2) (fun w' h' => run_load8 q2 (eval_same _ _ _ (by simp only [put_size, hsz]; decide)) (HC0.out _ h')) ?_
      refine met_free po3 d3 (wanted_of gd3) (fun w' h' => r_conv8 q3 (eval_same _ _ _ (by simp only [put_size, hsz]; decide)) w') ?_
      refine met_free po4 d4 (wanted_of gd4) (fun w' h' => run_move q4 ((eval_other _ 43 0 _ (by decide)).trans ((eval_other _ 42 0 _ (by decide)).trans ((eval_other _ 41 0 _ (by decide)).trans ((eval_other _ 40 0 _ (by decide)).trans base0)))) w') ?_
      refine met_free po5 d5 (wanted_of gd5) (fun w' h' => run_move q5 ((eval_other _ 44 5 _ (by decide)).trans ((eval_other _ 43 5 _ (by decide)).trans ((eval_other _ 42 5 _ (by decide)).trans ((eval_other _ 41 5 _ (by decide)).trans ((eval_other _ 40 5 _ (by decide)).trans base5))))) w') ?_
      refine met_free po6 d6 (wanted_of gd6) (fun w' h' => r_addC (C := 5) q6 rfl (eval_same _ _ _ (by simp only [put_size, hsz]; decide)) (by omega) w') ?_
      refine met_free po7 d7 (wanted_of gd7) (fun w' h' => run_fromTo (k := 5) (m := m) q7 ((eval_other _ 46 44 _ (by decide)).trans ((eval_other _ 45 44 _ (by decide)).trans (eval_same _ _ _ (by simp only [put_size, hsz]; decide)))) rfl (eval_same _ _ _ (by simp only [put_size, hsz]; decide)) hmc hm5 w') ?_
      refine m_enter po8 d8 (wanted_of gd8) (run_callf2 q8 rfl ((eval_other _ 47 43 _ (by decide)).trans ((eval_other _ 46 43 _ (by decide)).trans ((eval_other _ 45 43 _ (by decide)).trans ((eval_other _ 44 43 _ (by decide)).trans (eval_same _ _ _ (by simp only [put_size, hsz]; decide)))))) (eval_same _ _ _ (by simp only [put_size, hsz]; decide)) Tryd.func14 (by kernel_rfl) _) (refPut9_any (n8 x0) ((l.drop 5).take m) m _ (c - 5) _ HLB.out (by omega) (HL5.out _ HD.out)) ?_
      rintro e w5 ⟨b5, v5, rfl, ho5⟩
      rw [HPE.out.2, kb_n8] at ho5
      have HOP := Lib.hid ho5
      have HB5 : Hid (Below w.heap.size w w5) := show Below _ _ _ from HD.out.trans (b5.mono HD.out.size)
      have HZ5 := Lib.hid (HZD.out.on b5)
      clear ho5 b5
      refine ⟨_, rfl, HB5.out, ?_⟩
      refine met_free po9 d9 (wanted_of gd9) (fun w' h' => run_move q9 (eval_same _ _ _ (by simp only [put_size, hsz]; decide)) w') ?_
      refine met_free po10 d10 (wanted_of gd10) (fun w' h' => run_extract q10 (eval_same _ _ _ (by simp only [put_size, hsz]; decide)) rfl w') ?_
      refine met_free po11 d11 (wanted_of gd11) (fun w' h' => run_extract q11 ((eval_other _ 49 39 _ (by decide)).trans (eval_same _ _ _ (by simp only [put_size, hsz]; decide))) rfl w') ?_
      refine met_free po12 d12 (wanted_of gd12) (fun w' h' => run_assign q12 ((eval_other _ 50 49 _ (by decide)).trans (eval_same _ _ _ (by simp only [put_size, hsz]; decide))) w') ?_
      refine met_free po13 d13 (wanted_of gd13) (fun w' h' => run_assign q13 ((eval_other _ 7 50 _ (by decide)).trans (eval_same _ _ _ (by simp only [put_size, hsz]; decide))) w') ?_
      show NoPanic _ .normal _ _
      refine NoPanic.normal ?_
      rw [HAA.out]
      go_frame
      clear HAA
      clear po0 q0 d0 gd0 po1 q1 d1 gd1 po2 q2 d2 gd2 po3 q3 d3 gd3 po4 q4 d4 gd4 po5 q5 d5 gd5 po6 q6 d6 gd6 po7 q7 d7 gd7 po8 q8 d8 gd8 po9 q9 d9 gd9 po10 q10 d10 gd10 po11 q11 d11 gd11 po12 q12 d12 gd12 po13 q13 d13 gd13
      clear base0 base5 hsz
      rw [HPE.out.1]
      have HFL : Hid ((frameB x0 ((l.drop 5).take m)).length = m + 9) := show _ = _ by rw [frameB_length, HLB.out]
      obtain ⟨qp, cp, rfl, -, -, lp⟩ := HOP.out.slN HFL.out
      have HLP := Lib.hid lp
      have HTL : Hid ((l.take (m + 9)).length = m + 9) := show _ = _ by rw [List.length_take, HN.out]; omega
      have z9 : (m : Int) + 9 ≤ (c : Int) := by omega
      have z0 : (0 : Int) ≤ (m : Int) + 9 := by omega
      clear lp c30 c31 c3f
      go_wp2_with fail
      refine (sameBytes_any (l.take (m + 9)) (frameB x0 ((l.drop 5).take m)) (m + 9) (m + 9) _ qp c cp w5 HTL.out HFL.out (by omega) (by omega) (lies_takeF (HL.out.below HB5.out) (m + 9)) HLP.out).mono ?_
      rintro e w6 ⟨rfl, b6⟩
      have HB6 : Hid (Below w.heap.size w w6) := show Below _ _ _ from HB5.out.trans (b6.mono HB5.out.size)
      have HZ6 := Lib.hid (HZ5.out.on b6)
      clear b6
      by_cases hsum : w4 (l.drop (m + 5)) = crcOf (l.take (m + 5))
      · have HE := Lib.hid (getE_ok (b := l) (by rw [HN.out]; exact h1) (by rw [← HX0.out]; exact h2) (by rw [← HM.out]; exact h3) (by rw [← HM.out, HN.out]; exact h4) (by rw [← HM.out]; exact hsum))
        have HG := Lib.hid (get_ok HE.out)
        have hdec : decide (l.take (m + 9) = frameB x0 ((l.drop 5).take m)) = true := decide_eq_true (HQ.out.2 hsum)
        rw [hdec]
        clear hsum hdec
        go_upto_region 17 with (fail)
        have HD7 : Hid (Below w.heap.size w w6.drew) := show Below _ _ _ from HB6.out.trans ((Below.refl w6.heap.size w6).drew.mono HB6.out.size)
        have HZ7 : Hid (FrC w6.drew w.heap.size (.int .i64 0) (.slice none 0 0)) := show _ = _ from HZ6.out
        refine region_phase (fun w' => Below w.heap.size w w') (fun _ => True) 8 (HD7.out) trivial [(0, .free), (1, .free), (2, .free), (3, .free), (4, .free), (5, .free), (6, .free), (7, .free), (10, .free), (11, .free), (8, .behind), (9, .free), (12, .behind), (13, .free), (14, .free)] (by kernel_rfl) (by kernel_rfl) (by kernel_rfl) (by kernel_rfl) (fun ops hops A2 hA => ?_)
        have hsz : A2.tmps.size = 71 := by rw [hA]; rfl
        have base0 : A2.eval (.tmp 0) = .slice (some ⟨b, off, none⟩) n c := by rw [hA]; rfl
        have base2 : A2.eval (.tmp 2) = .pointer (some ⟨w.heap.size, 0, none⟩) := by rw [hA]; rfl
        have base5 : A2.eval (.tmp 5) = .int .i64 (m : Int) := by rw [hA]; rfl
        have HAA := Lib.hid hA; clear hA
        obtain ⟨o0, po0, q0, d0, gd0⟩ : ∃ o, ops[0]? = some o ∧ o.op = .move (.tmp 0) ∧ o.dst = some 59 ∧ o.guard = none := ⟨_, by rw [hops]; rfl, rfl, rfl, rfl⟩
        obtain ⟨o1, po1, q1, d1, gd1⟩ : ∃ o, ops[1]? = some o ∧ o.op = .indexAddr 22 (.tmp 59) (.const (.int .i64 0)) ∧ o.dst = some 60 ∧ o.guard = none := ⟨_, by rw [hops]; rfl, rfl, rfl, rfl⟩
        obtain ⟨o2, po2, q2, d2, gd2⟩ : ∃ o, ops[2]? = some o ∧ o.op = .load 5 (.tmp 60) ∧ o.dst = some 61 ∧ o.guard = none := ⟨_, by rw [hops]; rfl, rfl, rfl, rfl⟩
        obtain ⟨o3, po3, q3, d3, gd3⟩ : ∃ o, ops[3]? = some o ∧ o.op = .convert 5 3 (.tmp 61) ∧ o.dst = some 62 ∧ o.guard = none := ⟨_, by rw [hops]; rfl, rfl, rfl, rfl⟩
        obtain ⟨o4, po4, q4, d4, gd4⟩ : ∃ o, ops[4]? = some o ∧ o.op = .move (.tmp 0) ∧ o.dst = some 63 ∧ o.guard = none := ⟨_, by rw [hops]; rfl, rfl, rfl, rfl⟩
        obtain ⟨o5, po5, q5, d5, gd5⟩ : ∃ o, ops[5]? = some o ∧ o.op = .move (.tmp 5) ∧ o.dst = some 64 ∧ o.guard = none := ⟨_, by rw [hops]; rfl, rfl, rfl, rfl⟩
        obtain ⟨o6, po6, q6, d6, gd6⟩ : ∃ o, ops[6]? = some o ∧ o.op = .binOp .add 3 (.const (.int .i64 5)) (.tmp 64) 3 ∧ o.dst = some 65 ∧ o.guard = none := ⟨_, by rw [hops]; rfl, rfl, rfl, rfl⟩
        obtain ⟨o7, po7, q7, d7, gd7⟩ : ∃ o, ops[7]? = some o ∧ o.op = .slice 22 (.tmp 63) (some (.const (.int .i64 5))) (some (.tmp 65)) none ∧ o.dst = some 66 ∧ o.guard = none := ⟨_, by rw [hops]; rfl, rfl, rfl, rfl⟩
        obtain ⟨o8, po8, q8, d8, gd8⟩ : ∃ o, ops[8]? = some o ∧ o.op = .call { callee := .value (.func 26), args := #[.tmp 66], argTypes := #[22] } ∧ o.dst = some 67 ∧ o.guard = none := ⟨_, by rw [hops]; rfl, rfl, rfl, rfl⟩
        obtain ⟨o9, po9, q9, d9, gd9⟩ : ∃ o, ops[9]? = some o ∧ o.op = .build 34 #[(0, (.tmp 62)), (1, (.tmp 67))] ∧ o.dst = some 68 ∧ o.guard = none := ⟨_, by rw [hops]; rfl, rfl, rfl, rfl⟩
        obtain ⟨o10, po10, q10, d10, gd10⟩ : ∃ o, ops[10]? = some o ∧ o.op = .move (.tmp 5) ∧ o.dst = some 69 ∧ o.guard = none := ⟨_, by rw [hops]; rfl, rfl, rfl, rfl⟩
        obtain ⟨o11, po11, q11, d11, gd11⟩ : ∃ o, ops[11]? = some o ∧ o.op = .binOp .add 3 (.tmp 69) (.const (.int .i64 9)) 3 ∧ o.dst = some 70 ∧ o.guard = none := ⟨_, by rw [hops]; rfl, rfl, rfl, rfl⟩
        obtain ⟨o12, po12, q12, d12, gd12⟩ : ∃ o, ops[12]? = some o ∧ o.op = .store 34 (.tmp 2) (.tmp 68) ∧ o.dst = none ∧ o.guard = none := ⟨_, by rw [hops]; rfl, rfl, rfl, rfl⟩
        obtain ⟨o13, po13, q13, d13, gd13⟩ : ∃ o, ops[13]? = some o ∧ o.op = .assign (.tmp 70) ∧ o.dst = some 3 ∧ o.guard = none := ⟨_, by rw [hops]; rfl, rfl, rfl, rfl⟩
        obtain ⟨o14, po14, q14, d14, gd14⟩ : ∃ o, ops[14]? = some o ∧ o.op = .assign (.const (.int .i64 0)) ∧ o.dst = some 4 ∧ o.guard = none := ⟨_, by rw [hops]; rfl, rfl, rfl, rfl⟩
        clear hops
        refine met_free po0 d0 (wanted_of gd0) (fun w' h' => run_move q0 base0 w') ?_
        refine met_free po1 d1 (wanted_of gd1) (fun w' h' => run_ixSliceK q1 (eval_same _ _ _ (by rw [hsz]; decide)) rfl h5 w') ?_
        refine met_free po2 d2 (wanted_of gd2) (fun w' h' => run_load8 q2 (eval_same _ _ _ (by simp only [put_size, hsz]; decide)) (HC0.out _ h')) ?_
        refine met_free po3 d3 (wanted_of gd3) (fun w' h' => r_conv8 q3 (eval_same _ _ _ (by simp only [put_size, hsz]; decide)) w') ?_
        refine met_free po4 d4 (wanted_of gd4) (fun w' h' => run_move q4 ((eval_other _ 62 0 _ (by decide)).trans ((eval_other _ 61 0 _ (by decide)).trans ((eval_other _ 60 0 _ (by decide)).trans ((eval_other _ 59 0 _ (by decide)).trans base0)))) w') ?_
        refine met_free po5 d5 (wanted_of gd5) (fun w' h' => run_move q5 ((eval_other _ 63 5 _ (by decide)).trans ((eval_other _ 62 5 _ (by decide)).trans ((eval_other _ 61 5 _ (by decide)).trans ((eval_other _ 60 5 _ (by decide)).trans ((eval_other _ 59 5 _ (by decide)).trans base5))))) w') ?_
        refine met_free po6 d6 (wanted_of gd6) (fun w' h' => r_addC (C := 5) q6 rfl (eval_same _ _ _ (by simp only [put_size, hsz]; decide)) (by omega) w') ?_
        refine met_free po7 d7 (wanted_of gd7) (fun w' h' => run_fromTo (k := 5) (m := m) q7 ((eval_other _ 65 63 _ (by decide)).trans ((eval_other _ 64 63 _ (by decide)).trans (eval_same _ _ _ (by simp only [put_size, hsz]; decide)))) rfl (eval_same _ _ _ (by simp only [put_size, hsz]; decide)) hmc hm5 w') ?_
        refine met_free po10 d10 (wanted_of gd10) (fun w' h' => run_move q10 ((eval_other _ 66 5 _ (by decide)).trans ((eval_other _ 65 5 _ (by decide)).trans ((eval_other _ 64 5 _ (by decide)).trans ((eval_other _ 63 5 _ (by decide)).trans ((eval_other _ 62 5 _ (by decide)).trans ((eval_other _ 61 5 _ (by decide)).trans ((eval_other _ 60 5 _ (by decide)).trans ((eval_other _ 59 5 _ (by decide)).trans base5)))))))) w') ?_
        refine met_free po11 d11 (wanted_of gd11) (fun w' h' => r_addD (C := 9) q11 rfl (eval_same _ _ _ (by simp only [put_size, hsz]; decide)) (by omega) w') ?_
        refine m_enter po8 d8 (wanted_of gd8) (run_callf1 q8 rfl ((eval_other _ 70 66 _ (by decide)).trans ((eval_other _ 69 66 _ (by decide)).trans (eval_same _ _ _ (by simp only [put_size, hsz]; decide)))) Tryd.func26 (by kernel_rfl) _) (copy_bigN ((l.drop 5).take m) m _ (c - 5) _ HLB.out (by omega) (HL5.out _ HD7.out)) ?_
        rintro e w8 ⟨v8, rfl, ho8, b8⟩
        obtain ⟨qx, cx, rfl, -, -, -⟩ := ho8.slN HLB.out
        have HO8 := Lib.hid ho8
        have HB8 : Hid (Below w.heap.size w w8) := show Below _ _ _ from HD7.out.trans (b8.mono HD7.out.size)
        have HZ8 := Lib.hid (HZ7.out.on b8)
        have hlt7 := HZ7.out.lt
        clear ho8 b8
        refine ⟨_, rfl, HB8.out, ?_⟩
        refine met_free po9 d9 (wanted_of gd9) (fun w' h' => run_buildFr q9 ((eval_other _ 67 62 _ (by decide)).trans ((eval_other _ 70 62 _ (by decide)).trans ((eval_other _ 69 62 _ (by decide)).trans ((eval_other _ 66 62 _ (by decide)).trans ((eval_other _ 65 62 _ (by decide)).trans ((eval_other _ 64 62 _ (by decide)).trans ((eval_other _ 63 62 _ (by decide)).trans (eval_same _ _ _ (by simp only [put_size, hsz]; decide))))))))) (eval_same _ _ _ (by simp only [put_size, hsz]; decide)) w') ?_
        refine met_skip po12 d12 (wanted_of gd12) (run_storeFr q12 ((eval_other _ 68 2 _ (by decide)).trans ((eval_other _ 67 2 _ (by decide)).trans ((eval_other _ 70 2 _ (by decide)).trans ((eval_other _ 69 2 _ (by decide)).trans ((eval_other _ 66 2 _ (by decide)).trans ((eval_other _ 65 2 _ (by decide)).trans ((eval_other _ 64 2 _ (by decide)).trans ((eval_other _ 63 2 _ (by decide)).trans ((eval_other _ 62 2 _ (by decide)).trans ((eval_other _ 61 2 _ (by decide)).trans ((eval_other _ 60 2 _ (by decide)).trans ((eval_other _ 59 2 _ (by decide)).trans base2)))))))))))) (eval_same _ _ _ (by simp only [put_size, hsz]; decide)) HZ8.out) (below_set2 HB8.out _ _) ?_
        refine met_free po13 d13 (wanted_of gd13) (fun w' h' => run_assign q13 ((eval_none _ _ 70).trans ((eval_other _ 68 70 _ (by decide)).trans ((eval_other _ 67 70 _ (by decide)).trans (eval_same _ _ _ (by simp only [put_size, hsz]; decide))))) w') ?_
        refine met_free po14 d14 (wanted_of gd14) (fun w' h' => run_assign q14 rfl w') ?_
        show NoPanic _ .normal _ _
        refine NoPanic.normal ?_
        rw [HAA.out]
        go_frame
        clear HAA
        clear po0 q0 d0 gd0 po1 q1 d1 gd1 po2 q2 d2 gd2 po3 q3 d3 gd3 po4 q4 d4 gd4 po5 q5 d5 gd5 po6 q6 d6 gd6 po7 q7 d7 gd7 po8 q8 d8 gd8 po9 q9 d9 gd9 po10 q10 d10 gd10 po11 q11 d11 gd11 po12 q12 d12 gd12 po13 q13 d13 gd13 po14 q14 d14 gd14
        clear base0 base2 base5 hsz
        have HFC := Lib.hid (HZ8.out.set2 (.int .i64 (n8 x0)) (.slice qx m cx))
        have HB9 := Lib.hid (below_set2 HB8.out (.int .i64 (n8 x0)) (.slice qx m cx))
        have HO9 := Lib.hid ((HO8.out.set2 w.heap.size (.int .i64 (n8 x0)) (.slice qx m cx) hlt7).lowerF HD7.out.size)
        go_wp2_with fail
        refine bodyPost_ret (v := .tuple #[.agg #[.int .i64 (n8 x0), .slice qx m cx], .int .i64 ((m : Int) + 9), .int .i64 0]) (results_frame Tryd.results21 rfl rfl rfl HFC.out) rfl ?_
        rw [HG.out.1, HG.out.2.1, HG.out.2.2, HE.out]
        rw [show getB l = (l.drop 5).take m by unfold getB; rw [← HM.out]]
        refine ⟨HB9.out, _, ?_, HO9.out⟩
        rw [← HX0.out, ← HM.out, show ((m + 9 : Nat) : Int) = (m : Int) + 9 by omega]
        rfl
      · have HE := Lib.hid (getE_sum (b := l) (by rw [HN.out]; exact h1) (by rw [← HX0.out]; exact h2) (by rw [← HM.out]; exact h3) (by rw [← HM.out, HN.out]; exact h4) (by rw [← HM.out]; exact hsum))
        have HG := Lib.hid (get_err HE.out (by decide))
        have hdec : decide (l.take (m + 9) = frameB x0 ((l.drop 5).take m)) = false := decide_eq_false (fun h => hsum (HQ.out.1 h))
        rw [hdec]
        obtain ⟨c60, c61, c6f⟩ := HZ6.out.cells
        clear hsum hdec
        go_wp2_with fail
        refine bodyPost_ret (v := .tuple #[.agg #[.int .i64 0, .slice none 0 0], .int .i64 0, .int .i64 6]) (results_frame Tryd.results21 rfl rfl rfl (HZ6.out.set2 _ _)) rfl ?_
        rw [HG.out.1, HG.out.2.1, HG.out.2.2, HE.out]
        exact ⟨below_set2 HB6.out _ _, _, rfl, Own.nil _ _⟩
end Go.Proofs.YtejekgceompjpaaDoor

/-
  The document's answer of what is scanned.
-/
namespace Go.Proofs.YtejekgceompjpaaDoor
open Go.RowKit Go.Proofs.ShaWords
theorem run_loadFrV {ρ : Operand → Value} {o : Oper} {x : Operand} {T : Nat} {u v : Value} {w : World} (ho : o.op = .load 34 x) (hx : ρ x = .pointer (some ⟨T, 0, none⟩)) (hC : FrC w T u v) : (execOp ρ o).run Tryd.prog w = .ok (.value (.agg #[u, v])) w := by
  have hl := run_loadAt_mid (P := Tryd.prog) w T 0 34 [u, v] _ (fun j y hy => by rw [Nat.zero_add, cell_of_row w T j _ _ _ hC]; simpa using hy) Tryd.underlying34 rfl sizeFrame
  unfold execOp
  simp only [ho, hx, Sem.run_bind, hl, Result.andThen_ok, Sem.run_pure]
theorem wpList_runF {P : Program} {ops : Array Oper} {rest : List Oper} {o : Oper} {a : Act} {w w' : World} {Q : Exit → Act → World → Prop} {v : Value} (hw : Region.wanted o (yielded ops a.tmps) = true) (hr : (execOp a.eval o).run P w = .ok (.value v) w')
    (h : wpList P ops Q rest (a.put o.dst v) w') : wpList P ops Q (o :: rest) a w := by
  unfold wpList
  rw [if_pos hw]
  refine .inl ?_
  unfold Oper.wp
  rw [hr, Oper.upon_value]
  exact h
set_option maxRecDepth 100000 in
set_option maxHeartbeats 4000000 in
theorem refScan9_any (l : List (BitVec 8)) (n : Nat) (p : Option Addr) (c : Nat) (w : World) (fs : List Fr9) (r : List (BitVec 8)) (hn : l.length = n) (hc : n ≤ c) (hnb : n < 100000) (hp : 0 < c → ∃ b off, p = some ⟨b, off, none⟩) (hL : Lies w p l) (hS : ScanOf l fs r) :
    Calls Tryd.prog 23 #[.slice p n c] w fun e w' => ∃ hv vs, e = .returned (.tuple #[hv, .int .i64 ((framesB fs).length : Int)]) ∧ FrL w.heap.size w' hv vs fs ∧ Below w.heap.size w w' := by
  have HS := Lib.hid hS
  have HL := Lib.hid hL
  have HN := Lib.hid hn
  have HP := Lib.hid hp
  have HLN : Hid ((framesB fs).length + r.length = n) := show _ = _ by rw [← HN.out, HS.out.eq, List.length_append]
  have HFM := Lib.hid (framesB_many fs)
  clear hL hS hn hp
  go_enter Tryd.func23, Tryd.ntmps23
  go_wp2_with fail
  go_loopw [4, 5] (fun v i wr => ∃ (k : Nat) (vs : List Value), k ≤ fs.length ∧ i = .int .i64 ((framesB (fs.take k)).length : Int) ∧ FrL w.heap.size wr v vs (fs.take k) ∧ Below w.heap.size w wr) (fun _ i _ => n + 1 - (intOf i).toNat)
  case atStart => exact ⟨0, [], Nat.zero_le _, rfl, FrL.nil _ _, Below.refl _ _⟩
  case round =>
    obtain ⟨k, vs, hk, rfl, hl, hb⟩ := hrel
    have HLL := Lib.hid hl
    have HB := Lib.hid hb
    have hsb := hb.size
    obtain ⟨S, hS⟩ : ∃ S, (framesB (fs.take k)).length = S := ⟨_, rfl⟩
    have hsplit : framesB (fs.take k) ++ restF fs r k = l := by
      unfold restF
      rw [← List.append_assoc, ← framesB_append, List.take_append_drop]
      exact HS.out.eq.symm
    have hSn : S + (restF fs r k).length = n := by rw [← hS, ← HN.out, ← hsplit, List.length_append]
    have hSle : S ≤ n := by omega
    have HDS : Hid (l.drop S = restF fs r k) := show _ = _ by rw [← hsplit, ← hS, List.drop_append_of_le_length (Nat.le_refl _), List.drop_length, List.nil_append]
    obtain ⟨p2, hrun, hlies⟩ := run_fromP (p := p) (n := n) (c := c) (k := S) HP.out hSle hc
    have HRUN : Hid (∀ {ρ : Operand → Value} {o : Oper} {x y : Operand}, o.op = .slice 22 x (some y) none none → ρ x = .slice p n c → ρ y = .int .i64 (S : Int) → ∀ w, (execOp ρ o).run Tryd.prog w = .ok (.value (.slice p2 (n - S) (c - S))) w) := show _ from hrun
    have hlr := hlies wr l HN.out (HL.out.below hb)
    rw [HDS.out] at hlr
    have HG := Lib.hid (refGet9_any (restF fs r k) (n - S) p2 (c - S) wr (by omega) (by omega) (by omega) hlr)
    rw [hS]
    have hkl : (fs.take k).length = k := by rw [List.length_take]; omega
    have HKL := Lib.hid hkl
    have HSS := Lib.hid hS
    have HSN := Lib.hid hSn
    clear hl hb hrun hlies hlr hsplit hkl hS hSn
    go_upto_region 3 with (fail)
    refine wp_region_lit ?_
    refine wpList_run (by rfl) (run_move rfl rfl _) ?_
    refine wpList_run (by rfl) (run_move rfl rfl _) ?_
    refine wpList_run (by rfl) (HRUN.out rfl rfl rfl _) ?_
    go_frame
    by_cases hlt : k < fs.length
    · obtain ⟨f, hf⟩ : ∃ f, fs[k]? = some f := ⟨_, List.getElem?_eq_getElem hlt⟩
      have hfo := HS.out.ok f (List.mem_of_getElem? hf)
      have HGO := Lib.hid (restF_got (r := r) hf hfo)
      have HSH := Lib.hid (restF_shrinks (r := r) hf)
      have HF := Lib.hid hf
      have hf2 : f.2.length ≤ 2039 := hfo.2
      have HTK := Lib.hid (framesB_take hf)
      have hTE : fs.take (k + 1) = fs.take k ++ [f] := by rw [List.take_succ_eq_append_getElem hlt, (List.getElem?_eq_some_iff.1 hf).2]
      have HTE := Lib.hid hTE
      clear hf hfo hTE
      go_wp2_with fail
      refine HG.out.mono ?_
      rintro e w1 ⟨b1, v1, rfl, ho1⟩
      obtain ⟨g1, g2, g3, g4⟩ := HGO.out
      rw [g1, g2, g3]
      rw [g4] at ho1
      obtain ⟨q1, c1, rfl, -, -, -⟩ := ho1.slN (n := f.2.length) rfl
      have HO1 := Lib.hid ho1
      have HB1 := Lib.hid b1
      clear HG HGO g1 g2 g3 g4 ho1 b1
      go_upto_region 6 with (fail)
      refine wp_gen (fun A => Below w1.heap.size w1 A ∧ FrC A w1.heap.size (.int .i64 (n8 f.1)) (.slice q1 f.2.length c1)) ⟨(Below.refl _ _).alloc (Nat.le_refl _) _, heap_new_at rfl⟩ ?_
      rintro A ⟨bA, fA⟩
      have hBA : Below wr.heap.size wr A := HB1.out.trans (bA.mono HB1.out.size)
      have hLA := HLL.out.below hBA
      have hOA := HO1.out.below bA
      have hrow := hLA.rows
      rw [HKL.out] at hrow
      have hk6 : k ≤ 1000000 := by have := HFM.out; have := HLN.out; omega
      have h2c : ∀ u ∈ [Value.int .i64 (n8 f.1), .slice q1 f.2.length c1], u.oneCell' = true := by
        intro u hu
        simp only [List.mem_cons, List.not_mem_nil, or_false] at hu
        rcases hu with rfl | rfl <;> rfl
      have hltC : ∀ (i : Nat) (u : Value) (j : Nat), vs[i]? = some u → u.ownBlock = some j → j < wr.heap.size := fun i u j h1 h2 => (HLL.out.lt h1 h2).2
      have hAs := hBA.size
      have hb1 : Below A.heap.size A (A.alloc (.cells #[.int .i64 (n8 f.1), .slice q1 f.2.length c1] 34)) := (Below.refl _ _).alloc (Nat.le_refl _) _
      refine wp_region_lit ?_
      refine wpList_run (by rfl) (run_move rfl rfl _) ?_
      refine wpList_run (by rfl) (run_loadFrV rfl rfl fA) ?_
      refine wpList_runF (by rfl) (frT.run_one rfl rfl rfl _) ?_
      refine frT.wpList_append (base := w.heap.size) (n := k) (C := #[.int .i64 (n8 f.1), .slice q1 f.2.length c1]) (by rfl) rfl rfl (hrow.alloc _) rfl (heap_new_at rfl) rfl h2c hk6 (by rw [size_alloc]; omega) ?_
      intro v7 w7 hrow7 hg7 _
      have hl7 : FrL w.heap.size w7 v7 (vs ++ [.slice q1 f.2.length c1]) (fs.take (k + 1)) := by
        rw [HTE.out]
        exact (hLA.below hb1).snoc hltC hsb (hOA.below hb1) (by rw [HKL.out]; exact hrow7) hg7
      have hB7 : Below w.heap.size w w7 := (HB.out.trans ((hBA.trans (hb1.mono hAs)).mono hsb)).grown hg7 (by rw [size_alloc]; omega) (fun j e => (World.ownsRow.lt hrow j e).1)
      have HL7 := Lib.hid hl7
      have HB7 := Lib.hid hB7
      have HLE : Hid ((framesB (fs.take (k + 1))).length = S + (f.2.length + 9)) := show _ = _ by rw [HTK.out, List.length_append, frameB_length, HSS.out]
      have hSN := HSN.out
      have hSH := HSH.out
      clear hl7 hB7 hrow7 hg7 hb1 hltC hrow hLA hOA hBA fA bA
      go_frame
      go_wp2_with fail
      refine ⟨⟨k + 1, _, by omega, ?_, HL7.out, HB7.out⟩, ?_⟩
      · rw [HLE.out]
        have e : (S : Int) + ((f.2.length : Int) + 9) = ((S + (f.2.length + 9) : Nat) : Int) := by omega
        rw [e]
      · have e1 : intOf (Value.int IntKind.i64 ((S : Int) + ((f.2.length : Int) + 9))) = (S : Int) + ((f.2.length : Int) + 9) := rfl
        have e2 : intOf (Value.int IntKind.i64 (S : Int)) = (S : Int) := rfl
        rw [e1, e2]
        omega
    · have hkn : k = fs.length := by omega
      have hrest : restF fs r k = r := by rw [hkn]; exact restF_end fs r
      obtain ⟨E, hE⟩ : ∃ E, getE (restF fs r k) = E := ⟨_, rfl⟩
      have hne : E ≠ 0 := by rw [← hE, hrest]; exact HS.out.last
      have HGE := Lib.hid (get_err hE hne)
      have HEE := Lib.hid hE
      have hEi : ¬ (E : Int) = 0 := by omega
      have hSE : S = (framesB fs).length := by rw [← HSS.out, hkn, List.take_length]
      have HSE := Lib.hid hSE
      have hlx := HLL.out
      rw [hkn, List.take_length] at hlx
      obtain ⟨qv, cv, rfl, -⟩ := hlx.sl (n := fs.length) rfl
      have HLX := Lib.hid hlx
      clear hrest hE hne hSE hlx hkn
      go_wp2_with fail
      refine HG.out.mono ?_
      rintro e w1 ⟨b1, v1, rfl, ho1⟩
      rw [HGE.out.1, HGE.out.2.1, HEE.out]
      rw [HGE.out.2.2] at ho1
      obtain ⟨q1, c1, rfl, -, -, -⟩ := ho1.slN (n := 0) rfl
      have hbF : Below wr.heap.size wr (w1.alloc (.cells #[.int .i64 0, .slice q1 0 c1] 34)) := b1.alloc b1.size _
      have HBF := Lib.hid hbF
      clear b1 ho1 HG hbF
      go_wp2_with fail
      go_ret2
      refine ⟨_, vs, ?_, HLX.out.below HBF.out, HB.out.trans (HBF.out.mono hsb)⟩
      rw [← HSE.out]
      rfl
end Go.Proofs.YtejekgceompjpaaDoor

/-
  The kit's SameFrames, SpoilFrames and SpoilFramesDeep.
-/
namespace Go.Proofs.YtejekgceompjpaaDoor
open Go.RowKit Go.Proofs.ShaWords
theorem run_eqKind {ρ : Operand → Value} {o : Oper} {x y : Operand} {n : Int} {ty : TypeId} (ho : o.op = .binOp .eql 3 x y ty) (hx : ρ x = .int .i64 n) (hy : ρ y = .int .i64 n) (w : World) : (execOp ρ o).run Tryd.prog w = .ok (.value (.bool true)) w := by
  obtain ⟨dst, op, ty', pos, after, guard⟩ := o
  simp only at ho
  subst ho
  go_simp
set_option maxRecDepth 100000 in
set_option maxHeartbeats 4000000 in
theorem sameFrames_any (fs : List Fr9) (vs us : List Value) (hv hu : Value) (B C : Nat) (w : World) (hlen : fs.length ≤ 100000) (hb : ∀ f ∈ fs, f.2.length < 100000) (h1 : FrL B w hv vs fs) (h2 : FrL C w hu us fs) :
    Calls Tryd.prog 24 #[hv, hu] w fun e w' => e = .returned (.bool true) ∧ Below w.heap.size w w' := by
  obtain ⟨N, hN⟩ : ∃ N, fs.length = N := ⟨_, rfl⟩
  obtain ⟨qx, cx, rfl, -⟩ := h1.sl9 hN
  obtain ⟨qy, cy, rfl, -⟩ := h2.sl9 hN
  rw [hN] at hlen
  have HNN := Lib.hid hN
  have H1 := Lib.hid h1
  have H2 := Lib.hid h2
  have HBB := Lib.hid hb
  clear h1 h2 hb hN
  go_enter Tryd.func24, Tryd.ntmps24
  go_wp2_with fail
  go_loopw [5] (fun i wr => ∃ k : Nat, k ≤ N ∧ i = .int .i64 (k : Int) ∧ Below w.heap.size w wr) (fun i _ => N - (intOf i).toNat)
  case atStart => exact ⟨0, Nat.zero_le _, rfl, Below.refl _ _⟩
  case round =>
    obtain ⟨k, hk, rfl, hb⟩ := hrel
    have HB := Lib.hid hb
    by_cases hlt : k < N
    · have q1 : (k : Int) < (N : Int) := by omega
      have hkl : k < fs.length := by rw [HNN.out]; exact hlt
      obtain ⟨f, hf⟩ : ∃ f, fs[k]? = some f := ⟨_, List.getElem?_eq_getElem hkl⟩
      obtain ⟨v, hvk⟩ : ∃ v, vs[k]? = some v := ⟨_, List.getElem?_eq_getElem (by rw [H1.out.len]; exact hkl)⟩
      obtain ⟨u, huk⟩ : ∃ u, us[k]? = some u := ⟨_, List.getElem?_eq_getElem (by rw [H2.out.len]; exact hkl)⟩
      obtain ⟨ga, ca, ea, -, hga, -, hca⟩ := H1.out.cell (by omega)
      obtain ⟨gb, cb, eb, -, hgb, -, hcb⟩ := H2.out.cell (by omega)
      rw [HNN.out] at ea eb
      cases ea
      cases eb
      obtain ⟨a1, a2⟩ := hca k f v hf hvk
      obtain ⟨b1, b2⟩ := hcb k f u hf huk
      obtain ⟨qa, sa, rfl, -, -, la⟩ := (H1.out.each k v f hvk hf).slN (n := f.2.length) rfl
      obtain ⟨qb, sb, rfl, -, -, lb⟩ := (H2.out.each k u f huk hf).slN (n := f.2.length) rfl
      have HA1 : Hid (∀ w', Below w.heap.size w w' → w'.cell? ⟨ga, 0 + k * 2 + 0, none⟩ = some (.int .i64 (n8 f.1))) := show _ from fun w' h => by rw [Nat.zero_add]; exact (h.cell (p := ⟨ga, k * 2, none⟩) hga).trans a1
      have HA2 : Hid (∀ w', Below w.heap.size w w' → w'.cell? ⟨ga, 0 + k * 2 + 1, none⟩ = some (.slice qa f.2.length sa)) := show _ from fun w' h => by rw [Nat.zero_add]; exact (h.cell (p := ⟨ga, k * 2 + 1, none⟩) hga).trans a2
      have HB1 : Hid (∀ w', Below w.heap.size w w' → w'.cell? ⟨gb, 0 + k * 2 + 0, none⟩ = some (.int .i64 (n8 f.1))) := show _ from fun w' h => by rw [Nat.zero_add]; exact (h.cell (p := ⟨gb, k * 2, none⟩) hgb).trans b1
      have HB2 : Hid (∀ w', Below w.heap.size w w' → w'.cell? ⟨gb, 0 + k * 2 + 1, none⟩ = some (.slice qb f.2.length sb)) := show _ from fun w' h => by rw [Nat.zero_add]; exact (h.cell (p := ⟨gb, k * 2 + 1, none⟩) hgb).trans b2
      have HLA := Lib.hid la
      have HLB := Lib.hid lb
      have hfl := HBB.out f (List.mem_of_getElem? hf)
      clear hb a1 a2 b1 b2 la lb hf hvk huk hkl hca hcb
      go_upto_region 6 with (fail)
      have HD : Hid (Below w.heap.size w wr.drew) := show Below _ _ _ from HB.out.trans ((Below.refl wr.heap.size wr).drew.mono HB.out.size)
      refine region_phase (fun w' => Below w.heap.size w w') (fun _ => True) 22 (HD.out) trivial [(0, .free), (1, .free), (2, .free), (3, .free), (4, .free), (5, .free), (6, .free), (7, .free), (8, .free), (9, .free), (10, .free), (11, .free), (12, .free), (13, .free), (14, .free), (15, .free), (16, .free), (17, .free), (18, .free), (19, .free), (20, .free), (21, .free), (22, .behind), (23, .free), (24, .free)] (by kernel_rfl) (by kernel_rfl) (by kernel_rfl) (by kernel_rfl) (fun ops hops A hA => ?_)
      have hsz : A.tmps.size = 42 := by rw [hA]; rfl
      have base0 : A.eval (.tmp 0) = .slice (some ⟨ga, 0, none⟩) N cx := by rw [hA]; rfl
      have base1 : A.eval (.tmp 1) = .slice (some ⟨gb, 0, none⟩) N cy := by rw [hA]; rfl
      have base5 : A.eval (.tmp 5) = .int .i64 (k : Int) := by rw [hA]; rfl
      have HAA := Lib.hid hA; clear hA
      obtain ⟨o0, po0, q0, d0, gd0⟩ : ∃ o, ops[0]? = some o ∧ o.op = .move (.tmp 0) ∧ o.dst = some 17 ∧ o.guard = none := ⟨_, by rw [hops]; rfl, rfl, rfl, rfl⟩
      obtain ⟨o1, po1, q1, d1, gd1⟩ : ∃ o, ops[1]? = some o ∧ o.op = .move (.tmp 5) ∧ o.dst = some 18 ∧ o.guard = none := ⟨_, by rw [hops]; rfl, rfl, rfl, rfl⟩
      obtain ⟨o2, po2, q2, d2, gd2⟩ : ∃ o, ops[2]? = some o ∧ o.op = .indexAddr 37 (.tmp 17) (.tmp 18) ∧ o.dst = some 19 ∧ o.guard = none := ⟨_, by rw [hops]; rfl, rfl, rfl, rfl⟩
      obtain ⟨o3, po3, q3, d3, gd3⟩ : ∃ o, ops[3]? = some o ∧ o.op = .fieldAddr 34 (.tmp 19) 0 ∧ o.dst = some 20 ∧ o.guard = none := ⟨_, by rw [hops]; rfl, rfl, rfl, rfl⟩
      obtain ⟨o4, po4, q4, d4, gd4⟩ : ∃ o, ops[4]? = some o ∧ o.op = .load 3 (.tmp 20) ∧ o.dst = some 21 ∧ o.guard = none := ⟨_, by rw [hops]; rfl, rfl, rfl, rfl⟩
      obtain ⟨o5, po5, q5, d5, gd5⟩ : ∃ o, ops[5]? = some o ∧ o.op = .move (.tmp 1) ∧ o.dst = some 22 ∧ o.guard = none := ⟨_, by rw [hops]; rfl, rfl, rfl, rfl⟩
      obtain ⟨o6, po6, q6, d6, gd6⟩ : ∃ o, ops[6]? = some o ∧ o.op = .move (.tmp 5) ∧ o.dst = some 23 ∧ o.guard = none := ⟨_, by rw [hops]; rfl, rfl, rfl, rfl⟩
      obtain ⟨o7, po7, q7, d7, gd7⟩ : ∃ o, ops[7]? = some o ∧ o.op = .indexAddr 37 (.tmp 22) (.tmp 23) ∧ o.dst = some 24 ∧ o.guard = none := ⟨_, by rw [hops]; rfl, rfl, rfl, rfl⟩
      obtain ⟨o8, po8, q8, d8, gd8⟩ : ∃ o, ops[8]? = some o ∧ o.op = .fieldAddr 34 (.tmp 24) 0 ∧ o.dst = some 25 ∧ o.guard = none := ⟨_, by rw [hops]; rfl, rfl, rfl, rfl⟩
      obtain ⟨o9, po9, q9, d9, gd9⟩ : ∃ o, ops[9]? = some o ∧ o.op = .load 3 (.tmp 25) ∧ o.dst = some 26 ∧ o.guard = none := ⟨_, by rw [hops]; rfl, rfl, rfl, rfl⟩
      obtain ⟨o10, po10, q10, d10, gd10⟩ : ∃ o, ops[10]? = some o ∧ o.op = .binOp .eql 3 (.tmp 21) (.tmp 26) 3 ∧ o.dst = some 27 ∧ o.guard = none := ⟨_, by rw [hops]; rfl, rfl, rfl, rfl⟩
      obtain ⟨o11, po11, q11, d11, gd11⟩ : ∃ o, ops[11]? = some o ∧ o.op = .move (.tmp 27) ∧ o.dst = some 28 ∧ o.guard = none := ⟨_, by rw [hops]; rfl, rfl, rfl, rfl⟩
      obtain ⟨o12, po12, q12, d12, gd12⟩ : ∃ o, ops[12]? = some o ∧ o.op = .move (.tmp 0) ∧ o.dst = some 29 ∧ o.guard = some (11, true) := ⟨_, by rw [hops]; rfl, rfl, rfl, rfl⟩
      obtain ⟨o13, po13, q13, d13, gd13⟩ : ∃ o, ops[13]? = some o ∧ o.op = .move (.tmp 5) ∧ o.dst = some 30 ∧ o.guard = some (11, true) := ⟨_, by rw [hops]; rfl, rfl, rfl, rfl⟩
      obtain ⟨o14, po14, q14, d14, gd14⟩ : ∃ o, ops[14]? = some o ∧ o.op = .indexAddr 37 (.tmp 29) (.tmp 30) ∧ o.dst = some 31 ∧ o.guard = some (11, true) := ⟨_, by rw [hops]; rfl, rfl, rfl, rfl⟩
      obtain ⟨o15, po15, q15, d15, gd15⟩ : ∃ o, ops[15]? = some o ∧ o.op = .fieldAddr 34 (.tmp 31) 1 ∧ o.dst = some 32 ∧ o.guard = some (11, true) := ⟨_, by rw [hops]; rfl, rfl, rfl, rfl⟩
      obtain ⟨o16, po16, q16, d16, gd16⟩ : ∃ o, ops[16]? = some o ∧ o.op = .load 22 (.tmp 32) ∧ o.dst = some 33 ∧ o.guard = some (11, true) := ⟨_, by rw [hops]; rfl, rfl, rfl, rfl⟩
      obtain ⟨o17, po17, q17, d17, gd17⟩ : ∃ o, ops[17]? = some o ∧ o.op = .move (.tmp 1) ∧ o.dst = some 34 ∧ o.guard = some (11, true) := ⟨_, by rw [hops]; rfl, rfl, rfl, rfl⟩
      obtain ⟨o18, po18, q18, d18, gd18⟩ : ∃ o, ops[18]? = some o ∧ o.op = .move (.tmp 5) ∧ o.dst = some 35 ∧ o.guard = some (11, true) := ⟨_, by rw [hops]; rfl, rfl, rfl, rfl⟩
      obtain ⟨o19, po19, q19, d19, gd19⟩ : ∃ o, ops[19]? = some o ∧ o.op = .indexAddr 37 (.tmp 34) (.tmp 35) ∧ o.dst = some 36 ∧ o.guard = some (11, true) := ⟨_, by rw [hops]; rfl, rfl, rfl, rfl⟩
      obtain ⟨o20, po20, q20, d20, gd20⟩ : ∃ o, ops[20]? = some o ∧ o.op = .fieldAddr 34 (.tmp 36) 1 ∧ o.dst = some 37 ∧ o.guard = some (11, true) := ⟨_, by rw [hops]; rfl, rfl, rfl, rfl⟩
      obtain ⟨o21, po21, q21, d21, gd21⟩ : ∃ o, ops[21]? = some o ∧ o.op = .load 22 (.tmp 37) ∧ o.dst = some 38 ∧ o.guard = some (11, true) := ⟨_, by rw [hops]; rfl, rfl, rfl, rfl⟩
      obtain ⟨o22, po22, q22, d22, gd22⟩ : ∃ o, ops[22]? = some o ∧ o.op = .call { callee := .value (.func 15), args := #[.tmp 33, .tmp 38], argTypes := #[22, 22] } ∧ o.dst = some 39 ∧ o.guard = some (11, true) := ⟨_, by rw [hops]; rfl, rfl, rfl, rfl⟩
      obtain ⟨o23, po23, q23, d23, gd23⟩ : ∃ o, ops[23]? = some o ∧ o.op = .pick (.tmp 28) (.tmp 39) (.const (.bool false)) ∧ o.dst = some 40 ∧ o.guard = none := ⟨_, by rw [hops]; rfl, rfl, rfl, rfl⟩
      obtain ⟨o24, po24, q24, d24, gd24⟩ : ∃ o, ops[24]? = some o ∧ o.op = .unOp .not 4 (.tmp 40) ∧ o.dst = some 41 ∧ o.guard = none := ⟨_, by rw [hops]; rfl, rfl, rfl, rfl⟩
      clear hops
      refine met_free po0 d0 (wanted_of gd0) (fun w' h' => run_move q0 base0 w') ?_
      refine met_free po1 d1 (wanted_of gd1) (fun w' h' => run_move q1 ((eval_other _ 17 5 _ (by decide)).trans base5) w') ?_
      refine met_free po2 d2 (wanted_of gd2) (fun w' h' => run_ixFr q2 ((eval_other _ 18 17 _ (by decide)).trans (eval_same _ _ _ (by rw [hsz]; decide))) (eval_same _ _ _ (by simp only [put_size, hsz]; decide)) hlt w') ?_
      refine met_free po3 d3 (wanted_of gd3) (fun w' h' => run_fieldFr q3 (by decide) (eval_same _ _ _ (by simp only [put_size, hsz]; decide)) w') ?_
      refine met_free po4 d4 (wanted_of gd4) (fun w' h' => run_loadKind q4 (eval_same _ _ _ (by simp only [put_size, hsz]; decide)) (HA1.out _ h')) ?_
      refine met_free po5 d5 (wanted_of gd5) (fun w' h' => run_move q5 ((eval_other _ 21 1 _ (by decide)).trans ((eval_other _ 20 1 _ (by decide)).trans ((eval_other _ 19 1 _ (by decide)).trans ((eval_other _ 18 1 _ (by decide)).trans ((eval_other _ 17 1 _ (by decide)).trans base1))))) w') ?_
      refine met_free po6 d6 (wanted_of gd6) (fun w' h' => run_move q6 ((eval_other _ 22 5 _ (by decide)).trans ((eval_other _ 21 5 _ (by decide)).trans ((eval_other _ 20 5 _ (by decide)).trans ((eval_other _ 19 5 _ (by decide)).trans ((eval_other _ 18 5 _ (by decide)).trans ((eval_other _ 17 5 _ (by decide)).trans base5)))))) w') ?_
      refine met_free po7 d7 (wanted_of gd7) (fun w' h' => run_ixFr q7 ((eval_other _ 23 22 _ (by decide)).trans (eval_same _ _ _ (by simp only [put_size, hsz]; decide))) (eval_same _ _ _ (by simp only [put_size, hsz]; decide)) hlt w') ?_
      refine met_free po8 d8 (wanted_of gd8) (fun w' h' => run_fieldFr q8 (by decide) (eval_same _ _ _ (by simp only [put_size, hsz]; decide)) w') ?_
      refine met_free po9 d9 (wanted_of gd9) (fun w' h' => run_loadKind q9 (eval_same _ _ _ (by simp only [put_size, hsz]; decide)) (HB1.out _ h')) ?_
      refine met_free po10 d10 (wanted_of gd10) (fun w' h' => run_eqKind q10 ((eval_other _ 26 21 _ (by decide)).trans ((eval_other _ 25 21 _ (by decide)).trans ((eval_other _ 24 21 _ (by decide)).trans ((eval_other _ 23 21 _ (by decide)).trans ((eval_other _ 22 21 _ (by decide)).trans (eval_same _ _ _ (by simp only [put_size, hsz]; decide))))))) (eval_same _ _ _ (by simp only [put_size, hsz]; decide)) w') ?_
      refine met_free po11 d11 (wanted_of gd11) (fun w' h' => run_move q11 (eval_same _ _ _ (by simp only [put_size, hsz]; decide)) w') ?_
      refine met_free po12 d12 (wanted_guard gd12 po11 d11 (eval_same _ _ _ (by simp only [put_size, hsz]; decide))) (fun w' h' => run_move q12 ((eval_other _ 28 0 _ (by decide)).trans ((eval_other _ 27 0 _ (by decide)).trans ((eval_other _ 26 0 _ (by decide)).trans ((eval_other _ 25 0 _ (by decide)).trans ((eval_other _ 24 0 _ (by decide)).trans ((eval_other _ 23 0 _ (by decide)).trans ((eval_other _ 22 0 _ (by decide)).trans ((eval_other _ 21 0 _ (by decide)).trans ((eval_other _ 20 0 _ (by decide)).trans ((eval_other _ 19 0 _ (by decide)).trans ((eval_other _ 18 0 _ (by decide)).trans ((eval_other _ 17 0 _ (by decide)).trans base0)))))))))))) w') ?_
      refine met_free po13 d13 (wanted_guard gd13 po11 d11 ((eval_other _ 29 28 _ (by decide)).trans (eval_same _ _ _ (by simp only [put_size, hsz]; decide)))) (fun w' h' => run_move q13 ((eval_other _ 29 5 _ (by decide)).trans ((eval_other _ 28 5 _ (by decide)).trans ((eval_other _ 27 5 _ (by decide)).trans ((eval_other _ 26 5 _ (by decide)).trans ((eval_other _ 25 5 _ (by decide)).trans ((eval_other _ 24 5 _ (by decide)).trans ((eval_other _ 23 5 _ (by decide)).trans ((eval_other _ 22 5 _ (by decide)).trans ((eval_other _ 21 5 _ (by decide)).trans ((eval_other _ 20 5 _ (by decide)).trans ((eval_other _ 19 5 _ (by decide)).trans ((eval_other _ 18 5 _ (by decide)).trans ((eval_other _ 17 5 _ (by decide)).trans base5))))))))))))) w') ?_
      refine met_free po14 d14 (wanted_guard gd14 po11 d11 ((eval_other _ 30 28 _ (by decide)).trans ((eval_other _ 29 28 _ (by decide)).trans (eval_same _ _ _ (by simp only [put_size, hsz]; decide))))) (fun w' h' => run_ixFr q14 ((eval_other _ 30 29 _ (by decide)).trans (eval_same _ _ _ (by simp only [put_size, hsz]; decide))) (eval_same _ _ _ (by simp only [put_size, hsz]; decide)) hlt w') ?_
      refine met_free po15 d15 (wanted_guard gd15 po11 d11 ((eval_other _ 31 28 _ (by decide)).trans ((eval_other _ 30 28 _ (by decide)).trans ((eval_other _ 29 28 _ (by decide)).trans (eval_same _ _ _ (by simp only [put_size, hsz]; decide)))))) (fun w' h' => run_fieldFr q15 (by decide) (eval_same _ _ _ (by simp only [put_size, hsz]; decide)) w') ?_
      refine met_free po16 d16 (wanted_guard gd16 po11 d11 ((eval_other _ 32 28 _ (by decide)).trans ((eval_other _ 31 28 _ (by decide)).trans ((eval_other _ 30 28 _ (by decide)).trans ((eval_other _ 29 28 _ (by decide)).trans (eval_same _ _ _ (by simp only [put_size, hsz]; decide))))))) (fun w' h' => run_loadSlice q16 (eval_same _ _ _ (by simp only [put_size, hsz]; decide)) (HA2.out _ h')) ?_
      refine met_free po17 d17 (wanted_guard gd17 po11 d11 ((eval_other _ 33 28 _ (by decide)).trans ((eval_other _ 32 28 _ (by decide)).trans ((eval_other _ 31 28 _ (by decide)).trans ((eval_other _ 30 28 _ (by decide)).trans ((eval_other _ 29 28 _ (by decide)).trans (eval_same _ _ _ (by simp only [put_size, hsz]; decide)))))))) (fun w' h' => run_move q17 ((eval_other _ 33 1 _ (by decide)).trans ((eval_other _ 32 1 _ (by decide)).trans ((eval_other _ 31 1 _ (by decide)).trans ((eval_other _ 30 1 _ (by decide)).trans ((eval_other _ 29 1 _ (by decide)).trans ((eval_other _ 28 1 _ (by decide)).trans ((eval_other _ 27 1 _ (by decide)).trans ((eval_other _ 26 1 _ (by decide)).trans ((eval_other _ 25 1 _ (by decide)).trans ((eval_other _ 24 1 _ (by decide)).trans ((eval_other _ 23 1 _ (by decide)).trans ((eval_other _ 22 1 _ (by decide)).trans ((eval_other _ 21 1 _ (by decide)).trans ((eval_other _ 20 1 _ (by decide)).trans ((eval_other _ 19 1 _ (by decide)).trans ((eval_other _ 18 1 _ (by decide)).trans ((eval_other _ 17 1 _ (by decide)).trans base1))))))))))))))))) w') ?_
      refine met_free po18 d18 (wanted_guard gd18 po11 d11 ((eval_other _ 34 28 _ (by decide)).trans ((eval_other _ 33 28 _ (by decide)).trans ((eval_other _ 32 28 _ (by decide)).trans ((eval_other _ 31 28 _ (by decide)).trans ((eval_other _ 30 28 _ (by decide)).trans ((eval_other _ 29 28 _ (by decide)).trans (eval_same _ _ _ (by simp only [put_size, hsz]; decide))))))))) (fun w' h' => run_move q18 ((eval_other _ 34 5 _ (by decide)).trans ((eval_other _ 33 5 _ (by decide)).trans ((eval_other _ 32 5 _ (by decide)).trans ((eval_other _ 31 5 _ (by decide)).trans ((eval_other _ 30 5 _ (by decide)).trans ((eval_other _ 29 5 _ (by decide)).trans ((eval_other _ 28 5 _ (by decide)).trans ((eval_other _ 27 5 _ (by decide)).trans ((eval_other _ 26 5 _ (by decide)).trans ((eval_other _ 25 5 _ (by decide)).trans ((eval_other _ 24 5 _ (by decide)).trans ((eval_other _ 23 5 _ (by decide)).trans ((eval_other _ 22 5 _ (by decide)).trans ((eval_other _ 21 5 _ (by decide)).trans ((eval_other _ 20 5 _ (by decide)).trans ((eval_other _ 19 5 _ (by decide)).trans ((eval_other _ 18 5 _ (by decide)).trans ((eval_other _ 17 5 _ (by decide)).trans base5)))))))))))))))))) w') ?_
      refine met_free po19 d19 (wanted_guard gd19 po11 d11 ((eval_other _ 35 28 _ (by decide)).trans ((eval_other _ 34 28 _ (by decide)).trans ((eval_other _ 33 28 _ (by decide)).trans ((eval_other _ 32 28 _ (by decide)).trans ((eval_other _ 31 28 _ (by decide)).trans ((eval_other _ 30 28 _ (by decide)).trans ((eval_other _ 29 28 _ (by decide)).trans (eval_same _ _ _ (by simp only [put_size, hsz]; decide)))))))))) (fun w' h' => run_ixFr q19 ((eval_other _ 35 34 _ (by decide)).trans (eval_same _ _ _ (by simp only [put_size, hsz]; decide))) (eval_same _ _ _ (by simp only [put_size, hsz]; decide)) hlt w') ?_
      refine met_free po20 d20 (wanted_guard gd20 po11 d11 ((eval_other _ 36 28 _ (by decide)).trans ((eval_other _ 35 28 _ (by decide)).trans ((eval_other _ 34 28 _ (by decide)).trans ((eval_other _ 33 28 _ (by decide)).trans ((eval_other _ 32 28 _ (by decide)).trans ((eval_other _ 31 28 _ (by decide)).trans ((eval_other _ 30 28 _ (by decide)).trans ((eval_other _ 29 28 _ (by decide)).trans (eval_same _ _ _ (by simp only [put_size, hsz]; decide))))))))))) (fun w' h' => run_fieldFr q20 (by decide) (eval_same _ _ _ (by simp only [put_size, hsz]; decide)) w') ?_
      refine met_free po21 d21 (wanted_guard gd21 po11 d11 ((eval_other _ 37 28 _ (by decide)).trans ((eval_other _ 36 28 _ (by decide)).trans ((eval_other _ 35 28 _ (by decide)).trans ((eval_other _ 34 28 _ (by decide)).trans ((eval_other _ 33 28 _ (by decide)).trans ((eval_other _ 32 28 _ (by decide)).trans ((eval_other _ 31 28 _ (by decide)).trans ((eval_other _ 30 28 _ (by decide)).trans ((eval_other _ 29 28 _ (by decide)).trans (eval_same _ _ _ (by simp only [put_size, hsz]; decide)))))))))))) (fun w' h' => run_loadSlice q21 (eval_same _ _ _ (by simp only [put_size, hsz]; decide)) (HB2.out _ h')) ?_
      refine m_enter po22 d22 (wanted_guard gd22 po11 d11 ((eval_other _ 38 28 _ (by decide)).trans ((eval_other _ 37 28 _ (by decide)).trans ((eval_other _ 36 28 _ (by decide)).trans ((eval_other _ 35 28 _ (by decide)).trans ((eval_other _ 34 28 _ (by decide)).trans ((eval_other _ 33 28 _ (by decide)).trans ((eval_other _ 32 28 _ (by decide)).trans ((eval_other _ 31 28 _ (by decide)).trans ((eval_other _ 30 28 _ (by decide)).trans ((eval_other _ 29 28 _ (by decide)).trans (eval_same _ _ _ (by simp only [put_size, hsz]; decide))))))))))))) (run_callf2 q22 rfl ((eval_other _ 38 33 _ (by decide)).trans ((eval_other _ 37 33 _ (by decide)).trans ((eval_other _ 36 33 _ (by decide)).trans ((eval_other _ 35 33 _ (by decide)).trans ((eval_other _ 34 33 _ (by decide)).trans (eval_same _ _ _ (by simp only [put_size, hsz]; decide))))))) (eval_same _ _ _ (by simp only [put_size, hsz]; decide)) Tryd.func15 (by kernel_rfl) _) (same_big f.2 f.2.length qa qb sa sb _ rfl (by omega) (HLA.out.below HD.out) (HLB.out.below HD.out)) ?_
      rintro e w9 ⟨rfl, hb9⟩
      have HB9 : Hid (Below w.heap.size w w9) := show Below _ _ _ from HD.out.trans (hb9.mono HD.out.size)
      clear hb9
      refine ⟨_, rfl, HB9.out, ?_⟩
      refine met_free po23 d23 (wanted_of gd23) (fun w' h' => run_pick_true q23 ((eval_other _ 39 28 _ (by decide)).trans ((eval_other _ 38 28 _ (by decide)).trans ((eval_other _ 37 28 _ (by decide)).trans ((eval_other _ 36 28 _ (by decide)).trans ((eval_other _ 35 28 _ (by decide)).trans ((eval_other _ 34 28 _ (by decide)).trans ((eval_other _ 33 28 _ (by decide)).trans ((eval_other _ 32 28 _ (by decide)).trans ((eval_other _ 31 28 _ (by decide)).trans ((eval_other _ 30 28 _ (by decide)).trans ((eval_other _ 29 28 _ (by decide)).trans (eval_same _ _ _ (by simp only [put_size, hsz]; decide))))))))))))) (eval_same _ _ _ (by simp only [put_size, hsz]; decide)) w') ?_
      refine met_free po24 d24 (wanted_of gd24) (fun w' h' => r_not q24 (eval_same _ _ _ (by simp only [put_size, hsz]; decide)) w') ?_
      show NoPanic _ .normal _ _
      refine NoPanic.normal ?_
      rw [HAA.out]
      go_frame
      clear HAA
      clear po0 q0 d0 gd0 po1 q1 d1 gd1 po2 q2 d2 gd2 po3 q3 d3 gd3 po4 q4 d4 gd4 po5 q5 d5 gd5 po6 q6 d6 gd6 po7 q7 d7 gd7 po8 q8 d8 gd8 po9 q9 d9 gd9 po10 q10 d10 gd10 po11 q11 d11 gd11 po12 q12 d12 gd12 po13 q13 d13 gd13 po14 q14 d14 gd14 po15 q15 d15 gd15 po16 q16 d16 gd16 po17 q17 d17 gd17 po18 q18 d18 gd18 po19 q19 d19 gd19 po20 q20 d20 gd20 po21 q21 d21 gd21 po22 q22 d22 gd22 po23 q23 d23 gd23 po24 q24 d24 gd24
      clear base0 base1 base5 hsz
      go_wp2_with fail
      go_roundw
      case rel => exact ⟨k + 1, by omega, by go_num, HB9.out⟩
      case measure => simp [intOf]; omega
    · have q1 : ¬ (k : Int) < (N : Int) := by omega
      clear hb
      go_wp2_with fail
      go_ret
      exact ⟨rfl, HB.out⟩
theorem results_row9 {fn : Func} {p : Tmp} (h : fn.results = #[.cell p 34]) {tmps : Array Value} {w : World} {T : Nat} {a b : Value} (hp : tmps.getD p undef = .pointer (some ⟨T, 0, none⟩)) (hC : FrC w T a b) : (results fn tmps).run Tryd.prog w = .ok (.agg #[a, b]) w :=
  results_cell_row h tmps w T 34 _ (0, 0) _ hp hC Tryd.underlying34 rfl sizeFrame
theorem mark9_any (i : Nat) (w : World) (h : i ≤ 1000000) : Calls Tryd.prog 37 #[.int .i64 (i : Int)] w fun e w' => e = .returned (.agg #[.int .i64 (-9 - (i : Int)), .slice none 0 0]) ∧ Below w.heap.size w w' := by
  go_enter Tryd.func37, Tryd.ntmps37
  go_wp2_with fail
  refine bodyPost_ret (v := .agg #[.int .i64 (-9 - (i : Int)), .slice none 0 0]) (results_row9 Tryd.results37 rfl (heap_new_at rfl)) rfl ?_
  exact ⟨rfl, (Below.refl _ _).alloc (Nat.le_refl _) _⟩
/-- A row of frames, whatever they are. -/
def FrRow (w : World) (g cap : Nat) : Prop := ∃ cur : Array Value, w.heap[g]? = some (.cells cur 34 (0, 0)) ∧ cur.size = cap * 2
theorem FrRow.cells {w : World} {g cap : Nat} (h : FrRow w g cap) {i : Nat} (hi : i < cap) : (∃ a b, w.cell? ⟨g, i * 2, none⟩ = some a ∧ w.cell? ⟨g, i * 2 + 1, none⟩ = some b) ∧ ∀ j, w.frozen? ⟨g, j, none⟩ = false := by
  obtain ⟨cur, hh, hs⟩ := h
  refine ⟨⟨cur[i * 2]'(by omega), cur[i * 2 + 1]'(by omega), ?_, ?_⟩, fun j => frozen_of_row _ _ _ _ _ hh⟩
  · rw [cell_of_row w g _ cur _ (0, 0) hh]; exact Array.getElem?_eq_getElem _
  · rw [cell_of_row w g _ cur _ (0, 0) hh]; exact Array.getElem?_eq_getElem _
theorem FrRow.put {w : World} {g cap : Nat} (h : FrRow w g cap) (j : Nat) (v : Value) : FrRow (w.setCell ⟨g, j, none⟩ v) g cap := by
  obtain ⟨cur, hh, hs⟩ := h
  exact ⟨_, heap_setCell_same _ _ _ _ _ _ hh, by rw [Array.size_setIfInBounds]; exact hs⟩
theorem FrRow.below {w w' : World} {g cap : Nat} (h : FrRow w g cap) (hb : Below w.heap.size w w') : FrRow w' g cap := by
  obtain ⟨cur, hh, hs⟩ := h
  exact ⟨cur, (hb.block _ (Array.getElem?_eq_some_iff.1 hh).1).trans hh, hs⟩
set_option maxHeartbeats 1000000 in
theorem spoilFrames_any (n cap g : Nat) (w : World) (hn : n ≤ 100000) (hc : n ≤ cap) (h : FrRow w g cap) : Calls Tryd.prog 35 #[.slice (some ⟨g, 0, none⟩) n cap] w fun e w' => e = .returned (.tuple #[]) ∧ w.grownBy w' (some g) := by
  have H := Lib.hid h
  clear h
  go_enter Tryd.func35, Tryd.ntmps35
  go_wp2_with fail
  go_loopw [2] (fun i wr => ∃ k : Nat, k ≤ n ∧ i = .int .i64 (k : Int) ∧ FrRow wr g cap ∧ w.grownBy wr (some g)) (fun i _ => n - (intOf i).toNat)
  case atStart => exact ⟨0, Nat.zero_le _, rfl, H.out, World.grownBy.refl _ _⟩
  case round =>
    obtain ⟨k, hk, rfl, hr, hg⟩ := hrel
    by_cases hlt : k < n
    · have q1 : (k : Int) < (n : Int) := by omega
      have HR := Lib.hid hr
      have HG := Lib.hid hg
      clear hr hg
      go_wp2_with (go_at_call 37; fail)
      refine (show Calls Tryd.prog 37 #[.int .i64 ((k : Int) + 7)] wr _ from mark9_any (k + 7) wr (by omega)).mono ?_
      rintro e w2 ⟨rfl, b2⟩
      have hr2 := HR.out.below b2
      have HG2 := Lib.hid (grown_trans HG.out (grown_below b2 (Nat.le_refl _) (some g)))
      obtain ⟨⟨a, b, ha, hb⟩, hf⟩ := hr2.cells (i := k) (by omega)
      have HR2 := Lib.hid hr2
      clear b2 hr2
      have HF1 := Lib.hid ((HR2.out.put (k * 2) (.int .i64 (-9 - ((k : Int) + 7)))).put (k * 2 + 1) (.slice none 0 0))
      have HF2 := Lib.hid (grown_trans (grown_trans HG2.out (grown_setCell w2 g (k * 2) (.int .i64 (-9 - ((k : Int) + 7))))) (grown_setCell _ g (k * 2 + 1) (.slice none 0 0)))
      go_wp2_with fail
      go_roundw
      case rel => exact ⟨k + 1, by omega, by go_num, HF1.out, HF2.out⟩
      case measure => simp [intOf]; omega
    · have q1 : ¬ (k : Int) < (n : Int) := by omega
      have HG := Lib.hid hg
      clear hr hg
      go_wp2_with fail
      refine bodyPost_end (results_none rfl _ _ _) rfl ?_
      exact ⟨rfl, HG.out⟩
theorem spoilFrames_none (w : World) : Calls Tryd.prog 35 #[.slice none 0 0] w fun e w' => e = .returned (.tuple #[]) ∧ w' = w := by
  go_enter Tryd.func35, Tryd.ntmps35
  go_wp2_with fail
  go_loopw [2] (fun i wr => i = .int .i64 0 ∧ wr = w) (fun i _ => (intOf i).toNat)
  case atStart => exact ⟨rfl, rfl⟩
  case round =>
    obtain ⟨rfl, rfl⟩ := hrel
    go_wp2_with fail
    refine bodyPost_end (results_none rfl _ _ _) rfl ?_
    exact ⟨rfl, rfl⟩
theorem spoilFrames_row {B n : Nat} {hv : Value} {xs : List Value} (w : World) (hn : n ≤ 100000) (h : w.ownsRow B 34 2 hv n xs) : Calls Tryd.prog 35 #[hv] w fun e w' => e = .returned (.tuple #[]) ∧ w.grownBy w' hv.ownBlock := by
  rcases h.2 with ⟨h0, h1⟩ | ⟨g, cap, cur, rfl, hg, hh, hc, hm, hs, ht⟩
  · subst h0
    refine (spoilFrames_none w).mono ?_
    rintro e w' ⟨rfl, rfl⟩
    exact ⟨rfl, World.grownBy.refl _ _⟩
  · refine (spoilFrames_any n cap g w hn hc ⟨cur, hh, hs⟩).mono ?_
    rintro e w' ⟨rfl, hgr⟩
    exact ⟨rfl, hgr⟩
set_option maxRecDepth 100000 in
set_option maxHeartbeats 2000000 in
theorem spoilDeep_any (fs : List Fr9) (vs : List Value) (hv : Value) (B : Nat) (w : World) (hlen : fs.length ≤ 100000) (hb : ∀ f ∈ fs, f.2.length < 100000) (h : FrL B w hv vs fs) :
    Calls Tryd.prog 25 #[hv] w fun e w' => e = .returned (.tuple #[]) ∧ Stays (fun b => hv.ownBlock = some b ∨ ∃ (j : Nat) (v : Value), vs[j]? = some v ∧ v.ownBlock = some b) w w' := by
  obtain ⟨N, hN⟩ : ∃ N, fs.length = N := ⟨_, rfl⟩
  have hrw := h.rows
  rw [hN] at hrw hlen
  obtain ⟨qx, cx, rfl, -⟩ := h.sl9 hN
  have HNN := Lib.hid hN
  have HH := Lib.hid h
  have HRW := Lib.hid hrw
  have HBB := Lib.hid hb
  clear h hb hN hrw
  go_enter Tryd.func25, Tryd.ntmps25
  go_wp2_with fail
  go_loopw [2] (fun i wr => ∃ k : Nat, k ≤ N ∧ i = .int .i64 (k : Int) ∧ Stays (fun b => ∃ (j : Nat) (v : Value), j < k ∧ vs[j]? = some v ∧ v.ownBlock = some b) w wr) (fun i _ => N - (intOf i).toNat)
  case atStart => exact ⟨0, Nat.zero_le _, rfl, Stays.refl _ _⟩
  case round =>
    obtain ⟨k, hk, rfl, hs⟩ := hrel
    have HS := Lib.hid hs
    by_cases hlt : k < N
    · have q1 : (k : Int) < (N : Int) := by omega
      have hkl : k < fs.length := by rw [HNN.out]; exact hlt
      obtain ⟨f, hf⟩ : ∃ f, fs[k]? = some f := ⟨_, List.getElem?_eq_getElem hkl⟩
      obtain ⟨v, hvk⟩ : ∃ v, vs[k]? = some v := ⟨_, List.getElem?_eq_getElem (by rw [HH.out.len]; exact hkl)⟩
      obtain ⟨g, cg, eg, -, hg, -, hcell⟩ := HH.out.cell (by omega)
      rw [HNN.out] at eg
      cases eg
      obtain ⟨a1, a2⟩ := hcell k f v hf hvk
      have hblk : wr.heap[g]? = w.heap[g]? := hs.block g hg (fun ⟨j, u, _, hu, hub⟩ => by
        obtain ⟨f', hf', ho'⟩ := HH.out.at hu
        exact own_not_row ho' HH.out.rows hub rfl)
      have hc2 : wr.cell? ⟨g, k * 2 + 1, none⟩ = some v := (World.cell?_of_block (a := ⟨g, k * 2 + 1, none⟩) hblk).trans a2
      have how := ownsRow_stays (HH.out.each k v f hvk hf) hs (fun j e ⟨j', u, hj', hu, hub⟩ => HH.out.apart j' k u v j (by omega) hu hvk hub e)
      obtain ⟨qb, sb, rfl, -, -, -⟩ := Own.slN how (n := f.2.length) rfl
      have hfl := HBB.out f (List.mem_of_getElem? hf)
      have HOW : Hid (Own B wr f.2 (.slice qb f.2.length sb)) := show Own _ _ _ _ from how
      have HV := Lib.hid hvk
      clear hs a1 a2 hcell hblk how hf hvk hkl
      go_wp2_with (go_at_call 18; fail)
      refine (spoil_big f.2 B f.2.length sb qb wr rfl (by omega) HOW.out).mono ?_
      rintro e w2 ⟨rfl, g2⟩
      have HS2 : Hid (Stays (fun b => ∃ (j : Nat) (v : Value), j < k + 1 ∧ vs[j]? = some v ∧ v.ownBlock = some b) w w2) := show Stays _ _ _ from
        (HS.out.more fun b ⟨j, u, h1, h2, h3⟩ => ⟨j, u, by omega, h2, h3⟩).trans (grown_stays (F := fun b => (Value.slice qb f.2.length sb).ownBlock = some b) g2 (fun j e => e)) (fun b e _ => ⟨k, _, by omega, HV.out, e⟩)
      clear g2
      go_wp2_with fail
      go_roundw
      case rel => exact ⟨k + 1, by omega, by go_num, HS2.out⟩
      case measure => simp [intOf]; omega
    · have q1 : ¬ (k : Int) < (N : Int) := by omega
      have hrow : wr.ownsRow B 34 2 (.slice qx N cx) N (frCells fs vs) := ownsRow_stays HRW.out hs (fun j e ⟨j', u, _, hu, hub⟩ => by
        obtain ⟨f', hf', ho'⟩ := HH.out.at hu
        exact own_not_row ho' HH.out.rows hub e)
      have HROW := Lib.hid hrow
      clear hs hrow
      go_wp2_with (go_at_call 35; fail)
      refine (spoilFrames_row wr hlen HROW.out).mono ?_
      rintro e w2 ⟨rfl, g2⟩
      have HS2 : Hid (Stays (fun b => (Value.slice qx N cx).ownBlock = some b ∨ ∃ (j : Nat) (v : Value), vs[j]? = some v ∧ v.ownBlock = some b) w w2) := show Stays _ _ _ from
        (HS.out.more fun b ⟨j, u, _, h2, h3⟩ => Or.inr ⟨j, u, h2, h3⟩).trans (grown_stays (F := fun b => (Value.slice qx N cx).ownBlock = some b) g2 (fun j e => e)) (fun b e _ => Or.inl e)
      clear g2
      go_wp2_with fail
      refine bodyPost_end (results_none rfl _ _ _) rfl ?_
      exact ⟨rfl, HS2.out⟩
end Go.Proofs.YtejekgceompjpaaDoor
