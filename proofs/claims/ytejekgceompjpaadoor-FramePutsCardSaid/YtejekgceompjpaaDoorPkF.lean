/-
  What other texts lean on: FrRefSum, FrRefPut.
-/
import Derived.Test.YtejekgceompjpaaDoorPkA
import Derived.Test.YtejekgceompjpaaDoorPkD
/-
  The document's checksum and its numbers of four bytes.
-/
namespace Go.Proofs.YtejekgceompjpaaDoor
open Go.RowKit Go.Proofs.ShaWords
theorem bitN_step (k : Nat) (r : BitVec 32) : bit1 (bitN k r) = bitN (k + 1) r := (bitN_succ k r).symm
theorem not32_end (x : BitVec 32) : bits .xor .u32 (n32 x) 4294967295 = n32 (~~~ x) := by
  have h := xor32 x 4294967295#32
  rw [show ~~~ x = x ^^^ 4294967295#32 by
    rw [show (4294967295#32 : BitVec 32) = BitVec.allOnes 32 by decide, BitVec.xor_allOnes]]
  exact h
theorem crcR_takeE {l : List (BitVec 8)} {k : Nat} (h : k < l.length) (r : BitVec 32) : crcR r (l.take (k + 1)) = bitN 8 (crcR r (l.take k) ^^^ ext l[k]) := by
  rw [List.take_succ_eq_append_getElem h, crcR_append]
  rfl
theorem tmod2_32 (r : BitVec 32) : (n32 r).tmod (2 : Int) = if r.getLsbD 0 then 1 else 0 := by
  rw [Int.tmod_eq_emod_of_nonneg (n32_nonneg r), mod2_32]
theorem tdiv2_32 (r : BitVec 32) : (n32 r).tdiv (2 : Int) % (4294967296 : Int) = n32 (r >>> 1) := by
  rw [Int.tdiv_eq_ediv_of_nonneg (n32_nonneg r)]
  unfold n32
  rw [BitVec.toNat_ushiftRight, Nat.shiftRight_eq_div_pow]
  have := r.isLt
  omega
theorem xorP (r : BitVec 32) : bits .xor .u32 (n32 r) 3988292384 = n32 (r ^^^ 3988292384#32) := xor32 r 3988292384#32
attribute [local go_sem] xor32 wrap32_n8 not32_end xorP tdiv2_32
set_option maxRecDepth 100000 in
set_option maxHeartbeats 1000000 in
theorem refSum9_any (l : List (BitVec 8)) (n : Nat) (p : Option Addr) (c : Nat) (w : World) (hn : l.length = n) (hl : n < 140737488355328) (hL : Lies w p l) :
    Calls Tryd.prog 17 #[.slice p n c] w fun e w' => e = .returned (.int .u32 (n32 (crcOf l))) ∧ w' = w := by
  have HL := Lib.hid hL; clear hL
  have HN := Lib.hid hn; clear hn
  go_enter Tryd.func17, Tryd.ntmps17
  go_wp2_with fail
  go_loopw [3, 4] (fun r i wr => ∃ k : Nat, k ≤ n ∧ i = .int .i64 k ∧ r = .int .u32 (n32 (crcR (~~~ 0#32) (l.take k))) ∧ wr = w) (fun _ i _ => n - (intOf i).toNat)
  case atStart => exact ⟨0, Nat.zero_le _, rfl, rfl, rfl⟩
  case round =>
    obtain ⟨k, hk, rfl, rfl, rfl⟩ := hrel
    by_cases hlt : k < n
    · have hlt' : k < l.length := by rw [HN.out]; exact hlt
      have hv : (bytesV l)[k]? = some (.int .u8 (n8 l[k])) := by simp [bytesV, hlt']
      rcases HL.out with h0 | ⟨b, off, rfl, hr⟩
      · exfalso; rw [h0] at hlt'; simp at hlt'
      have hc := hr k _ hv
      have HT := Lib.hid (crcR_takeE hlt' (~~~ 0#32))
      generalize l[k] = x at hc HT
      generalize crcR (~~~ 0#32) (l.take k) = r at HT ⊢
      clear hr hv hlt'
      have q0 : (k : Int) < (n : Int) := by omega
      go_wp2_with fail
      go_loopw [3, 5] (fun v i wr2 => ∃ j : Nat, j ≤ 8 ∧ i = .int .i64 j ∧ v = .int .u32 (n32 (bitN j (r ^^^ ext x))) ∧ wr2 = wr) (fun _ i _ => 8 - (intOf i).toNat)
      case atStart => exact ⟨0, Nat.zero_le _, rfl, rfl, rfl⟩
      case round =>
        obtain ⟨j, hj, rfl, rfl, rfl⟩ := hrel
        by_cases hj8 : j < 8
        · have qj : (j : Int) < 8 := by omega
          have HBS := Lib.hid (bitN_step j (r ^^^ ext x))
          generalize bitN j (r ^^^ ext x) = y at HBS ⊢
          have ht := tmod2_32 y
          have hm := mod2_32 y
          cases hy : y.getLsbD 0 with
          | true =>
            rw [hy, if_pos rfl] at ht hm
            have HB1 := Lib.hid (bit1_on hy)
            clear hy
            go_wp2_with fail
            go_roundw
            case rel => exact ⟨j + 1, by omega, by go_num, by rw [← HBS.out, HB1.out], by trivial⟩
            case measure => simp [intOf]; omega
          | false =>
            rw [hy] at ht hm
            simp only [Bool.false_eq_true, if_false] at ht hm
            have HB1 := Lib.hid (bit1_even hy)
            clear hy
            go_wp2_with fail
            go_roundw
            case rel => exact ⟨j + 1, by omega, by go_num, by rw [← HBS.out, HB1.out]; exact congrArg (Value.int .u32) (tdiv2_32 y), by trivial⟩
            case measure => simp [intOf]; omega
        · have e8 : j = 8 := by omega
          subst e8
          go_wp2_with fail
          go_roundw
          case rel => exact ⟨k + 1, by omega, by go_num, by rw [HT.out], by trivial⟩
          case measure => simp [intOf]; omega
    · have e : k = n := by omega
      subst e
      go_wp2_with fail
      go_ret
      refine ⟨?_, rfl⟩
      unfold crcOf
      rw [List.take_of_length_le (by rw [HN.out]; exact Nat.le_refl _)]
      rfl
end Go.Proofs.YtejekgceompjpaaDoor

/-
  The document's answer of what is put.
-/
namespace Go.Proofs.YtejekgceompjpaaDoor
open Go.RowKit Go.Proofs.ShaWords
theorem four24 (x : BitVec 32) : (n32 x).tdiv (16777216 : Int) % (4294967296 : Int) = n32 (x >>> 24) := by
  rw [Int.tdiv_eq_ediv_of_nonneg (n32_nonneg x)]
  unfold n32
  rw [BitVec.toNat_ushiftRight, Nat.shiftRight_eq_div_pow]
  have := x.isLt
  omega
theorem four16 (x : BitVec 32) : (n32 x).tdiv (65536 : Int) % (4294967296 : Int) = n32 (x >>> 16) := by
  rw [Int.tdiv_eq_ediv_of_nonneg (n32_nonneg x)]
  unfold n32
  rw [BitVec.toNat_ushiftRight, Nat.shiftRight_eq_div_pow]
  have := x.isLt
  omega
theorem four8 (x : BitVec 32) : (n32 x).tdiv (256 : Int) % (4294967296 : Int) = n32 (x >>> 8) := by
  rw [Int.tdiv_eq_ediv_of_nonneg (n32_nonneg x)]
  unfold n32
  rw [BitVec.toNat_ushiftRight, Nat.shiftRight_eq_div_pow]
  have := x.isLt
  omega
theorem rem256 (x : BitVec 32) : IntKind.u8.wrap ((n32 x).tmod (256 : Int)) = n8 (lo8 x) := by
  rw [Int.tmod_eq_emod_of_nonneg (n32_nonneg x), ← wrap8_n32, IntKind.wrap_u8', IntKind.wrap_u8']
  omega
theorem own_four (x : BitVec 32) (w w' : World) (h : w'.heap[w.heap.size]? = some (.cells (bytesV (be4 x)).toArray 5 (0, 0))) : Own w.heap.size w' (be4 x) (.slice (some ⟨w.heap.size, 0, none⟩) 4 4) :=
  ⟨rfl, .inr ⟨w.heap.size, 4, _, rfl, Nat.le_refl _, h, Nat.le_refl _, by unfold maxLen; omega, rfl, rfl⟩⟩
theorem own_one (x : BitVec 8) (w w' : World) (h : w'.heap[w.heap.size]? = some (.cells (bytesV [x]).toArray 5 (0, 0))) : Own w.heap.size w' [x] (.slice (some ⟨w.heap.size, 0, none⟩) 1 1) :=
  ⟨rfl, .inr ⟨w.heap.size, 1, _, rfl, Nat.le_refl _, h, Nat.le_refl _, by unfold maxLen; omega, rfl, rfl⟩⟩
attribute [local go_sem] wrap8_n32 four24 four16 four8 rem256
set_option maxHeartbeats 400000 in
theorem four_any (x : BitVec 32) (w : World) : Calls Tryd.prog 31 #[.int .u32 (n32 x)] w fun e w' => ∃ v, e = .returned v ∧ Own w.heap.size w' (be4 x) v ∧ Below w.heap.size w w' := by
  go_enter Tryd.func31, Tryd.ntmps31
  go_wp2_with fail
  go_ret
  exact ⟨_, rfl, own_four x w _ (heap_new_at rfl), (Below.refl _ _).alloc (Nat.le_refl _) _⟩
set_option maxHeartbeats 1000000 in
theorem refPut9_any (z : Int) (l : List (BitVec 8)) (n : Nat) (p : Option Addr) (c : Nat) (w : World) (hn : l.length = n) (hl : n < 140737488355000) (hL : Lies w p l) :
    Calls Tryd.prog 14 #[.int .i64 z, .slice p n c] w fun e w' => Below w.heap.size w w' ∧ ∃ v, e = .returned (.tuple #[v, .int .i64 (putE z l)]) ∧ Own w.heap.size w' (putV z l) v := by
  by_cases h1 : z < 1
  · have HE := Lib.hid (putE_kind (l := l) (Or.inl h1))
    clear hL
    go_enter Tryd.func14, Tryd.ntmps14
    go_wp2_with fail
    go_ret2
    rw [HE.out.1, HE.out.2]
    exact ⟨Below.refl _ _, _, rfl, Own.nil _ _⟩
  by_cases h2 : 255 < z
  · have HE := Lib.hid (putE_kind (l := l) (Or.inr h2))
    clear hL
    go_enter Tryd.func14, Tryd.ntmps14
    go_wp2_with fail
    go_ret2
    rw [HE.out.1, HE.out.2]
    exact ⟨Below.refl _ _, _, rfl, Own.nil _ _⟩
  by_cases h3 : 2039 < n
  · have HE := Lib.hid (putE_long (l := l) (show 1 ≤ z by omega) (show z ≤ 255 by omega) (by omega))
    have h3' : (2039 : Int) < (n : Int) := by omega
    clear hL
    go_enter Tryd.func14, Tryd.ntmps14
    go_wp2_with fail
    go_ret2
    rw [HE.out.1, HE.out.2]
    exact ⟨Below.refl _ _, _, rfl, Own.nil _ _⟩
  · have HE := Lib.hid (putE_ok (l := l) (show 1 ≤ z by omega) (show z ≤ 255 by omega) (by omega))
    have h3' : ¬ (2039 : Int) < (n : Int) := by omega
    have hz := wrap8_kb z
    have hw := wrap32_len n
    have HN := Lib.hid hn
    have HL := Lib.hid hL
    clear hL hn
    obtain ⟨W, hW⟩ : ∃ W, W = w.alloc (.cells #[.int .u8 (n8 (kb z))] 5) := ⟨_, rfl⟩
    have HO1 : Hid (Own w.heap.size W [kb z] (.slice (some ⟨w.heap.size, 0, none⟩) 1 1)) := show Own _ _ _ _ from own_one (kb z) w W (by rw [hW]; exact heap_new_at rfl)
    have HB1 : Hid (Below w.heap.size w W) := show Below _ _ _ by rw [hW]; exact (Below.refl _ _).alloc (Nat.le_refl _) _
    have hs1 := HB1.out.size
    have HWW := Lib.hid hW
    clear hW
    go_enter Tryd.func14, Tryd.ntmps14
    go_upto_region 6 with (fail)
    rw [← HWW.out]
    go_wp2_with (first
      | (go_at_call 31; refine (four_any (BitVec.ofNat 32 n) W).mono ?_; rintro e w2 ⟨v2, rfl, h2, b2⟩; obtain ⟨q2, c2, rfl, -, -, l2⟩ := h2.lies; have HL2 := Lib.hid l2; have HO2 := Lib.hid (HO1.out.below b2); have HB2 : Hid (Below w.heap.size w w2) := show Below _ _ _ from HB1.out.trans (b2.mono hs1); have hs2 := HB2.out.size; clear h2 b2 l2)
      | (at_builtin; refine wpList_append_listB rfl (.tmp 19) (.tmp 23) rfl w.heap.size _ [kb z] (be4 (BitVec.ofNat 32 n)) _ _ rfl HO2.out rfl HL2.out (by simp [be4_length]) hs2 ?_; intro v3 w3 h3 b3; have HO3 := Lib.hid h3; have HB3 := Lib.hid (HB2.out.trans b3); have hs3 := HB3.out.size; clear h3 b3)
      | (at_builtin; refine wpList_append_listB rfl (.tmp 25) (.tmp 26) rfl w.heap.size _ ([kb z] ++ be4 (BitVec.ofNat 32 n)) l p c rfl HO3.out (by rw [HN.out]; rfl) (HL.out.below HB3.out) (by rw [HN.out]; simp [be4_length]; omega) hs3 ?_; intro v4 w4 h4 b4; have HO4 := Lib.hid h4; have HB4 := Lib.hid (HB3.out.trans b4); clear h4 b4))
    have hq : ([kb z] ++ be4 (BitVec.ofNat 32 n) ++ l : List (BitVec 8)) = headF (kb z) l := by unfold headF; rw [HN.out]; simp
    have h4 := HO4.out
    rw [hq] at h4
    have hlen : (headF (kb z) l).length = n + 5 := by rw [headF_length, HN.out]
    have hs4 := HB4.out.size
    obtain ⟨q4, c4, rfl, -, -, l4⟩ := h4.lies
    have HO5 := Lib.hid h4
    rw [hlen]
    refine (refSum9_any (headF (kb z) l) (n + 5) q4 c4 w4 hlen (by omega) l4).mono ?_
    rintro e w5 ⟨rfl, rfl⟩
    rw [hlen] at HO5
    have HLEN := Lib.hid hlen
    clear h4 l4 hq HO4 hlen
    go_wp2_with (first
      | (go_at_call 31; refine (four_any (crcOf (headF (kb z) l)) w5).mono ?_; rintro e w6 ⟨v6, rfl, h6, b6⟩; obtain ⟨q6, c6, rfl, -, -, l6⟩ := h6.lies; have HL6 := Lib.hid l6; have HO6 := Lib.hid (HO5.out.below b6); have HB6 : Hid (Below w.heap.size w w6) := show Below _ _ _ from HB4.out.trans (b6.mono hs4); have hs6 := HB6.out.size; clear h6 b6 l6)
      | (at_builtin; refine wpList_append_listB rfl (.tmp 28) (.tmp 31) rfl w.heap.size _ (headF (kb z) l) (be4 (crcOf (headF (kb z) l))) _ _ rfl HO6.out rfl HL6.out (by rw [HLEN.out]; simp [be4_length]; omega) hs6 ?_; intro v7 w7 h7 b7; have HO7 := Lib.hid h7; have HB7 := Lib.hid (HB6.out.trans b7); clear h7 b7))
    go_ret2
    rw [HE.out.1, HE.out.2]
    exact ⟨HB7.out, _, rfl, HO7.out⟩
end Go.Proofs.YtejekgceompjpaaDoor
