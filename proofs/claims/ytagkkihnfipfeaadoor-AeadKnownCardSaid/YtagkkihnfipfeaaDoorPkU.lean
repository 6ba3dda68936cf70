/-
  What other texts lean on: AeRefPad, AeRefTag, AeRefSeal, AeRefOpen.
-/
import Derived.Test.YtagkkihnfipfeaaDoorPkA
import Derived.Test.YtagkkihnfipfeaaDoorPkE
import Derived.Test.YtagkkihnfipfeaaDoorPkS
import Derived.Test.YtagkkihnfipfeaaDoorPkT
import Derived.Maps.AppendAt
/-
  The document's answer of layer 5: bytes that are filled up, and a number of eight bytes.
-/
namespace Go.Proofs.YtagkkihnfipfeaaDoor
open Go.RowKit Go.Proofs.ShaWords

/-- The length that a slice has. -/
def lenOf : Value → Nat
  | .slice _ n _ => n
  | _ => 0
theorem Own.len {B : Nat} {w : World} {l : List (BitVec 8)} {v : Value} (h : Own B w l v) : lenOf v = l.length := by
  obtain ⟨p, c, rfl, -, -, -⟩ := h.lies; rfl
attribute [local irreducible] padN fill16 lenTo
set_option maxRecDepth 100000 in
set_option maxHeartbeats 1000000 in
theorem filled_any (l : List (BitVec 8)) (n : Nat) (p : Option Addr) (cap : Nat) (w : World) (hln : l.length = n) (hl : n < 900000) (hL : Lies w p l) :
    Calls Tryd.prog 35 #[.slice p n cap] w fun e w' => ∃ v, e = .returned v ∧ Own w.heap.size w' (fill16 l) v ∧ Below w.heap.size w w' := by
  have HL := Lib.hid hL; clear hL
  have HN := Lib.hid hln
  have HF : Hid (fill16 l = l ++ noughts (padN n)) := show _ = _ by unfold fill16; rw [hln]
  have HP : Hid (padN n = (16 - n % 16) % 16) := show _ = _ by unfold padN; rfl
  have hpl := padN_lt n
  clear hln
  go_enter Tryd.func35, Tryd.ntmps35
  go_wp2_with fail
  refine (copy_len l n p cap w HN.out (by omega) HL.out).mono ?_
  rintro e w1 ⟨v, rfl, ho, hb⟩
  have HO := Lib.hid ho; clear ho
  have HB := Lib.hid hb; clear hb
  go_wp2_with fail
  go_loopw [3] (fun v wr => ∃ k : Nat, k ≤ padN n ∧ Own w.heap.size wr (l ++ noughts k) v ∧ Below w.heap.size w wr) (fun v _ => n + padN n - lenOf v)
  case atStart => exact ⟨0, Nat.zero_le _, by have h := HO.out; simpa [noughts] using h, HB.out⟩
  case round =>
    clear HO HB
    obtain ⟨k, hk, ho, hb⟩ := hrel
    have hlen := ho.len
    have hll : (l ++ noughts k).length = n + k := by rw [List.length_append, HN.out]; simp [noughts]
    obtain ⟨q, c, rfl, hc1, hc2, -⟩ := ho.lies
    rw [hll] at ho hc1 hlen ⊢
    have sz := hb.size
    have HO := Lib.hid ho; clear ho
    have HB := Lib.hid hb; clear hb
    obtain ⟨M, hM⟩ : ∃ M, M = n + k := ⟨_, rfl⟩
    obtain ⟨R, hR⟩ : ∃ R : Nat, R = M % 16 := ⟨_, rfl⟩
    have t1 : (M : Int).tmod 16 = (R : Int) := by rw [Int.tmod_eq_emod_of_nonneg (by omega)]; omega
    have t2 : IntKind.i64.wrap (R : Int) = (R : Int) := IntWalk.i64_in _ (by omega)
    by_cases hlt : k < padN n
    · have t3 : ¬ R = 0 := by have := HP.out; omega
      have HK1 : Hid ((l ++ noughts k).length < 1099511627776) := show _ < _ by rw [hll]; omega
      have HS : Hid (l ++ noughts (k + 1) = (l ++ noughts k) ++ [0#8]) := show _ = _ by rw [List.append_assoc]; simp [noughts, List.replicate_succ']
      have t4 : ((R : Int) != 0) = true := by simpa using (show ¬ (R : Int) = 0 by omega)
      have HMM := Lib.hid hM
      rw [← hM] at HO ⊢
      clear hR hlen hll hc1 hM
      go_wp2_with (at_builtin; refine wpList_append_byte rfl (.tmp 10) (.tmp 11) rfl w.heap.size _ (l ++ noughts k) 0#8 rfl HO.out rfl HK1.out (by omega) ?_; intro v' w' ho' hb'; rw [← HS.out] at ho'; have HO' := Lib.hid ho'; have HB' := Lib.hid (HB.out.trans hb'); clear ho' hb')
      go_roundw
      case rel => exact ⟨k + 1, by omega, HO'.out, HB'.out⟩
      case measure =>
        have e := HO'.out.len
        rw [List.length_append, HN.out] at e
        simp only [noughts, List.length_replicate] at e
        rw [e]
        show _ < n + padN n - M
        have := HMM.out
        omega
    · have HK : Hid (k = padN n) := show k = padN n by omega
      have t3 : R = 0 := by have := HP.out; have := HK.out; omega
      subst t3
      have t4 : (((0 : Nat) : Int) != 0) = false := by rfl
      have HO2 : Hid (Own w.heap.size wr (fill16 l) (.slice q M c)) := show Own _ _ _ _ by rw [HF.out, ← HK.out, hM]; exact HO.out
      rw [← hM]
      clear hR hlen hll hc1 HO hM
      go_wp2_with fail
      go_ret
      exact ⟨_, rfl, HO2.out, HB.out⟩
set_option maxRecDepth 100000 in
set_option maxHeartbeats 1000000 in
theorem length_any (n : Nat) (w : World) (hn : n < 1000000) :
    Calls Tryd.prog 36 #[.int .i64 (n : Int)] w fun e w' => ∃ v, e = .returned v ∧ Own w.heap.size w' (lenTo n 8) v ∧ Below w.heap.size w w' := by
  have H0 : Hid (lenTo n 0 = []) := show _ = _ from lenTo_zero n
  go_enter Tryd.func36, Tryd.ntmps36
  go_wp2_with fail
  go_loopw [0, 3, 4] (fun x v i wr => ∃ k : Nat, k ≤ 8 ∧ x = .int .i64 ((n / 256 ^ k : Nat) : Int) ∧ i = .int .i64 (k : Int) ∧ Own w.heap.size wr (lenTo n k) v ∧ Below w.heap.size w wr) (fun _ _ i _ => 8 - (intOf i).toNat)
  case atStart => exact ⟨0, Nat.zero_le _, by simp, rfl, by rw [H0.out]; exact Own.nil _ _, Below.refl _ _⟩
  case round =>
    obtain ⟨k, hk, rfl, rfl, ho, hb⟩ := hrel
    have sz := hb.size
    have HO := Lib.hid ho; clear ho
    have HB := Lib.hid hb; clear hb
    by_cases hlt : k < 8
    · have HS := Lib.hid (lenTo_succ n k)
      have HL := Lib.hid (show (lenTo n k).length < 1099511627776 by rw [lenTo_length]; omega)
      have hX : n / 256 ^ k ≤ n := Nat.div_le_self _ _
      have hX2 : n / 256 ^ (k + 1) = n / 256 ^ k / 256 := by rw [Nat.pow_succ, Nat.div_div_eq_div_mul]
      have HX2 := Lib.hid hX2; clear hX2
      generalize n / 256 ^ k = X at hX HX2 HS ⊢
      have t1 : (X : Int).tmod 256 = ((X % 256 : Nat) : Int) := by rw [Int.tmod_eq_emod_of_nonneg (by omega)]; omega
      have t2 : IntKind.i64.wrap ((X % 256 : Nat) : Int) = ((X % 256 : Nat) : Int) := IntWalk.i64_in _ (by omega)
      have t3 : IntKind.u8.wrap ((X % 256 : Nat) : Int) = n8 (BitVec.ofNat 8 X) := by unfold n8; rw [IntKind.wrap_u8', BitVec.toNat_ofNat]; omega
      have t4 : (X : Int).tdiv 256 = ((X / 256 : Nat) : Int) := by rw [Int.tdiv_eq_ediv_of_nonneg (by omega)]; omega
      have t5 : IntKind.i64.wrap ((X / 256 : Nat) : Int) = ((X / 256 : Nat) : Int) := IntWalk.i64_in _ (by omega)
      generalize X % 256 = Y at t1 t2 t3
      generalize X / 256 = Z at t4 t5 HX2
      generalize BitVec.ofNat 8 X = b at t3 HS
      go_wp2_with (at_builtin; refine wpList_append_byte rfl (.tmp 9) (.tmp 13) rfl w.heap.size _ (lenTo n k) b rfl HO.out rfl HL.out (by omega) ?_; intro v' w' ho' hb'; rw [← HS.out] at ho'; have HO' := Lib.hid ho'; have HB' := Lib.hid (HB.out.trans hb'); clear ho' hb')
      go_roundw
      case rel => exact ⟨k + 1, by omega, by rw [HX2.out], by go_num, HO'.out, HB'.out⟩
      case measure => simp [intOf]; omega
    · have HK : Hid (k = 8) := show k = 8 by omega
      go_wp2_with fail
      go_ret
      refine ⟨_, rfl, ?_, HB.out⟩
      have h1 := HO.out
      rw [HK.out] at h1
      exact h1
end Go.Proofs.YtagkkihnfipfeaaDoor

/-
  The document's answer of layer 5: the tag.
-/
namespace Go.Proofs.YtagkkihnfipfeaaDoor
open Go.RowKit Go.Proofs.ShaWords

/-- What the document's Tag has in memory: the boxes, the stream's block, the key so far. -/
structure RT (w : World) (key nonce : List (BitVec 8)) (D E : Nat) (B l : List (BitVec 8)) (wr : World) : Prop where
  tag : TagW w key nonce wr
  first : BytesAt wr D 66 B
  once : BytesAt wr E 23 l
  lo : w.heap.size + 1 + 1 < D
  hi : D < E
theorem RT.on {w wr w' : World} {key nonce : List (BitVec 8)} {D E : Nat} {B l : List (BitVec 8)} (h : RT w key nonce D E B l wr) (hb : Below wr.heap.size wr w') : RT w key nonce D E B l w' :=
  ⟨h.tag.on hb, h.first.keep hb, h.once.keep hb, h.lo, h.hi⟩
theorem RT.put {w wr : World} {key nonce : List (BitVec 8)} {D E : Nat} {B l : List (BitVec 8)} (h : RT w key nonce D E B l wr) (k : Nat) (x : BitVec 8) : RT w key nonce D E B (l.set k x) (wr.setCell ⟨E, k, none⟩ (.int .u8 (n8 x))) :=
  ⟨⟨h.tag.key.putOther (by have := h.lo; have := h.hi; omega) _ _, h.tag.nonce.putOther (by have := h.lo; have := h.hi; omega) _ _, h.tag.res.putOther (by have := h.lo; have := h.hi; omega) _ _, h.tag.below.setCell (by show w.heap.size ≤ E; have := h.lo; have := h.hi; omega) _⟩,
    h.first.putOther (by have := h.hi; omega) _ _, h.once.put k x, h.lo, h.hi⟩
attribute [local irreducible] ccBlock onceOf polyTag fill16 lenTo padN aeadText aeadTag
set_option maxRecDepth 100000 in
set_option maxHeartbeats 2000000 in
theorem refTag_any (key nonce head c : List (BitVec 8)) (n m : Nat) (p q : Option Addr) (cp cq : Nat) (w : World) (hk : key.length = 32) (hn : nonce.length = 12) (hhn : head.length = n) (hcm : c.length = m) (hH : n ≤ 300000) (hC : m ≤ 300000) (hp : Lies w p head) (hc : Lies w q c) :
    Calls Tryd.prog 27 #[.agg (bytesV key).toArray, .agg (bytesV nonce).toArray, .slice p n cp, .slice q m cq] w fun e w' => e = .returned (.agg (bytesV (aeadTag key nonce head c)).toArray) ∧ Below w.heap.size w w' := by
  have HP := Lib.hid hp; clear hp
  have HC := Lib.hid hc; clear hc
  have HKL := Lib.hid hk; clear hk
  have HNL := Lib.hid hn; clear hn
  have HHN := Lib.hid hhn
  have HCM := Lib.hid hcm
  have HIK := Lib.hid (infoKey key HKL.out)
  have HIN := Lib.hid (infoNonce nonce HNL.out)
  have HBL := Lib.hid (ccBlock_length key 0#32 nonce)
  have HOL := Lib.hid (onceOf_length key nonce)
  have HIO := Lib.hid (infoKey _ HOL.out)
  have HOE : Hid (∀ k, k < 32 → (onceOf key nonce).getD k 0#8 = (ccBlock key 0#32 nonce).getD k 0#8) := show ∀ k, _ from fun k hk => by
    unfold onceOf
    simp [List.getD_eq_getElem?_getD, hk]
  have e1 : (fill16 head).length ≤ 300016 := by rw [fill16_length, hhn]; have := padN_lt n; omega
  have e2 : (fill16 c).length ≤ 300016 := by rw [fill16_length c, hcm]; have := padN_lt m; omega
  have E1 := Lib.hid e1; clear e1
  have E2 := Lib.hid e2; clear e2
  have HTX : Hid (((fill16 head ++ fill16 c) ++ lenTo n 8) ++ lenTo m 8 = aeadText head c) := show _ = _ by rw [← hhn, ← hcm]; unfold aeadText; rfl
  have HTG : Hid (aeadTag key nonce head c = polyTag (onceOf key nonce) (aeadText head c)) := show _ = _ by unfold aeadTag; rfl
  clear hhn hcm
  go_enter Tryd.func27, Tryd.ntmps27
  go_upto_region 1 with (fail)
  refine wp_gen (TagW w key nonce) (tagw_start w key nonce _ (by rfl)) ?_
  intro w0 hw0
  have HW0 := Lib.hid hw0; clear hw0
  have sz0 := HW0.out.below.size
  go_wp2_with (first
    | (refine wpList_load_row rfl 23 (.tmp 4) rfl w.heap.size rfl 23 (bytesV key).toArray (0, 0) _ HW0.out.key Tryd.underlying23 rfl HIK.out ?_)
    | (refine wpList_load_row rfl 25 (.tmp 5) rfl (w.heap.size + 1) rfl 25 (bytesV nonce).toArray (0, 0) _ HW0.out.nonce Tryd.underlying25 rfl HIN.out ?_))
  refine (refBlock_any key nonce 0#32 w0 HKL.out HNL.out).mono ?_
  rintro e w1 ⟨rfl, hb1⟩
  have HW1 := Lib.hid (HW0.out.on hb1); clear hb1
  have sz1 : w.heap.size + 1 + 1 < w1.heap.size := HW1.out.res.size
  have HI := Lib.hid (infoBlk _ HBL.out)
  have HOLD := Lib.hid (show (bytesV (noughts 64)).toArray.size = (bytesV (ccBlock key 0#32 nonce)).toArray.size by rw [bytesV_size _ 64 HBL.out, bytesV_size _ 64 (noughts_length 64)])
  have HONE := Lib.hid (bytesV_one (ccBlock key 0#32 nonce))
  go_upto_region 3 with (refine wpList_store_new rfl 66 (.tmp 9) (.tmp 15) rfl w1.heap.size rfl (bytesV (ccBlock key 0#32 nonce)).toArray rfl rfl HI.out (by exact HOLD.out) HONE.out ?_; intro w2 h2 b2; have HK2 := Lib.hid (show BytesAt w2 w1.heap.size 66 (ccBlock key 0#32 nonce) from h2); have HW2 := Lib.hid (HW1.out.on b2); clear h2 b2)
  have sz2 : w1.heap.size < w2.heap.size := HK2.out.size
  refine wp_gen (RT w key nonce w1.heap.size w2.heap.size (ccBlock key 0#32 nonce) (xorTo' (onceOf key nonce) 0)) ⟨HW2.out.on ((Below.refl _ _).alloc (Nat.le_refl _) _), HK2.out.keep ((Below.refl _ _).alloc (Nat.le_refl _) _), ?_, sz1, sz2⟩ ?_
  · show _ = some (Obj.cells (bytesV (xorTo' (onceOf key nonce) 0)).toArray _ _)
    rw [xorTo'_zero, HOL.out]; exact heap_new_at rfl
  intro w3 hw3
  have HW3 := Lib.hid hw3; clear hw3 HW2 HK2 HW1 HW0
  generalize w2.heap.size = E at HW3 sz2 ⊢
  generalize w1.heap.size = D at HW3 sz1 sz2 ⊢
  generalize ccBlock key 0#32 nonce = B at HW3 HBL HOE
  go_wp2_with fail
  go_loopw [11] (fun i wr => ∃ k : Nat, k ≤ 32 ∧ i = .int .i64 (k : Int) ∧ RT w key nonce D E B (xorTo' (onceOf key nonce) k) wr) (fun i _ => 32 - (intOf i).toNat)
  case atStart => exact ⟨0, by omega, rfl, HW3.out⟩
  case round =>
    clear HW3
    obtain ⟨k, hk, rfl, hw⟩ := hrel
    by_cases hlt : k < 32
    · have e0 := hw.once.cell k (by rw [xorTo'_length _ _ (by rw [HOL.out]; omega), HOL.out]; exact hlt)
      have f0 := hw.once.frozenAt k
      have e1 := hw.first.cell k (by rw [HBL.out]; omega)
      have HS := Lib.hid (xorTo'_set (onceOf key nonce) k (by rw [HOL.out]; exact hlt))
      have hget := HOE.out k hlt
      have HW := Lib.hid hw; clear hw
      have q0 : (k : Int) < 32 := by omega
      have q1 : (k : Int) < 64 := by omega
      go_wp2_with fail
      go_roundw
      case rel => exact ⟨k + 1, by omega, by go_num, by rw [← HS.out, hget]; exact HW.out.put _ _⟩
      case measure => simp [intOf]; omega
    · have HK : Hid (k = 32) := show k = 32 by omega
      have HW4 : Hid (RT w key nonce D E B (onceOf key nonce) wr) := show RT _ _ _ _ _ _ _ _ by
        have h := hw; rw [HK.out, ← HOL.out, xorTo'_full] at h; exact h
      clear hw
      have HB4 := Lib.hid HW4.out.tag.below
      have sz4 : w.heap.size ≤ wr.heap.size := HB4.out.size
      have q0 : ¬ (k : Int) < 32 := by omega
      clear hlt hk HK
      go_wp2_with fail
      refine (filled_any head n p cp wr HHN.out (by omega) (HP.out.below HB4.out)).mono ?_
      rintro e w5 ⟨v5, rfl, ho5, hb5⟩
      have HO5 := Lib.hid ho5; clear ho5
      have HB5 := Lib.hid hb5; clear hb5
      go_wp2_with fail
      refine (filled_any c m q cq w5 HCM.out (by omega) (HC.out.below (HB4.out.trans (HB5.out.mono sz4)))).mono ?_
      rintro e w6 ⟨v6, rfl, ho6, hb6⟩
      have HO5' := Lib.hid (HO5.out.below hb6); clear HO5
      have HB6 := Lib.hid (HB5.out.trans (hb6.mono HB5.out.size)); clear hb6 HB5
      obtain ⟨p6, c6, rfl, -, -, hl6⟩ := ho6.lies
      have HL6 := Lib.hid hl6; clear hl6 ho6
      go_wp2_with (at_builtin; refine wpList_append_list rfl (.tmp 27) (.tmp 29) rfl wr.heap.size _ (fill16 head) (fill16 c) p6 c6 rfl HO5'.out rfl HL6.out (by have := E1.out; have := E2.out; omega) HB6.out.size ?_; intro v7 w7 h7 b7; have HO7 := Lib.hid h7; have HB7 := Lib.hid (HB6.out.trans b7); clear h7 b7)
      refine (length_any n w7 (by omega)).mono ?_
      rintro e w8 ⟨v8, rfl, ho8, hb8⟩
      have HO7' := Lib.hid (HO7.out.below hb8); clear HO7
      have HB8 := Lib.hid (HB7.out.trans (hb8.mono HB7.out.size)); clear hb8 HB7
      obtain ⟨p8, c8, rfl, -, -, hl8⟩ := ho8.lies
      have HL8 := Lib.hid hl8; clear hl8 ho8
      have E3 : Hid ((fill16 head ++ fill16 c).length ≤ 600032) := show _ ≤ _ by rw [List.length_append]; have := E1.out; have := E2.out; omega
      have E4 : Hid ((fill16 head ++ fill16 c ++ lenTo n 8).length ≤ 600040) := show _ ≤ _ by rw [List.length_append, lenTo_length]; have := E3.out; omega
      have EL := Lib.hid (lenTo_length n 8)
      have EM := Lib.hid (lenTo_length m 8)
      go_wp2_with (at_builtin; refine wpList_append_list rfl (.tmp 31) (.tmp 34) rfl wr.heap.size _ (fill16 head ++ fill16 c) (lenTo n 8) p8 c8 rfl HO7'.out rfl HL8.out (by have := E3.out; have := EL.out; omega) HB8.out.size ?_; intro v9 w9 h9 b9; have HO9 := Lib.hid h9; have HB9 := Lib.hid (HB8.out.trans b9); clear h9 b9)
      refine (length_any m w9 (by omega)).mono ?_
      rintro e w10 ⟨v10, rfl, ho10, hb10⟩
      have HO9' := Lib.hid (HO9.out.below hb10); clear HO9
      have HB10 := Lib.hid (HB9.out.trans (hb10.mono HB9.out.size)); clear hb10 HB9
      obtain ⟨p10, c10, rfl, -, -, hl10⟩ := ho10.lies
      have HL10 := Lib.hid hl10; clear hl10 ho10
      go_upto_region 11 with (at_builtin; refine wpList_append_list rfl (.tmp 36) (.tmp 39) rfl wr.heap.size _ (fill16 head ++ fill16 c ++ lenTo n 8) (lenTo m 8) p10 c10 rfl HO9'.out rfl HL10.out (by have := E4.out; have := EM.out; omega) HB10.out.size ?_; intro v11 w11 h11 b11; have HO11 := Lib.hid h11; have HB11 := Lib.hid (HB10.out.trans b11); clear h11 b11)
      rw [HTX.out] at HO11
      have HW11 := Lib.hid (HW4.out.on HB11.out)
      have EX : Hid ((aeadText head c).length ≤ 1000000) := show _ ≤ _ by rw [← HTX.out, List.length_append, lenTo_length]; have := E4.out; omega
      obtain ⟨p11, c11, rfl, hc11, -, hl11⟩ := HO11.out.lies
      have HL11 := Lib.hid hl11; clear hl11 HO11 HW4 HB4
      go_wp2_with (refine wpList_load_row rfl 23 (.tmp 10) rfl E rfl 23 (bytesV (onceOf key nonce)).toArray (0, 0) _ HW11.out.once Tryd.underlying23 rfl HIO.out ?_)
      refine (refSum_any (onceOf key nonce) (aeadText head c) _ p11 c11 w11 HOL.out rfl EX.out hc11 HL11.out).mono ?_
      rintro e w12 ⟨rfl, hb12⟩
      have HW12 := Lib.hid (HW11.out.tag.on hb12); clear hb12 HW11
      rw [← HTG.out]
      have HL : Hid ((aeadTag key nonce head c).length = 16) := show _ = _ by rw [HTG.out]; exact polyTag_length _ _
      have HI2 := Lib.hid (infoTag _ HL.out)
      have HOLD2 := Lib.hid (show (bytesV (noughts 16)).toArray.size = (bytesV (aeadTag key nonce head c)).toArray.size by rw [bytesV_size _ 16 HL.out, bytesV_size _ 16 (noughts_length 16)])
      have HONE2 := Lib.hid (bytesV_one (aeadTag key nonce head c))
      have HB12 := Lib.hid HW12.out.below
      have HRES := Lib.hid HW12.out.res
      clear HW12 HIK HIN HI HOLD HONE
      generalize hfe : (bytesV (aeadTag key nonce head c)).toArray = full at HI2 HOLD2 HONE2 ⊢
      have HFE := Lib.hid hfe; clear hfe
      go_wp2_with (refine wpList_store_row rfl 46 (.tmp 8) (.tmp 43) rfl (w.heap.size + 1 + 1) full rfl rfl 46 _ HRES.out HI2.out HOLD2.out HONE2.out ?_)
      have hrow := setRow_heap w12 (w.heap.size + 1 + 1) _ full 46 _ HRES.out
      have hbel := below_setRow HB12.out (show w.heap.size ≤ w.heap.size + 1 + 1 by omega) full
      generalize w12.setRow (w.heap.size + 1 + 1) full = wz at hrow hbel ⊢
      have hres : ∀ tmps : Array Value, tmps.getD 8 undef = .pointer (some ⟨w.heap.size + 1 + 1, 0, none⟩) → Sem.run Tryd.prog (results Tryd.f27 tmps) wz = .ok (.agg full) wz := fun tmps h =>
        results_cell_row (P := Tryd.prog) (p := 8) (ty := 46) Tryd.results27 tmps wz (w.heap.size + 1 + 1) 46 full (0, 0) _ h hrow Tryd.underlying46 rfl HI2.out
      exact bodyPost_ret (v := .agg full) (hres _ rfl) rfl ⟨by rw [HFE.out], hbel⟩
end Go.Proofs.YtagkkihnfipfeaaDoor

/-
  The document's answer of layer 5: Seal.
-/
namespace Go.Proofs.YtagkkihnfipfeaaDoor
open Go.RowKit Go.Proofs.ShaWords

/-- A byte behind the bytes of a slice of the call's own: blocks that are not that slice's stay. -/
theorem wpList_append_byte_at {ops : Array Oper} {rest : List Oper} {o : Oper} {a : Act} {w : World} {Q : Exit → Act → World → Prop} (hgd : o.guard = none) (s x : Operand)
    (ho : o.op = .call { callee := .builtin .append, args := #[s, x], argTypes := #[26, 26] }) (B : Nat) (v : Value) (l : List (BitVec 8)) (b : BitVec 8) (hs : a.eval s = v) (hown : Own B w l v) (hx : a.eval x = .slice (some ⟨w.heap.size, 0, none⟩) 1 1)
    (hl : l.length < 1099511627776) (hB : B ≤ w.heap.size)
    (h : ∀ v' w', Own B w' (l ++ [b]) v' → Below B w w' → (∀ T, T < w.heap.size → v.ownBlock ≠ some T → v'.ownBlock ≠ some T ∧ w'.heap[T]? = w.heap[T]?) → wpList Tryd.prog ops Q rest (a.put o.dst v') w') : wpList Tryd.prog ops Q (o :: rest) a (w.alloc (.cells #[.int .u8 (n8 b)] 5)) := by
  obtain ⟨i, hi, hz, hsz, hby⟩ := info5'
  refine wpList_append_own_at (w := w.alloc (.cells #[.int .u8 (n8 b)] 5)) hgd s x 26 ho B 5 i (.int .u8 0) 1 1 Tryd.underlying26 hi hz hsz hby rfl (by decide) v l.length (bytesV l) hs (hown.alloc _) ⟨w.heap.size, 0, none⟩ 1 1 [.int .u8 (n8 b)] hx rfl ?_ ?_ (by unfold maxLen; omega) (by omega) (by rw [size_alloc]; omega) ?_
  · intro j u hu
    have hj : j = 0 := by have := (List.getElem?_eq_some_iff.1 hu).1; simp at this; exact this
    subst hj
    rw [Addr.add_mid, cell_of_row _ _ _ _ _ _ (heap_new_at rfl)]
    simpa using hu
  · intro u hu
    rw [List.mem_singleton.1 hu]; rfl
  · intro v' w' ho' hg _ hat
    refine h v' w' ?_ ?_ ?_
    · unfold Own
      rw [List.length_append, bytesV_append]; exact ho'
    · refine ((Below.refl B w).alloc hB _).grown hg (by rw [size_alloc]; omega) (fun k hk => ?_)
      exact (hown.lt k hk).1
    · intro T hT hne
      refine ⟨?_, ?_⟩
      · rcases hat with e | e
        · rw [e]; exact hne
        · rw [e, size_alloc]; intro e2; have := Option.some.inj e2; omega
      · exact (hg.block T (by rw [size_alloc]; omega) (fun e => hne e.symm)).trans (Below.heap_alloc _ _ _ hT)
/-- What the document's Seal has in memory: the tag, and bytes that grow elsewhere. -/
structure RS (w : World) (B T : Nat) (tg l : List (BitVec 8)) (v : Value) (wr : World) : Prop where
  tag : BytesAt wr T 46 tg
  own : Own B wr l v
  apart : v.ownBlock ≠ some T
  le : B ≤ wr.heap.size
  below : Below w.heap.size w wr
attribute [local irreducible] ccBlock xorKs aeadTag sealOf
set_option maxRecDepth 100000 in
set_option maxHeartbeats 2000000 in
theorem refSeal_any (a : Value) (key nonce head plain : List (BitVec 8)) (n m : Nat) (p q : Option Addr) (cp cq : Nat) (w : World) (hk : key.length = 32) (hn : nonce.length = 12) (hhn : head.length = n) (hcm : plain.length = m) (hH : n ≤ 300000) (hC : m ≤ 300000) (hp : Lies w p head) (hc : Lies w q plain) :
    Calls Tryd.prog 13 #[a, .agg (bytesV key).toArray, .agg (bytesV nonce).toArray, .slice p n cp, .slice q m cq] w fun e w' => ∃ v, e = .returned v ∧ Own w.heap.size w' (sealOf key nonce head plain) v ∧ Below w.heap.size w w' := by
  have HP := Lib.hid hp; clear hp
  have HC := Lib.hid hc; clear hc
  have HKL := Lib.hid hk; clear hk
  have HNL := Lib.hid hn; clear hn
  have HHN := Lib.hid hhn
  have HCM := Lib.hid hcm
  have HIK := Lib.hid (infoKey key HKL.out)
  have HIN := Lib.hid (infoNonce nonce HNL.out)
  have HXL := Lib.hid ((xorKs_length key 1#32 nonce plain).trans hcm)
  have HSE : Hid (sealOf key nonce head plain = xorKs key 1#32 nonce plain ++ aeadTag key nonce head (xorKs key 1#32 nonce plain)) := show _ = _ by unfold sealOf; rfl
  clear hhn hcm
  go_enter Tryd.func13, Tryd.ntmps13
  go_upto_region 1 with (fail)
  refine wp_gen (KnB w key nonce) (knb_start w key nonce) ?_
  intro w0 hw0
  have HW0 := Lib.hid hw0; clear hw0
  have sz0 := HW0.out.below.size
  go_wp2_with (first
    | (refine wpList_load_row rfl 23 (.tmp 6) rfl w.heap.size rfl 23 (bytesV key).toArray (0, 0) _ HW0.out.key Tryd.underlying23 rfl HIK.out ?_)
    | (refine wpList_load_row rfl 25 (.tmp 7) rfl (w.heap.size + 1) rfl 25 (bytesV nonce).toArray (0, 0) _ HW0.out.nonce Tryd.underlying25 rfl HIN.out ?_))
  refine (refXor_any key nonce plain m 1#32 q cq w0 HCM.out (by omega) HKL.out HNL.out (HC.out.below HW0.out.below)).mono ?_
  rintro e w1 ⟨v1, rfl, ho1, hb1⟩
  obtain ⟨r1, c1, rfl, -, -, hl1⟩ := ho1.lies
  rw [HXL.out] at ho1 ⊢
  have HL1 := Lib.hid hl1; clear hl1
  have HO1 := Lib.hid ho1; clear ho1
  have HW1 := Lib.hid (HW0.out.on hb1)
  have sz1 : w0.heap.size ≤ w1.heap.size := hb1.size
  clear hb1
  generalize xorKs key 1#32 nonce plain = x at HO1 HSE HXL HL1
  go_wp2_with (first
    | (refine wpList_load_row rfl 23 (.tmp 6) rfl w.heap.size rfl 23 (bytesV key).toArray (0, 0) _ HW1.out.key Tryd.underlying23 rfl HIK.out ?_)
    | (refine wpList_load_row rfl 25 (.tmp 7) rfl (w.heap.size + 1) rfl 25 (bytesV nonce).toArray (0, 0) _ HW1.out.nonce Tryd.underlying25 rfl HIN.out ?_))
  refine (refTag_any key nonce head x n m p r1 cp c1 w1 HKL.out HNL.out HHN.out HXL.out hH hC (HP.out.below HW1.out.below) HL1.out).mono ?_
  rintro e w2 ⟨rfl, hb2⟩
  have HO2 := Lib.hid (HO1.out.below hb2); clear HO1
  have sz2 : w1.heap.size ≤ w2.heap.size := hb2.size
  have HW2 := Lib.hid (HW1.out.on hb2); clear hb2 HW1 HW0 HL1
  have HTL := Lib.hid (aeadTag_length key nonce head x)
  generalize aeadTag key nonce head x = tg at HTL HSE ⊢
  have HI := Lib.hid (infoTag _ HTL.out)
  have HOLD := Lib.hid (show (bytesV (noughts 16)).toArray.size = (bytesV tg).toArray.size by rw [bytesV_size _ 16 HTL.out, bytesV_size _ 16 (noughts_length 16)])
  have HONE := Lib.hid (bytesV_one tg)
  have HAP : Hid (∀ T, w2.heap.size ≤ T → Value.ownBlock (.slice r1 m c1) ≠ some T) := show ∀ T, _ from fun T hT e => by have := (World.ownsRow.lt HO2.out T e).2; omega
  go_upto_region 3 with (refine wpList_store_new rfl 46 (.tmp 12) (.tmp 22) rfl w2.heap.size rfl (bytesV tg).toArray rfl rfl HI.out (by exact HOLD.out) HONE.out ?_; intro w3 h3 b3; have HR3 : Hid (RS w w0.heap.size w2.heap.size tg (x ++ tg.take 0) (.slice r1 m c1) w3) := (show RS _ _ _ _ _ _ _ from ⟨h3, by rw [List.take_zero, List.append_nil]; exact HO2.out.below b3, HAP.out _ (Nat.le_refl _), by have := b3.size; have := HW2.out.below.size; omega, HW2.out.below.trans (b3.mono HW2.out.below.size)⟩); clear h3 b3)
  clear HO2 HW2 HAP HI HOLD HONE HIK HIN
  generalize w2.heap.size = T at HR3 sz2 ⊢
  go_wp2_with fail
  go_loopw [11, 13] (fun v i wr => ∃ k : Nat, k ≤ 16 ∧ i = .int .i64 (k : Int) ∧ RS w w0.heap.size T tg (x ++ tg.take k) v wr) (fun _ i _ => 16 - (intOf i).toNat)
  case atStart => exact ⟨0, by omega, rfl, HR3.out⟩
  case round =>
    clear HR3
    obtain ⟨k, hk, rfl, hr⟩ := hrel
    have HR := Lib.hid hr; clear hr
    have hle : w0.heap.size ≤ wr.heap.size := HR.out.le
    by_cases hlt : k < 16
    · have q0 : (k : Int) < 16 := by omega
      have e1 := HR.out.tag.cell k (by rw [HTL.out]; exact hlt)
      have HS : Hid (x ++ tg.take (k + 1) = (x ++ tg.take k) ++ [tg.getD k 0#8]) := show _ = _ by
        have hk2 : k < tg.length := by rw [HTL.out]; exact hlt
        rw [List.append_assoc, List.take_succ_eq_append_getElem hk2]
        simp [List.getD, hk2]
      have HK1 : Hid ((x ++ tg.take k).length < 1099511627776) := show _ < _ by rw [List.length_append, List.length_take, HXL.out]; omega
      generalize tg.getD k 0#8 = b at e1 HS
      go_wp2_with (at_builtin; refine wpList_append_byte_at rfl (.tmp 27) (.tmp 31) rfl w0.heap.size _ (x ++ tg.take k) b rfl HR.out.own rfl HK1.out hle ?_; intro v' w' ho' hb' hat'; rw [← HS.out] at ho'; have HR' : Hid (RS w w0.heap.size T tg (x ++ tg.take (k + 1)) v' w') := (show RS _ _ _ _ _ _ _ from ⟨(hat' T HR.out.tag.size HR.out.apart).2.trans HR.out.tag, ho', (hat' T HR.out.tag.size HR.out.apart).1, Nat.le_trans hle hb'.size, HR.out.below.trans (hb'.mono sz0)⟩); clear ho' hb' hat')
      go_roundw
      case rel => exact ⟨k + 1, by omega, by go_num, HR'.out⟩
      case measure => simp [intOf]; omega
    · have HK : Hid (k = 16) := show k = 16 by omega
      have q0 : ¬ (k : Int) < 16 := by omega
      go_wp2_with fail
      go_ret
      refine ⟨_, rfl, ?_, HR.out.below⟩
      have h := HR.out.own
      rw [HK.out, List.take_of_length_le (by rw [HTL.out]; omega), ← HSE.out] at h
      exact h.lower sz0
end Go.Proofs.YtagkkihnfipfeaaDoor

/-
  The document's answer of layer 5: Open.
-/
namespace Go.Proofs.YtagkkihnfipfeaaDoor
open Go.RowKit Go.Proofs.ShaWords

theorem openIs_of {key nonce head s c tg : List (BitVec 8)} (h16 : 16 ≤ s.length) (hc : c = openC s) (ht : tg = s.drop (s.length - 16)) : openIs key nonce head s = decide (tg = aeadTag key nonce head c) := by
  unfold openIs
  rw [decide_eq_true h16, ← hc, ← ht]; rfl
attribute [local irreducible] ccBlock xorKs aeadTag openC
set_option maxRecDepth 100000 in
set_option maxHeartbeats 4000000 in
theorem refOpen_any (a : Value) (key nonce head s : List (BitVec 8)) (n m : Nat) (p q : Option Addr) (cp cq : Nat) (w : World) (hk : key.length = 32) (hn : nonce.length = 12) (hhn : head.length = n) (hcm : s.length = m) (hH : n ≤ 300000) (hC : m ≤ 300000) (hmc : m ≤ cq) (hp : Lies w p head) (hc : Lies w q s) :
    Calls Tryd.prog 19 #[a, .agg (bytesV key).toArray, .agg (bytesV nonce).toArray, .slice p n cp, .slice q m cq] w fun e w' => ∃ v, e = .returned (.tuple #[v, .bool (openIs key nonce head s)]) ∧ Own w.heap.size w' (openOf key nonce head s) v ∧ Below w.heap.size w w' := by
  have HP := Lib.hid hp; clear hp
  have HKL := Lib.hid hk; clear hk
  have HNL := Lib.hid hn; clear hn
  have HHN := Lib.hid hhn
  have HIK := Lib.hid (infoKey key HKL.out)
  have HIN := Lib.hid (infoNonce nonce HNL.out)
  clear hhn
  by_cases hsm : m < 16
  · have HIS : Hid (openIs key nonce head s = false) := show _ = _ from openIs_short (by omega)
    have HOF := Lib.hid (openOf_not HIS.out)
    clear hcm
    have m1 : (m : Int) < 16 := by omega
    go_enter Tryd.func19, Tryd.ntmps19
    go_upto_region 1 with (fail)
    refine wp_gen (KnB w key nonce) (knb_start w key nonce) ?_
    intro w0 hw0
    have HW0 := Lib.hid hw0; clear hw0
    go_wp2_with fail
    refine bodyPost_ret (v := .tuple #[.slice none 0 0, .bool false]) (by simp [results, Tryd.results19, go_sem]) rfl ?_
    exact ⟨_, by rw [HIS.out], by rw [HOF.out]; exact Own.nil _ _, HW0.out.below⟩
  · obtain ⟨k, rfl⟩ : ∃ k, m = k + 16 := ⟨m - 16, by omega⟩
    obtain ⟨b, off, rfl, hr⟩ : ∃ b off, q = some ⟨b, off, none⟩ ∧ w.rangeAt b off (bytesV s) := by
      rcases hc with h0 | h0
      · rw [h0] at hcm; simp at hcm
      · exact h0
    obtain ⟨m, hm⟩ : ∃ m, m = k + 16 := ⟨_, rfl⟩
    rw [← hm] at hcm hC hmc ⊢
    have hk16 : s.length - 16 = k := by omega
    obtain ⟨c, hcc⟩ : ∃ c, c = openC s := ⟨_, rfl⟩
    obtain ⟨ts, hts⟩ : ∃ ts, ts = s.drop (s.length - 16) := ⟨_, rfl⟩
    have hct : c = s.take k := by rw [hcc, openC, hk16]
    have hbody : Lies w (some ⟨b, off, none⟩) c := by rw [hct]; exact lies_take (Or.inr ⟨b, off, rfl, hr⟩) k
    have htag : w.rangeAt b (off + k) (bytesV ts) := by rw [hts, hk16]; exact range_drop hr
    have HOPW : Hid (OpW w key nonce head c ts b off k p ((w.alloc (.cells (bytesV key).toArray 23)).alloc (.cells (bytesV nonce).toArray 25))) :=
      show OpW _ _ _ _ _ _ _ _ _ _ _ from
      ⟨(knb_start w key nonce).key, (knb_start w key nonce).nonce, HP.out.below (knb_start w key nonce).below, hbody.below (knb_start w key nonce).below, range_keep htag (knb_start w key nonce).below, (knb_start w key nonce).below⟩
    have HK2 := Lib.hid hm
    have HCL : Hid (c.length = k) := show _ = _ by rw [hct, List.length_take]; omega
    have HSL : Hid (ts.length = 16) := show _ = _ by rw [hts, List.length_drop]; omega
    have HIS := Lib.hid (openIs_of (key := key) (nonce := nonce) (head := head) (by omega) hcc hts)
    have HOF : Hid (openIs key nonce head s = true → openOf key nonce head s = xorKs key 1#32 nonce c) := show _ → _ from fun h => by unfold openOf; rw [h, if_pos rfl, hcc]
    have m0 : IntKind.i64.wrap ((m : Int) - 16) = (k : Int) := by rw [IntWalk.i64_in _ (by omega)]; omega
    have m1 : ¬ (m : Int) < 16 := by omega
    have m2 : (k : Int) ≤ (cq : Int) := by omega
    have m3 : 0 ≤ (k : Int) := by omega
    have hkC : k ≤ 300000 := by omega
    clear hm hcm hk16 hcc hct hts hbody htag hr hc HP hsm
    go_enter Tryd.func19, Tryd.ntmps19
    go_upto_region 1 with (fail)
    refine wp_gen (OpW w key nonce head c ts b off k p) HOPW.out ?_
    intro w0 hw0
    have HW0 := Lib.hid hw0; clear hw0 HOPW
    go_wp2_with (first
      | (refine wpList_load_row rfl 23 (.tmp 6) rfl w.heap.size rfl 23 (bytesV key).toArray (0, 0) _ HW0.out.key Tryd.underlying23 rfl HIK.out ?_)
      | (refine wpList_load_row rfl 25 (.tmp 7) rfl (w.heap.size + 1) rfl 25 (bytesV nonce).toArray (0, 0) _ HW0.out.nonce Tryd.underlying25 rfl HIN.out ?_))
    refine (refTag_any key nonce head c n k p (some ⟨b, off, none⟩) cp cq w0 HKL.out HNL.out HHN.out HCL.out hH hkC HW0.out.head HW0.out.body).mono ?_
    rintro e w1 ⟨rfl, hb1⟩
    have HW1 := Lib.hid (HW0.out.on hb1); clear hb1 HW0
    have HTL := Lib.hid (aeadTag_length key nonce head c)
    generalize aeadTag key nonce head c = tg at HTL HIS ⊢
    have HI := Lib.hid (infoTag _ HTL.out)
    have HOLD := Lib.hid (show (bytesV (noughts 16)).toArray.size = (bytesV tg).toArray.size by rw [bytesV_size _ 16 HTL.out, bytesV_size _ 16 (noughts_length 16)])
    have HONE := Lib.hid (bytesV_one tg)
    go_upto_region 5 with (refine wpList_store_new rfl 46 (.tmp 13) (.tmp 27) rfl w1.heap.size rfl (bytesV tg).toArray rfl rfl HI.out (by exact HOLD.out) HONE.out ?_; intro w2 h2 b2; have HT2 := Lib.hid (show BytesAt w2 w1.heap.size 46 tg from h2); have HW2 := Lib.hid (HW1.out.on b2); clear h2 b2)
    clear HW1 HI HOLD HONE
    generalize w1.heap.size = T at HT2 ⊢
    go_wp2_with fail
    go_loopw [14] (fun i wr => ∃ j : Nat, j ≤ 16 ∧ i = .int .i64 (j : Int) ∧ ts.take j = tg.take j ∧ BytesAt wr T 46 tg ∧ OpW w key nonce head c ts b off k p wr) (fun i _ => 16 - (intOf i).toNat)
    case atStart => exact ⟨0, by omega, rfl, by simp, HT2.out, HW2.out⟩
    case round =>
      clear HT2 HW2
      obtain ⟨j, hj, rfl, ht, hT, hW⟩ := hrel
      have HB : Hid (∀ N, Below wr.heap.size wr (wr.drewN N)) := show ∀ N, _ from fun N => ⟨rfl, rfl, rfl, Nat.le_refl _, fun _ _ => rfl⟩
      by_cases hlt : j < 16
      · have k1 : j < ts.length := by rw [HSL.out]; exact hlt
        have k2 : j < tg.length := by rw [HTL.out]; exact hlt
        have e1 := range_cell hW.tag j k1
        have e2 := hT.cell j k2
        have HN : Hid (ts.getD j 0#8 = tg.getD j 0#8 → ts.take (j + 1) = tg.take (j + 1)) := show _ → _ from fun he => take_next k1 k2 ht (by simpa [List.getD, k1, k2] using he)
        have HNE : Hid (ts.getD j 0#8 ≠ tg.getD j 0#8 → decide (ts = tg) = false) := show _ → _ from fun he => decide_eq_false (fun e => he (by rw [e]))
        generalize ts.getD j 0#8 = x at e1 HN HNE
        generalize tg.getD j 0#8 = y at e2 HN HNE
        have HT := Lib.hid hT
        have HW := Lib.hid hW
        have q0 : (j : Int) < 16 := by omega
        obtain ⟨M, hM⟩ : ∃ M, M = k + j := ⟨_, rfl⟩
        have q2 : IntKind.i64.wrap ((k : Int) + (j : Int)) = (M : Int) := by rw [IntWalk.i64_in _ (by omega)]; omega
        have q3 : (M : Int) < (m : Int) := by have := HK2.out; omega
        have q4 : 0 ≤ (M : Int) := by omega
        rw [Nat.add_assoc, ← hM] at e1
        clear hM k1 k2 ht hT hW
        by_cases hxy : x = y
        · subst hxy
          have HN' := Lib.hid (HN.out rfl); clear HN HNE
          go_wp2_with fail
          go_quiet (fail)
          go_wp2_with fail
          go_roundw
          case rel => exact ⟨j + 1, by omega, by go_num, HN'.out, HT.out.keep (HB.out _), HW.out.on (HB.out _)⟩
          case measure => simp [intOf]; omega
        · have q1 : (n8 x == n8 y) = false := by simpa using n8_eq hxy
          have q5 : ¬ n8 x = n8 y := n8_eq hxy
          have HIF : Hid (openIs key nonce head s = false) := show _ = _ by rw [HIS.out]; exact HNE.out hxy
          have HOF2 := Lib.hid (openOf_not HIF.out)
          clear HN HNE
          go_wp2_with fail
          go_quiet (fail)
          go_wp2_with fail
          refine bodyPost_ret (v := .tuple #[.slice none 0 0, .bool false]) (by simp [results, Tryd.results19, go_sem]) rfl ?_
          exact ⟨_, by rw [HIF.out], by rw [HOF2.out]; exact Own.nil _ _, (HW.out.on (HB.out _)).below⟩
      · have hj16 : j = 16 := by omega
        have HIT : Hid (openIs key nonce head s = true) := show _ = _ by
          rw [HIS.out]
          rw [hj16, List.take_of_length_le (by rw [HSL.out]; omega), List.take_of_length_le (by rw [HTL.out]; omega)] at ht
          exact decide_eq_true ht
        have HOF2 := Lib.hid (HOF.out HIT.out)
        have HW := Lib.hid hW
        have q0 : ¬ (j : Int) < 16 := by omega
        clear ht hT hW hj16 HB HIS HOF
        go_wp2_with (first
          | (refine wpList_load_row rfl 23 (.tmp 6) rfl w.heap.size rfl 23 (bytesV key).toArray (0, 0) _ HW.out.key Tryd.underlying23 rfl HIK.out ?_)
          | (refine wpList_load_row rfl 25 (.tmp 7) rfl (w.heap.size + 1) rfl 25 (bytesV nonce).toArray (0, 0) _ HW.out.nonce Tryd.underlying25 rfl HIN.out ?_))
        refine (refXor_any key nonce c k 1#32 (some ⟨b, off, none⟩) cq wr HCL.out (by omega) HKL.out HNL.out HW.out.body).mono ?_
        rintro e w5 ⟨v5, rfl, ho5, hb5⟩
        have HO5 := Lib.hid ho5; clear ho5
        have HB5 := Lib.hid hb5; clear hb5
        go_wp2_with fail
        refine bodyPost_ret (v := .tuple #[v5, .bool true]) (by simp [results, Tryd.results19, go_sem]) rfl ?_
        exact ⟨_, by rw [HIT.out], by rw [HOF2.out]; exact HO5.out.lower HW.out.below.size, (HW.out.on HB5.out).below⟩
end Go.Proofs.YtagkkihnfipfeaaDoor
