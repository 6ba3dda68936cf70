/-
  The walk of the law ChachaBack: for any key, counter, nonce and bytes it returns true, and nothing that was there changes.
-/
import Derived.Test.YtdlhflliojajcaaDoorCcWorks
import Derived.Test.YtdlhflliojajcaaDoorCcXor
import Derived.Deep.CutRange
namespace Go.Proofs.YtdlhflliojajcaaDoor
open Go.RowKit Go.Proofs.ShaWords

theorem xorKs_twice (key : List (BitVec 8)) (c : BitVec 32) (nonce bs : List (BitVec 8)) : xorKs key c nonce (xorKs key c nonce bs) = bs := by
  apply List.ext_getElem?
  intro i
  by_cases hi : i < bs.length
  · have h1 : i < (xorKs key c nonce bs).length := by rw [xorKs_length]; exact hi
    have h2 : i < (xorKs key c nonce (xorKs key c nonce bs)).length := by rw [xorKs_length]; exact h1
    have e := xorKs_get key c nonce (xorKs key c nonce bs) i h1
    rw [xorKs_get key c nonce bs i hi, BitVec.xor_assoc, BitVec.xor_self, BitVec.xor_zero] at e
    simp only [List.getD, List.getElem?_eq_getElem h2, List.getElem?_eq_getElem hi, Option.getD_some] at e
    rw [List.getElem?_eq_getElem h2, List.getElem?_eq_getElem hi, e]
  · rw [List.getElem?_eq_none (by rw [xorKs_length, xorKs_length]; omega), List.getElem?_eq_none (by omega)]
/-- What a law of layer 3 has boxed: the key, the nonce. -/
structure TwoW (w : World) (key nonce : List (BitVec 8)) (wr : World) : Prop where
  key : BytesAt wr w.heap.size 41 key
  nonce : BytesAt wr (w.heap.size + 1) 43 nonce
  below : Below w.heap.size w wr
theorem TwoW.on {w wr w' : World} {key nonce : List (BitVec 8)} (h : TwoW w key nonce wr) (hb : Below wr.heap.size wr w') : TwoW w key nonce w' := ⟨h.key.keep hb, h.nonce.keep hb, h.below.trans (hb.mono h.below.size)⟩
theorem two_start (w : World) (key nonce : List (BitVec 8)) : TwoW w key nonce ((w.alloc (.cells (bytesV key).toArray 41)).alloc (.cells (bytesV nonce).toArray 43)) :=
  ⟨BytesAt.keep (w := w.alloc _) (heap_alloc_new w _) ((Below.refl _ _).alloc (Nat.le_refl _) _), heap_new_at (size_alloc _ _), ((Below.refl _ _).alloc (Nat.le_refl _) _).alloc (by rw [size_alloc]; omega) _⟩
theorem ccXor_len (key nonce bs : List (BitVec 8)) (n : Nat) (c : BitVec 32) (p : Option Addr) (cap : Nat) (w : World) (hbn : bs.length = n) (hk : key.length = 32) (hn : nonce.length = 12) (hl : n ≤ 1000000) (hL : Lies w p bs) (hq : Quads w) :
    Calls Tryd.prog 26 #[.agg (bytesV key).toArray, .int .u32 (n32 c), .agg (bytesV nonce).toArray, .slice p n cap] w
      fun e w' => ∃ q cq, e = .returned (.slice q n cq) ∧ n ≤ cq ∧ Own w.heap.size w' (xorKs key c nonce bs) (.slice q n cq) ∧ Below w.heap.size w w' := by
  subst hbn
  refine (ccXor_any key nonce bs c p cap w hk hn hl hL hq).mono ?_
  rintro e w' ⟨v, rfl, ho, hb⟩
  obtain ⟨q, cq, rfl, h1, h2, -⟩ := ho.lies
  rw [xorKs_length] at ho h1 ⊢
  exact ⟨q, cq, rfl, h1, ho, hb⟩
theorem Own.liesOf {B : Nat} {w : World} {l : List (BitVec 8)} {p : Option Addr} {n c : Nat} (h : Own B w l (.slice p n c)) : Lies w p l := by
  obtain ⟨p', c', h1, -, -, h2⟩ := h.lies
  cases h1; exact h2

attribute [local irreducible] xorKs
set_option maxRecDepth 100000 in
set_option maxHeartbeats 2000000 in
theorem back_any (key nonce bs : List (BitVec 8)) (n : Nat) (c : BitVec 32) (p : Option Addr) (cap : Nat) (w : World) (hbn : bs.length = n) (hnm : n ≤ 140737488351232) (hk : key.length = 32) (hn : nonce.length = 12) (hL : Lies w p bs) (hq : Quads w) :
    Calls Tryd.prog 6 #[.agg (bytesV key).toArray, .int .u32 (n32 c), .agg (bytesV nonce).toArray, .slice p n cap] w fun e w' => e = .returned (.bool true) ∧ Below w.heap.size w w' := by
  have hqs := hq.size
  have HQ := Lib.hid hq; clear hq
  have HKL := Lib.hid hk; clear hk
  have HNL := Lib.hid hn; clear hn
  have HL := Lib.hid hL; clear hL
  have HBN := Lib.hid hbn; clear hbn
  have HIK := Lib.hid (infoKey key HKL.out)
  have HIN := Lib.hid (infoNonce nonce HNL.out)
  by_cases hbig : 8192 < n
  · go_enter Tryd.func6, Tryd.ntmps6
    go_upto_region 1 with (fail)
    refine wp_gen (TwoW w key nonce) (two_start w key nonce) ?_
    intro w0 hw0
    have HW0 := Lib.hid hw0; clear hw0
    go_wp2_with fail
    refine (works3_any w0 (HQ.out.below HW0.out.below hqs)).mono ?_
    rintro e w1 ⟨rfl, hb1⟩
    have HB1 := Lib.hid (HW0.out.on hb1).below; clear hb1
    go_wp2_with fail
    go_ret
    exact ⟨rfl, HB1.out⟩
  · have hle : n ≤ 8192 := by omega
    have HTW : Hid (xorKs key c nonce (xorKs key c nonce bs) = bs) := show _ = _ from xorKs_twice _ _ _ _
    go_enter Tryd.func6, Tryd.ntmps6
    go_upto_region 1 with (fail)
    refine wp_gen (TwoW w key nonce) (two_start w key nonce) ?_
    intro w0 hw0
    have HW0 := Lib.hid hw0; clear hw0
    go_wp2_with (first
      | (refine wpList_load_g (by rfl) 41 (.tmp 4) rfl w.heap.size rfl 41 (bytesV key).toArray (0, 0) _ HW0.out.key Tryd.underlying41 rfl HIK.out ?_)
      | (refine wpList_load_g (by rfl) 43 (.tmp 6) rfl (w.heap.size + 1) rfl 43 (bytesV nonce).toArray (0, 0) _ HW0.out.nonce Tryd.underlying43 rfl HIN.out ?_))
    refine (ccXor_len key nonce bs n c p cap w0 HBN.out HKL.out HNL.out (by omega) (HL.out.below HW0.out.below) (HQ.out.below HW0.out.below hqs)).mono ?_
    rintro e w1 ⟨q, cq, rfl, hcq, ho1, hb1⟩
    have HO1 := Lib.hid ho1
    have HW1 := Lib.hid (HW0.out.on hb1); clear hb1 ho1 HW0
    go_wp2_with (first
      | (refine wpList_load_g (by rfl) 41 (.tmp 4) rfl w.heap.size rfl 41 (bytesV key).toArray (0, 0) _ HW1.out.key Tryd.underlying41 rfl HIK.out ?_)
      | (refine wpList_load_g (by rfl) 43 (.tmp 6) rfl (w.heap.size + 1) rfl 43 (bytesV nonce).toArray (0, 0) _ HW1.out.nonce Tryd.underlying43 rfl HIN.out ?_))
    refine (ccXor_len key nonce (xorKs key c nonce bs) n c q cq w1 (by rw [xorKs_length]; exact HBN.out) HKL.out HNL.out (by omega) HO1.out.liesOf (HQ.out.below HW1.out.below hqs)).mono ?_
    rintro e w2 ⟨q2, cq2, rfl, hcq2, ho2, hb2⟩
    rw [HTW.out] at ho2
    have HO2 := Lib.hid ho2
    have HW2 := Lib.hid (HW1.out.on hb2); clear hb2 ho2 HW1 HO1
    go_wp2_with fail
    refine (same_any bs n _ _ _ _ w2 HBN.out (by omega) HO2.out.liesOf (HL.out.below HW2.out.below)).mono ?_
    rintro e w3 ⟨rfl, hb3⟩
    have HW3 := Lib.hid (HW2.out.on hb3); clear hb3 HW2 HO2
    go_wp2_with fail
    refine (works3_any w3 (HQ.out.below HW3.out.below hqs)).mono ?_
    rintro e w4 ⟨rfl, hb4⟩
    have HB4 := Lib.hid (HW3.out.on hb4).below; clear hb4
    go_wp2_with fail
    go_ret
    exact ⟨rfl, HB4.out⟩
end Go.Proofs.YtdlhflliojajcaaDoor
