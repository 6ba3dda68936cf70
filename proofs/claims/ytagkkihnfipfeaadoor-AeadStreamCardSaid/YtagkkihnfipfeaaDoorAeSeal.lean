/-
  The contract of (*aead.Aead).Seal.
-/
import Derived.Test.YtagkkihnfipfeaaDoorAeTag
import Derived.Test.YtagkkihnfipfeaaDoorCcBackBase
import Derived.Test.YtagkkihnfipfeaaDoorAppendList
namespace Go.Proofs.YtagkkihnfipfeaaDoor
open Go.RowKit Go.Proofs.ShaWords

/-- What Seal returns. -/
def sealOf (key nonce head plain : List (BitVec 8)) : List (BitVec 8) := xorKs key 1#32 nonce plain ++ aeadTag key nonce head (xorKs key 1#32 nonce plain)
theorem aeadTag_length (key nonce head c : List (BitVec 8)) : (aeadTag key nonce head c).length = 16 := by unfold aeadTag; exact polyTag_length _ _
theorem sealOf_length (key nonce head plain : List (BitVec 8)) : (sealOf key nonce head plain).length = plain.length + 16 := by
  unfold sealOf; rw [List.length_append, xorKs_length, aeadTag_length]
theorem Own.lower {B B' : Nat} {w : World} {l : List (BitVec 8)} {v : Value} (h : Own B w l v) (hb : B' ≤ B) : Own B' w l v := by
  rcases h.2 with ⟨rfl, h0⟩ | ⟨g, cap, cur, rfl, hg, hr⟩
  · exact ⟨h.1, .inl ⟨rfl, h0⟩⟩
  · exact ⟨h.1, .inr ⟨g, cap, cur, rfl, Nat.le_trans hb hg, hr⟩⟩
/-- The blocks of the key and of the nonce. -/
structure KnB (w : World) (key nonce : List (BitVec 8)) (wr : World) : Prop where
  key : BytesAt wr w.heap.size 23 key
  nonce : BytesAt wr (w.heap.size + 1) 25 nonce
  below : Below w.heap.size w wr
theorem KnB.on {w wr w' : World} {key nonce : List (BitVec 8)} (h : KnB w key nonce wr) (hb : Below wr.heap.size wr w') : KnB w key nonce w' := ⟨h.key.keep hb, h.nonce.keep hb, h.below.trans (hb.mono h.below.size)⟩
theorem knb_start (w : World) (key nonce : List (BitVec 8)) : KnB w key nonce ((w.alloc (.cells (bytesV key).toArray 23)).alloc (.cells (bytesV nonce).toArray 25)) :=
  ⟨BytesAt.keep (w := w.alloc _) (heap_alloc_new w _) ((Below.refl _ _).alloc (Nat.le_refl _) _), heap_new_at (size_alloc _ _), ((Below.refl _ _).alloc (Nat.le_refl _) _).alloc (by rw [size_alloc]; omega) _⟩
attribute [local irreducible] ccBlock xorKs aeadTag sealOf
set_option maxRecDepth 100000 in
set_option maxHeartbeats 2000000 in
theorem seal_any (a : Value) (key nonce head plain : List (BitVec 8)) (n m : Nat) (p q : Option Addr) (cp cq : Nat) (w : World) (hk : key.length = 32) (hn : nonce.length = 12) (hhn : head.length = n) (hcm : plain.length = m) (hH : n ≤ 300000) (hC : m ≤ 300000) (hp : Lies w p head) (hc : Lies w q plain) (hq : Quads w) :
    Calls Tryd.prog 12 #[a, .agg (bytesV key).toArray, .agg (bytesV nonce).toArray, .slice p n cp, .slice q m cq] w fun e w' => ∃ r cr, e = .returned (.slice r (m + 16) cr) ∧ m + 16 ≤ cr ∧ cr ≤ maxLen ∧ Own w.heap.size w' (sealOf key nonce head plain) (.slice r (m + 16) cr) ∧ Below w.heap.size w w' := by
  have hqs := hq.size
  have HQ := Lib.hid hq; clear hq
  have HP := Lib.hid hp; clear hp
  have HC := Lib.hid hc; clear hc
  have HKL := Lib.hid hk; clear hk
  have HNL := Lib.hid hn; clear hn
  have HHN := Lib.hid hhn
  have HCM := Lib.hid hcm
  have HIK := Lib.hid (infoKey key HKL.out)
  have HIN := Lib.hid (infoNonce nonce HNL.out)
  have HSL := Lib.hid (sealOf_length key nonce head plain)
  have HXL := Lib.hid ((xorKs_length key 1#32 nonce plain).trans hcm)
  have HSE : Hid (sealOf key nonce head plain = xorKs key 1#32 nonce plain ++ aeadTag key nonce head (xorKs key 1#32 nonce plain)) := show _ = _ by unfold sealOf; rfl
  rw [hcm] at HSL
  clear hhn hcm
  go_enter Tryd.func12, Tryd.ntmps12
  go_upto_region 1 with (fail)
  refine wp_gen (KnB w key nonce) (knb_start w key nonce) ?_
  intro w0 hw0
  have HW0 := Lib.hid hw0; clear hw0
  have sz0 := HW0.out.below.size
  have HB0 := Lib.hid HW0.out.below
  go_wp2_with (first
    | (refine wpList_load_row rfl 23 (.tmp 6) rfl w.heap.size rfl 23 (bytesV key).toArray (0, 0) _ HW0.out.key Tryd.underlying23 rfl HIK.out ?_)
    | (refine wpList_load_row rfl 25 (.tmp 7) rfl (w.heap.size + 1) rfl 25 (bytesV nonce).toArray (0, 0) _ HW0.out.nonce Tryd.underlying25 rfl HIN.out ?_))
  refine (ccXor_len key nonce plain m 1#32 q cq w0 HCM.out HKL.out HNL.out (by omega) (HC.out.below HW0.out.below) (HQ.out.below HW0.out.below hqs)).mono ?_
  rintro e w1 ⟨r, cr, rfl, hr1, ho1, hb1⟩
  have HO1 := Lib.hid ho1; clear ho1
  have HB1 := Lib.hid hb1
  have HW1 := Lib.hid (HW0.out.on hb1); clear hb1
  have sz1 := HB1.out.size
  generalize xorKs key 1#32 nonce plain = x at HO1 HSE HXL
  go_wp2_with (first
    | (refine wpList_load_row rfl 23 (.tmp 6) rfl w.heap.size rfl 23 (bytesV key).toArray (0, 0) _ HW1.out.key Tryd.underlying23 rfl HIK.out ?_)
    | (refine wpList_load_row rfl 25 (.tmp 7) rfl (w.heap.size + 1) rfl 25 (bytesV nonce).toArray (0, 0) _ HW1.out.nonce Tryd.underlying25 rfl HIN.out ?_))
  refine (tagOf_any key nonce head x n m p r cp cr w1 HKL.out HNL.out HHN.out HXL.out hH hC (HP.out.below HW1.out.below) HO1.out.liesOf (HQ.out.below HW1.out.below hqs)).mono ?_
  rintro e w2 ⟨rfl, hb2⟩
  have HO2 := Lib.hid (HO1.out.below hb2); clear HO1
  have HB2 := Lib.hid (HB1.out.trans (hb2.mono sz1)); clear HB1
  have HW2 := Lib.hid (HW1.out.on hb2); clear hb2 HW1 HW0
  have HTL := Lib.hid (aeadTag_length key nonce head x)
  generalize aeadTag key nonce head x = tg at HTL HSE ⊢
  have HI := Lib.hid (infoTag _ HTL.out)
  have HOLD := Lib.hid (show (bytesV (noughts 16)).toArray.size = (bytesV tg).toArray.size by rw [bytesV_size _ 16 HTL.out, bytesV_size _ 16 (noughts_length 16)])
  have HONE := Lib.hid (bytesV_one tg)
  go_wp2_with (first
    | (refine wpList_store_new rfl 46 (.tmp 12) (.tmp 21) rfl w2.heap.size rfl (bytesV tg).toArray rfl rfl HI.out (by exact HOLD.out) HONE.out ?_; intro w3 h3 b3; have HK3 := Lib.hid (show BytesAt w3 w2.heap.size 46 tg from h3); have HO3 := Lib.hid (HO2.out.below b3); have HB3 := Lib.hid (HB2.out.trans (b3.mono HB2.out.size)); clear h3 b3)
    | (refine wpList_append_list rfl (.tmp 22) (.tmp 23) rfl w0.heap.size _ x tg (some ⟨w2.heap.size, 0, none⟩) 16 rfl HO3.out (by rw [HTL.out]; rfl) (Or.inr ⟨_, _, rfl, HK3.out.range⟩) (by rw [HTL.out, HXL.out]; omega) HB3.out.size ?_; intro v4 w4 h4 b4; have HO4 := Lib.hid h4; have HB4 := Lib.hid (HB3.out.trans b4); clear h4 b4))
  go_ret
  rw [← HSE.out] at HO4
  obtain ⟨r4, c4, rfl, h1, h2, -⟩ := HO4.out.lies
  rw [HSL.out] at HO4 h1 ⊢
  exact ⟨r4, c4, rfl, h1, h2, HO4.out.lower sz0, HB0.out.trans ((HB4.out.mono sz0))⟩
end Go.Proofs.YtagkkihnfipfeaaDoor
