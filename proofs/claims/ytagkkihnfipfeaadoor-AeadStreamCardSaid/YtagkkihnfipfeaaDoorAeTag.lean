/-
  The tag of a head and of bytes: the contracts of aead's own tagOf and same.
-/
import Derived.Test.YtagkkihnfipfeaaDoorAeKey
import Derived.Test.YtagkkihnfipfeaaDoorAePad
import Derived.Test.YtagkkihnfipfeaaDoorMacSame
namespace Go.Proofs.YtagkkihnfipfeaaDoor
open Go.RowKit Go.Proofs.ShaWords

/-- What a tag is the sum of. -/
def aeadText (head c : List (BitVec 8)) : List (BitVec 8) := ((fill16 head ++ fill16 c) ++ lenTo head.length 8) ++ lenTo c.length 8
/-- The tag. -/
def aeadTag (key nonce head c : List (BitVec 8)) : List (BitVec 8) := polyTag (onceOf key nonce) (aeadText head c)
/-- The key's block, the nonce's, the tag's. -/
structure TagW (w : World) (key nonce : List (BitVec 8)) (wr : World) : Prop where
  key : BytesAt wr w.heap.size 23 key
  nonce : BytesAt wr (w.heap.size + 1) 25 nonce
  res : BytesAt wr (w.heap.size + 1 + 1) 46 (noughts 16)
  below : Below w.heap.size w wr
theorem TagW.on {w wr w' : World} {key nonce : List (BitVec 8)} (h : TagW w key nonce wr) (hb : Below wr.heap.size wr w') : TagW w key nonce w' := ⟨h.key.keep hb, h.nonce.keep hb, h.res.keep hb, h.below.trans (hb.mono h.below.size)⟩
theorem tagw_start (w : World) (key nonce : List (BitVec 8)) (A : Array Value) (hA : A = (bytesV (noughts 16)).toArray) :
    TagW w key nonce (((w.alloc (.cells (bytesV key).toArray 23)).alloc (.cells (bytesV nonce).toArray 25)).alloc (.cells A 46)) := by
  subst hA
  exact ⟨alloc3_1 _ _ _ _, alloc3_2 _ _ _ _, alloc3_3 _ _ _ _, alloc3_below _ _ _ _⟩
theorem aeadText_length (head c : List (BitVec 8)) : (aeadText head c).length = head.length + padN head.length + (c.length + padN c.length) + 16 := by
  unfold aeadText
  rw [List.length_append, List.length_append, List.length_append, fill16_length, fill16_length, lenTo_length, lenTo_length]
attribute [local irreducible] ccBlock onceOf polyTag fill16 lenTo padN aeadText aeadTag
set_option maxRecDepth 100000 in
set_option maxHeartbeats 2000000 in
theorem tagOf_any (key nonce head c : List (BitVec 8)) (n m : Nat) (p q : Option Addr) (cp cq : Nat) (w : World) (hk : key.length = 32) (hn : nonce.length = 12) (hhn : head.length = n) (hcm : c.length = m) (hH : n ≤ 300000) (hC : m ≤ 300000) (hp : Lies w p head) (hc : Lies w q c) (hq : Quads w) :
    Calls Tryd.prog 25 #[.agg (bytesV key).toArray, .agg (bytesV nonce).toArray, .slice p n cp, .slice q m cq] w fun e w' => e = .returned (.agg (bytesV (aeadTag key nonce head c)).toArray) ∧ Below w.heap.size w w' := by
  have hqs := hq.size
  have HQ := Lib.hid hq; clear hq
  have HP := Lib.hid hp; clear hp
  have HC := Lib.hid hc; clear hc
  have HKL := Lib.hid hk; clear hk
  have HNL := Lib.hid hn; clear hn
  have HHN := Lib.hid hhn
  have HCM := Lib.hid hcm
  have HIK := Lib.hid (infoKey key HKL.out)
  have HIN := Lib.hid (infoNonce nonce HNL.out)
  have e1 : (fill16 head).length ≤ 300016 := by rw [fill16_length, hhn]; have := padN_lt n; omega
  have e2 : (fill16 head ++ fill16 c).length ≤ 600032 := by rw [List.length_append, fill16_length c, hcm]; have := padN_lt m; omega
  have e3 : ((fill16 head ++ fill16 c) ++ lenTo n 8).length ≤ 600040 := by rw [List.length_append, lenTo_length]; omega
  have E1 := Lib.hid e1; clear e1
  have E2 := Lib.hid e2; clear e2
  have E3 := Lib.hid e3; clear e3
  have HTX : Hid (((fill16 head ++ fill16 c) ++ lenTo n 8) ++ lenTo m 8 = aeadText head c) := show _ = _ by rw [← hhn, ← hcm]; unfold aeadText; rfl
  have HTG : Hid (aeadTag key nonce head c = polyTag (onceOf key nonce) (aeadText head c)) := show _ = _ by unfold aeadTag; rfl
  clear hhn hcm
  go_enter Tryd.func25, Tryd.ntmps25
  go_upto_region 1 with (fail)
  refine wp_gen (TagW w key nonce) (tagw_start w key nonce _ (by rfl)) ?_
  intro w0 hw0
  have HW0 := Lib.hid hw0; clear hw0
  have sz0 := HW0.out.below.size
  go_wp2_with fail
  refine (padded_any w0.heap.size _ [] head n p cp w0 HHN.out (Own.nil _ _) (HP.out.below HW0.out.below) (by simp; omega) (Nat.le_refl _)).mono ?_
  rintro e w1 ⟨v1, rfl, ho1, hb1⟩
  rw [List.nil_append] at ho1
  have HO1 := Lib.hid ho1; clear ho1
  have HB1 := Lib.hid hb1; clear hb1
  go_wp2_with fail
  refine (padded_any w0.heap.size _ (fill16 head) c m q cq w1 HCM.out HO1.out (HC.out.below (HW0.out.on HB1.out).below) (by have := E1.out; omega) HB1.out.size).mono ?_
  rintro e w2 ⟨v2, rfl, ho2, hb2⟩
  have HO2 := Lib.hid ho2; clear ho2
  have HB2 := Lib.hid (HB1.out.trans hb2); clear hb2 HO1 HB1
  go_wp2_with fail
  refine (withLength_any w0.heap.size _ (fill16 head ++ fill16 c) n w2 HO2.out (by have := E2.out; omega) HB2.out.size).mono ?_
  rintro e w3 ⟨v3, rfl, ho3, hb3⟩
  have HO3 := Lib.hid ho3; clear ho3
  have HB3 := Lib.hid (HB2.out.trans hb3); clear hb3 HO2 HB2
  go_wp2_with fail
  refine (withLength_any w0.heap.size _ ((fill16 head ++ fill16 c) ++ lenTo n 8) m w3 HO3.out (by have := E3.out; omega) HB3.out.size).mono ?_
  rintro e w4 ⟨v4, rfl, ho4, hb4⟩
  rw [HTX.out] at ho4
  have HO4 := Lib.hid ho4; clear ho4
  have HB4 := Lib.hid (HB3.out.trans hb4); clear hb4 HO3 HB3
  have HW4 := Lib.hid (HW0.out.on HB4.out)
  go_wp2_with (first
    | (refine wpList_load_row rfl 23 (.tmp 4) rfl w.heap.size rfl 23 (bytesV key).toArray (0, 0) _ HW4.out.key Tryd.underlying23 rfl HIK.out ?_)
    | (refine wpList_load_row rfl 25 (.tmp 5) rfl (w.heap.size + 1) rfl 25 (bytesV nonce).toArray (0, 0) _ HW4.out.nonce Tryd.underlying25 rfl HIN.out ?_))
  refine (onceKey_any key nonce w4 HKL.out HNL.out (HQ.out.below HW4.out.below hqs)).mono ?_
  rintro e w5 ⟨rfl, hb5⟩
  have HO5 := Lib.hid (HO4.out.below hb5)
  have HW5 := Lib.hid (HW4.out.on hb5); clear hb5 HO4 HB4 HW4 HW0
  obtain ⟨r, cr, rfl, hr1, hr2, hr3⟩ := HO5.out.lies
  have HR := Lib.hid hr3; clear hr3 HO5
  have HOL := Lib.hid (onceOf_length key nonce)
  go_wp2_with fail
  refine (polySum_wide (onceOf key nonce) (aeadText head c) _ r cr w5 HOL.out rfl hr1 (by unfold maxLen at hr2; omega) HR.out).mono ?_
  rintro e w6 ⟨rfl, hb6⟩
  have HW6 := Lib.hid (HW5.out.on hb6); clear hb6 HW5
  rw [← HTG.out]
  have HL : Hid ((aeadTag key nonce head c).length = 16) := show _ = _ by rw [HTG.out]; exact polyTag_length _ _
  have HI := Lib.hid (infoTag _ HL.out)
  have HOLD := Lib.hid (show (bytesV (noughts 16)).toArray.size = (bytesV (aeadTag key nonce head c)).toArray.size by rw [bytesV_size _ 16 HL.out, bytesV_size _ 16 (noughts_length 16)])
  have HONE := Lib.hid (bytesV_one (aeadTag key nonce head c))
  have HB6 := Lib.hid HW6.out.below
  have HRES := Lib.hid HW6.out.res
  clear HW6 HR HIK HIN
  generalize hfe : (bytesV (aeadTag key nonce head c)).toArray = full at HI HOLD HONE ⊢
  have HFE := Lib.hid hfe; clear hfe
  go_wp2_with (refine wpList_store_row rfl 46 (.tmp 8) (.tmp 27) rfl (w.heap.size + 1 + 1) full rfl rfl 46 _ HRES.out HI.out HOLD.out HONE.out ?_)
  have hrow := setRow_heap w6 (w.heap.size + 1 + 1) _ full 46 _ HRES.out
  have hbel := below_setRow HB6.out (show w.heap.size ≤ w.heap.size + 1 + 1 by omega) full
  generalize w6.setRow (w.heap.size + 1 + 1) full = wz at hrow hbel ⊢
  have hres : ∀ tmps : Array Value, tmps.getD 8 undef = .pointer (some ⟨w.heap.size + 1 + 1, 0, none⟩) → Sem.run Tryd.prog (results Tryd.f25 tmps) wz = .ok (.agg full) wz := fun tmps h =>
    results_cell_row (P := Tryd.prog) (p := 8) (ty := 46) Tryd.results25 tmps wz (w.heap.size + 1 + 1) 46 full (0, 0) _ h hrow Tryd.underlying46 rfl HI.out
  exact bodyPost_ret (v := .agg full) (hres _ rfl) rfl ⟨by rw [HFE.out], hbel⟩

attribute [local irreducible] dif
set_option maxRecDepth 100000 in
set_option maxHeartbeats 1000000 in
theorem sameTag_any (a b : List (BitVec 8)) (w : World) (ha : a.length = 16) (hb : b.length = 16) :
    Calls Tryd.prog 28 #[.agg (bytesV a).toArray, .agg (bytesV b).toArray] w fun e w' => e = .returned (.bool (sameB a b)) ∧ Below w.heap.size w w' := by
  have HA := Lib.hid ha; clear ha
  have HB := Lib.hid hb; clear hb
  have HD0 : Hid (n8 (dif a b 0) = 0) := show _ = _ by unfold dif; rfl
  go_enter Tryd.func28, Tryd.ntmps28
  go_wp2_with fail
  refine wp_gen (fun w1 => w1.rangeAt w.heap.size 0 (bytesV a) ∧ w1.rangeAt (w.heap.size + 1) 0 (bytesV b) ∧ Below w.heap.size w w1) ⟨?_, ?_, ?_⟩ ?_
  · exact range_keep (range_bytesV (heap_alloc_new w (.cells (bytesV a).toArray 46))) ((Below.refl _ _).alloc (Nat.le_refl _) _)
  · have h := range_bytesV (heap_alloc_new (w.alloc (.cells (bytesV a).toArray 46)) (.cells (bytesV b).toArray 46))
    rw [size_alloc] at h; exact h
  · exact ((Below.refl _ _).alloc (Nat.le_refl _) _).alloc (by rw [size_alloc]; omega) _
  rintro w1 ⟨ra, rb, bel⟩
  have HRA := Lib.hid ra; have HRB := Lib.hid rb; have HBE := Lib.hid bel
  clear ra rb bel
  go_loopw [5, 6, 7] (fun d _ i wr => ∃ k : Nat, k ≤ 16 ∧ i = .int .i64 (k : Int) ∧ d = .int .u8 (n8 (dif a b k)) ∧ Below w1.heap.size w1 wr) (fun _ _ i _ => 16 - (intOf i).toNat)
  case atStart => exact ⟨0, by omega, rfl, by rw [HD0.out], Below.refl _ _⟩
  case round =>
    obtain ⟨k, hk, rfl, rfl, hb⟩ := hrel
    by_cases hlt : k < 16
    · have ca := range_keep HRA.out hb k (.int .u8 (n8 (a.getD k 0#8))) (by simp [bytesV, List.getD, HA.out, hlt])
      have cb := range_keep HRB.out hb k (.int .u8 (n8 (b.getD k 0#8))) (by simp [bytesV, List.getD, HB.out, hlt])
      rw [Nat.zero_add] at ca cb
      have HDS := Lib.hid (dif_succ a b k)
      generalize a.getD k 0#8 = x at ca HDS
      generalize b.getD k 0#8 = y at cb HDS
      have HBB := Lib.hid hb; clear hb
      have q0 : (k : Int) < 16 := by omega
      have hx1 := xor8 x y
      have hx2 := or8 (dif a b k) (x ^^^ y)
      go_wp2_with fail
      go_quiet (fail)
      go_wp2_with fail
      exact ⟨⟨k + 1, by omega, by go_num, by rw [HDS.out], HBB.out.trans ⟨rfl, rfl, rfl, Nat.le_refl _, fun _ _ => rfl⟩⟩, by simp [intOf]; omega⟩
    · have HK : Hid (k = 16) := show k = 16 by omega
      have HBB := Lib.hid (HBE.out.trans (hb.mono HBE.out.size)); clear hb
      go_wp2_with fail
      go_ret
      refine ⟨?_, HBB.out⟩
      rw [HK.out]
      show Ending.returned (.bool (n8 (dif a b 16) == 0)) = _
      rw [dif_same a b 16 HA.out HB.out]
end Go.Proofs.YtagkkihnfipfeaaDoor
