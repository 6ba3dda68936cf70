/-
  The key of a tag: the contract of aead's own onceKey.
-/
import Derived.Test.YtagkkihnfipfeaaDoorCcBlock
import Derived.Test.YtagkkihnfipfeaaDoorPoSum
namespace Go.Proofs.YtagkkihnfipfeaaDoor
open Go.RowKit Go.Proofs.ShaWords

/-- The key of a tag. -/
def onceOf (key nonce : List (BitVec 8)) : List (BitVec 8) := (ccBlock key 0#32 nonce).take 32
theorem onceOf_length (key nonce : List (BitVec 8)) : (onceOf key nonce).length = 32 := by
  unfold onceOf; rw [List.length_take, ccBlock_length]; rfl
/-- The key's block, the nonce's, the result's. -/
structure OnceW (w : World) (key nonce : List (BitVec 8)) (wr : World) : Prop where
  key : BytesAt wr w.heap.size 23 key
  nonce : BytesAt wr (w.heap.size + 1) 25 nonce
  res : BytesAt wr (w.heap.size + 1 + 1) 23 (noughts 32)
  below : Below w.heap.size w wr
theorem OnceW.on {w wr w' : World} {key nonce : List (BitVec 8)} (h : OnceW w key nonce wr) (hb : Below wr.heap.size wr w') : OnceW w key nonce w' := ⟨h.key.keep hb, h.nonce.keep hb, h.res.keep hb, h.below.trans (hb.mono h.below.size)⟩
theorem oncew_start (w : World) (key nonce : List (BitVec 8)) (A : Array Value) (hA : A = (bytesV (noughts 32)).toArray) :
    OnceW w key nonce (((w.alloc (.cells (bytesV key).toArray 23)).alloc (.cells (bytesV nonce).toArray 25)).alloc (.cells A 23)) := by
  subst hA
  exact ⟨alloc3_1 _ _ _ _, alloc3_2 _ _ _ _, alloc3_3 _ _ _ _, alloc3_below _ _ _ _⟩
attribute [local irreducible] ccBlock onceOf
set_option maxRecDepth 100000 in
set_option maxHeartbeats 2000000 in
theorem onceKey_any (key nonce : List (BitVec 8)) (w : World) (hk : key.length = 32) (hn : nonce.length = 12) (hq : Quads w) :
    Calls Tryd.prog 33 #[.agg (bytesV key).toArray, .agg (bytesV nonce).toArray] w fun e w' => e = .returned (.agg (bytesV (onceOf key nonce)).toArray) ∧ Below w.heap.size w w' := by
  have hqs := hq.size
  have HQ := Lib.hid hq; clear hq
  have HKL := Lib.hid hk; clear hk
  have HNL := Lib.hid hn; clear hn
  have HIK := Lib.hid (infoKey key HKL.out)
  have HIN := Lib.hid (infoNonce nonce HNL.out)
  have HBL := Lib.hid (ccBlock_length key 0#32 nonce)
  have HOL := Lib.hid (onceOf_length key nonce)
  have HOE : Hid (onceOf key nonce = (ccBlock key 0#32 nonce).take 32) := show _ = _ by unfold onceOf; rfl
  go_enter Tryd.func33, Tryd.ntmps33
  go_upto_region 1 with (fail)
  refine wp_gen (OnceW w key nonce) (oncew_start w key nonce _ (by rfl)) ?_
  intro w0 hw0
  have HW0 := Lib.hid hw0; clear hw0
  go_wp2_with (first
    | (refine wpList_load_row rfl 23 (.tmp 2) rfl w.heap.size rfl 23 (bytesV key).toArray (0, 0) _ HW0.out.key Tryd.underlying23 rfl HIK.out ?_)
    | (refine wpList_load_row rfl 25 (.tmp 3) rfl (w.heap.size + 1) rfl 25 (bytesV nonce).toArray (0, 0) _ HW0.out.nonce Tryd.underlying25 rfl HIN.out ?_))
  refine (ccBlock_any key nonce 0#32 w0 HKL.out HNL.out (HQ.out.below HW0.out.below hqs)).mono ?_
  rintro e w1 ⟨rfl, hb1⟩
  have HW1 := Lib.hid (HW0.out.on hb1); clear hb1 HW0
  have sz1 : w.heap.size + 1 + 1 < w1.heap.size := HW1.out.res.size
  have HI := Lib.hid (infoBlk _ HBL.out)
  have HOLD := Lib.hid (show (bytesV (noughts 64)).toArray.size = (bytesV (ccBlock key 0#32 nonce)).toArray.size by rw [bytesV_size _ 64 HBL.out, bytesV_size _ 64 (noughts_length 64)])
  have HONE := Lib.hid (bytesV_one (ccBlock key 0#32 nonce))
  go_upto_region 3 with (refine wpList_store_new rfl 66 (.tmp 5) (.tmp 9) rfl w1.heap.size rfl (bytesV (ccBlock key 0#32 nonce)).toArray rfl rfl HI.out (by exact HOLD.out) HONE.out ?_; intro w2 h2 b2; have HK2 := Lib.hid (show BytesAt w2 w1.heap.size 66 (ccBlock key 0#32 nonce) from h2); have HW2 := Lib.hid (HW1.out.on b2); clear h2 b2)
  have sz2 : w1.heap.size < w2.heap.size := HK2.out.size
  refine wp_gen (fun w3 => BytesAt w3 w2.heap.size 23 (noughts 32) ∧ BytesAt w3 w1.heap.size 66 (ccBlock key 0#32 nonce) ∧ OnceW w key nonce w3) ⟨?_, HK2.out.keep ((Below.refl _ _).alloc (Nat.le_refl _) _), HW2.out.on ((Below.refl _ _).alloc (Nat.le_refl _) _)⟩ ?_
  · show _ = some (Obj.cells (bytesV (List.replicate 32 0#8)).toArray _ _)
    rw [noughts32]; exact heap_new_at rfl
  rintro w3 ⟨h3, k3, hw3⟩
  have HB3 := Lib.hid hw3.below
  have HR3 := Lib.hid hw3.res
  have HK3 : Hid (BytesAt w3.drew w2.heap.size 23 (noughts 32)) := show BytesAt _ _ _ _ from h3
  have HL3 : Hid (Lies w3.drew (some ⟨w1.heap.size, 0, none⟩) ((ccBlock key 0#32 nonce).take 32)) := show Lies _ _ _ from Or.inr ⟨_, _, rfl, fun j v hv => by
    refine k3.range j v ?_
    rw [bytesV_take, List.getElem?_take] at hv
    split at hv
    · exact hv
    · cases hv⟩
  have HTL : Hid (((ccBlock key 0#32 nonce).take 32).length = 32) := show _ = _ by rw [List.length_take, HBL.out]; rfl
  have HSP : Hid (splice (noughts 32) 0 ((ccBlock key 0#32 nonce).take 32) = onceOf key nonce) := show _ = _ by
    rw [HOE.out]; unfold noughts; rw [splice_noughts, HTL.out]; simp
  clear h3 k3 hw3 HK2 HW2 HW1
  generalize w2.heap.size = G2 at HK3 sz2 ⊢
  generalize w1.heap.size = G1 at HL3 sz2 sz1 ⊢
  go_still_tail 2, (by kernel_rfl)
  change wpList _ _ _ _ _ w3.drew
  go_upto_region 4 with (refine wpList_copy_bytes rfl (.tmp 10) (.tmp 11) rfl G2 32 32 23 (noughts 32) ((ccBlock key 0#32 nonce).take 32) (some ⟨G1, 0, none⟩) 32 64 rfl rfl HK3.out (noughts_length 32) HL3.out HTL.out (by omega) ?_; intro w4 h4 g4; have H4 := Lib.hid h4; have G4 := Lib.hid g4; clear h4 g4)
  rw [HSP.out] at H4
  have hb4 : Below w.heap.size w w4 := HB3.out.trans (((Below.refl _ w3).drew.mono HB3.out.size).grown G4.out (by have := HB3.out.size; exact this) (fun k hk => by cases hk; omega))
  have HB4 := Lib.hid hb4; clear hb4
  have HRES := Lib.hid (HR3.out.past (w := w3.drew) G4.out (by omega))
  have HIO := Lib.hid (infoKey _ HOL.out)
  have HOL2 := Lib.hid (show (bytesV (noughts 32)).toArray.size = (bytesV (onceOf key nonce)).toArray.size by rw [bytesV_size _ 32 HOL.out, bytesV_size _ 32 (noughts_length 32)])
  have HONE2 := Lib.hid (bytesV_one (onceOf key nonce))
  have HROW2 : Hid (w4.heap[G2]? = some (.cells (bytesV (onceOf key nonce)).toArray 23 (0, 0))) := show _ = _ from H4.out
  clear H4 G4 HB3 HR3 HK3 HL3 HTL HSP HI HOLD HONE HIK HIN
  generalize hfe : (bytesV (onceOf key nonce)).toArray = full at HIO HOL2 HONE2 HROW2 ⊢
  have HFE := Lib.hid hfe; clear hfe
  go_wp2_with (first
    | (refine wpList_load_row rfl 23 (.tmp 6) rfl G2 rfl 23 full (0, 0) _ HROW2.out Tryd.underlying23 rfl HIO.out ?_)
    | (refine wpList_store_row rfl 23 (.tmp 4) (.tmp 13) rfl (w.heap.size + 1 + 1) full rfl rfl 23 _ HRES.out HIO.out HOL2.out HONE2.out ?_))
  have hrow := setRow_heap w4 (w.heap.size + 1 + 1) _ full 23 _ HRES.out
  have hbel := below_setRow HB4.out (show w.heap.size ≤ w.heap.size + 1 + 1 by omega) full
  generalize w4.setRow (w.heap.size + 1 + 1) full = wz at hrow hbel ⊢
  have hres : ∀ tmps : Array Value, tmps.getD 4 undef = .pointer (some ⟨w.heap.size + 1 + 1, 0, none⟩) → Sem.run Tryd.prog (results Tryd.f33 tmps) wz = .ok (.agg full) wz := fun tmps h =>
    results_cell_row (P := Tryd.prog) (p := 4) (ty := 23) Tryd.results33 tmps wz (w.heap.size + 1 + 1) 23 full (0, 0) _ h hrow Tryd.underlying23 rfl HIO.out
  exact bodyPost_ret (v := .agg full) (hres _ rfl) rfl ⟨by rw [HFE.out], hbel⟩
end Go.Proofs.YtagkkihnfipfeaaDoor
