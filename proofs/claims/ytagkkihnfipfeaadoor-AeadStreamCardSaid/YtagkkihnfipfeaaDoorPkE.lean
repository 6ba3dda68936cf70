/-
  What other texts lean on: AeBase, AeKey, AePad, AeTag, AeSeal, AeOpen, AePub, AePubK, AeWorks, AeStreamLaw, AePure, AeOps.
-/
import Derived.Test.YtagkkihnfipfeaaDoorPkA
import Derived.Test.YtagkkihnfipfeaaDoorPkC
import Derived.Test.YtagkkihnfipfeaaDoorPkP
/-
  What the rows of layer 5 share: a tag that came in.
-/
namespace Go.Proofs.YtagkkihnfipfeaaDoor
open Go.ChangeShapes Go.WideShapes Go.ChangeAt Go.RowKit Go.Proofs.ShaWords Go.Deep
/-- A tag that came in. -/
theorem open_tag {H : Type} {enc : TypeId × Value → H} {W : World} {fuel : Nat} {cs : List Value} {x : DataW H × List MemPlace}
    (h : DataW.trod enc Tryd.prog W 0 (fun _ => true) true fuel 46 cs = some x) : ∃ bs : List (BitVec 8), bs.length = 16 ∧ cs = bytesV bs := by
  obtain ⟨xs, m, rfl, rfl, hl, hxl, hf⟩ := DataW.trod_array Tryd.underlying46 h
  have hc5 : Tryd.prog.cellsOf 5 = 1 := by kernel_rfl
  have hcs : Tryd.prog.cellsOf 46 = 16 := by kernel_rfl
  rw [hcs] at hl
  have each : ∀ i, i < 16 → ∃ z : Int, cs[i]? = some (.int .u8 z) ∧ (Lit.int .u8 z).wf = true := fun i hi => by
    have h1 := hf i hi
    obtain ⟨b, hb⟩ : ∃ b, xs[i]? = some b := ⟨xs[i]'(by omega), List.getElem?_eq_getElem (by omega)⟩
    rw [hc5, Nat.mul_one, hb] at h1
    obtain ⟨z, hz, _, hw⟩ := DataW.trod_int Tryd.underlying5 h1
    refine ⟨z, ?_, hw⟩
    have := congrArg (·[0]?) hz
    simpa [List.getElem?_take, List.getElem?_drop] using this
  obtain ⟨Z, hZ⟩ := choose_lt (α := Int) each
  refine ⟨(List.range 16).map fun i => BitVec.ofInt 8 (Z i), by simp, ?_⟩
  apply List.ext_getElem?
  intro i
  by_cases hi : i < 16
  · rw [(hZ i hi).1]
    simp [bytesV, hi, n8_ofInt _ (hZ i hi).2]
  · rw [List.getElem?_eq_none (by omega), List.getElem?_eq_none (by simp [bytesV]; omega)]
theorem okWide_tag {W : World} {base : Nat} {v : Value} (h : Value.okWide Tryd.prog W .any base 46 v) : ∃ cs : Array Value, v = .agg cs := by
  simp only [Value.okWide, Tryd.underlying46] at h
  obtain ⟨cs, h, _⟩ := h
  exact ⟨cs, h⟩
end Go.Proofs.YtagkkihnfipfeaaDoor

/-
  The key of a tag: the contract of aead's own onceKey.
-/
namespace Go.Proofs.YtagkkihnfipfeaaDoor
open Go.RowKit Go.Proofs.ShaWords

/-- The key of a tag. -/
def onceOf (key nonce : List (BitVec 8)) : List (BitVec 8) := (ccBlock key 0#32 nonce).take 32
theorem onceOf_length (key nonce : List (BitVec 8)) : (onceOf key nonce).length = 32 := by
  unfold onceOf; rw [List.length_take, ccBlock_length]; rfl
/-- The key's block, the nonce's, the result's. -/
structure OnceW (w : World) (key nonce : List (BitVec 8)) (wr : World) : Prop where
  key : BytesAt wr w.heap.size 23 key
  nonce : BytesAt wr (w.heap.size + 1) 25 nonce
  res : BytesAt wr (w.heap.size + 1 + 1) 23 (noughts 32)
  below : Below w.heap.size w wr
theorem OnceW.on {w wr w' : World} {key nonce : List (BitVec 8)} (h : OnceW w key nonce wr) (hb : Below wr.heap.size wr w') : OnceW w key nonce w' := ⟨h.key.keep hb, h.nonce.keep hb, h.res.keep hb, h.below.trans (hb.mono h.below.size)⟩
theorem oncew_start (w : World) (key nonce : List (BitVec 8)) (A : Array Value) (hA : A = (bytesV (noughts 32)).toArray) :
    OnceW w key nonce (((w.alloc (.cells (bytesV key).toArray 23)).alloc (.cells (bytesV nonce).toArray 25)).alloc (.cells A 23)) := by
  subst hA
  exact ⟨alloc3_1 _ _ _ _, alloc3_2 _ _ _ _, alloc3_3 _ _ _ _, alloc3_below _ _ _ _⟩
attribute [local irreducible] ccBlock onceOf
set_option maxRecDepth 100000 in
set_option maxHeartbeats 2000000 in
theorem onceKey_any (key nonce : List (BitVec 8)) (w : World) (hk : key.length = 32) (hn : nonce.length = 12) (hq : Quads w) :
    Calls Tryd.prog 33 #[.agg (bytesV key).toArray, .agg (bytesV nonce).toArray] w fun e w' => e = .returned (.agg (bytesV (onceOf key nonce)).toArray) ∧ Below w.heap.size w w' := by
  have hqs := hq.size
  have HQ := Lib.hid hq; clear hq
  have HKL := Lib.hid hk; clear hk
  have HNL := Lib.hid hn; clear hn
  have HIK := Lib.hid (infoKey key HKL.out)
  have HIN := Lib.hid (infoNonce nonce HNL.out)
  have HBL := Lib.hid (ccBlock_length key 0#32 nonce)
  have HOL := Lib.hid (onceOf_length key nonce)
  have HOE : Hid (onceOf key nonce = (ccBlock key 0#32 nonce).take 32) := show _ = _ by unfold onceOf; rfl
  go_enter Tryd.func33, Tryd.ntmps33
  go_upto_region 1 with (fail)
  refine wp_gen (OnceW w key nonce) (oncew_start w key nonce _ (by rfl)) ?_
  intro w0 hw0
  have HW0 := Lib.hid hw0; clear hw0
  go_wp2_with (first
    | (refine wpList_load_row rfl 23 (.tmp 2) rfl w.heap.size rfl 23 (bytesV key).toArray (0, 0) _ HW0.out.key Tryd.underlying23 rfl HIK.out ?_)
    | (refine wpList_load_row rfl 25 (.tmp 3) rfl (w.heap.size + 1) rfl 25 (bytesV nonce).toArray (0, 0) _ HW0.out.nonce Tryd.underlying25 rfl HIN.out ?_))
  refine (ccBlock_any key nonce 0#32 w0 HKL.out HNL.out (HQ.out.below HW0.out.below hqs)).mono ?_
  rintro e w1 ⟨rfl, hb1⟩
  have HW1 := Lib.hid (HW0.out.on hb1); clear hb1 HW0
  have sz1 : w.heap.size + 1 + 1 < w1.heap.size := HW1.out.res.size
  have HI := Lib.hid (infoBlk _ HBL.out)
  have HOLD := Lib.hid (show (bytesV (noughts 64)).toArray.size = (bytesV (ccBlock key 0#32 nonce)).toArray.size by rw [bytesV_size _ 64 HBL.out, bytesV_size _ 64 (noughts_length 64)])
  have HONE := Lib.hid (bytesV_one (ccBlock key 0#32 nonce))
  go_upto_region 3 with (refine wpList_store_new rfl 66 (.tmp 5) (.tmp 9) rfl w1.heap.size rfl (bytesV (ccBlock key 0#32 nonce)).toArray rfl rfl HI.out (by exact HOLD.out) HONE.out ?_; intro w2 h2 b2; have HK2 := Lib.hid (show BytesAt w2 w1.heap.size 66 (ccBlock key 0#32 nonce) from h2); have HW2 := Lib.hid (HW1.out.on b2); clear h2 b2)
  have sz2 : w1.heap.size < w2.heap.size := HK2.out.size
  refine wp_gen (fun w3 => BytesAt w3 w2.heap.size 23 (noughts 32) ∧ BytesAt w3 w1.heap.size 66 (ccBlock key 0#32 nonce) ∧ OnceW w key nonce w3) ⟨?_, HK2.out.keep ((Below.refl _ _).alloc (Nat.le_refl _) _), HW2.out.on ((Below.refl _ _).alloc (Nat.le_refl _) _)⟩ ?_
  · show _ = some (Obj.cells (bytesV (List.replicate 32 0#8)).toArray _ _)
    rw [noughts32]; exact heap_new_at rfl
  rintro w3 ⟨h3, k3, hw3⟩
  have HB3 := Lib.hid hw3.below
  have HR3 := Lib.hid hw3.res
  have HK3 : Hid (BytesAt w3.drew w2.heap.size 23 (noughts 32)) := show BytesAt _ _ _ _ from h3
  have HL3 : Hid (Lies w3.drew (some ⟨w1.heap.size, 0, none⟩) ((ccBlock key 0#32 nonce).take 32)) := show Lies _ _ _ from Or.inr ⟨_, _, rfl, fun j v hv => by
    refine k3.range j v ?_
    rw [bytesV_take, List.getElem?_take] at hv
    split at hv
    · exact hv
    · cases hv⟩
  have HTL : Hid (((ccBlock key 0#32 nonce).take 32).length = 32) := show _ = _ by rw [List.length_take, HBL.out]; rfl
  have HSP : Hid (splice (noughts 32) 0 ((ccBlock key 0#32 nonce).take 32) = onceOf key nonce) := show _ = _ by
    rw [HOE.out]; unfold noughts; rw [splice_noughts, HTL.out]; simp
  clear h3 k3 hw3 HK2 HW2 HW1
  generalize w2.heap.size = G2 at HK3 sz2 ⊢
  generalize w1.heap.size = G1 at HL3 sz2 sz1 ⊢
  go_still_tail 2, (by kernel_rfl)
  change wpList _ _ _ _ _ w3.drew
  go_upto_region 4 with (refine wpList_copy_bytes rfl (.tmp 10) (.tmp 11) rfl G2 32 32 23 (noughts 32) ((ccBlock key 0#32 nonce).take 32) (some ⟨G1, 0, none⟩) 32 64 rfl rfl HK3.out (noughts_length 32) HL3.out HTL.out (by omega) ?_; intro w4 h4 g4; have H4 := Lib.hid h4; have G4 := Lib.hid g4; clear h4 g4)
  rw [HSP.out] at H4
  have hb4 : Below w.heap.size w w4 := HB3.out.trans (((Below.refl _ w3).drew.mono HB3.out.size).grown G4.out (by have := HB3.out.size; exact this) (fun k hk => by cases hk; omega))
  have HB4 := Lib.hid hb4; clear hb4
  have HRES := Lib.hid (HR3.out.past (w := w3.drew) G4.out (by omega))
  have HIO := Lib.hid (infoKey _ HOL.out)
  have HOL2 := Lib.hid (show (bytesV (noughts 32)).toArray.size = (bytesV (onceOf key nonce)).toArray.size by rw [bytesV_size _ 32 HOL.out, bytesV_size _ 32 (noughts_length 32)])
  have HONE2 := Lib.hid (bytesV_one (onceOf key nonce))
  have HROW2 : Hid (w4.heap[G2]? = some (.cells (bytesV (onceOf key nonce)).toArray 23 (0, 0))) := show _ = _ from H4.out
  clear H4 G4 HB3 HR3 HK3 HL3 HTL HSP HI HOLD HONE HIK HIN
  generalize hfe : (bytesV (onceOf key nonce)).toArray = full at HIO HOL2 HONE2 HROW2 ⊢
  have HFE := Lib.hid hfe; clear hfe
  go_wp2_with (first
    | (refine wpList_load_row rfl 23 (.tmp 6) rfl G2 rfl 23 full (0, 0) _ HROW2.out Tryd.underlying23 rfl HIO.out ?_)
    | (refine wpList_store_row rfl 23 (.tmp 4) (.tmp 13) rfl (w.heap.size + 1 + 1) full rfl rfl 23 _ HRES.out HIO.out HOL2.out HONE2.out ?_))
  have hrow := setRow_heap w4 (w.heap.size + 1 + 1) _ full 23 _ HRES.out
  have hbel := below_setRow HB4.out (show w.heap.size ≤ w.heap.size + 1 + 1 by omega) full
  generalize w4.setRow (w.heap.size + 1 + 1) full = wz at hrow hbel ⊢
  have hres : ∀ tmps : Array Value, tmps.getD 4 undef = .pointer (some ⟨w.heap.size + 1 + 1, 0, none⟩) → Sem.run Tryd.prog (results Tryd.f33 tmps) wz = .ok (.agg full) wz := fun tmps h =>
    results_cell_row (P := Tryd.prog) (p := 4) (ty := 23) Tryd.results33 tmps wz (w.heap.size + 1 + 1) 23 full (0, 0) _ h hrow Tryd.underlying23 rfl HIO.out
  exact bodyPost_ret (v := .agg full) (hres _ rfl) rfl ⟨by rw [HFE.out], hbel⟩
end Go.Proofs.YtagkkihnfipfeaaDoor

/-
  Bytes that are padded, and a length of eight bytes: the contracts of aead's own padded and withLength.
-/
namespace Go.Proofs.YtagkkihnfipfeaaDoor
open Go.RowKit Go.Proofs.ShaWords

/-- How many noughts make a number of bytes a multiple of sixteen. -/
def padN (n : Nat) : Nat := (16 - n % 16) % 16
/-- Bytes, padded. -/
def fill16 (l : List (BitVec 8)) : List (BitVec 8) := l ++ noughts (padN l.length)
/-- The lowest bytes of a length, the lowest first. -/
def lenTo (n k : Nat) : List (BitVec 8) := (List.range k).map fun i => BitVec.ofNat 8 (n / 256 ^ i)
theorem padN_lt (n : Nat) : padN n < 16 := by unfold padN; omega
theorem fill16_length (l : List (BitVec 8)) : (fill16 l).length = l.length + padN l.length := by simp [fill16, noughts]
theorem lenTo_zero (n : Nat) : lenTo n 0 = [] := rfl
theorem lenTo_succ (n k : Nat) : lenTo n (k + 1) = lenTo n k ++ [BitVec.ofNat 8 (n / 256 ^ k)] := by simp [lenTo, List.range_succ]
theorem lenTo_length (n k : Nat) : (lenTo n k).length = k := by simp [lenTo]
theorem aeLenByte (n k : Nat) : (n : Int) / 2 ^ (8 * k) % 256 = n8 (BitVec.ofNat 8 (n / 256 ^ k)) := by
  unfold n8
  have e : (2 : Nat) ^ (8 * k) = 256 ^ k := by rw [Nat.pow_mul]
  rw [BitVec.toNat_ofNat, show (2 : Int) = ((2 : Nat) : Int) from rfl, ← Int.natCast_pow, e]
  omega
attribute [local irreducible] padN fill16 lenTo

set_option maxRecDepth 100000 in
set_option maxHeartbeats 1000000 in
theorem padded_any (B : Nat) (v : Value) (l m : List (BitVec 8)) (n : Nat) (p : Option Addr) (c : Nat) (w : World) (hn : m.length = n) (hown : Own B w l v) (hL : Lies w p m) (hl : l.length + n ≤ 900000) (hB : B ≤ w.heap.size) :
    Calls Tryd.prog 30 #[v, .slice p n c] w fun e w' => ∃ v', e = .returned v' ∧ Own B w' (l ++ fill16 m) v' ∧ Below B w w' := by
  have HN := Lib.hid hn
  have HO := Lib.hid hown; clear hown
  have HL := Lib.hid hL; clear hL
  have HF : Hid (l ++ fill16 m = (l ++ m) ++ noughts (padN n)) := show _ = _ by unfold fill16; rw [hn, List.append_assoc]
  have HLL : Hid ((l ++ m).length = l.length + n) := show _ = _ by rw [List.length_append, hn]
  have HZ := padN_lt n
  have hz1 : IntKind.i64.wrap ((n : Int).tmod 16) = (n : Int) % 16 := by rw [Int.tmod_eq_emod_of_nonneg (by omega)]; exact IntWalk.i64_in _ (by omega)
  have hz2 : IntKind.i64.wrap (16 - (n : Int) % 16) = 16 - (n : Int) % 16 := IntWalk.i64_in _ (by omega)
  have hz3 : (16 - (n : Int) % 16) % 16 = ((padN n : Nat) : Int) := by unfold padN; omega
  have hz4 : IntKind.i64.wrap ((padN n : Nat) : Int) = ((padN n : Nat) : Int) := IntWalk.i64_in _ (by omega)
  have hz5 : (16 - (n : Int) % 16).tmod 16 = (16 - (n : Int) % 16) % 16 := Int.tmod_eq_emod_of_nonneg (by omega)
  have hz6 : (n : Int).tmod 16 = (n : Int) % 16 := Int.tmod_eq_emod_of_nonneg (by omega)
  go_enter Tryd.func30, Tryd.ntmps30
  clear hn
  go_wp2_with (first
    | (refine wpList_append_list rfl (.tmp 6) (.tmp 7) rfl B _ l m p c rfl HO.out (by rw [HN.out]; rfl) HL.out (by rw [HN.out]; omega) hB ?_; intro v1 w1 h1 b1; have HO1 := Lib.hid h1; have HB1 := Lib.hid b1; clear h1 b1)
    | (refine wpList_append_zeros rfl (.tmp 14) (.tmp 15) rfl B _ (l ++ m) (padN n) rfl HO1.out rfl (by rw [HLL.out]; omega) (Nat.le_trans hB HB1.out.size) ?_; intro v2 w2 h2 b2; have HO2 := Lib.hid h2; have HB2 := Lib.hid b2; clear h2 b2))
  go_ret
  exact ⟨_, rfl, by rw [HF.out]; exact HO2.out, HB1.out.trans HB2.out⟩

set_option maxRecDepth 100000 in
set_option maxHeartbeats 1000000 in
theorem withLength_any (B : Nat) (v : Value) (l : List (BitVec 8)) (n : Nat) (w : World) (hown : Own B w l v) (hl : l.length ≤ 900000) (hB : B ≤ w.heap.size) :
    Calls Tryd.prog 31 #[v, .int .i64 (n : Int)] w fun e w' => ∃ v', e = .returned v' ∧ Own B w' (l ++ lenTo n 8) v' ∧ Below B w w' := by
  have HO := Lib.hid hown; clear hown
  have HL := Lib.hid hl; clear hl
  have H0 : Hid (l ++ lenTo n 0 = l) := show _ = _ by rw [lenTo_zero, List.append_nil]
  go_enter Tryd.func31, Tryd.ntmps31
  go_wp2_with fail
  go_loopw [0, 6] (fun v i wr => ∃ k : Nat, k ≤ 8 ∧ i = .int .i64 (k : Int) ∧ Own B wr (l ++ lenTo n k) v ∧ Below B w wr) (fun _ i _ => 8 - (intOf i).toNat)
  case atStart => exact ⟨0, by omega, rfl, by rw [H0.out]; exact HO.out, Below.refl _ _⟩
  case round =>
    clear HO H0
    obtain ⟨k, hk, rfl, ho, hb⟩ := hrel
    have sz := Nat.le_trans hB hb.size
    by_cases hlt : k < 8
    · have HTK : Hid (l ++ lenTo n (k + 1) = (l ++ lenTo n k) ++ [BitVec.ofNat 8 (n / 256 ^ k)]) := show _ = _ by rw [lenTo_succ, List.append_assoc]
      have HK1 : Hid ((l ++ lenTo n k).length < 1099511627776) := show _ < _ by rw [List.length_append, lenTo_length]; have := HL.out; omega
      have HO := Lib.hid ho; clear ho
      have HB := Lib.hid hb; clear hb
      have q0 : (k : Int) < 8 := by omega
      have m0 : IntKind.i64.wrap (8 * (k : Int)) = 8 * (k : Int) := IntWalk.i64_in _ (by omega)
      have m1 := aeLenByte n k
      go_wp2_with (at_builtin; refine wpList_append_byte rfl (.tmp 9) (.tmp 15) rfl B _ (l ++ lenTo n k) (BitVec.ofNat 8 (n / 256 ^ k)) rfl HO.out rfl HK1.out sz ?_; intro v' w' ho' hb'; rw [← HTK.out] at ho'; have HO' := Lib.hid ho'; have HB' := Lib.hid (HB.out.trans hb'); clear ho' hb')
      go_roundw
      case rel => exact ⟨k + 1, by omega, by go_num, HO'.out, HB'.out⟩
      case measure => simp [intOf]; omega
    · have HO := Lib.hid ho; clear ho
      have HB := Lib.hid hb; clear hb
      have HK8 : Hid (k = 8) := show k = 8 by omega
      go_wp2_with fail
      go_ret
      refine ⟨_, rfl, ?_, HB.out⟩
      have h1 := HO.out
      rw [HK8.out] at h1
      exact h1
end Go.Proofs.YtagkkihnfipfeaaDoor

/-
  The tag of a head and of bytes: the contracts of aead's own tagOf and same.
-/
namespace Go.Proofs.YtagkkihnfipfeaaDoor
open Go.RowKit Go.Proofs.ShaWords

/-- What a tag is the sum of. -/
def aeadText (head c : List (BitVec 8)) : List (BitVec 8) := ((fill16 head ++ fill16 c) ++ lenTo head.length 8) ++ lenTo c.length 8
/-- The tag. -/
def aeadTag (key nonce head c : List (BitVec 8)) : List (BitVec 8) := polyTag (onceOf key nonce) (aeadText head c)
/-- The key's block, the nonce's, the tag's. -/
structure TagW (w : World) (key nonce : List (BitVec 8)) (wr : World) : Prop where
  key : BytesAt wr w.heap.size 23 key
  nonce : BytesAt wr (w.heap.size + 1) 25 nonce
  res : BytesAt wr (w.heap.size + 1 + 1) 46 (noughts 16)
  below : Below w.heap.size w wr
theorem TagW.on {w wr w' : World} {key nonce : List (BitVec 8)} (h : TagW w key nonce wr) (hb : Below wr.heap.size wr w') : TagW w key nonce w' := ⟨h.key.keep hb, h.nonce.keep hb, h.res.keep hb, h.below.trans (hb.mono h.below.size)⟩
theorem tagw_start (w : World) (key nonce : List (BitVec 8)) (A : Array Value) (hA : A = (bytesV (noughts 16)).toArray) :
    TagW w key nonce (((w.alloc (.cells (bytesV key).toArray 23)).alloc (.cells (bytesV nonce).toArray 25)).alloc (.cells A 46)) := by
  subst hA
  exact ⟨alloc3_1 _ _ _ _, alloc3_2 _ _ _ _, alloc3_3 _ _ _ _, alloc3_below _ _ _ _⟩
theorem aeadText_length (head c : List (BitVec 8)) : (aeadText head c).length = head.length + padN head.length + (c.length + padN c.length) + 16 := by
  unfold aeadText
  rw [List.length_append, List.length_append, List.length_append, fill16_length, fill16_length, lenTo_length, lenTo_length]
attribute [local irreducible] ccBlock onceOf polyTag fill16 lenTo padN aeadText aeadTag
set_option maxRecDepth 100000 in
set_option maxHeartbeats 2000000 in
theorem tagOf_any (key nonce head c : List (BitVec 8)) (n m : Nat) (p q : Option Addr) (cp cq : Nat) (w : World) (hk : key.length = 32) (hn : nonce.length = 12) (hhn : head.length = n) (hcm : c.length = m) (hH : n ≤ 300000) (hC : m ≤ 300000) (hp : Lies w p head) (hc : Lies w q c) (hq : Quads w) :
    Calls Tryd.prog 25 #[.agg (bytesV key).toArray, .agg (bytesV nonce).toArray, .slice p n cp, .slice q m cq] w fun e w' => e = .returned (.agg (bytesV (aeadTag key nonce head c)).toArray) ∧ Below w.heap.size w w' := by
  have hqs := hq.size
  have HQ := Lib.hid hq; clear hq
  have HP := Lib.hid hp; clear hp
  have HC := Lib.hid hc; clear hc
  have HKL := Lib.hid hk; clear hk
  have HNL := Lib.hid hn; clear hn
  have HHN := Lib.hid hhn
  have HCM := Lib.hid hcm
  have HIK := Lib.hid (infoKey key HKL.out)
  have HIN := Lib.hid (infoNonce nonce HNL.out)
  have e1 : (fill16 head).length ≤ 300016 := by rw [fill16_length, hhn]; have := padN_lt n; omega
  have e2 : (fill16 head ++ fill16 c).length ≤ 600032 := by rw [List.length_append, fill16_length c, hcm]; have := padN_lt m; omega
  have e3 : ((fill16 head ++ fill16 c) ++ lenTo n 8).length ≤ 600040 := by rw [List.length_append, lenTo_length]; omega
  have E1 := Lib.hid e1; clear e1
  have E2 := Lib.hid e2; clear e2
  have E3 := Lib.hid e3; clear e3
  have HTX : Hid (((fill16 head ++ fill16 c) ++ lenTo n 8) ++ lenTo m 8 = aeadText head c) := show _ = _ by rw [← hhn, ← hcm]; unfold aeadText; rfl
  have HTG : Hid (aeadTag key nonce head c = polyTag (onceOf key nonce) (aeadText head c)) := show _ = _ by unfold aeadTag; rfl
  clear hhn hcm
  go_enter Tryd.func25, Tryd.ntmps25
  go_upto_region 1 with (fail)
  refine wp_gen (TagW w key nonce) (tagw_start w key nonce _ (by rfl)) ?_
  intro w0 hw0
  have HW0 := Lib.hid hw0; clear hw0
  have sz0 := HW0.out.below.size
  go_wp2_with fail
  refine (padded_any w0.heap.size _ [] head n p cp w0 HHN.out (Own.nil _ _) (HP.out.below HW0.out.below) (by simp; omega) (Nat.le_refl _)).mono ?_
  rintro e w1 ⟨v1, rfl, ho1, hb1⟩
  rw [List.nil_append] at ho1
  have HO1 := Lib.hid ho1; clear ho1
  have HB1 := Lib.hid hb1; clear hb1
  go_wp2_with fail
  refine (padded_any w0.heap.size _ (fill16 head) c m q cq w1 HCM.out HO1.out (HC.out.below (HW0.out.on HB1.out).below) (by have := E1.out; omega) HB1.out.size).mono ?_
  rintro e w2 ⟨v2, rfl, ho2, hb2⟩
  have HO2 := Lib.hid ho2; clear ho2
  have HB2 := Lib.hid (HB1.out.trans hb2); clear hb2 HO1 HB1
  go_wp2_with fail
  refine (withLength_any w0.heap.size _ (fill16 head ++ fill16 c) n w2 HO2.out (by have := E2.out; omega) HB2.out.size).mono ?_
  rintro e w3 ⟨v3, rfl, ho3, hb3⟩
  have HO3 := Lib.hid ho3; clear ho3
  have HB3 := Lib.hid (HB2.out.trans hb3); clear hb3 HO2 HB2
  go_wp2_with fail
  refine (withLength_any w0.heap.size _ ((fill16 head ++ fill16 c) ++ lenTo n 8) m w3 HO3.out (by have := E3.out; omega) HB3.out.size).mono ?_
  rintro e w4 ⟨v4, rfl, ho4, hb4⟩
  rw [HTX.out] at ho4
  have HO4 := Lib.hid ho4; clear ho4
  have HB4 := Lib.hid (HB3.out.trans hb4); clear hb4 HO3 HB3
  have HW4 := Lib.hid (HW0.out.on HB4.out)
  go_wp2_with (first
    | (refine wpList_load_row rfl 23 (.tmp 4) rfl w.heap.size rfl 23 (bytesV key).toArray (0, 0) _ HW4.out.key Tryd.underlying23 rfl HIK.out ?_)
    | (refine wpList_load_row rfl 25 (.tmp 5) rfl (w.heap.size + 1) rfl 25 (bytesV nonce).toArray (0, 0) _ HW4.out.nonce Tryd.underlying25 rfl HIN.out ?_))
  refine (onceKey_any key nonce w4 HKL.out HNL.out (HQ.out.below HW4.out.below hqs)).mono ?_
  rintro e w5 ⟨rfl, hb5⟩
  have HO5 := Lib.hid (HO4.out.below hb5)
  have HW5 := Lib.hid (HW4.out.on hb5); clear hb5 HO4 HB4 HW4 HW0
  obtain ⟨r, cr, rfl, hr1, hr2, hr3⟩ := HO5.out.lies
  have HR := Lib.hid hr3; clear hr3 HO5
  have HOL := Lib.hid (onceOf_length key nonce)
  go_wp2_with fail
  refine (polySum_wide (onceOf key nonce) (aeadText head c) _ r cr w5 HOL.out rfl hr1 (by unfold maxLen at hr2; omega) HR.out).mono ?_
  rintro e w6 ⟨rfl, hb6⟩
  have HW6 := Lib.hid (HW5.out.on hb6); clear hb6 HW5
  rw [← HTG.out]
  have HL : Hid ((aeadTag key nonce head c).length = 16) := show _ = _ by rw [HTG.out]; exact polyTag_length _ _
  have HI := Lib.hid (infoTag _ HL.out)
  have HOLD := Lib.hid (show (bytesV (noughts 16)).toArray.size = (bytesV (aeadTag key nonce head c)).toArray.size by rw [bytesV_size _ 16 HL.out, bytesV_size _ 16 (noughts_length 16)])
  have HONE := Lib.hid (bytesV_one (aeadTag key nonce head c))
  have HB6 := Lib.hid HW6.out.below
  have HRES := Lib.hid HW6.out.res
  clear HW6 HR HIK HIN
  generalize hfe : (bytesV (aeadTag key nonce head c)).toArray = full at HI HOLD HONE ⊢
  have HFE := Lib.hid hfe; clear hfe
  go_wp2_with (refine wpList_store_row rfl 46 (.tmp 8) (.tmp 27) rfl (w.heap.size + 1 + 1) full rfl rfl 46 _ HRES.out HI.out HOLD.out HONE.out ?_)
  have hrow := setRow_heap w6 (w.heap.size + 1 + 1) _ full 46 _ HRES.out
  have hbel := below_setRow HB6.out (show w.heap.size ≤ w.heap.size + 1 + 1 by omega) full
  generalize w6.setRow (w.heap.size + 1 + 1) full = wz at hrow hbel ⊢
  have hres : ∀ tmps : Array Value, tmps.getD 8 undef = .pointer (some ⟨w.heap.size + 1 + 1, 0, none⟩) → Sem.run Tryd.prog (results Tryd.f25 tmps) wz = .ok (.agg full) wz := fun tmps h =>
    results_cell_row (P := Tryd.prog) (p := 8) (ty := 46) Tryd.results25 tmps wz (w.heap.size + 1 + 1) 46 full (0, 0) _ h hrow Tryd.underlying46 rfl HI.out
  exact bodyPost_ret (v := .agg full) (hres _ rfl) rfl ⟨by rw [HFE.out], hbel⟩

attribute [local irreducible] dif
set_option maxRecDepth 100000 in
set_option maxHeartbeats 1000000 in
theorem sameTag_any (a b : List (BitVec 8)) (w : World) (ha : a.length = 16) (hb : b.length = 16) :
    Calls Tryd.prog 28 #[.agg (bytesV a).toArray, .agg (bytesV b).toArray] w fun e w' => e = .returned (.bool (sameB a b)) ∧ Below w.heap.size w w' := by
  have HA := Lib.hid ha; clear ha
  have HB := Lib.hid hb; clear hb
  have HD0 : Hid (n8 (dif a b 0) = 0) := show _ = _ by unfold dif; rfl
  go_enter Tryd.func28, Tryd.ntmps28
  go_wp2_with fail
  refine wp_gen (fun w1 => w1.rangeAt w.heap.size 0 (bytesV a) ∧ w1.rangeAt (w.heap.size + 1) 0 (bytesV b) ∧ Below w.heap.size w w1) ⟨?_, ?_, ?_⟩ ?_
  · exact range_keep (range_bytesV (heap_alloc_new w (.cells (bytesV a).toArray 46))) ((Below.refl _ _).alloc (Nat.le_refl _) _)
  · have h := range_bytesV (heap_alloc_new (w.alloc (.cells (bytesV a).toArray 46)) (.cells (bytesV b).toArray 46))
    rw [size_alloc] at h; exact h
  · exact ((Below.refl _ _).alloc (Nat.le_refl _) _).alloc (by rw [size_alloc]; omega) _
  rintro w1 ⟨ra, rb, bel⟩
  have HRA := Lib.hid ra; have HRB := Lib.hid rb; have HBE := Lib.hid bel
  clear ra rb bel
  go_loopw [5, 6, 7] (fun d _ i wr => ∃ k : Nat, k ≤ 16 ∧ i = .int .i64 (k : Int) ∧ d = .int .u8 (n8 (dif a b k)) ∧ Below w1.heap.size w1 wr) (fun _ _ i _ => 16 - (intOf i).toNat)
  case atStart => exact ⟨0, by omega, rfl, by rw [HD0.out], Below.refl _ _⟩
  case round =>
    obtain ⟨k, hk, rfl, rfl, hb⟩ := hrel
    by_cases hlt : k < 16
    · have ca := range_keep HRA.out hb k (.int .u8 (n8 (a.getD k 0#8))) (by simp [bytesV, List.getD, HA.out, hlt])
      have cb := range_keep HRB.out hb k (.int .u8 (n8 (b.getD k 0#8))) (by simp [bytesV, List.getD, HB.out, hlt])
      rw [Nat.zero_add] at ca cb
      have HDS := Lib.hid (dif_succ a b k)
      generalize a.getD k 0#8 = x at ca HDS
      generalize b.getD k 0#8 = y at cb HDS
      have HBB := Lib.hid hb; clear hb
      have q0 : (k : Int) < 16 := by omega
      have hx1 := xor8 x y
      have hx2 := or8 (dif a b k) (x ^^^ y)
      go_wp2_with fail
      go_quiet (fail)
      go_wp2_with fail
      exact ⟨⟨k + 1, by omega, by go_num, by rw [HDS.out], HBB.out.trans ⟨rfl, rfl, rfl, Nat.le_refl _, fun _ _ => rfl⟩⟩, by simp [intOf]; omega⟩
    · have HK : Hid (k = 16) := show k = 16 by omega
      have HBB := Lib.hid (HBE.out.trans (hb.mono HBE.out.size)); clear hb
      go_wp2_with fail
      go_ret
      refine ⟨?_, HBB.out⟩
      rw [HK.out]
      show Ending.returned (.bool (n8 (dif a b 16) == 0)) = _
      rw [dif_same a b 16 HA.out HB.out]
end Go.Proofs.YtagkkihnfipfeaaDoor

/-
  The contract of (*aead.Aead).Seal.
-/
namespace Go.Proofs.YtagkkihnfipfeaaDoor
open Go.RowKit Go.Proofs.ShaWords

/-- What Seal returns. -/
def sealOf (key nonce head plain : List (BitVec 8)) : List (BitVec 8) := xorKs key 1#32 nonce plain ++ aeadTag key nonce head (xorKs key 1#32 nonce plain)
theorem aeadTag_length (key nonce head c : List (BitVec 8)) : (aeadTag key nonce head c).length = 16 := by unfold aeadTag; exact polyTag_length _ _
theorem sealOf_length (key nonce head plain : List (BitVec 8)) : (sealOf key nonce head plain).length = plain.length + 16 := by
  unfold sealOf; rw [List.length_append, xorKs_length, aeadTag_length]
theorem Own.lower {B B' : Nat} {w : World} {l : List (BitVec 8)} {v : Value} (h : Own B w l v) (hb : B' ≤ B) : Own B' w l v := by
  rcases h.2 with ⟨rfl, h0⟩ | ⟨g, cap, cur, rfl, hg, hr⟩
  · exact ⟨h.1, .inl ⟨rfl, h0⟩⟩
  · exact ⟨h.1, .inr ⟨g, cap, cur, rfl, Nat.le_trans hb hg, hr⟩⟩
/-- The blocks of the key and of the nonce. -/
structure KnB (w : World) (key nonce : List (BitVec 8)) (wr : World) : Prop where
  key : BytesAt wr w.heap.size 23 key
  nonce : BytesAt wr (w.heap.size + 1) 25 nonce
  below : Below w.heap.size w wr
theorem KnB.on {w wr w' : World} {key nonce : List (BitVec 8)} (h : KnB w key nonce wr) (hb : Below wr.heap.size wr w') : KnB w key nonce w' := ⟨h.key.keep hb, h.nonce.keep hb, h.below.trans (hb.mono h.below.size)⟩
theorem knb_start (w : World) (key nonce : List (BitVec 8)) : KnB w key nonce ((w.alloc (.cells (bytesV key).toArray 23)).alloc (.cells (bytesV nonce).toArray 25)) :=
  ⟨BytesAt.keep (w := w.alloc _) (heap_alloc_new w _) ((Below.refl _ _).alloc (Nat.le_refl _) _), heap_new_at (size_alloc _ _), ((Below.refl _ _).alloc (Nat.le_refl _) _).alloc (by rw [size_alloc]; omega) _⟩
attribute [local irreducible] ccBlock xorKs aeadTag sealOf
set_option maxRecDepth 100000 in
set_option maxHeartbeats 2000000 in
theorem seal_any (a : Value) (key nonce head plain : List (BitVec 8)) (n m : Nat) (p q : Option Addr) (cp cq : Nat) (w : World) (hk : key.length = 32) (hn : nonce.length = 12) (hhn : head.length = n) (hcm : plain.length = m) (hH : n ≤ 300000) (hC : m ≤ 300000) (hp : Lies w p head) (hc : Lies w q plain) (hq : Quads w) :
    Calls Tryd.prog 12 #[a, .agg (bytesV key).toArray, .agg (bytesV nonce).toArray, .slice p n cp, .slice q m cq] w fun e w' => ∃ r cr, e = .returned (.slice r (m + 16) cr) ∧ m + 16 ≤ cr ∧ cr ≤ maxLen ∧ Own w.heap.size w' (sealOf key nonce head plain) (.slice r (m + 16) cr) ∧ Below w.heap.size w w' := by
  have hqs := hq.size
  have HQ := Lib.hid hq; clear hq
  have HP := Lib.hid hp; clear hp
  have HC := Lib.hid hc; clear hc
  have HKL := Lib.hid hk; clear hk
  have HNL := Lib.hid hn; clear hn
  have HHN := Lib.hid hhn
  have HCM := Lib.hid hcm
  have HIK := Lib.hid (infoKey key HKL.out)
  have HIN := Lib.hid (infoNonce nonce HNL.out)
  have HSL := Lib.hid (sealOf_length key nonce head plain)
  have HXL := Lib.hid ((xorKs_length key 1#32 nonce plain).trans hcm)
  have HSE : Hid (sealOf key nonce head plain = xorKs key 1#32 nonce plain ++ aeadTag key nonce head (xorKs key 1#32 nonce plain)) := show _ = _ by unfold sealOf; rfl
  rw [hcm] at HSL
  clear hhn hcm
  go_enter Tryd.func12, Tryd.ntmps12
  go_upto_region 1 with (fail)
  refine wp_gen (KnB w key nonce) (knb_start w key nonce) ?_
  intro w0 hw0
  have HW0 := Lib.hid hw0; clear hw0
  have sz0 := HW0.out.below.size
  have HB0 := Lib.hid HW0.out.below
  go_wp2_with (first
    | (refine wpList_load_row rfl 23 (.tmp 6) rfl w.heap.size rfl 23 (bytesV key).toArray (0, 0) _ HW0.out.key Tryd.underlying23 rfl HIK.out ?_)
    | (refine wpList_load_row rfl 25 (.tmp 7) rfl (w.heap.size + 1) rfl 25 (bytesV nonce).toArray (0, 0) _ HW0.out.nonce Tryd.underlying25 rfl HIN.out ?_))
  refine (ccXor_len key nonce plain m 1#32 q cq w0 HCM.out HKL.out HNL.out (by omega) (HC.out.below HW0.out.below) (HQ.out.below HW0.out.below hqs)).mono ?_
  rintro e w1 ⟨r, cr, rfl, hr1, ho1, hb1⟩
  have HO1 := Lib.hid ho1; clear ho1
  have HB1 := Lib.hid hb1
  have HW1 := Lib.hid (HW0.out.on hb1); clear hb1
  have sz1 := HB1.out.size
  generalize xorKs key 1#32 nonce plain = x at HO1 HSE HXL
  go_wp2_with (first
    | (refine wpList_load_row rfl 23 (.tmp 6) rfl w.heap.size rfl 23 (bytesV key).toArray (0, 0) _ HW1.out.key Tryd.underlying23 rfl HIK.out ?_)
    | (refine wpList_load_row rfl 25 (.tmp 7) rfl (w.heap.size + 1) rfl 25 (bytesV nonce).toArray (0, 0) _ HW1.out.nonce Tryd.underlying25 rfl HIN.out ?_))
  refine (tagOf_any key nonce head x n m p r cp cr w1 HKL.out HNL.out HHN.out HXL.out hH hC (HP.out.below HW1.out.below) HO1.out.liesOf (HQ.out.below HW1.out.below hqs)).mono ?_
  rintro e w2 ⟨rfl, hb2⟩
  have HO2 := Lib.hid (HO1.out.below hb2); clear HO1
  have HB2 := Lib.hid (HB1.out.trans (hb2.mono sz1)); clear HB1
  have HW2 := Lib.hid (HW1.out.on hb2); clear hb2 HW1 HW0
  have HTL := Lib.hid (aeadTag_length key nonce head x)
  generalize aeadTag key nonce head x = tg at HTL HSE ⊢
  have HI := Lib.hid (infoTag _ HTL.out)
  have HOLD := Lib.hid (show (bytesV (noughts 16)).toArray.size = (bytesV tg).toArray.size by rw [bytesV_size _ 16 HTL.out, bytesV_size _ 16 (noughts_length 16)])
  have HONE := Lib.hid (bytesV_one tg)
  go_wp2_with (first
    | (refine wpList_store_new rfl 46 (.tmp 12) (.tmp 21) rfl w2.heap.size rfl (bytesV tg).toArray rfl rfl HI.out (by exact HOLD.out) HONE.out ?_; intro w3 h3 b3; have HK3 := Lib.hid (show BytesAt w3 w2.heap.size 46 tg from h3); have HO3 := Lib.hid (HO2.out.below b3); have HB3 := Lib.hid (HB2.out.trans (b3.mono HB2.out.size)); clear h3 b3)
    | (refine wpList_append_list rfl (.tmp 22) (.tmp 23) rfl w0.heap.size _ x tg (some ⟨w2.heap.size, 0, none⟩) 16 rfl HO3.out (by rw [HTL.out]; rfl) (Or.inr ⟨_, _, rfl, HK3.out.range⟩) (by rw [HTL.out, HXL.out]; omega) HB3.out.size ?_; intro v4 w4 h4 b4; have HO4 := Lib.hid h4; have HB4 := Lib.hid (HB3.out.trans b4); clear h4 b4))
  go_ret
  rw [← HSE.out] at HO4
  obtain ⟨r4, c4, rfl, h1, h2, -⟩ := HO4.out.lies
  rw [HSL.out] at HO4 h1 ⊢
  exact ⟨r4, c4, rfl, h1, h2, HO4.out.lower sz0, HB0.out.trans ((HB4.out.mono sz0))⟩
end Go.Proofs.YtagkkihnfipfeaaDoor

/-
  The contract of (*aead.Aead).Open.
-/
namespace Go.Proofs.YtagkkihnfipfeaaDoor
open Go.RowKit Go.Proofs.ShaWords

/-- Does it open? What is ahead of the tag; what it opens to. -/
def openC (s : List (BitVec 8)) : List (BitVec 8) := s.take (s.length - 16)
def openIs (key nonce head s : List (BitVec 8)) : Bool := decide (16 ≤ s.length) && decide (s.drop (s.length - 16) = aeadTag key nonce head (openC s))
def openOf (key nonce head s : List (BitVec 8)) : List (BitVec 8) := if openIs key nonce head s then xorKs key 1#32 nonce (openC s) else []
section
variable {ρ : Operand → Value} {o : Oper} {x y c : Operand} {w : World}
theorem r_toArr {g off c : Nat} (ho : o.op = .sliceToArrayPointer 46 x) (hx : ρ x = .slice (some ⟨g, off, none⟩) 16 c) (w : World) : (execOp ρ o).run Tryd.prog w = .ok (.value (.pointer (some ⟨g, off, none⟩))) w := by
  unfold execOp
  simp [ho, hx, Instr.arrayAt, run_underlying Tryd.underlying46, Sem.run_bind, Result.andThen]
theorem r_loadTag {l : List (BitVec 8)} {b off : Nat} (ho : o.op = .load 46 x) (hx : ρ x = .pointer (some ⟨b, off, none⟩)) (hl : l.length = 16) (hr : w.rangeAt b off (bytesV l)) : (execOp ρ o).run Tryd.prog w = .ok (.value (.agg (bytesV l).toArray)) w := by
  have h := run_loadAt_mid (P := Tryd.prog) w b off 46 (bytesV l) _ hr Tryd.underlying46 rfl (by rw [bytesV_length, hl]; kernel_rfl)
  unfold execOp
  simp only [ho, hx, Sem.run_bind, h, Result.andThen_ok, Sem.run_pure]
theorem r_fromTag {b off n cap k : Nat} (ho : o.op = .slice 26 x (some y) none none) (hk : n = k + 16) (hn : n ≤ cap) (hx : ρ x = .slice (some ⟨b, off, none⟩) n cap) (hy : ρ y = .int .i64 (k : Int)) (w : World) :
    (execOp ρ o).run Tryd.prog w = .ok (.value (.slice (some ⟨b, off + k, none⟩) 16 (cap - k))) w := by
  have h := run_sliceFrom (ρ := ρ) ho hx hy (by omega) (by omega) hn w
  rw [h, show n - k = 16 by omega]
end
/-- What Open has at hand: the key, the nonce, the head, the bytes ahead of the tag, the tag. -/
structure OpW (w : World) (key nonce head c tg : List (BitVec 8)) (b off k : Nat) (p : Option Addr) (wr : World) : Prop where
  key : BytesAt wr w.heap.size 23 key
  nonce : BytesAt wr (w.heap.size + 1) 25 nonce
  head : Lies wr p head
  body : Lies wr (some ⟨b, off, none⟩) c
  tag : wr.rangeAt b (off + k) (bytesV tg)
  below : Below w.heap.size w wr
theorem OpW.on {w wr w' : World} {key nonce head c tg : List (BitVec 8)} {b off k : Nat} {p : Option Addr} (h : OpW w key nonce head c tg b off k p wr) (hb : Below wr.heap.size wr w') : OpW w key nonce head c tg b off k p w' :=
  ⟨h.key.keep hb, h.nonce.keep hb, h.head.below hb, h.body.below hb, range_keep h.tag hb, h.below.trans (hb.mono h.below.size)⟩
attribute [local irreducible] ccBlock xorKs aeadTag
set_option maxRecDepth 100000 in
set_option maxHeartbeats 4000000 in
theorem open_any (a : Value) (key nonce head s : List (BitVec 8)) (n m : Nat) (p q : Option Addr) (cp cq : Nat) (w : World) (hk : key.length = 32) (hn : nonce.length = 12) (hhn : head.length = n) (hcm : s.length = m) (hH : n ≤ 300000) (hC : m ≤ 300000) (hmc : m ≤ cq) (hp : Lies w p head) (hc : Lies w q s) (hq : Quads w) :
    Calls Tryd.prog 18 #[a, .agg (bytesV key).toArray, .agg (bytesV nonce).toArray, .slice p n cp, .slice q m cq] w fun e w' => ∃ v, e = .returned (.tuple #[v, .bool (openIs key nonce head s)]) ∧ Own w.heap.size w' (openOf key nonce head s) v ∧ Below w.heap.size w w' := by
  have hqs := hq.size
  have HQ := Lib.hid hq; clear hq
  have HP := Lib.hid hp; clear hp
  have HKL := Lib.hid hk; clear hk
  have HNL := Lib.hid hn; clear hn
  have HHN := Lib.hid hhn
  have HIK := Lib.hid (infoKey key HKL.out)
  have HIN := Lib.hid (infoNonce nonce HNL.out)
  clear hhn
  by_cases hsm : m < 16
  · have HIS : Hid (openIs key nonce head s = false) := show _ = _ by unfold openIs; rw [decide_eq_false (by omega)]; rfl
    have HOF : Hid (openOf key nonce head s = []) := show _ = _ by unfold openOf; rw [HIS.out]; rfl
    clear hcm
    go_enter Tryd.func18, Tryd.ntmps18
    go_upto_region 1 with (fail)
    refine wp_gen (KnB w key nonce) (knb_start w key nonce) ?_
    intro w0 hw0
    have HW0 := Lib.hid hw0; clear hw0
    have m0 : IntKind.i64.wrap ((m : Int) - 16) = (m : Int) - 16 := IntWalk.i64_in _ (by omega)
    have m1 : (m : Int) - 16 < 0 := by omega
    go_wp2_with fail
    refine bodyPost_ret (v := .tuple #[.slice none 0 0, .bool false]) (by simp [results, Tryd.results18, go_sem]) rfl ?_
    exact ⟨_, by rw [HIS.out], by rw [HOF.out]; exact Own.nil _ _, HW0.out.below⟩
  · obtain ⟨k, rfl⟩ : ∃ k, m = k + 16 := ⟨m - 16, by omega⟩
    obtain ⟨b, off, rfl, hr⟩ : ∃ b off, q = some ⟨b, off, none⟩ ∧ w.rangeAt b off (bytesV s) := by
      rcases hc with h0 | h0
      · rw [h0] at hcm; simp at hcm
      · exact h0
    obtain ⟨m, hm⟩ : ∃ m, m = k + 16 := ⟨_, rfl⟩
    rw [← hm] at hcm hC hmc ⊢
    have hk16 : s.length - 16 = k := by omega
    obtain ⟨c, hcc⟩ : ∃ c, c = openC s := ⟨_, rfl⟩
    obtain ⟨tg, htg⟩ : ∃ tg, tg = s.drop (s.length - 16) := ⟨_, rfl⟩
    have hbody : Lies w (some ⟨b, off, none⟩) c := Or.inr ⟨b, off, rfl, fun j v hv => by
      refine hr j v ?_
      rw [hcc] at hv
      unfold openC at hv
      rw [bytesV_take, List.getElem?_take] at hv
      split at hv
      · exact hv
      · cases hv⟩
    have htag : w.rangeAt b (off + k) (bytesV tg) := by rw [htg, hk16]; exact range_drop hr
    have HOPW : Hid (OpW w key nonce head c tg b off k p ((w.alloc (.cells (bytesV key).toArray 23)).alloc (.cells (bytesV nonce).toArray 25))) :=
      show OpW _ _ _ _ _ _ _ _ _ _ _ from
      ⟨(knb_start w key nonce).key, (knb_start w key nonce).nonce, HP.out.below (knb_start w key nonce).below, hbody.below (knb_start w key nonce).below, range_keep htag (knb_start w key nonce).below, (knb_start w key nonce).below⟩
    have HK2 := Lib.hid hm
    have HMC := Lib.hid hmc
    have HCL : Hid (c.length = k) := show _ = _ by rw [hcc, openC, List.length_take]; omega
    have HTL : Hid (tg.length = 16) := show _ = _ by rw [htg, List.length_drop]; omega
    have HIS : Hid (openIs key nonce head s = decide (tg = aeadTag key nonce head c)) := show _ = _ by unfold openIs; rw [decide_eq_true (by omega), ← hcc, ← htg]; rfl
    have HOF : Hid (openOf key nonce head s = if openIs key nonce head s then xorKs key 1#32 nonce c else []) := show _ = _ by rw [hcc]; rfl
    clear hr hbody htag hcc htg hc hcm hk16
    have hkk : k ≤ 299984 := by omega
    have m0 : IntKind.i64.wrap ((m : Int) - 16) = (k : Int) := by rw [IntWalk.i64_in _ (by omega)]; omega
    have m1 : ¬ (k : Int) < 0 := by omega
    have m2 : (k : Int) ≤ (cq : Int) := by omega
    have m3 : 0 ≤ (k : Int) := by omega
    clear hm
    go_enter Tryd.func18, Tryd.ntmps18
    go_upto_region 1 with (fail)
    refine wp_gen (OpW w key nonce head c tg b off k p) HOPW.out ?_
    intro w0 hw0
    have HW0 := Lib.hid hw0; clear hw0 HOPW
    go_upto_region 5 with (fail)
    refine region_phase (OpW w key nonce head c tg b off k p) (fun _ => True) 9 (HW0.out.on ((Below.refl _ _).drew)) trivial [(0, .free), (1, .free), (2, .free), (3, .free), (4, .free), (5, .free), (6, .free), (7, .free), (8, .free), (9, .behind), (10, .behind), (11, .free)] (by kernel_rfl) (by kernel_rfl) (by kernel_rfl) (by kernel_rfl) (fun ops hops A hA => ?_)
    have hsz : A.tmps.size = 38 := by rw [hA]; rfl
    have base3 : A.eval (.tmp 3) = .slice p n cp := by rw [hA]; rfl
    have base4 : A.eval (.tmp 4) = .slice (some ⟨b, off, none⟩) m cq := by rw [hA]; rfl
    have base6 : A.eval (.tmp 6) = .pointer (some ⟨w.heap.size, 0, none⟩) := by rw [hA]; rfl
    have base7 : A.eval (.tmp 7) = .pointer (some ⟨w.heap.size + 1, 0, none⟩) := by rw [hA]; rfl
    have base12 : A.eval (.tmp 12) = .int .i64 (k : Int) := by rw [hA]; rfl
    have base13 : A.eval (.tmp 13) = .slice (some ⟨b, off, none⟩) k cq := by rw [hA]; rfl
    have HAA := Lib.hid hA; clear hA
    obtain ⟨o0, po0, q0, d0, gd0⟩ : ∃ o, ops[0]? = some o ∧ o.op = .move (.tmp 4) ∧ o.dst = some 22 ∧ o.guard = none := ⟨_, by rw [hops]; rfl, rfl, rfl, rfl⟩
    obtain ⟨o1, po1, q1, d1, gd1⟩ : ∃ o, ops[1]? = some o ∧ o.op = .move (.tmp 12) ∧ o.dst = some 23 ∧ o.guard = none := ⟨_, by rw [hops]; rfl, rfl, rfl, rfl⟩
    obtain ⟨o2, po2, q2, d2, gd2⟩ : ∃ o, ops[2]? = some o ∧ o.op = .slice 26 (.tmp 22) (some (.tmp 23)) none none ∧ o.dst = some 24 ∧ o.guard = none := ⟨_, by rw [hops]; rfl, rfl, rfl, rfl⟩
    obtain ⟨o3, po3, q3, d3, gd3⟩ : ∃ o, ops[3]? = some o ∧ o.op = .sliceToArrayPointer 46 (.tmp 24) ∧ o.dst = some 25 ∧ o.guard = none := ⟨_, by rw [hops]; rfl, rfl, rfl, rfl⟩
    obtain ⟨o4, po4, q4, d4, gd4⟩ : ∃ o, ops[4]? = some o ∧ o.op = .load 46 (.tmp 25) ∧ o.dst = some 26 ∧ o.guard = none := ⟨_, by rw [hops]; rfl, rfl, rfl, rfl⟩
    obtain ⟨o5, po5, q5, d5, gd5⟩ : ∃ o, ops[5]? = some o ∧ o.op = .load 23 (.tmp 6) ∧ o.dst = some 27 ∧ o.guard = none := ⟨_, by rw [hops]; rfl, rfl, rfl, rfl⟩
    obtain ⟨o6, po6, q6, d6, gd6⟩ : ∃ o, ops[6]? = some o ∧ o.op = .load 25 (.tmp 7) ∧ o.dst = some 28 ∧ o.guard = none := ⟨_, by rw [hops]; rfl, rfl, rfl, rfl⟩
    obtain ⟨o7, po7, q7, d7, gd7⟩ : ∃ o, ops[7]? = some o ∧ o.op = .move (.tmp 3) ∧ o.dst = some 29 ∧ o.guard = none := ⟨_, by rw [hops]; rfl, rfl, rfl, rfl⟩
    obtain ⟨o8, po8, q8, d8, gd8⟩ : ∃ o, ops[8]? = some o ∧ o.op = .move (.tmp 13) ∧ o.dst = some 30 ∧ o.guard = none := ⟨_, by rw [hops]; rfl, rfl, rfl, rfl⟩
    obtain ⟨o9, po9, q9, d9, gd9⟩ : ∃ o, ops[9]? = some o ∧ o.op = .call { callee := .value (.func 25), args := #[.tmp 27, .tmp 28, .tmp 29, .tmp 30], argTypes := #[23, 25, 26, 26] } ∧ o.dst = some 31 ∧ o.guard = none := ⟨_, by rw [hops]; rfl, rfl, rfl, rfl⟩
    obtain ⟨o10, po10, q10, d10, gd10⟩ : ∃ o, ops[10]? = some o ∧ o.op = .call { callee := .value (.func 28), args := #[.tmp 26, .tmp 31], argTypes := #[46, 46] } ∧ o.dst = some 32 ∧ o.guard = none := ⟨_, by rw [hops]; rfl, rfl, rfl, rfl⟩
    obtain ⟨o11, po11, q11, d11, gd11⟩ : ∃ o, ops[11]? = some o ∧ o.op = .unOp .not 4 (.tmp 32) ∧ o.dst = some 33 ∧ o.guard = none := ⟨_, by rw [hops]; rfl, rfl, rfl, rfl⟩
    clear hops
    refine met_free po0 d0 (wanted_of gd0) (fun w' h' => run_move q0 base4 w') ?_
    refine met_free po1 d1 (wanted_of gd1) (fun w' h' => run_move q1 ((eval_other _ 22 12 _ (by decide)).trans base12) w') ?_
    refine met_free po2 d2 (wanted_of gd2) (fun w' h' => r_fromTag q2 HK2.out HMC.out ((eval_other _ 23 22 _ (by decide)).trans (eval_same _ _ _ (by rw [hsz]; decide))) (eval_same _ _ _ (by simp only [put_size, hsz]; decide)) w') ?_
    refine met_free po3 d3 (wanted_of gd3) (fun w' h' => r_toArr q3 (eval_same _ _ _ (by simp only [put_size, hsz]; decide)) w') ?_
    refine met_free po4 d4 (wanted_of gd4) (fun w' h' => r_loadTag q4 (eval_same _ _ _ (by simp only [put_size, hsz]; decide)) HTL.out h'.tag) ?_
    refine met_free po5 d5 (wanted_of gd5) (fun w' h' => run_loadKey q5 ((eval_other _ 26 6 _ (by decide)).trans ((eval_other _ 25 6 _ (by decide)).trans ((eval_other _ 24 6 _ (by decide)).trans ((eval_other _ 23 6 _ (by decide)).trans ((eval_other _ 22 6 _ (by decide)).trans base6))))) HKL.out h'.key) ?_
    refine met_free po6 d6 (wanted_of gd6) (fun w' h' => run_loadNonce q6 ((eval_other _ 27 7 _ (by decide)).trans ((eval_other _ 26 7 _ (by decide)).trans ((eval_other _ 25 7 _ (by decide)).trans ((eval_other _ 24 7 _ (by decide)).trans ((eval_other _ 23 7 _ (by decide)).trans ((eval_other _ 22 7 _ (by decide)).trans base7)))))) HNL.out h'.nonce) ?_
    refine met_free po7 d7 (wanted_of gd7) (fun w' h' => run_move q7 ((eval_other _ 28 3 _ (by decide)).trans ((eval_other _ 27 3 _ (by decide)).trans ((eval_other _ 26 3 _ (by decide)).trans ((eval_other _ 25 3 _ (by decide)).trans ((eval_other _ 24 3 _ (by decide)).trans ((eval_other _ 23 3 _ (by decide)).trans ((eval_other _ 22 3 _ (by decide)).trans base3))))))) w') ?_
    refine met_free po8 d8 (wanted_of gd8) (fun w' h' => run_move q8 ((eval_other _ 29 13 _ (by decide)).trans ((eval_other _ 28 13 _ (by decide)).trans ((eval_other _ 27 13 _ (by decide)).trans ((eval_other _ 26 13 _ (by decide)).trans ((eval_other _ 25 13 _ (by decide)).trans ((eval_other _ 24 13 _ (by decide)).trans ((eval_other _ 23 13 _ (by decide)).trans ((eval_other _ 22 13 _ (by decide)).trans base13)))))))) w') ?_
    refine m_enter po9 d9 (wanted_of gd9) (run_callf4 q9 rfl ((eval_other _ 30 27 _ (by decide)).trans ((eval_other _ 29 27 _ (by decide)).trans ((eval_other _ 28 27 _ (by decide)).trans (eval_same _ _ _ (by simp only [put_size, hsz]; decide))))) ((eval_other _ 30 28 _ (by decide)).trans ((eval_other _ 29 28 _ (by decide)).trans (eval_same _ _ _ (by simp only [put_size, hsz]; decide)))) ((eval_other _ 30 29 _ (by decide)).trans (eval_same _ _ _ (by simp only [put_size, hsz]; decide))) (eval_same _ _ _ (by simp only [put_size, hsz]; decide)) Tryd.func25 (by kernel_rfl) _) (tagOf_any key nonce head c n k p (some ⟨b, off, none⟩) cp cq _ HKL.out HNL.out HHN.out HCL.out hH (by omega) ((HW0.out.on ((Below.refl _ _).drew)).head) (HW0.out.on ((Below.refl _ _).drew)).body (HQ.out.below (HW0.out.on ((Below.refl _ _).drew)).below hqs)) ?_
    rintro e w1 ⟨rfl, hb1⟩
    have HW1 := Lib.hid ((HW0.out.on ((Below.refl _ _).drew)).on hb1); clear hb1
    refine ⟨_, rfl, HW1.out, ?_⟩
    refine m_enter po10 d10 (wanted_of gd10) (run_callf2 q10 rfl ((eval_other _ 31 26 _ (by decide)).trans ((eval_other _ 30 26 _ (by decide)).trans ((eval_other _ 29 26 _ (by decide)).trans ((eval_other _ 28 26 _ (by decide)).trans ((eval_other _ 27 26 _ (by decide)).trans (eval_same _ _ _ (by simp only [put_size, hsz]; decide))))))) (eval_same _ _ _ (by simp only [put_size, hsz]; decide)) Tryd.func28 (by kernel_rfl) _) (sameTag_any tg (aeadTag key nonce head c) _ HTL.out (aeadTag_length _ _ _ _)) ?_
    rintro e w2 ⟨rfl, hb2⟩
    have HW2 := Lib.hid (HW1.out.on hb2); clear hb2
    refine ⟨_, rfl, HW2.out, ?_⟩
    refine met_free po11 d11 (wanted_of gd11) (fun w' h' => r_not q11 (eval_same _ _ _ (by simp only [put_size, hsz]; decide)) w') ?_
    show NoPanic _ .normal _ _
    refine NoPanic.normal ?_
    rw [HAA.out]
    go_frame
    clear HAA
    have HSB : Hid (sameB tg (aeadTag key nonce head c) = openIs key nonce head s) := show _ = _ by rw [HIS.out]; rfl
    rw [HSB.out]
    by_cases his : openIs key nonce head s = true
    · have HOY : Hid (openOf key nonce head s = xorKs key 1#32 nonce c) := show _ = _ by rw [HOF.out, if_pos his]
      have HIT := Lib.hid his
      rw [his]
      clear his HOF HIS HSB
      go_wp2_with (first
        | (refine wpList_load_row rfl 23 (.tmp 6) rfl w.heap.size rfl 23 (bytesV key).toArray (0, 0) _ HW2.out.key Tryd.underlying23 rfl HIK.out ?_)
        | (refine wpList_load_row rfl 25 (.tmp 7) rfl (w.heap.size + 1) rfl 25 (bytesV nonce).toArray (0, 0) _ HW2.out.nonce Tryd.underlying25 rfl HIN.out ?_))
      refine (ccXor_len key nonce c k 1#32 (some ⟨b, off, none⟩) cq w2 HCL.out HKL.out HNL.out (by omega) HW2.out.body (HQ.out.below HW2.out.below hqs)).mono ?_
      rintro e w3 ⟨r, cr, rfl, hr1, ho3, hb3⟩
      have HO3 := Lib.hid (ho3.lower HW2.out.below.size); clear ho3
      have HW3 := Lib.hid (HW2.out.on hb3); clear hb3
      go_wp2_with fail
      refine bodyPost_ret (v := .tuple #[.slice r k cr, .bool true]) (by simp [results, Tryd.results18, go_sem]) rfl ?_
      exact ⟨_, by rw [HIT.out], by rw [HOY.out]; exact HO3.out, HW3.out.below⟩
    · have hif : openIs key nonce head s = false := by simpa using his
      have HON : Hid (openOf key nonce head s = []) := show _ = _ by rw [HOF.out, hif]; rfl
      have HIT := Lib.hid hif
      rw [hif]
      clear his hif HOF HIS HSB
      go_wp2_with fail
      refine bodyPost_ret (v := .tuple #[.slice none 0 0, .bool false]) (by simp [results, Tryd.results18, go_sem]) rfl ?_
      exact ⟨_, by rw [HIT.out], by rw [HON.out]; exact Own.nil _ _, HW2.out.below⟩
end Go.Proofs.YtagkkihnfipfeaaDoor

/-
  The contract of the statements' own published: the chapter's key, nonce, head and text.
-/
namespace Go.Proofs.YtagkkihnfipfeaaDoor
open Go.RowKit Go.Proofs.ShaWords

def pubKey : List (BitVec 8) := (List.range 32).map fun i => BitVec.ofNat 8 (128 + i)
def pubTo (k : Nat) : List (BitVec 8) := (List.range k).map (fun i => BitVec.ofNat 8 (128 + i)) ++ noughts (32 - k)
def pubNonce : List (BitVec 8) := [7#8, 0#8, 0#8, 0#8, 64#8, 65#8, 66#8, 67#8, 68#8, 69#8, 70#8, 71#8]
def pubHead : List (BitVec 8) := [80#8, 81#8, 82#8, 83#8, 192#8, 193#8, 194#8, 195#8, 196#8, 197#8, 198#8, 199#8]
def pubText : List (BitVec 8) := [76#8, 97#8, 100#8, 105#8, 101#8, 115#8, 32#8, 97#8, 110#8, 100#8, 32#8, 71#8, 101#8, 110#8, 116#8, 108#8, 101#8, 109#8, 101#8, 110#8, 32#8, 111#8, 102#8, 32#8, 116#8, 104#8, 101#8, 32#8, 99#8, 108#8, 97#8, 115#8, 115#8, 32#8, 111#8, 102#8, 32#8, 39#8, 57#8, 57#8, 58#8, 32#8, 73#8, 102#8, 32#8, 73#8, 32#8, 99#8, 111#8, 117#8, 108#8, 100#8, 32#8, 111#8, 102#8, 102#8, 101#8, 114#8, 32#8, 121#8, 111#8, 117#8, 32#8, 111#8, 110#8, 108#8, 121#8, 32#8, 111#8, 110#8, 101#8, 32#8, 116#8, 105#8, 112#8, 32#8, 102#8, 111#8, 114#8, 32#8, 116#8, 104#8, 101#8, 32#8, 102#8, 117#8, 116#8, 117#8, 114#8, 101#8, 44#8, 32#8, 115#8, 117#8, 110#8, 115#8, 99#8, 114#8, 101#8, 101#8, 110#8, 32#8, 119#8, 111#8, 117#8, 108#8, 100#8, 32#8, 98#8, 101#8, 32#8, 105#8, 116#8, 46#8]
theorem pubTo_length (k : Nat) (hk : k ≤ 32) : (pubTo k).length = 32 := by simp [pubTo, noughts]; omega
theorem pubTo_set (k : Nat) (hk : k < 32) : (pubTo k).set k (BitVec.ofNat 8 (128 + k)) = pubTo (k + 1) := by
  unfold pubTo noughts
  obtain ⟨m, hm⟩ : ∃ m, 32 - k = m + 1 := ⟨31 - k, by omega⟩
  rw [hm, show 32 - (k + 1) = m by omega, List.set_append_right _ _ (by simp), List.range_succ, List.map_append]
  simp [List.replicate_succ]
theorem pubTo_full : pubTo 32 = pubKey := by simp [pubTo, pubKey, noughts]
def isConst : Operand → Bool
  | .const _ => true
  | _ => false
def constOf : Operand → Value
  | .const v => v
  | _ => undef
/-- A slice of bytes that is built of constants. -/
theorem run_buildBytes {ρ : Operand → Value} {o : Oper} {n : Nat} {ps : Array (Nat × Operand)} (ho : o.op = .buildSlice 26 n ps) (h0 : ∀ v, ρ (.const v) = v) (hall : ps.all (fun p => isConst p.2) = true) (l : List (BitVec 8))
    (hf : Instr.fill (fun i => some (i * 1, 1)) ((Array.range (n * 1)).map (#[Value.int .u8 0][· % 1]!)) (ps.map fun p => (p.1, constOf p.2)).toList = some (bytesV l).toArray) (hn : n ≠ 0) (hn2 : n ≤ 1000) (w : World) :
    (execOp ρ o).run Tryd.prog w = .ok (.value (.slice (some ⟨w.heap.size, 0, none⟩) n n)) (w.alloc (.cells (bytesV l).toArray 5)) := by
  obtain ⟨i, hi, hz, hs, hb⟩ := info_parts info5
  have hps : ps.map (fun (i, x) => (i, ρ x)) = ps.map fun p => (p.1, constOf p.2) := by
    apply Array.map_congr_left
    intro p hp
    have h1 := Array.all_eq_true_iff_forall_mem.1 hall p hp
    obtain ⟨k, x⟩ := p
    cases x <;> simp [isConst] at h1
    simp [constOf, h0]
  unfold execOp
  have hle : ¬ 2 ^ 24 < n * 1 := by omega
  have hne : ¬ n * 1 = 0 := by omega
  have hsz : (sizeOf 5).run Tryd.prog w = .ok 1 w := by kernel_rfl
  have hzv : (zeroValue 5).run Tryd.prog w = .ok (.int .u8 0) w := by kernel_rfl
  have hc : (Value.int .u8 0).cells = #[Value.int .u8 0] := rfl
  simp only [ho, hps, Instr.buildSlice, Sem.run_bind, run_underlying Tryd.underlying26, Result.andThen_ok, hsz, if_neg hle, if_neg hne, hzv, hc, Sem.run_pure]
  simp only [show (#[Value.int .u8 0] : Array Value).size = 1 from rfl, hf]
  simp [newRow, go_sem]
theorem slot_free {ops : Array Oper} {t : Nat} (h : ops.all (fun o => decide (o.dst ≠ some t)) = true) (i : Nat) (o : Oper) (ho : ops[i]? = some o) : o.dst ≠ some t := by
  have h1 := Array.all_eq_true_iff_forall_mem.1 h o (Array.mem_of_getElem? ho)
  simpa using h1
/-- The result's blocks, the key's. -/
structure PubW (w : World) (l : List (BitVec 8)) (wr : World) : Prop where
  res : BytesAt wr w.heap.size 23 (noughts 32)
  res2 : BytesAt wr (w.heap.size + 1) 25 (noughts 12)
  row : BytesAt wr (w.heap.size + 1 + 1) 23 l
  below : Below w.heap.size w wr
theorem PubW.on {w wr w' : World} {l : List (BitVec 8)} (h : PubW w l wr) (hb : Below wr.heap.size wr w') : PubW w l w' := ⟨h.res.keep hb, h.res2.keep hb, h.row.keep hb, h.below.trans (hb.mono h.below.size)⟩
theorem PubW.put {w wr : World} {l : List (BitVec 8)} (h : PubW w l wr) (k : Nat) (x : BitVec 8) : PubW w (l.set k x) (wr.setCell ⟨w.heap.size + 1 + 1, k, none⟩ (.int .u8 (n8 x))) :=
  ⟨h.res.putOther (by omega) _ _, h.res2.putOther (by omega) _ _, h.row.put k x, h.below.setCell (by show w.heap.size ≤ w.heap.size + 1 + 1; omega) _⟩
theorem wrap_pub (k : Nat) : IntKind.u8.wrap (128 + (k : Int)) = n8 (BitVec.ofNat 8 (128 + k)) := by
  unfold n8; rw [IntKind.wrap_u8', BitVec.toNat_ofNat]; omega
/-- What the last statement keeps. -/
structure PubS (w : World) (G : Nat) (wr : World) : Prop where
  row : BytesAt wr (w.heap.size + 1 + 1) 23 pubKey
  nonce : BytesAt wr G 25 pubNonce
  res : ∃ l, BytesAt wr w.heap.size 23 l ∧ l.length = 32
  res2 : ∃ l, BytesAt wr (w.heap.size + 1) 25 l ∧ l.length = 12
  below : Below w.heap.size w wr
/-- A block whose cells are these bytes, marked or not. -/
def Row5 (W : World) (g : Nat) (l : List (BitVec 8)) : Prop := ∃ fr, W.heap[g]? = some (.cells (bytesV l).toArray 5 fr)
def PubV (w : World) (G : Nat) : Nat → Value → World → Prop
  | 0, u, _ => u = .agg (bytesV pubKey).toArray
  | 1, u, _ => u = .agg (bytesV pubNonce).toArray
  | 2, u, W => ∃ g, u = .slice (some ⟨g, 0, none⟩) 12 12 ∧ G < g ∧ Row5 W g pubHead
  | 3, u, W => ∃ g, u = .slice (some ⟨g, 0, none⟩) 114 114 ∧ G < g ∧ Row5 W g pubText
  | 4, u, W => ∃ g, u = .slice (some ⟨g, 0, none⟩) 114 114 ∧ G < g ∧ Row5 W g pubText
  | 5, _, W => BytesAt W w.heap.size 23 pubKey
  | 6, _, W => BytesAt W (w.heap.size + 1) 25 pubNonce
  | 7, u, W => ∃ g, u = .slice (some ⟨g, 0, none⟩) 12 12 ∧ G < g ∧ Row5 W g pubHead
  | 8, u, W => ∃ g, u = .slice (some ⟨g, 0, none⟩) 114 114 ∧ G < g ∧ Row5 W g pubText
  | _, _, _ => True
def PubR (w : World) (G : Nat) (W W' : World) : Prop := (∀ g l, G < g → Row5 W g l → Row5 W' g l) ∧ (BytesAt W w.heap.size 23 pubKey → BytesAt W' w.heap.size 23 pubKey) ∧ (BytesAt W (w.heap.size + 1) 25 pubNonce → BytesAt W' (w.heap.size + 1) 25 pubNonce)
theorem PubR.refl (w : World) (G : Nat) (W : World) : PubR w G W W := ⟨fun _ _ _ h => h, id, id⟩
theorem Row5.past {W W' : World} {g r : Nat} {l : List (BitVec 8)} (h : Row5 W g l) (hg : W.grownBy W' (some r)) (hne : g ≠ r) : Row5 W' g l := by
  obtain ⟨fr, h⟩ := h
  exact ⟨fr, (hg.block _ (Array.getElem?_eq_some_iff.1 h).1 (fun e => hne (Option.some.inj e))).trans h⟩
theorem PubR.of_below {w W W' : World} {G : Nat} (h : Below W.heap.size W W') : PubR w G W W' := ⟨fun _ _ _ ⟨fr, h'⟩ => ⟨fr, (h.block _ (Array.getElem?_eq_some_iff.1 h').1).trans h'⟩, fun h' => h'.keep h, fun h' => h'.keep h⟩
theorem pubV_on (w : World) (G i : Nat) (u : Value) (W W' : World) (h : PubR w G W W') (hv : PubV w G i u W) : PubV w G i u W' := by
  match i, hv with
  | 0, hv => exact hv
  | 1, hv => exact hv
  | 2, ⟨g, h1, h2, h3⟩ => exact ⟨g, h1, h2, h.1 g _ h2 h3⟩
  | 3, ⟨g, h1, h2, h3⟩ => exact ⟨g, h1, h2, h.1 g _ h2 h3⟩
  | 4, ⟨g, h1, h2, h3⟩ => exact ⟨g, h1, h2, h.1 g _ h2 h3⟩
  | 5, hv => exact h.2.1 hv
  | 6, hv => exact h.2.2 hv
  | 7, ⟨g, h1, h2, h3⟩ => exact ⟨g, h1, h2, h.1 g _ h2 h3⟩
  | 8, ⟨g, h1, h2, h3⟩ => exact ⟨g, h1, h2, h.1 g _ h2 h3⟩
  | _ + 9, _ => trivial
theorem PubS.on {w W W' : World} {G : Nat} (h : PubS w G W) (hb : Below W.heap.size W W') : PubS w G W' :=
  ⟨h.row.keep hb, h.nonce.keep hb, h.res.imp fun _ x => ⟨x.1.keep hb, x.2⟩, h.res2.imp fun _ x => ⟨x.1.keep hb, x.2⟩, h.below.trans (hb.mono h.below.size)⟩
theorem PubS.past {w W W' : World} {G g : Nat} (h : PubS w G W) (h2 : W.grownBy W' (some g)) (hg : G < g) (hG : w.heap.size + 1 + 1 < G) : PubS w G W' :=
  ⟨h.row.past h2 (by omega), h.nonce.past h2 (by omega), h.res.imp fun _ x => ⟨x.1.past h2 (by omega), x.2⟩, h.res2.imp fun _ x => ⟨x.1.past h2 (by omega), x.2⟩, h.below.grown h2 h.below.size (fun k hk => by cases hk; omega)⟩
theorem wpOp_value {P : Program} {ops : Array Oper} {Q : Exit → Act → World → Prop} {i : Nat} {K : Act → World → Prop} {a : Act} {w w' : World} {o : Oper} {v : Value} (ho : ops[i]? = some o) (hg : o.guard = none) (hr : (execOp a.eval o).run P w = .ok (.value v) w') (h : K (a.put o.dst v) w') : wpOp P ops Q i K a w := by
  refine wpOp_of_wp ho hg ?_
  unfold Oper.wp
  rw [hr, Oper.upon_value]
  exact h
/-- '[]byte(..)' of a constant: the row's mark alone is turned. -/
theorem run_conv26 {ρ : Operand → Value} {o : Oper} {x : Operand} {g n c : Nat} {C : Array Value} {fr : Nat × Nat} (ho : o.op = .convert 26 26 x) (hx : ρ x = .slice (some ⟨g, 0, none⟩) n c) (w : World) (hg : w.heap[g]? = some (.cells C 5 fr)) :
    ∃ w' fr', (execOp ρ o).run Tryd.prog w = .ok (.value (.slice (some ⟨g, 0, none⟩) n c)) w' ∧ w'.heap[g]? = some (.cells C 5 fr') ∧ w.grownBy w' (some g) := by
  have hsh : w.shape? g = some (5, C.size) := by unfold World.shape?; rw [hg]
  have hrun : (convert 26 26 (.slice (some ⟨g, 0, none⟩) n c)).run Tryd.prog w = .ok (.slice (some ⟨g, 0, none⟩) n c) (w.freeze ⟨g, C.size, none⟩ 1) := by
    simp [convert, run_underlying Tryd.underlying26, run_underlying Tryd.underlying5, markStringish, hsh]
  have hlt : g < w.heap.size := (Array.getElem?_eq_some_iff.1 hg).1
  have hv : w.heap[g] = .cells C 5 fr := (Array.getElem?_eq_some_iff.1 hg).2
  obtain ⟨lo, hi⟩ := fr
  refine ⟨w.freeze ⟨g, C.size, none⟩ 1, if lo == hi then (C.size, C.size + 1) else (min lo C.size, max hi (C.size + 1)), ?_, ?_, ?_⟩
  · unfold execOp
    simp only [ho, hx, Sem.run_bind, hrun, Result.andThen_ok, Sem.run_pure]
  · unfold World.freeze
    rw [if_neg (by decide)]
    show (w.heap.modify g _)[g]? = _
    rw [Array.getElem?_modify, if_pos rfl, hg]
    rfl
  · unfold World.freeze
    rw [if_neg (by decide)]
    refine ⟨rfl, rfl, rfl, by simp, fun k hk hne => ?_⟩
    show (w.heap.modify g _)[k]? = _
    rw [Array.getElem?_modify, if_neg (fun e => hne (by rw [e]))]
theorem act_ext {a : Act} {N : Nat} {X : Array Value} {D : List Deferred} (h1 : a.tmps.size = N) (h2 : X.size = N) (h3 : a.defers = D) (h : ∀ t, t < N → a.tmps.getD t undef = X.getD t undef) : a = { tmps := X, defers := D } := by
  obtain ⟨tm, df⟩ := a
  simp only at h1 h3 h
  subst h3
  have : tm = X := by
    apply Array.ext (by omega)
    intro i hi hj
    have := h i (by omega)
    simpa [hi, hj] using this
  rw [this]
attribute [local irreducible] pubTo pubKey pubText pubHead pubNonce
set_option maxRecDepth 100000 in
set_option maxHeartbeats 2000000 in
theorem aePub_any (w : World) : Calls Tryd.prog 22 #[] w fun e w' => ∃ g h, e = .returned (.tuple #[.agg (bytesV pubKey).toArray, .agg (bytesV pubNonce).toArray, .slice (some ⟨g, 0, none⟩) 12 12, .slice (some ⟨h, 0, none⟩) 114 114]) ∧
    Row5 w' g pubHead ∧ Row5 w' h pubText ∧ w.heap.size ≤ g ∧ w.heap.size ≤ h ∧ Below w.heap.size w w' := by
  have HZ : Hid (pubTo 0 = noughts 32) := show _ = _ by unfold pubTo; rfl
  go_enter Tryd.func22, Tryd.ntmps22
  go_upto_region 3 with (fail)
  refine wp_gen (PubW w (pubTo 0)) ⟨?_, ?_, ?_, alloc3_below _ _ _ _⟩ ?_
  · exact alloc3_1 _ (.cells (bytesV (noughts 32)).toArray _) _ _
  · exact alloc3_2 _ _ (.cells (bytesV (noughts 12)).toArray _) _
  · rw [HZ.out]; exact alloc3_3 _ _ _ (.cells (bytesV (noughts 32)).toArray _)
  intro w0 hw0
  have HW0 := Lib.hid hw0; clear hw0
  go_wp2_with fail
  go_loopw [5] (fun i wr => ∃ k : Nat, k ≤ 32 ∧ i = .int .i64 (k : Int) ∧ PubW w (pubTo k) wr) (fun i _ => 32 - (intOf i).toNat)
  case atStart => exact ⟨0, by omega, rfl, HW0.out⟩
  case round =>
    clear HW0
    obtain ⟨k, hk, rfl, hw⟩ := hrel
    by_cases hlt : k < 32
    · have e0 := hw.row.cell k (by rw [pubTo_length k hk]; exact hlt)
      have f0 := hw.row.frozenAt k
      have HS := Lib.hid (pubTo_set k hlt)
      have hwr := wrap_pub k
      have HW := Lib.hid hw; clear hw
      have q0 : (k : Int) < 32 := by omega
      have m0 : IntKind.i64.wrap (128 + (k : Int)) = 128 + (k : Int) := IntWalk.i64_in _ (by omega)
      go_wp2_with fail
      go_roundw
      case rel => exact ⟨k + 1, by omega, by go_num, by rw [← HS.out]; exact HW.out.put _ _⟩
      case measure => simp [intOf]; omega
    · have HK : Hid (k = 32) := show k = 32 by omega
      have HW : Hid (PubW w pubKey wr) := show PubW _ _ _ by rw [← pubTo_full, ← HK.out]; exact hw
      clear hw
      have HNL : Hid (pubNonce.length = 12) := show _ = _ by unfold pubNonce; rfl
      have HKL : Hid (pubKey.length = 32) := show _ = _ by unfold pubKey; rfl
      have HI := Lib.hid (infoNonce _ HNL.out)
      have HIK := Lib.hid (infoKey _ HKL.out)
      have HOLD := Lib.hid (show (bytesV (noughts 12)).toArray.size = (bytesV pubNonce).toArray.size by rw [bytesV_size _ 12 HNL.out, bytesV_size _ 12 (noughts_length 12)])
      have HONE := Lib.hid (bytesV_one pubNonce)
      have sz : w.heap.size + 1 + 1 < wr.heap.size := HW.out.row.size
      go_upto_region 7 with (first
        | (refine wpList_build_eq rfl 25 #[(0, .const (.int .u8 7)), (1, .const (.int .u8 0)), (2, .const (.int .u8 0)), (3, .const (.int .u8 0)), (4, .const (.int .u8 64)), (5, .const (.int .u8 65)), (6, .const (.int .u8 66)), (7, .const (.int .u8 67)), (8, .const (.int .u8 68)), (9, .const (.int .u8 69)), (10, .const (.int .u8 70)), (11, .const (.int .u8 71))] rfl (bytesV pubNonce).toArray (by kernel_rfl) ?_)
        | (refine wpList_store_new rfl 25 (.tmp 6) (.tmp 16) rfl wr.heap.size rfl (bytesV pubNonce).toArray rfl rfl HI.out (by exact HOLD.out) HONE.out ?_; intro w2 h2 b2; have HK2 := Lib.hid (show BytesAt w2 wr.heap.size 25 pubNonce from h2); have HW2 := Lib.hid (HW.out.on b2); clear h2 b2))
      clear HW
      generalize wr.heap.size = G at HK2 sz ⊢
      refine region_facts (PubS w G) (PubR w G) (PubV w G) (by kernel_rfl) (by kernel_rfl) (by kernel_rfl) (by kernel_rfl)
        ⟨HW2.out.row, HK2.out, ⟨_, HW2.out.res, noughts_length 32⟩, ⟨_, HW2.out.res2, noughts_length 12⟩, HW2.out.below.trans (((Below.refl _ _).drew).mono HW2.out.below.size)⟩ (fun i u W W' _ h hv => pubV_on w G i u W W' h hv) ?_ ?_
      · intro i o A W ho hS hslot hdep
        have s4 : A.eval (.tmp 4) = .pointer (some ⟨w.heap.size + 1 + 1, 0, none⟩) := hslot 4 (slot_free (by kernel_rfl))
        have s6 : A.eval (.tmp 6) = .pointer (some ⟨G, 0, none⟩) := hslot 6 (slot_free (by kernel_rfl))
        have s0 : A.eval (.tmp 0) = .pointer (some ⟨w.heap.size, 0, none⟩) := hslot 0 (slot_free (by kernel_rfl))
        have s1 : A.eval (.tmp 1) = .pointer (some ⟨w.heap.size + 1, 0, none⟩) := hslot 1 (slot_free (by kernel_rfl))
        have sW : G < W.heap.size := hS.nonce.size
        clear hslot
        match i, ho with
        | 0, ho =>
          cases ho
          refine wpOp_value rfl rfl (run_loadKey rfl s4 HKL.out hS.row) ⟨_, rfl, hS, PubR.refl _ _ _, ?_⟩
          rintro u rfl; rfl
        | 1, ho =>
          cases ho
          refine wpOp_value rfl rfl (run_loadNonce rfl s6 HNL.out hS.nonce) ⟨_, rfl, hS, PubR.refl _ _ _, ?_⟩
          rintro u rfl; rfl
        | 2, ho =>
          cases ho
          refine wpOp_value rfl rfl (run_buildBytes rfl (fun _ => rfl) (by kernel_rfl) pubHead (by kernel_rfl) (by omega) (by omega) W) ⟨_, rfl, hS.on ((Below.refl _ _).alloc (Nat.le_refl _) _), PubR.of_below ((Below.refl _ _).alloc (Nat.le_refl _) _), ?_⟩
          rintro u rfl; exact ⟨_, rfl, sW, _, heap_new_at rfl⟩
        | 3, ho =>
          cases ho
          refine wpOp_value rfl rfl (run_buildBytes rfl (fun _ => rfl) (by kernel_rfl) pubText (by kernel_rfl) (by omega) (by omega) W) ⟨_, rfl, hS.on ((Below.refl _ _).alloc (Nat.le_refl _) _), PubR.of_below ((Below.refl _ _).alloc (Nat.le_refl _) _), ?_⟩
          rintro u rfl; exact ⟨_, rfl, sW, _, heap_new_at rfl⟩
        | 4, ho =>
          have hop : o.op = .convert 26 26 (.tmp 20) ∧ o.dst = some 21 ∧ o.guard = none := by cases ho; exact ⟨rfl, rfl, rfl⟩
          obtain ⟨g, hu, hg, hb⟩ : ∃ g, A.eval (.tmp 20) = .slice (some ⟨g, 0, none⟩) 114 114 ∧ G < g ∧ Row5 W g pubText := hdep ⟨3, .data⟩ (by cases ho; simp) rfl _ rfl
          obtain ⟨fr, hb⟩ := hb
          obtain ⟨w', fr', hr, h1, h2⟩ := run_conv26 hop.1 hu W hb
          have HR : PubR w G W w' := ⟨fun g' l hg' h' => by
            by_cases e : g' = g
            · subst e
              obtain ⟨f0, h0⟩ := h'
              rw [hb] at h0
              have e1 := (Obj.cells.inj (Option.some.inj h0)).1
              exact ⟨fr', by rw [h1, e1]⟩
            · exact h'.past h2 e, fun h' => h'.past h2 (by omega), fun h' => h'.past h2 (by omega)⟩
          refine wpOp_value ho hop.2.2 hr ⟨_, rfl, hS.past h2 (by omega) sz, HR, ?_⟩
          rintro u rfl; rw [hop.2.1]; exact ⟨g, rfl, hg, fr', h1⟩
        | 5, ho =>
          cases ho
          have hu : A.eval (.tmp 17) = .agg (bytesV pubKey).toArray := hdep ⟨0, .data⟩ (by simp) rfl _ rfl
          obtain ⟨l, hl, hll⟩ := hS.res
          refine wpOp_of_wp rfl rfl (wp_store_row 23 _ _ rfl w.heap.size _ s0 hu 23 _ hl HIK.out (by rw [bytesV_size _ 32 hll, bytesV_size _ 32 HKL.out]) (bytesV_one _) ?_)
          have h2 := grown_setRow W w.heap.size (bytesV pubKey).toArray
          have h1 : BytesAt (W.setRow w.heap.size (bytesV pubKey).toArray) w.heap.size 23 pubKey := setRow_heap _ _ _ _ _ _ hl
          refine ⟨_, rfl, ?_, ⟨fun g' l hg' h' => h'.past h2 (by omega), fun _ => h1, fun h' => h'.past h2 (by omega)⟩, ?_⟩
          · obtain ⟨l2, hl2, hll2⟩ := hS.res2
            exact ⟨hS.row.past h2 (by omega), hS.nonce.past h2 (by omega), ⟨_, h1, HKL.out⟩, ⟨l2, hl2.past h2 (by omega), hll2⟩, below_setRow hS.below (Nat.le_refl _) _⟩
          · rintro u rfl; exact h1
        | 6, ho =>
          cases ho
          have hu : A.eval (.tmp 18) = .agg (bytesV pubNonce).toArray := hdep ⟨1, .data⟩ (by simp) rfl _ rfl
          obtain ⟨l, hl, hll⟩ := hS.res2
          refine wpOp_of_wp rfl rfl (wp_store_row 25 _ _ rfl (w.heap.size + 1) _ s1 hu 25 _ hl HI.out (by rw [bytesV_size _ 12 hll, bytesV_size _ 12 HNL.out]) (bytesV_one _) ?_)
          have h2 := grown_setRow W (w.heap.size + 1) (bytesV pubNonce).toArray
          have h1 : BytesAt (W.setRow (w.heap.size + 1) (bytesV pubNonce).toArray) (w.heap.size + 1) 25 pubNonce := setRow_heap _ _ _ _ _ _ hl
          refine ⟨_, rfl, ?_, ⟨fun g' l hg' h' => h'.past h2 (by omega), fun h' => h'.past h2 (by omega), fun _ => h1⟩, ?_⟩
          · obtain ⟨l2, hl2, hll2⟩ := hS.res
            exact ⟨hS.row.past h2 (by omega), hS.nonce.past h2 (by omega), ⟨l2, hl2.past h2 (by omega), hll2⟩, ⟨_, h1, HNL.out⟩, below_setRow hS.below (by omega) _⟩
          · rintro u rfl; exact h1
        | 7, ho =>
          cases ho
          obtain ⟨g, hu, hg, hb⟩ : ∃ g, A.eval (.tmp 19) = .slice (some ⟨g, 0, none⟩) 12 12 ∧ G < g ∧ Row5 W g pubHead := hdep ⟨2, .data⟩ (by simp) rfl _ rfl
          refine wpOp_value rfl rfl (run_assign rfl hu W) ⟨_, rfl, hS, PubR.refl _ _ _, ?_⟩
          rintro u rfl; exact ⟨g, rfl, hg, hb⟩
        | 8, ho =>
          cases ho
          obtain ⟨g, hu, hg, hb⟩ : ∃ g, A.eval (.tmp 21) = .slice (some ⟨g, 0, none⟩) 114 114 ∧ G < g ∧ Row5 W g pubText := hdep ⟨4, .data⟩ (by simp) rfl _ rfl
          refine wpOp_value rfl rfl (run_assign rfl hu W) ⟨_, rfl, hS, PubR.refl _ _ _, ?_⟩
          rintro u rfl; exact ⟨g, rfl, hg, hb⟩
        | n + 9, ho => simp at ho
      · intro A W hS hD hN hslot hfact
        have s0 : A.tmps.getD 0 undef = .pointer (some ⟨w.heap.size, 0, none⟩) := hslot 0 (slot_free (by kernel_rfl))
        have s1 : A.tmps.getD 1 undef = .pointer (some ⟨w.heap.size + 1, 0, none⟩) := hslot 1 (slot_free (by kernel_rfl))
        obtain ⟨g, s2, hg, hr2⟩ : ∃ g, A.tmps.getD 2 undef = .slice (some ⟨g, 0, none⟩) 12 12 ∧ G < g ∧ Row5 W g pubHead := hfact 7 _ rfl
        obtain ⟨h, s3, hh, hr3⟩ : ∃ g, A.tmps.getD 3 undef = .slice (some ⟨g, 0, none⟩) 114 114 ∧ G < g ∧ Row5 W g pubText := hfact 8 _ rfl
        have b0 : BytesAt W w.heap.size 23 pubKey := hfact 5 _ rfl
        have b1 : BytesAt W (w.heap.size + 1) 25 pubNonce := hfact 6 _ rfl
        have hA : A = { tmps := #[.pointer (some ⟨w.heap.size, 0, none⟩), .pointer (some ⟨w.heap.size + 1, 0, none⟩), .slice (some ⟨g, 0, none⟩) 12 12, .slice (some ⟨h, 0, none⟩) 114 114, A.tmps.getD 4 undef, A.tmps.getD 5 undef, A.tmps.getD 6 undef, A.tmps.getD 7 undef, A.tmps.getD 8 undef, A.tmps.getD 9 undef, A.tmps.getD 10 undef, A.tmps.getD 11 undef, A.tmps.getD 12 undef, A.tmps.getD 13 undef, A.tmps.getD 14 undef, A.tmps.getD 15 undef, A.tmps.getD 16 undef, A.tmps.getD 17 undef, A.tmps.getD 18 undef, A.tmps.getD 19 undef, A.tmps.getD 20 undef, A.tmps.getD 21 undef], defers := [] } := act_ext (N := 22) hN rfl hD fun t ht => match t, ht with
          | 0, _ => s0
          | 1, _ => s1
          | 2, _ => s2
          | 3, _ => s3
          | 4, _ => rfl
          | 5, _ => rfl
          | 6, _ => rfl
          | 7, _ => rfl
          | 8, _ => rfl
          | 9, _ => rfl
          | 10, _ => rfl
          | 11, _ => rfl
          | 12, _ => rfl
          | 13, _ => rfl
          | 14, _ => rfl
          | 15, _ => rfl
          | 16, _ => rfl
          | 17, _ => rfl
          | 18, _ => rfl
          | 19, _ => rfl
          | 20, _ => rfl
          | 21, _ => rfl
          | n + 22, h => absurd h (by omega)
        have HB := Lib.hid hS.below
        rw [hA]
        clear hA hD hN hslot hfact
        generalize A.tmps.getD 4 undef = x4
        go_wp2_with fail
        refine bodyPost_ret (v := .tuple #[.agg (bytesV pubKey).toArray, .agg (bytesV pubNonce).toArray, .slice (some ⟨g, 0, none⟩) 12 12, .slice (some ⟨h, 0, none⟩) 114 114]) ?_ rfl ?_
        · have r0 := run_loadVar_row (P := Tryd.prog) W w.heap.size 23 23 _ _ _ b0 Tryd.underlying23 rfl HIK.out
          have r1 := run_loadVar_row (P := Tryd.prog) W (w.heap.size + 1) 25 25 _ _ _ b1 Tryd.underlying25 rfl HI.out
          simp [results, Tryd.results22, asAddr, r0, r1]
        · exact ⟨g, h, rfl, hr2, hr3, by omega, by omega, HB.out⟩
end Go.Proofs.YtagkkihnfipfeaaDoor

/-
  The published row, and back.
-/
namespace Go.Proofs.YtagkkihnfipfeaaDoor
open Go.RowKit Go.Proofs.ShaWords

/-- What was sealed opens, to what it was made of. -/
theorem openC_seal (key nonce head plain : List (BitVec 8)) : openC (sealOf key nonce head plain) = xorKs key 1#32 nonce plain := by
  unfold openC
  rw [sealOf_length, sealOf, Nat.add_sub_cancel, List.take_append_of_le_length (by rw [xorKs_length]; exact Nat.le_refl _), List.take_of_length_le (by rw [xorKs_length]; exact Nat.le_refl _)]
theorem tag_seal (key nonce head plain : List (BitVec 8)) : (sealOf key nonce head plain).drop plain.length = aeadTag key nonce head (xorKs key 1#32 nonce plain) := by
  unfold sealOf
  rw [List.drop_append, List.drop_of_length_le (by rw [xorKs_length]; exact Nat.le_refl _), xorKs_length, Nat.sub_self]; simp
theorem openIs_seal (key nonce head plain : List (BitVec 8)) : openIs key nonce head (sealOf key nonce head plain) = true := by
  unfold openIs
  rw [openC_seal, sealOf_length, Nat.add_sub_cancel, tag_seal]
  simp
theorem openOf_seal (key nonce head plain : List (BitVec 8)) : openOf key nonce head (sealOf key nonce head plain) = plain := by
  unfold openOf
  rw [if_pos (openIs_seal _ _ _ _), openC_seal, xorKs_twice]
def pubFirst : List (BitVec 8) := [0xD3#8, 0x1A#8, 0x8D#8, 0x34#8, 0x64#8, 0x8E#8, 0x60#8, 0xDB#8, 0x7B#8, 0x86#8, 0xAF#8, 0xBC#8, 0x53#8, 0xEF#8, 0x7E#8, 0xC2#8]
def pubLast : List (BitVec 8) := [0x1A#8, 0xE1#8, 0x0B#8, 0x59#8, 0x4F#8, 0x09#8, 0xE2#8, 0x6A#8, 0x7E#8, 0x90#8, 0x2E#8, 0xCB#8, 0xD0#8, 0x60#8, 0x06#8, 0x91#8]
theorem pub_first : (sealOf pubKey pubNonce pubHead pubText).take 16 = pubFirst := by decide +kernel
theorem pub_last : (sealOf pubKey pubNonce pubHead pubText).drop 114 = pubLast := by decide +kernel
end Go.Proofs.YtagkkihnfipfeaaDoor

/-
  The contract of the statements' own works: the published row, and back: it returns true, and nothing that was there changes.
-/
namespace Go.Proofs.YtagkkihnfipfeaaDoor
open Go.RowKit Go.Proofs.ShaWords

theorem run_callf5 {P : Program} {ρ : Operand → Value} {o : Oper} {f : FuncId} {fn : Func} {T : Array TypeId} {x0 x1 x2 x3 x4 : Operand} {v0 v1 v2 v3 v4 : Value} (ho : o.op = .call { callee := .value (.func f), args := #[x0, x1, x2, x3, x4], argTypes := T }) (hf : ρ (.func f) = .func (.func f) #[] #[]) (h0 : ρ x0 = v0) (h1 : ρ x1 = v1) (h2 : ρ x2 = v2) (h3 : ρ x3 = v3) (h4 : ρ x4 = v4) (hfn : P.funcs[f]? = some fn) (hb : (fn.name == "runtime.NumGoroutine" || fn.body.isNone) = false) (w : World) : (execOp ρ o).run P w = .ok (.enter f #[v0, v1, v2, v3, v4]) w := by
  obtain ⟨dst, op, ty, pos, after, guard⟩ := o
  simp only at ho
  subst ho
  have h := callFunc_body hfn hb #[v0, v1, v2, v3, v4] w
  go_simp
set_option maxRecDepth 100000 in
theorem new_any (w : World) : Calls Tryd.prog 11 #[] w fun e w' => ∃ v, e = .returned v ∧ Below w.heap.size w w' := by
  go_enter Tryd.func11, Tryd.ntmps11
  go_wp2_with fail
  go_ret
  exact ⟨_, rfl, (Below.refl _ _).alloc (Nat.le_refl _) _⟩
theorem alloc2_1 (w : World) (a b : Obj) : ((w.alloc a).alloc b).heap[w.heap.size]? = some a := by
  rw [Below.heap_alloc _ _ _ (by rw [size_alloc]; omega)]; exact heap_new_at rfl
theorem alloc2_2 (w : World) (a b : Obj) : ((w.alloc a).alloc b).heap[w.heap.size + 1]? = some b := heap_new_at (by rw [size_alloc])
theorem Row5.lies {W : World} {g : Nat} {l : List (BitVec 8)} (h : Row5 W g l) : Lies W (some ⟨g, 0, none⟩) l := by
  obtain ⟨fr, h⟩ := h
  exact Or.inr ⟨g, 0, rfl, range_bytesV h⟩
/-- The key, the nonce, the head, the text. -/
structure WkW (w : World) (G gh gt : Nat) (wr : World) : Prop where
  key : BytesAt wr G 23 pubKey
  nonce : BytesAt wr (G + 1) 25 pubNonce
  head : Lies wr (some ⟨gh, 0, none⟩) pubHead
  text : Lies wr (some ⟨gt, 0, none⟩) pubText
  below : Below w.heap.size w wr
theorem WkW.on {w wr w' : World} {G gh gt : Nat} (h : WkW w G gh gt wr) (hb : Below wr.heap.size wr w') : WkW w G gh gt w' := ⟨h.key.keep hb, h.nonce.keep hb, h.head.below hb, h.text.below hb, h.below.trans (hb.mono h.below.size)⟩
/-- And what was sealed. -/
structure WkS (w : World) (G gh gt gs : Nat) (wr : World) : Prop where
  wk : WkW w G gh gt wr
  sealed : Lies wr (some ⟨gs, 0, none⟩) (sealOf pubKey pubNonce pubHead pubText)
theorem WkS.on {w wr w' : World} {G gh gt gs : Nat} (h : WkS w G gh gt gs wr) (hb : Below wr.heap.size wr w') : WkS w G gh gt gs w' := ⟨h.wk.on hb, h.sealed.below hb⟩
theorem pubFirst_vals : (bytesV pubFirst).toArray = #[.int .u8 211, .int .u8 26, .int .u8 141, .int .u8 52, .int .u8 100, .int .u8 142, .int .u8 96, .int .u8 219, .int .u8 123, .int .u8 134, .int .u8 175, .int .u8 188, .int .u8 83, .int .u8 239, .int .u8 126, .int .u8 194] := by kernel_rfl
theorem pubLast_vals : (bytesV pubLast).toArray = #[.int .u8 26, .int .u8 225, .int .u8 11, .int .u8 89, .int .u8 79, .int .u8 9, .int .u8 226, .int .u8 106, .int .u8 126, .int .u8 144, .int .u8 46, .int .u8 203, .int .u8 208, .int .u8 96, .int .u8 6, .int .u8 145] := by kernel_rfl
theorem lies_take {W : World} {p : Option Addr} {l : List (BitVec 8)} (h : Lies W p l) (k : Nat) : Lies W p (l.take k) := by
  rcases h with h0 | ⟨b, off, rfl, hr⟩
  · exact Or.inl (by rw [h0]; simp)
  · refine Or.inr ⟨b, off, rfl, fun j v hv => hr j v ?_⟩
    rw [bytesV_take, List.getElem?_take] at hv
    split at hv
    · exact hv
    · cases hv
theorem lies_drop {W : World} {b off : Nat} {l : List (BitVec 8)} (h : Lies W (some ⟨b, off, none⟩) l) (k : Nat) : Lies W (some ⟨b, off + k, none⟩) (l.drop k) := by
  rcases h with h0 | ⟨b2, off2, h1, hr⟩
  · exact Or.inl (by rw [h0]; simp)
  · cases h1
    exact Or.inr ⟨b, off + k, rfl, range_drop hr⟩
attribute [local irreducible] pubKey pubText pubHead pubNonce sealOf openOf openIs pubFirst pubLast
set_option maxRecDepth 100000 in
set_option maxHeartbeats 4000000 in
theorem works5_any (w : World) (hq : Quads w) : Calls Tryd.prog 9 #[] w fun e w' => e = .returned (.bool true) ∧ Below w.heap.size w w' := by
  have hqs := hq.size
  have HQ := Lib.hid hq; clear hq
  have HNL : Hid (pubNonce.length = 12) := show _ = _ by unfold pubNonce; rfl
  have HKL : Hid (pubKey.length = 32) := show _ = _ by unfold pubKey; rfl
  have HHL : Hid (pubHead.length = 12) := show _ = _ by unfold pubHead; rfl
  have HTL : Hid (pubText.length = 114) := show _ = _ by unfold pubText; rfl
  have HSL : Hid ((sealOf pubKey pubNonce pubHead pubText).length = 130) := show _ = _ by rw [sealOf_length, HTL.out]
  have HFL : Hid (pubFirst.length = 16) := show _ = _ by unfold pubFirst; rfl
  have HLL : Hid (pubLast.length = 16) := show _ = _ by unfold pubLast; rfl
  have HF := Lib.hid pub_first
  have HL := Lib.hid pub_last
  have HIS := Lib.hid (openIs_seal pubKey pubNonce pubHead pubText)
  have HOF := Lib.hid (openOf_seal pubKey pubNonce pubHead pubText)
  have HI := Lib.hid (infoNonce _ HNL.out)
  have HIK := Lib.hid (infoKey _ HKL.out)
  have HK2 := Lib.hid (show (bytesV (noughts 32)).toArray.size = (bytesV pubKey).toArray.size by rw [bytesV_size _ 32 HKL.out, bytesV_size _ 32 (noughts_length 32)])
  have HN2 := Lib.hid (show (bytesV (noughts 12)).toArray.size = (bytesV pubNonce).toArray.size by rw [bytesV_size _ 12 HNL.out, bytesV_size _ 12 (noughts_length 12)])
  have HONE := Lib.hid (bytesV_one pubKey)
  have HONE2 := Lib.hid (bytesV_one pubNonce)
  go_enter Tryd.func9, Tryd.ntmps9
  go_upto_region 2 with (first
    | (go_at_call 22; refine (aePub_any _).mono ?_; rintro e w1 ⟨gh, gt, rfl, hh1, ht1, hgh, hgt, hb1⟩; have HH1 := Lib.hid hh1.lies; have HT1 := Lib.hid ht1.lies; have HB1 := Lib.hid hb1; clear hh1 ht1 hb1)
    | (refine wpList_store_row rfl 23 (.tmp 1) (.tmp 10) rfl w1.heap.size (bytesV pubKey).toArray rfl rfl 23 (bytesV (noughts 32)).toArray (by exact alloc2_1 _ _ _) HIK.out (by exact HK2.out) HONE.out ?_)
    | (refine wpList_store_row rfl 25 (.tmp 2) (.tmp 11) rfl (w1.heap.size + 1) (bytesV pubNonce).toArray rfl rfl 25 (bytesV (noughts 12)).toArray (by rw [setRow_other _ _ _ _ (by omega)]; exact alloc2_2 _ _ _) HI.out (by exact HN2.out) HONE2.out ?_))
  have sz1 : w.heap.size ≤ w1.heap.size := HB1.out.size
  refine wp_gen (WkW w w1.heap.size gh gt) ⟨?_, ?_, ?_, ?_, ?_⟩ ?_
  · show _ = _
    rw [setRow_other _ _ _ _ (by omega)]
    exact setRow_heap _ _ _ _ _ _ (alloc2_1 _ _ _)
  · exact setRow_heap _ _ _ _ _ _ (by rw [setRow_other _ _ _ _ (by omega)]; exact alloc2_2 _ _ _)
  · exact HH1.out.below (below_setRow (below_setRow (((Below.refl _ _).alloc (Nat.le_refl _) _).alloc (by rw [size_alloc]; omega) _) (Nat.le_refl _) _) (by omega) _)
  · exact HT1.out.below (below_setRow (below_setRow (((Below.refl _ _).alloc (Nat.le_refl _) _).alloc (by rw [size_alloc]; omega) _) (Nat.le_refl _) _) (by omega) _)
  · exact HB1.out.trans ((below_setRow (below_setRow (((Below.refl _ _).alloc (Nat.le_refl _) _).alloc (by rw [size_alloc]; omega) _) (Nat.le_refl _) _) (by omega) _).mono sz1)
  intro w2 hw2
  have HW2 := Lib.hid hw2; clear hw2 HB1 HH1 HT1
  generalize w1.heap.size = G at HW2 sz1 ⊢
  refine region_phase (WkW w G gh gt) (fun _ => True) 0 (HW2.out.on ((Below.refl _ _).drew)) trivial [(1, .free), (2, .free), (3, .free), (4, .free), (0, .behind), (5, .behind), (6, .free)] (by kernel_rfl) (by kernel_rfl) (by kernel_rfl) (by kernel_rfl) (fun ops hops A hA => ?_)
  have hsz : A.tmps.size = 51 := by rw [hA]; rfl
  have base1 : A.eval (.tmp 1) = .pointer (some ⟨G, 0, none⟩) := by rw [hA]; rfl
  have base2 : A.eval (.tmp 2) = .pointer (some ⟨G + 1, 0, none⟩) := by rw [hA]; rfl
  have base3 : A.eval (.tmp 3) = .slice (some ⟨gh, 0, none⟩) 12 12 := by rw [hA]; rfl
  have base4 : A.eval (.tmp 4) = .slice (some ⟨gt, 0, none⟩) 114 114 := by rw [hA]; rfl
  have HAA := Lib.hid hA; clear hA
  obtain ⟨o0, po0, q0, d0, gd0⟩ : ∃ o, ops[0]? = some o ∧ o.op = .call { callee := .value (.func 11), args := #[], argTypes := #[] } ∧ o.dst = some 14 ∧ o.guard = none := ⟨_, by rw [hops]; rfl, rfl, rfl, rfl⟩
  obtain ⟨o1, po1, q1, d1, gd1⟩ : ∃ o, ops[1]? = some o ∧ o.op = .load 23 (.tmp 1) ∧ o.dst = some 15 ∧ o.guard = none := ⟨_, by rw [hops]; rfl, rfl, rfl, rfl⟩
  obtain ⟨o2, po2, q2, d2, gd2⟩ : ∃ o, ops[2]? = some o ∧ o.op = .load 25 (.tmp 2) ∧ o.dst = some 16 ∧ o.guard = none := ⟨_, by rw [hops]; rfl, rfl, rfl, rfl⟩
  obtain ⟨o3, po3, q3, d3, gd3⟩ : ∃ o, ops[3]? = some o ∧ o.op = .move (.tmp 3) ∧ o.dst = some 17 ∧ o.guard = none := ⟨_, by rw [hops]; rfl, rfl, rfl, rfl⟩
  obtain ⟨o4, po4, q4, d4, gd4⟩ : ∃ o, ops[4]? = some o ∧ o.op = .move (.tmp 4) ∧ o.dst = some 18 ∧ o.guard = none := ⟨_, by rw [hops]; rfl, rfl, rfl, rfl⟩
  obtain ⟨o5, po5, q5, d5, gd5⟩ : ∃ o, ops[5]? = some o ∧ o.op = .call { callee := .value (.func 12), args := #[.tmp 14, .tmp 15, .tmp 16, .tmp 17, .tmp 18], argTypes := #[29, 23, 25, 26, 26] } ∧ o.dst = some 19 ∧ o.guard = none := ⟨_, by rw [hops]; rfl, rfl, rfl, rfl⟩
  obtain ⟨o6, po6, q6, d6, gd6⟩ : ∃ o, ops[6]? = some o ∧ o.op = .assign (.tmp 19) ∧ o.dst = some 5 ∧ o.guard = none := ⟨_, by rw [hops]; rfl, rfl, rfl, rfl⟩
  clear hops
  refine met_free po1 d1 (wanted_of gd1) (fun w' h' => run_loadKey q1 base1 HKL.out h'.key) ?_
  refine met_free po2 d2 (wanted_of gd2) (fun w' h' => run_loadNonce q2 ((eval_other _ 15 2 _ (by decide)).trans base2) HNL.out h'.nonce) ?_
  refine met_free po3 d3 (wanted_of gd3) (fun w' h' => run_move q3 ((eval_other _ 16 3 _ (by decide)).trans ((eval_other _ 15 3 _ (by decide)).trans base3)) w') ?_
  refine met_free po4 d4 (wanted_of gd4) (fun w' h' => run_move q4 ((eval_other _ 17 4 _ (by decide)).trans ((eval_other _ 16 4 _ (by decide)).trans ((eval_other _ 15 4 _ (by decide)).trans base4))) w') ?_
  refine m_enter po0 d0 (wanted_of gd0) (run_callf0 q0 rfl Tryd.func11 (by kernel_rfl) _) (new_any _) ?_
  rintro e w3 ⟨v3, rfl, hb3⟩
  have HW3 := Lib.hid ((HW2.out.on ((Below.refl _ _).drew)).on hb3); clear hb3
  refine ⟨_, rfl, HW3.out, ?_⟩
  refine m_enter po5 d5 (wanted_of gd5) (run_callf5 q5 rfl (eval_same _ _ _ (by simp only [put_size, hsz]; decide)) ((eval_other _ 14 15 _ (by decide)).trans ((eval_other _ 18 15 _ (by decide)).trans ((eval_other _ 17 15 _ (by decide)).trans ((eval_other _ 16 15 _ (by decide)).trans (eval_same _ _ _ (by rw [hsz]; decide)))))) ((eval_other _ 14 16 _ (by decide)).trans ((eval_other _ 18 16 _ (by decide)).trans ((eval_other _ 17 16 _ (by decide)).trans (eval_same _ _ _ (by simp only [put_size, hsz]; decide))))) ((eval_other _ 14 17 _ (by decide)).trans ((eval_other _ 18 17 _ (by decide)).trans (eval_same _ _ _ (by simp only [put_size, hsz]; decide)))) ((eval_other _ 14 18 _ (by decide)).trans (eval_same _ _ _ (by simp only [put_size, hsz]; decide))) Tryd.func12 (by kernel_rfl) _) (seal_any v3 pubKey pubNonce pubHead pubText 12 114 (some ⟨gh, 0, none⟩) (some ⟨gt, 0, none⟩) 12 114 w3 HKL.out HNL.out HHL.out HTL.out (by omega) (by omega) HW3.out.head HW3.out.text (HQ.out.below HW3.out.below hqs)) ?_
  rintro e w4 ⟨r4, c4, he4, hr4, hm4, ho4, hb4⟩
  rw [show 114 + 16 = 130 from rfl] at he4 ho4 hr4
  subst he4
  have HO4 := Lib.hid ho4; clear ho4
  have HW4 := Lib.hid (HW3.out.on hb4); clear hb4
  refine ⟨_, rfl, HW4.out, ?_⟩
  refine met_free po6 d6 (wanted_of gd6) (fun w' h' => run_assign q6 (eval_same _ _ _ (by simp only [put_size, hsz]; decide)) w') ?_
  show NoPanic _ .normal _ _
  refine NoPanic.normal ?_
  rw [HAA.out]
  go_frame
  clear HAA
  obtain ⟨gs, c, hv, hgs, hgs2, hc1, hc2, -, -⟩ := HO4.out.form8 (by rw [HSL.out]; omega)
  rw [HSL.out] at hv hc1
  cases hv
  have HS4 := Lib.hid HO4.out.liesOf
  clear HO4
  unfold maxLen at hc2
  have k1 : ¬ c4 = 114 := by omega
  have k2 : (114 : Int) ≤ (c4 : Int) := by omega
  have k3 : (16 : Int) ≤ (c4 : Int) := by omega
  have k4 : (130 : Int) ≤ (c4 : Int) := by omega
  have HS0 : Hid (WkS w G gh gt gs w4) := show WkS _ _ _ _ _ _ from ⟨HW4.out, HS4.out⟩
  clear HW4 HS4 HW2 HW3
  have sz4 : w.heap.size ≤ w4.heap.size := HS0.out.wk.below.size
  go_wp2_with fail
  refine calls_gen (fun w5 => WkS w G gh gt gs w5 ∧ Lies w5 (some ⟨w4.heap.size, 0, none⟩) pubFirst) ⟨HS0.out.on ((Below.refl _ _).alloc (Nat.le_refl _) _), lies_new (by rw [pubFirst_vals])⟩ ?_
  rintro w5 ⟨hs5, hl5⟩
  have HS5 := Lib.hid hs5; clear hs5 HS0
  refine (same_any pubFirst 16 _ _ c4 16 w5 HFL.out (by omega) (by have h := lies_take HS5.out.sealed 16; rw [HF.out] at h; exact h) hl5).mono ?_
  rintro e w5' ⟨rfl, hb5⟩
  have HW5 := Lib.hid (HS5.out.on hb5); clear hb5 HS5 hl5
  go_wp2_with fail
  refine region_phase (WkS w G gh gt gs) (fun _ => True) 0 (HW5.out.on ((Below.refl _ _).drew)) trivial [(1, .free), (2, .free), (3, .free), (4, .free), (0, .behind), (5, .behind), (6, .free), (7, .free), (8, .free), (9, .free), (10, .free)] (by kernel_rfl) (by kernel_rfl) (by kernel_rfl) (by kernel_rfl) (fun ops hops A2 hA => ?_)
  have hsz : A2.tmps.size = 51 := by rw [hA]; rfl
  have base1 : A2.eval (.tmp 1) = .pointer (some ⟨G, 0, none⟩) := by rw [hA]; rfl
  have base2 : A2.eval (.tmp 2) = .pointer (some ⟨G + 1, 0, none⟩) := by rw [hA]; rfl
  have base3 : A2.eval (.tmp 3) = .slice (some ⟨gh, 0, none⟩) 12 12 := by rw [hA]; rfl
  have base4 : A2.eval (.tmp 4) = .slice (some ⟨gt, 0, none⟩) 114 114 := by rw [hA]; rfl
  have base5 : A2.eval (.tmp 5) = .slice (some ⟨gs, 0, none⟩) 130 c4 := by rw [hA]; rfl
  have HAA := Lib.hid hA; clear hA
  obtain ⟨o0, po0, q0, d0, gd0⟩ : ∃ o, ops[0]? = some o ∧ o.op = .call { callee := .value (.func 11), args := #[], argTypes := #[] } ∧ o.dst = some 31 ∧ o.guard = none := ⟨_, by rw [hops]; rfl, rfl, rfl, rfl⟩
  obtain ⟨o1, po1, q1, d1, gd1⟩ : ∃ o, ops[1]? = some o ∧ o.op = .load 23 (.tmp 1) ∧ o.dst = some 32 ∧ o.guard = none := ⟨_, by rw [hops]; rfl, rfl, rfl, rfl⟩
  obtain ⟨o2, po2, q2, d2, gd2⟩ : ∃ o, ops[2]? = some o ∧ o.op = .load 25 (.tmp 2) ∧ o.dst = some 33 ∧ o.guard = none := ⟨_, by rw [hops]; rfl, rfl, rfl, rfl⟩
  obtain ⟨o3, po3, q3, d3, gd3⟩ : ∃ o, ops[3]? = some o ∧ o.op = .move (.tmp 3) ∧ o.dst = some 34 ∧ o.guard = none := ⟨_, by rw [hops]; rfl, rfl, rfl, rfl⟩
  obtain ⟨o4, po4, q4, d4, gd4⟩ : ∃ o, ops[4]? = some o ∧ o.op = .move (.tmp 5) ∧ o.dst = some 35 ∧ o.guard = none := ⟨_, by rw [hops]; rfl, rfl, rfl, rfl⟩
  obtain ⟨o5, po5, q5, d5, gd5⟩ : ∃ o, ops[5]? = some o ∧ o.op = .call { callee := .value (.func 18), args := #[.tmp 31, .tmp 32, .tmp 33, .tmp 34, .tmp 35], argTypes := #[29, 23, 25, 26, 26] } ∧ o.dst = some 36 ∧ o.guard = none := ⟨_, by rw [hops]; rfl, rfl, rfl, rfl⟩
  obtain ⟨o6, po6, q6, d6, gd6⟩ : ∃ o, ops[6]? = some o ∧ o.op = .move (.tmp 36) ∧ o.dst = some 30 ∧ o.guard = none := ⟨_, by rw [hops]; rfl, rfl, rfl, rfl⟩
  obtain ⟨o7, po7, q7, d7, gd7⟩ : ∃ o, ops[7]? = some o ∧ o.op = .extract (.tmp 30) 0 ∧ o.dst = some 37 ∧ o.guard = none := ⟨_, by rw [hops]; rfl, rfl, rfl, rfl⟩
  obtain ⟨o8, po8, q8, d8, gd8⟩ : ∃ o, ops[8]? = some o ∧ o.op = .extract (.tmp 30) 1 ∧ o.dst = some 38 ∧ o.guard = none := ⟨_, by rw [hops]; rfl, rfl, rfl, rfl⟩
  obtain ⟨o9, po9, q9, d9, gd9⟩ : ∃ o, ops[9]? = some o ∧ o.op = .assign (.tmp 37) ∧ o.dst = some 6 ∧ o.guard = none := ⟨_, by rw [hops]; rfl, rfl, rfl, rfl⟩
  obtain ⟨o10, po10, q10, d10, gd10⟩ : ∃ o, ops[10]? = some o ∧ o.op = .assign (.tmp 38) ∧ o.dst = some 7 ∧ o.guard = none := ⟨_, by rw [hops]; rfl, rfl, rfl, rfl⟩
  clear hops
  refine met_free po1 d1 (wanted_of gd1) (fun w' h' => run_loadKey q1 base1 HKL.out h'.wk.key) ?_
  refine met_free po2 d2 (wanted_of gd2) (fun w' h' => run_loadNonce q2 ((eval_other _ 32 2 _ (by decide)).trans base2) HNL.out h'.wk.nonce) ?_
  refine met_free po3 d3 (wanted_of gd3) (fun w' h' => run_move q3 ((eval_other _ 33 3 _ (by decide)).trans ((eval_other _ 32 3 _ (by decide)).trans base3)) w') ?_
  refine met_free po4 d4 (wanted_of gd4) (fun w' h' => run_move q4 ((eval_other _ 34 5 _ (by decide)).trans ((eval_other _ 33 5 _ (by decide)).trans ((eval_other _ 32 5 _ (by decide)).trans base5))) w') ?_
  refine m_enter po0 d0 (wanted_of gd0) (run_callf0 q0 rfl Tryd.func11 (by kernel_rfl) _) (new_any _) ?_
  rintro e w6 ⟨v6, rfl, hb6⟩
  have HW6 := Lib.hid ((HW5.out.on ((Below.refl _ _).drew)).on hb6); clear hb6
  refine ⟨_, rfl, HW6.out, ?_⟩
  refine m_enter po5 d5 (wanted_of gd5) (run_callf5 q5 rfl (eval_same _ _ _ (by simp only [put_size, hsz]; decide)) ((eval_other _ 31 32 _ (by decide)).trans ((eval_other _ 35 32 _ (by decide)).trans ((eval_other _ 34 32 _ (by decide)).trans ((eval_other _ 33 32 _ (by decide)).trans (eval_same _ _ _ (by rw [hsz]; decide)))))) ((eval_other _ 31 33 _ (by decide)).trans ((eval_other _ 35 33 _ (by decide)).trans ((eval_other _ 34 33 _ (by decide)).trans (eval_same _ _ _ (by simp only [put_size, hsz]; decide))))) ((eval_other _ 31 34 _ (by decide)).trans ((eval_other _ 35 34 _ (by decide)).trans (eval_same _ _ _ (by simp only [put_size, hsz]; decide)))) ((eval_other _ 31 35 _ (by decide)).trans (eval_same _ _ _ (by simp only [put_size, hsz]; decide))) Tryd.func18 (by kernel_rfl) _) (open_any v6 pubKey pubNonce pubHead (sealOf pubKey pubNonce pubHead pubText) 12 130 (some ⟨gh, 0, none⟩) (some ⟨gs, 0, none⟩) 12 c4 w6 HKL.out HNL.out HHL.out HSL.out (by omega) (by omega) hr4 HW6.out.wk.head HW6.out.sealed (HQ.out.below HW6.out.wk.below hqs)) ?_
  rintro e w7 ⟨v7, rfl, ho7, hb7⟩
  rw [HOF.out] at ho7
  rw [HIS.out]
  obtain ⟨p7, c7, hv7, -, -, hl7⟩ := ho7.lies
  rw [HTL.out] at hv7
  subst hv7
  have HL7 := Lib.hid hl7; clear hl7 ho7
  have HW7 := Lib.hid (HW6.out.on hb7); clear hb7
  refine ⟨_, rfl, HW7.out, ?_⟩
  refine met_free po6 d6 (wanted_of gd6) (fun w' h' => run_move q6 (eval_same _ _ _ (by simp only [put_size, hsz]; decide)) w') ?_
  refine met_free po7 d7 (wanted_of gd7) (fun w' h' => run_extract q7 (eval_same _ _ _ (by simp only [put_size, hsz]; decide)) rfl w') ?_
  refine met_free po8 d8 (wanted_of gd8) (fun w' h' => run_extract q8 ((eval_other _ 37 30 _ (by decide)).trans (eval_same _ _ _ (by simp only [put_size, hsz]; decide))) rfl w') ?_
  refine met_free po9 d9 (wanted_of gd9) (fun w' h' => run_assign q9 ((eval_other _ 38 37 _ (by decide)).trans (eval_same _ _ _ (by simp only [put_size, hsz]; decide))) w') ?_
  refine met_free po10 d10 (wanted_of gd10) (fun w' h' => run_assign q10 ((eval_other _ 6 38 _ (by decide)).trans (eval_same _ _ _ (by simp only [put_size, hsz]; decide))) w') ?_
  show NoPanic _ .normal _ _
  refine NoPanic.normal ?_
  rw [HAA.out]
  go_frame
  clear HAA
  go_wp2_with fail
  refine (same_any pubText 114 _ _ c7 114 w7 HTL.out (by omega) HL7.out HW7.out.wk.text).mono ?_
  rintro e w8 ⟨rfl, hb8⟩
  have HW8 := Lib.hid (HW7.out.on hb8); clear hb8 HW7 HL7
  have sz8 : w.heap.size ≤ w8.heap.size := HW8.out.wk.below.size
  go_wp2_with fail
  refine calls_gen (fun w9 => WkS w G gh gt gs w9 ∧ Lies w9 (some ⟨w8.heap.size, 0, none⟩) pubLast) ⟨HW8.out.on ((Below.refl _ _).alloc (Nat.le_refl _) _), lies_new (by rw [pubLast_vals])⟩ ?_
  rintro w9 ⟨hs9, hl9⟩
  have HS9 := Lib.hid hs9; clear hs9 HW8
  refine (same_any pubLast 16 _ _ _ 16 w9 HLL.out (by omega) (by have h := lies_drop HS9.out.sealed 114; rw [HL.out] at h; exact h) hl9).mono ?_
  rintro e w10 ⟨rfl, hb10⟩
  have HW10 := Lib.hid (HS9.out.on hb10); clear hb10 HS9 hl9
  go_wp2_with fail
  go_ret
  exact ⟨rfl, HW10.out.wk.below⟩
end Go.Proofs.YtagkkihnfipfeaaDoor

/-
  The walk of the law AeadStream: for any key, nonce, heads and bytes it returns true, and nothing that was there changes.
-/
namespace Go.Proofs.YtagkkihnfipfeaaDoor
open Go.RowKit Go.Proofs.ShaWords

/-- The key, the nonce, bytes that lie somewhere. -/
structure KnL (w : World) (key nonce : List (BitVec 8)) (L : List (Option Addr × List (BitVec 8))) (wr : World) : Prop where
  key : BytesAt wr w.heap.size 23 key
  nonce : BytesAt wr (w.heap.size + 1) 25 nonce
  lies : ∀ x ∈ L, Lies wr x.1 x.2
  below : Below w.heap.size w wr
theorem KnL.on {w wr w' : World} {key nonce : List (BitVec 8)} {L : List (Option Addr × List (BitVec 8))} (h : KnL w key nonce L wr) (hb : Below wr.heap.size wr w') : KnL w key nonce L w' := ⟨h.key.keep hb, h.nonce.keep hb, fun x hx => (h.lies x hx).below hb, h.below.trans (hb.mono h.below.size)⟩
theorem KnL.add {w wr : World} {key nonce : List (BitVec 8)} {L : List (Option Addr × List (BitVec 8))} (h : KnL w key nonce L wr) (x : Option Addr × List (BitVec 8)) (hx : Lies wr x.1 x.2) : KnL w key nonce (x :: L) wr := ⟨h.key, h.nonce, fun y hy => by
  rcases List.mem_cons.1 hy with rfl | hy
  · exact hx
  · exact h.lies y hy, h.below⟩
theorem KnL.drop {w wr : World} {key nonce : List (BitVec 8)} {x : Option Addr × List (BitVec 8)} {L : List (Option Addr × List (BitVec 8))} (h : KnL w key nonce (x :: L) wr) : KnL w key nonce L wr := ⟨h.key, h.nonce, fun y hy => h.lies y (List.mem_cons_of_mem _ hy), h.below⟩
theorem knl_start (w : World) (key nonce : List (BitVec 8)) (L : List (Option Addr × List (BitVec 8))) (hL : ∀ x ∈ L, Lies w x.1 x.2) : KnL w key nonce L ((w.alloc (.cells (bytesV key).toArray 23)).alloc (.cells (bytesV nonce).toArray 25)) :=
  ⟨(knb_start w key nonce).key, (knb_start w key nonce).nonce, fun x hx => (hL x hx).below (knb_start w key nonce).below, (knb_start w key nonce).below⟩
theorem seal_take (key nonce head b : List (BitVec 8)) : (sealOf key nonce head b).take b.length = xorKs key 1#32 nonce b := by
  have h := openC_seal key nonce head b
  unfold openC at h
  rwa [sealOf_length, Nat.add_sub_cancel] at h
attribute [local irreducible] sealOf openOf openIs xorKs
set_option maxRecDepth 100000 in
set_option maxHeartbeats 4000000 in
theorem aeStream_any (key nonce head other b : List (BitVec 8)) (n n2 m : Nat) (p p2 q : Option Addr) (cp cp2 cq : Nat) (w : World) (hk : key.length = 32) (hn : nonce.length = 12) (hhl : head.length = n) (hol : other.length = n2) (hml : b.length = m) (hp : Lies w p head) (hp2 : Lies w p2 other) (hb : Lies w q b) (hq : Quads w) :
    Calls Tryd.prog 7 #[.agg (bytesV key).toArray, .agg (bytesV nonce).toArray, .slice p n cp, .slice p2 n2 cp2, .slice q m cq] w fun e w' => e = .returned (.bool true) ∧ Below w.heap.size w w' := by
  have hqs := hq.size
  have HQ := Lib.hid hq; clear hq
  have HKL := Lib.hid hk; clear hk
  have HNL := Lib.hid hn; clear hn
  have HHL := Lib.hid hhl
  have HOL := Lib.hid hol
  have HML := Lib.hid hml
  have HLI : Hid (∀ x ∈ [(p, head), (p2, other), (q, b)], Lies w x.1 x.2) := show ∀ x ∈ _, _ from by
    intro x hx
    simp only [List.mem_cons, List.not_mem_nil, or_false] at hx
    rcases hx with rfl | rfl | rfl
    · exact hp
    · exact hp2
    · exact hb
  clear hp hp2 hb
  have HIK := Lib.hid (infoKey key HKL.out)
  have HIN := Lib.hid (infoNonce nonce HNL.out)
  obtain ⟨mx, hmx⟩ : ∃ mx, mx = max (max n n2) m := ⟨_, rfl⟩
  have HMX := Lib.hid hmx
  by_cases hbig : 4096 < mx
  · have p0 : (4096 : Int) < (mx : Int) := by omega
    clear hmx hhl hol hml
    go_enter Tryd.func7, Tryd.ntmps7
    go_upto_region 1 with (fail)
    refine wp_gen (KnL w key nonce [(p, head), (p2, other), (q, b)]) (knl_start w key nonce _ HLI.out) ?_
    intro w0 hw0
    have HW0 := Lib.hid hw0; clear hw0
    go_wp2_with (refine wpList_max3 rfl (.tmp 15) (.tmp 17) (.tmp 19) rfl n n2 m mx rfl rfl rfl HMX.out ?_)
    refine (works5_any w0 (HQ.out.below HW0.out.below hqs)).mono ?_
    rintro e w1 ⟨rfl, hb1⟩
    have HW1 := Lib.hid (HW0.out.on hb1); clear hb1 HW0
    go_wp2_with fail
    go_ret
    exact ⟨rfl, HW1.out.below⟩
  · have p0 : ¬ (4096 : Int) < (mx : Int) := by omega
    have b1 : n ≤ 4096 := by omega
    have b2 : n2 ≤ 4096 := by omega
    have b3 : m ≤ 4096 := by omega
    have HXL := Lib.hid ((xorKs_length key 1#32 nonce b).trans hml)
    have HT1 : Hid ((sealOf key nonce head b).take m = xorKs key 1#32 nonce b) := show _ = _ by rw [← hml]; exact seal_take _ _ _ _
    have HT2 : Hid ((sealOf key nonce other b).take m = xorKs key 1#32 nonce b) := show _ = _ by rw [← hml]; exact seal_take _ _ _ _
    have HS1 : Hid ((sealOf key nonce head b).length = m + 16) := show _ = _ by rw [sealOf_length, hml]
    have HS2 : Hid ((sealOf key nonce other b).length = m + 16) := show _ = _ by rw [sealOf_length, hml]
    clear hmx hhl hol hml hbig
    go_enter Tryd.func7, Tryd.ntmps7
    go_upto_region 1 with (fail)
    refine wp_gen (KnL w key nonce [(p, head), (p2, other), (q, b)]) (knl_start w key nonce _ HLI.out) ?_
    intro w0 hw0
    have HW0 := Lib.hid hw0; clear hw0
    go_upto_region 3 with (refine wpList_max3 rfl (.tmp 15) (.tmp 17) (.tmp 19) rfl n n2 m mx rfl rfl rfl HMX.out ?_)
    refine region_phase (KnL w key nonce [(p, head), (p2, other), (q, b)]) (fun _ => True) 0 (HW0.out.on ((Below.refl _ _).drew)) trivial [(1, .free), (2, .free), (3, .free), (4, .free), (0, .behind), (5, .behind), (6, .free)] (by kernel_rfl) (by kernel_rfl) (by kernel_rfl) (by kernel_rfl) (fun ops hops A hA => ?_)
    have hsz : A.tmps.size = 81 := by rw [hA]; rfl
    have base2 : A.eval (.tmp 2) = .slice p n cp := by rw [hA]; rfl
    have base3 : A.eval (.tmp 3) = .slice p2 n2 cp2 := by rw [hA]; rfl
    have base4 : A.eval (.tmp 4) = .slice q m cq := by rw [hA]; rfl
    have base5 : A.eval (.tmp 5) = .pointer (some ⟨w.heap.size, 0, none⟩) := by rw [hA]; rfl
    have base6 : A.eval (.tmp 6) = .pointer (some ⟨w.heap.size + 1, 0, none⟩) := by rw [hA]; rfl
    have HAA := Lib.hid hA; clear hA
    obtain ⟨o0, po0, q0, d0, gd0⟩ : ∃ o, ops[0]? = some o ∧ o.op = .call { callee := .value (.func 11), args := #[], argTypes := #[] } ∧ o.dst = some 23 ∧ o.guard = none := ⟨_, by rw [hops]; rfl, rfl, rfl, rfl⟩
    obtain ⟨o1, po1, q1, d1, gd1⟩ : ∃ o, ops[1]? = some o ∧ o.op = .load 23 (.tmp 5) ∧ o.dst = some 24 ∧ o.guard = none := ⟨_, by rw [hops]; rfl, rfl, rfl, rfl⟩
    obtain ⟨o2, po2, q2, d2, gd2⟩ : ∃ o, ops[2]? = some o ∧ o.op = .load 25 (.tmp 6) ∧ o.dst = some 25 ∧ o.guard = none := ⟨_, by rw [hops]; rfl, rfl, rfl, rfl⟩
    obtain ⟨o3, po3, q3, d3, gd3⟩ : ∃ o, ops[3]? = some o ∧ o.op = .move (.tmp 2) ∧ o.dst = some 26 ∧ o.guard = none := ⟨_, by rw [hops]; rfl, rfl, rfl, rfl⟩
    obtain ⟨o4, po4, q4, d4, gd4⟩ : ∃ o, ops[4]? = some o ∧ o.op = .move (.tmp 4) ∧ o.dst = some 27 ∧ o.guard = none := ⟨_, by rw [hops]; rfl, rfl, rfl, rfl⟩
    obtain ⟨o5, po5, q5, d5, gd5⟩ : ∃ o, ops[5]? = some o ∧ o.op = .call { callee := .value (.func 12), args := #[.tmp 23, .tmp 24, .tmp 25, .tmp 26, .tmp 27], argTypes := #[29, 23, 25, 26, 26] } ∧ o.dst = some 28 ∧ o.guard = none := ⟨_, by rw [hops]; rfl, rfl, rfl, rfl⟩
    obtain ⟨o6, po6, q6, d6, gd6⟩ : ∃ o, ops[6]? = some o ∧ o.op = .assign (.tmp 28) ∧ o.dst = some 11 ∧ o.guard = none := ⟨_, by rw [hops]; rfl, rfl, rfl, rfl⟩
    clear hops
    refine met_free po1 d1 (wanted_of gd1) (fun w' h' => run_loadKey q1 base5 HKL.out h'.key) ?_
    refine met_free po2 d2 (wanted_of gd2) (fun w' h' => run_loadNonce q2 ((eval_other _ 24 6 _ (by decide)).trans base6) HNL.out h'.nonce) ?_
    refine met_free po3 d3 (wanted_of gd3) (fun w' h' => run_move q3 ((eval_other _ 25 2 _ (by decide)).trans ((eval_other _ 24 2 _ (by decide)).trans base2)) w') ?_
    refine met_free po4 d4 (wanted_of gd4) (fun w' h' => run_move q4 ((eval_other _ 26 4 _ (by decide)).trans ((eval_other _ 25 4 _ (by decide)).trans ((eval_other _ 24 4 _ (by decide)).trans base4))) w') ?_
    refine m_enter po0 d0 (wanted_of gd0) (run_callf0 q0 rfl Tryd.func11 (by kernel_rfl) _) (new_any _) ?_
    rintro e w1a ⟨v1, rfl, hb1⟩
    have HA1 := Lib.hid ((HW0.out.on ((Below.refl _ _).drew)).on hb1); clear hb1
    refine ⟨_, rfl, HA1.out, ?_⟩
    refine m_enter po5 d5 (wanted_of gd5) (run_callf5 q5 rfl (eval_same _ _ _ (by simp only [put_size, hsz]; decide)) ((eval_other _ 23 24 _ (by decide)).trans ((eval_other _ 27 24 _ (by decide)).trans ((eval_other _ 26 24 _ (by decide)).trans ((eval_other _ 25 24 _ (by decide)).trans (eval_same _ _ _ (by rw [hsz]; decide)))))) ((eval_other _ 23 25 _ (by decide)).trans ((eval_other _ 27 25 _ (by decide)).trans ((eval_other _ 26 25 _ (by decide)).trans (eval_same _ _ _ (by simp only [put_size, hsz]; decide))))) ((eval_other _ 23 26 _ (by decide)).trans ((eval_other _ 27 26 _ (by decide)).trans (eval_same _ _ _ (by simp only [put_size, hsz]; decide)))) ((eval_other _ 23 27 _ (by decide)).trans (eval_same _ _ _ (by simp only [put_size, hsz]; decide))) Tryd.func12 (by kernel_rfl) _) (seal_any v1 key nonce head b n m p q cp cq w1a HKL.out HNL.out HHL.out HML.out (by omega) (by omega) (HA1.out.lies (p, head) (by simp)) (HA1.out.lies (q, b) (by simp)) (HQ.out.below HA1.out.below hqs)) ?_
    rintro e w1 ⟨r1, c1, rfl, hr1, hm1, ho1, hb1⟩
    have HW1 := Lib.hid ((HA1.out.on hb1).add (r1, sealOf key nonce head b) ho1.liesOf); clear ho1 hb1 HA1
    refine ⟨_, rfl, HW1.out.drop, ?_⟩
    refine met_free po6 d6 (wanted_of gd6) (fun w' h' => run_assign q6 (eval_same _ _ _ (by simp only [put_size, hsz]; decide)) w') ?_
    show NoPanic _ .normal _ _
    refine NoPanic.normal ?_
    rw [HAA.out]
    go_frame
    clear HAA
    go_upto_region 4 with (fail)
    refine region_phase (KnL w key nonce [(r1, sealOf key nonce head b), (p, head), (p2, other), (q, b)]) (fun _ => True) 0 (HW1.out.on ((Below.refl _ _).drew)) trivial [(1, .free), (2, .free), (3, .free), (4, .free), (0, .behind), (5, .behind), (6, .free)] (by kernel_rfl) (by kernel_rfl) (by kernel_rfl) (by kernel_rfl) (fun ops hops A2 hA => ?_)
    have hsz : A2.tmps.size = 81 := by rw [hA]; rfl
    have base2 : A2.eval (.tmp 2) = .slice p n cp := by rw [hA]; rfl
    have base3 : A2.eval (.tmp 3) = .slice p2 n2 cp2 := by rw [hA]; rfl
    have base4 : A2.eval (.tmp 4) = .slice q m cq := by rw [hA]; rfl
    have base5 : A2.eval (.tmp 5) = .pointer (some ⟨w.heap.size, 0, none⟩) := by rw [hA]; rfl
    have base6 : A2.eval (.tmp 6) = .pointer (some ⟨w.heap.size + 1, 0, none⟩) := by rw [hA]; rfl
    have HAA := Lib.hid hA; clear hA
    obtain ⟨o0, po0, q0, d0, gd0⟩ : ∃ o, ops[0]? = some o ∧ o.op = .call { callee := .value (.func 11), args := #[], argTypes := #[] } ∧ o.dst = some 29 ∧ o.guard = none := ⟨_, by rw [hops]; rfl, rfl, rfl, rfl⟩
    obtain ⟨o1, po1, q1, d1, gd1⟩ : ∃ o, ops[1]? = some o ∧ o.op = .load 23 (.tmp 5) ∧ o.dst = some 30 ∧ o.guard = none := ⟨_, by rw [hops]; rfl, rfl, rfl, rfl⟩
    obtain ⟨o2, po2, q2, d2, gd2⟩ : ∃ o, ops[2]? = some o ∧ o.op = .load 25 (.tmp 6) ∧ o.dst = some 31 ∧ o.guard = none := ⟨_, by rw [hops]; rfl, rfl, rfl, rfl⟩
    obtain ⟨o3, po3, q3, d3, gd3⟩ : ∃ o, ops[3]? = some o ∧ o.op = .move (.tmp 3) ∧ o.dst = some 32 ∧ o.guard = none := ⟨_, by rw [hops]; rfl, rfl, rfl, rfl⟩
    obtain ⟨o4, po4, q4, d4, gd4⟩ : ∃ o, ops[4]? = some o ∧ o.op = .move (.tmp 4) ∧ o.dst = some 33 ∧ o.guard = none := ⟨_, by rw [hops]; rfl, rfl, rfl, rfl⟩
    obtain ⟨o5, po5, q5, d5, gd5⟩ : ∃ o, ops[5]? = some o ∧ o.op = .call { callee := .value (.func 12), args := #[.tmp 29, .tmp 30, .tmp 31, .tmp 32, .tmp 33], argTypes := #[29, 23, 25, 26, 26] } ∧ o.dst = some 34 ∧ o.guard = none := ⟨_, by rw [hops]; rfl, rfl, rfl, rfl⟩
    obtain ⟨o6, po6, q6, d6, gd6⟩ : ∃ o, ops[6]? = some o ∧ o.op = .assign (.tmp 34) ∧ o.dst = some 12 ∧ o.guard = none := ⟨_, by rw [hops]; rfl, rfl, rfl, rfl⟩
    clear hops
    refine met_free po1 d1 (wanted_of gd1) (fun w' h' => run_loadKey q1 base5 HKL.out h'.key) ?_
    refine met_free po2 d2 (wanted_of gd2) (fun w' h' => run_loadNonce q2 ((eval_other _ 30 6 _ (by decide)).trans base6) HNL.out h'.nonce) ?_
    refine met_free po3 d3 (wanted_of gd3) (fun w' h' => run_move q3 ((eval_other _ 31 3 _ (by decide)).trans ((eval_other _ 30 3 _ (by decide)).trans base3)) w') ?_
    refine met_free po4 d4 (wanted_of gd4) (fun w' h' => run_move q4 ((eval_other _ 32 4 _ (by decide)).trans ((eval_other _ 31 4 _ (by decide)).trans ((eval_other _ 30 4 _ (by decide)).trans base4))) w') ?_
    refine m_enter po0 d0 (wanted_of gd0) (run_callf0 q0 rfl Tryd.func11 (by kernel_rfl) _) (new_any _) ?_
    rintro e w2a ⟨v2, rfl, hb2⟩
    have HA2 := Lib.hid ((HW1.out.on ((Below.refl _ _).drew)).on hb2); clear hb2
    refine ⟨_, rfl, HA2.out, ?_⟩
    refine m_enter po5 d5 (wanted_of gd5) (run_callf5 q5 rfl (eval_same _ _ _ (by simp only [put_size, hsz]; decide)) ((eval_other _ 29 30 _ (by decide)).trans ((eval_other _ 33 30 _ (by decide)).trans ((eval_other _ 32 30 _ (by decide)).trans ((eval_other _ 31 30 _ (by decide)).trans (eval_same _ _ _ (by rw [hsz]; decide)))))) ((eval_other _ 29 31 _ (by decide)).trans ((eval_other _ 33 31 _ (by decide)).trans ((eval_other _ 32 31 _ (by decide)).trans (eval_same _ _ _ (by simp only [put_size, hsz]; decide))))) ((eval_other _ 29 32 _ (by decide)).trans ((eval_other _ 33 32 _ (by decide)).trans (eval_same _ _ _ (by simp only [put_size, hsz]; decide)))) ((eval_other _ 29 33 _ (by decide)).trans (eval_same _ _ _ (by simp only [put_size, hsz]; decide))) Tryd.func12 (by kernel_rfl) _) (seal_any v2 key nonce other b n2 m p2 q cp2 cq w2a HKL.out HNL.out HOL.out HML.out (by omega) (by omega) (HA2.out.lies (p2, other) (by simp)) (HA2.out.lies (q, b) (by simp)) (HQ.out.below HA2.out.below hqs)) ?_
    rintro e w2 ⟨r2, c2, rfl, hr2, hm2, ho2, hb2⟩
    have HW2 := Lib.hid ((HA2.out.on hb2).add (r2, sealOf key nonce other b) ho2.liesOf); clear ho2 hb2 HA2
    refine ⟨_, rfl, HW2.out.drop, ?_⟩
    refine met_free po6 d6 (wanted_of gd6) (fun w' h' => run_assign q6 (eval_same _ _ _ (by simp only [put_size, hsz]; decide)) w') ?_
    show NoPanic _ .normal _ _
    refine NoPanic.normal ?_
    rw [HAA.out]
    go_frame
    clear HAA
    obtain ⟨N, hN⟩ : ∃ N, N = m + 16 := ⟨_, rfl⟩
    have HN := Lib.hid hN
    rw [← hN] at HS1 HS2 hr1 hr2 ⊢
    have m0 : IntKind.i64.wrap ((m : Int) + 16) = (N : Int) := by rw [IntWalk.i64_in _ (by omega)]; omega
    have m1 : (m : Int) ≤ (c1 : Int) := by omega
    have m2 : (m : Int) ≤ (c2 : Int) := by omega
    have m3 : 0 ≤ (m : Int) := by omega
    have hN2 : N ≤ 5000 := by omega
    clear hN
    go_wp2_with (first
      | (refine wpList_load_row rfl 23 (.tmp 5) rfl w.heap.size rfl 23 (bytesV key).toArray (0, 0) _ HW2.out.key Tryd.underlying23 rfl HIK.out ?_)
      | (refine wpList_load_row rfl 25 (.tmp 6) rfl (w.heap.size + 1) rfl 25 (bytesV nonce).toArray (0, 0) _ HW2.out.nonce Tryd.underlying25 rfl HIN.out ?_))
    refine (ccXor_len key nonce b m 1#32 q cq w2 HML.out HKL.out HNL.out (by omega) (HW2.out.lies (q, b) (by simp)) (HQ.out.below HW2.out.below hqs)).mono ?_
    rintro e w3 ⟨r3, c3, rfl, hr3, ho3, hb3⟩
    have HW3 := Lib.hid ((HW2.out.on hb3).add (r3, xorKs key 1#32 nonce b) ho3.liesOf); clear ho3 hb3 HW2
    go_wp2_with fail
    refine (same_any (xorKs key 1#32 nonce b) m _ _ _ _ w3 HXL.out (by omega) (by have h := lies_take (HW3.out.lies (r1, sealOf key nonce head b) (by simp)) m; rw [HT1.out] at h; exact h) (HW3.out.lies (r3, xorKs key 1#32 nonce b) (by simp))).mono ?_
    rintro e w4 ⟨rfl, hb4⟩
    have HW4 := Lib.hid (HW3.out.on hb4); clear hb4 HW3
    go_wp2_with fail
    refine (same_any (xorKs key 1#32 nonce b) m _ _ _ _ w4 HXL.out (by omega) (by have h := lies_take (HW4.out.lies (r2, sealOf key nonce other b) (by simp)) m; rw [HT2.out] at h; exact h) (HW4.out.lies (r3, xorKs key 1#32 nonce b) (by simp))).mono ?_
    rintro e w5 ⟨rfl, hb5⟩
    have HW5 := Lib.hid (HW4.out.on hb5); clear hb5 HW4
    go_wp2_with fail
    by_cases hho : head = other
    · subst hho
      have hnn : n2 = n := by rw [← HHL.out, ← HOL.out]
      subst hnn
      refine (same_any head n2 p p2 cp cp2 w5 HHL.out (by omega) (HW5.out.lies (p, head) (by simp)) (HW5.out.lies (p2, head) (by simp))).mono ?_
      rintro e w6 ⟨rfl, hb6⟩
      have HW6 := Lib.hid (HW5.out.on hb6); clear hb6 HW5
      go_wp2_with fail
      refine (same_any (sealOf key nonce head b) N r1 r2 c1 c2 w6 HS1.out (by omega) (HW6.out.lies (r1, sealOf key nonce head b) (by simp)) (HW6.out.lies (r2, sealOf key nonce head b) (by simp))).mono ?_
      rintro e w7 ⟨rfl, hb7⟩
      have HW7 := Lib.hid (HW6.out.on hb7); clear hb7 HW6
      go_wp2_with fail
      refine (works5_any w7 (HQ.out.below HW7.out.below hqs)).mono ?_
      rintro e w8 ⟨rfl, hb8⟩
      have HW8 := Lib.hid (HW7.out.on hb8); clear hb8 HW7
      go_wp2_with fail
      go_ret
      exact ⟨rfl, HW8.out.below⟩
    · refine (sameBytes_any head other n n2 p p2 cp cp2 w5 HHL.out HOL.out (by omega) (by omega) (HW5.out.lies (p, head) (by simp)) (HW5.out.lies (p2, other) (by simp))).mono ?_
      rintro e w6 ⟨rfl, hb6⟩
      rw [decide_eq_false hho]
      have HW6 := Lib.hid (HW5.out.on hb6); clear hb6 HW5
      go_wp2_with fail
      refine (works5_any w6 (HQ.out.below HW6.out.below hqs)).mono ?_
      rintro e w8 ⟨rfl, hb8⟩
      have HW8 := Lib.hid (HW6.out.on hb8); clear hb8 HW6
      go_wp2_with fail
      go_ret
      exact ⟨rfl, HW8.out.below⟩
end Go.Proofs.YtagkkihnfipfeaaDoor

/-
  What opens is sealed to the same bytes again; with another tag it does not open.
-/
namespace Go.Proofs.YtagkkihnfipfeaaDoor
open Go.RowKit Go.Proofs.ShaWords

theorem openIs_length {key nonce head s : List (BitVec 8)} (h : openIs key nonce head s = true) : 16 ≤ s.length := by
  unfold openIs at h
  simp only [Bool.and_eq_true, decide_eq_true_eq] at h
  exact h.1
theorem openIs_short {key nonce head s : List (BitVec 8)} (h : s.length < 16) : openIs key nonce head s = false := by
  cases hc : openIs key nonce head s with
  | false => rfl
  | true => have := openIs_length hc; omega
theorem openOf_not {key nonce head s : List (BitVec 8)} (h : openIs key nonce head s = false) : openOf key nonce head s = [] := by
  unfold openOf; rw [h]; rfl
theorem openOf_length {key nonce head s : List (BitVec 8)} (h : openIs key nonce head s = true) : (openOf key nonce head s).length + 16 = s.length := by
  have := openIs_length h
  unfold openOf
  rw [h, if_pos rfl, xorKs_length, openC, List.length_take]
  omega
theorem openOf_length_le (key nonce head s : List (BitVec 8)) : (openOf key nonce head s).length ≤ s.length := by
  cases hc : openIs key nonce head s with
  | false => rw [openOf_not hc]; simp
  | true => have := openOf_length hc; omega
theorem seal_open {key nonce head s : List (BitVec 8)} (h : openIs key nonce head s = true) : sealOf key nonce head (openOf key nonce head s) = s := by
  have h1 := h
  unfold openIs at h1
  simp only [Bool.and_eq_true, decide_eq_true_eq] at h1
  unfold sealOf openOf
  rw [h, if_pos rfl, xorKs_twice, ← h1.2]
  unfold openC
  exact List.take_append_drop _ _
/-- The bytes that a tag stands behind. -/
theorem openIs_tag (key nonce head b t : List (BitVec 8)) (ht : t.length = 16) : openIs key nonce head ((sealOf key nonce head b).take b.length ++ t) = decide ((sealOf key nonce head b).take b.length ++ t = sealOf key nonce head b) := by
  have hx : (sealOf key nonce head b).take b.length = xorKs key 1#32 nonce b := by
    have h := openC_seal key nonce head b
    unfold openC at h
    rwa [sealOf_length, Nat.add_sub_cancel] at h
  have hl := xorKs_length key 1#32 nonce b
  rw [hx]
  have hC : openC (xorKs key 1#32 nonce b ++ t) = xorKs key 1#32 nonce b := by
    unfold openC
    rw [List.length_append, ht, Nat.add_sub_cancel, List.take_left']
    rfl
  have hD : (xorKs key 1#32 nonce b ++ t).drop ((xorKs key 1#32 nonce b ++ t).length - 16) = t := by
    rw [List.length_append, ht, Nat.add_sub_cancel, List.drop_left']
    rfl
  unfold openIs
  rw [hC, hD, decide_eq_true (show 16 ≤ (xorKs key 1#32 nonce b ++ t).length by rw [List.length_append]; omega), Bool.true_and]
  have e : sealOf key nonce head b = xorKs key 1#32 nonce b ++ aeadTag key nonce head (xorKs key 1#32 nonce b) := by unfold sealOf; rfl
  rw [e]
  exact decide_eq_decide.2 ⟨fun h => by rw [h], fun h => List.append_cancel_left h⟩
end Go.Proofs.YtagkkihnfipfeaaDoor

/-
  Steps of a region: a number less a constant; a slice from a place on.
-/
namespace Go.Proofs.YtagkkihnfipfeaaDoor
open Go.RowKit Go.Proofs.ShaWords
section
variable {ρ : Operand → Value} {o : Oper} {x y c : Operand} {w : World}
theorem r_subC {n k : Nat} {C : Int} (ho : o.op = .binOp .sub 3 x (.const (.int .i64 C)) 3) (h0 : ρ (.const (.int .i64 C)) = .int .i64 C) (hx : ρ x = .int .i64 (n : Int)) (hC : (n : Int) - C = (k : Int)) (hk : k < 1000000) (w : World) :
    (execOp ρ o).run Tryd.prog w = .ok (.value (.int .i64 (k : Int))) w := by
  obtain ⟨dst, op, ty', pos, after, guard⟩ := o
  simp only at ho
  subst ho
  have h2 : IntKind.i64.wrap ((n : Int) - C) = (k : Int) := by rw [hC]; exact IntWalk.i64_in _ (by omega)
  clear hC
  go_simp
theorem r_fromK {b off n cap k j : Nat} (ho : o.op = .slice 26 x (some y) none none) (hk : n = k + j) (hj : 0 < j) (hn : n ≤ cap) (hx : ρ x = .slice (some ⟨b, off, none⟩) n cap) (hy : ρ y = .int .i64 (k : Int)) (w : World) :
    (execOp ρ o).run Tryd.prog w = .ok (.value (.slice (some ⟨b, off + k, none⟩) j (cap - k))) w := by
  have h := run_sliceFrom (ρ := ρ) ho hx hy (by omega) (by omega) hn w
  rw [h, show n - k = j by omega]
end
theorem copy_len (l : List (BitVec 8)) (n : Nat) (p : Option Addr) (cap : Nat) (w : World) (hln : l.length = n) (hl : n < 1000000) (hL : Lies w p l) :
    Calls Tryd.prog 20 #[.slice p n cap] w fun e w' => ∃ v, e = .returned v ∧ Own w.heap.size w' l v ∧ Below w.heap.size w w' := by
  subst hln
  exact copy_any l p cap w hl hL
theorem lent_len (l : List (BitVec 8)) (n : Nat) (p : Option Addr) (cap : Nat) (w : World) (hln : l.length = n) (hl : n < 1000000) (hL : Lies w p l) :
    Calls Tryd.prog 10 #[.slice p n cap] w fun e w' => ∃ v, e = .returned v ∧ Own w.heap.size w' (l ++ marks 5) v ∧ Below w.heap.size w w' := by
  subst hln
  exact lent_any l p cap w hl hL
end Go.Proofs.YtagkkihnfipfeaaDoor
