/-
  The contract of chacha.Block: where the package's table holds its numbers, it returns the block of a key, a counter and a nonce; nothing that was there changes.
-/
import Derived.Test.YtagkkihnfipfeaaDoorCcMix
namespace Go.Proofs.YtagkkihnfipfeaaDoor
open Go.RowKit Go.Proofs.ShaWords
attribute [local go_sem] and32 or32 xor32 add32 shl32 shr32 wrap32_n8 wrap8_n32 shl32_8 shl32_16 shl32_24 shr32_8 shr32_16 shr32_24

/-- A word's four bytes, the lowest first. -/
def leBytes (x : BitVec 32) : List (BitVec 8) := [lo8 x, lo8 (x >>> 8), lo8 (x >>> 16), lo8 (x >>> 24)]
def flatTo (X : List (BitVec 32)) (k : Nat) : List (BitVec 8) := (X.take k).flatMap leBytes
theorem flat_length (l : List (BitVec 32)) : (l.flatMap leBytes).length = 4 * l.length := by
  induction l with
  | nil => rfl
  | cons a r ih => rw [List.flatMap_cons, List.length_append, ih]; simp [leBytes]; omega
theorem flatTo_length (X : List (BitVec 32)) (k : Nat) (hk : k ≤ X.length) : (flatTo X k).length = 4 * k := by
  rw [flatTo, flat_length, List.length_take]; omega
theorem flatTo_zero (X : List (BitVec 32)) : flatTo X 0 ++ noughts (64 - 4 * 0) = noughts 64 := rfl
theorem flatTo_succ (X : List (BitVec 32)) (k : Nat) (hk : k < X.length) : flatTo X (k + 1) = flatTo X k ++ leBytes (X.getD k 0#32) := by
  rw [flatTo, List.take_succ_eq_append_getElem hk, List.flatMap_append, flatTo]
  simp [List.getD, hk]
theorem flatTo_set (X : List (BitVec 32)) (k n : Nat) (hk : k < X.length) (hn : 4 * X.length = n) : ((((flatTo X k ++ noughts (n - 4 * k)).set (4 * k) (lo8 (X.getD k 0#32))).set (4 * k + 1) (lo8 (X.getD k 0#32 >>> 8))).set (4 * k + 2) (lo8 (X.getD k 0#32 >>> 16))).set (4 * k + 3) (lo8 (X.getD k 0#32 >>> 24))
    = flatTo X (k + 1) ++ noughts (n - 4 * (k + 1)) := by
  have hl := flatTo_length X k (by omega)
  obtain ⟨m, hm⟩ : ∃ m, n - 4 * k = m + 4 := ⟨n - 4 * k - 4, by omega⟩
  rw [flatTo_succ X k hk, hm, show n - 4 * (k + 1) = m by omega]
  generalize X.getD k 0#32 = x
  generalize flatTo X k = D at hl
  unfold noughts
  rw [List.set_append_right _ _ (by omega), List.set_append_right _ _ (by omega), List.set_append_right _ _ (by omega), List.set_append_right _ _ (by omega), hl]
  rw [show 4 * k - 4 * k = 0 by omega, show 4 * k + 1 - 4 * k = 1 by omega, show 4 * k + 2 - 4 * k = 2 by omega, show 4 * k + 3 - 4 * k = 3 by omega]
  simp [List.replicate_succ, leBytes]
/-- The words of a block. -/
def blockWords (key : List (BitVec 8)) (c : BitVec 32) (nonce : List (BitVec 8)) : List (BitVec 32) := (List.range 16).map fun i => (doubles (squareOf key c nonce) 10).getD i 0#32 + (squareOf key c nonce).getD i 0#32
/-- The block. -/
def ccBlock (key : List (BitVec 8)) (c : BitVec 32) (nonce : List (BitVec 8)) : List (BitVec 8) := flatTo (blockWords key c nonce) 16
theorem blockWords_length (key : List (BitVec 8)) (c : BitVec 32) (nonce : List (BitVec 8)) : (blockWords key c nonce).length = 16 := by simp [blockWords]
theorem blockWords_get (key : List (BitVec 8)) (c : BitVec 32) (nonce : List (BitVec 8)) (k : Nat) (hk : k < 16) : (blockWords key c nonce).getD k 0#32 = (doubles (squareOf key c nonce) 10).getD k 0#32 + (squareOf key c nonce).getD k 0#32 := by
  simp [blockWords, List.getD, hk]
theorem ccBlock_length (key : List (BitVec 8)) (c : BitVec 32) (nonce : List (BitVec 8)) : (ccBlock key c nonce).length = 64 := flatTo_length _ 16 (by rw [blockWords_length]; omega)
theorem list16 (l : List (BitVec 32)) (hl : l.length = 16) : ∃ x0 x1 x2 x3 x4 x5 x6 x7 x8 x9 x10 x11 x12 x13 x14 x15, l = [x0, x1, x2, x3, x4, x5, x6, x7, x8, x9, x10, x11, x12, x13, x14, x15] := by
  match l, hl with
  | [x0, x1, x2, x3, x4, x5, x6, x7, x8, x9, x10, x11, x12, x13, x14, x15], _ => exact ⟨_, _, _, _, _, _, _, _, _, _, _, _, _, _, _, _, rfl⟩
theorem index66c (x0 x1 x2 x3 x4 x5 x6 x7 x8 x9 x10 x11 x12 x13 x14 x15 : BitVec 32) (k : Nat) (hk : k < 16) (w : World) : (Instr.index 88 (.agg (wordsV [x0, x1, x2, x3, x4, x5, x6, x7, x8, x9, x10, x11, x12, x13, x14, x15]).toArray) (.int .i64 (k : Int))).run Tryd.prog w = .ok (.int .u32 (n32 ([x0, x1, x2, x3, x4, x5, x6, x7, x8, x9, x10, x11, x12, x13, x14, x15].getD k 0#32))) w := by
  rcases k with _ | _ | _ | _ | _ | _ | _ | _ | _ | _ | _ | _ | _ | _ | _ | _ | k
  · kernel_rfl
  · kernel_rfl
  · kernel_rfl
  · kernel_rfl
  · kernel_rfl
  · kernel_rfl
  · kernel_rfl
  · kernel_rfl
  · kernel_rfl
  · kernel_rfl
  · kernel_rfl
  · kernel_rfl
  · kernel_rfl
  · kernel_rfl
  · kernel_rfl
  · kernel_rfl
  · omega
theorem index66 (l : List (BitVec 32)) (hl : l.length = 16) (k : Nat) (hk : k < 16) (w : World) : (Instr.index 88 (.agg (wordsV l).toArray) (.int .i64 (k : Int))).run Tryd.prog w = .ok (.int .u32 (n32 (l.getD k 0#32))) w := by
  obtain ⟨x0, x1, x2, x3, x4, x5, x6, x7, x8, x9, x10, x11, x12, x13, x14, x15, rfl⟩ := list16 l hl
  exact index66c x0 x1 x2 x3 x4 x5 x6 x7 x8 x9 x10 x11 x12 x13 x14 x15 k hk w
theorem infoKey (l : List (BitVec 8)) (h : l.length = 32) : (Tryd.prog.info? 23).map (·.size) = some (bytesV l).toArray.size :=
  (show (Tryd.prog.info? 23).map (·.size) = some 32 by kernel_rfl).trans (congrArg some (bytesV_size _ 32 h).symm)
theorem infoNonce (l : List (BitVec 8)) (h : l.length = 12) : (Tryd.prog.info? 25).map (·.size) = some (bytesV l).toArray.size :=
  (show (Tryd.prog.info? 25).map (·.size) = some 12 by kernel_rfl).trans (congrArg some (bytesV_size _ 12 h).symm)
theorem infoBlk (l : List (BitVec 8)) (h : l.length = 64) : (Tryd.prog.info? 66).map (·.size) = some (bytesV l).toArray.size :=
  (show (Tryd.prog.info? 66).map (·.size) = some 64 by kernel_rfl).trans (congrArg some (bytesV_size _ 64 h).symm)
/-- The key, the nonce and a block of noughts, laid first. -/
structure KnW (w : World) (key nonce : List (BitVec 8)) (wr : World) : Prop where
  key : BytesAt wr w.heap.size 23 key
  nonce : BytesAt wr (w.heap.size + 1) 25 nonce
  res : BytesAt wr (w.heap.size + 1 + 1) 66 (noughts 64)
  below : Below w.heap.size w wr
theorem KnW.on {w wr w' : World} {key nonce : List (BitVec 8)} (h : KnW w key nonce wr) (hb : Below wr.heap.size wr w') : KnW w key nonce w' := ⟨h.key.keep hb, h.nonce.keep hb, h.res.keep hb, h.below.trans (hb.mono h.below.size)⟩
theorem knw_start (w : World) (key nonce : List (BitVec 8)) (A : Array Value) (hA : A = (bytesV (noughts 64)).toArray) :
    KnW w key nonce (((w.alloc (.cells (bytesV key).toArray 23)).alloc (.cells (bytesV nonce).toArray 25)).alloc (.cells A 66)) := by
  subst hA
  exact ⟨alloc3_1 _ _ _ _, alloc3_2 _ _ _ _, alloc3_3 _ _ _ _, alloc3_below _ _ _ _⟩
structure BlkW (w : World) (G1 G3 : Nat) (sq : List (BitVec 32)) (l : List (BitVec 8)) (wr : World) : Prop where
  row : WordsAt wr G1 88 sq
  blk : BytesAt wr G3 66 l
  res : BytesAt wr (w.heap.size + 1 + 1) 66 (noughts 64)
  below : Below w.heap.size w wr
theorem BlkW.put {w wr : World} {G1 G3 : Nat} {sq : List (BitVec 32)} {l : List (BitVec 8)} (h : BlkW w G1 G3 sq l wr) (h1 : G1 ≠ G3) (h2 : w.heap.size + 1 + 1 < G3) (k : Nat) (x : BitVec 8) : BlkW w G1 G3 sq (l.set k x) (wr.setCell ⟨G3, k, none⟩ (.int .u8 (n8 x))) :=
  ⟨h.row.setOther h1 _ _, h.blk.put k x, h.res.putOther (by omega) _ _, h.below.setCell (by show w.heap.size ≤ G3; omega) _⟩

attribute [local irreducible] flatTo squareOf doubles blockWords
set_option maxRecDepth 100000 in
set_option maxHeartbeats 2000000 in
theorem ccBlock_any (key nonce : List (BitVec 8)) (c : BitVec 32) (w : World) (hk : key.length = 32) (hn : nonce.length = 12) (hq : Quads w) :
    Calls Tryd.prog 39 #[.agg (bytesV key).toArray, .int .u32 (n32 c), .agg (bytesV nonce).toArray] w
      fun e w' => e = .returned (.agg (bytesV (ccBlock key c nonce)).toArray) ∧ Below w.heap.size w w' := by
  have hqs := hq.size
  have HQ := Lib.hid hq; clear hq
  have HKL := Lib.hid hk; clear hk
  have HNL := Lib.hid hn; clear hn
  have HIK := Lib.hid (infoKey key HKL.out)
  have HIN := Lib.hid (infoNonce nonce HNL.out)
  go_enter Tryd.func39, Tryd.ntmps39
  go_upto_region 1 with (fail)
  refine wp_gen (KnW w key nonce) (knw_start w key nonce _ (by rfl)) ?_
  intro w0 hw0
  have HW0 := Lib.hid hw0; clear hw0
  go_wp2_with (first
    | (refine wpList_load_row rfl 23 (.tmp 3) rfl w.heap.size rfl 23 (bytesV key).toArray (0, 0) _ HW0.out.key Tryd.underlying23 rfl HIK.out ?_)
    | (refine wpList_load_row rfl 25 (.tmp 5) rfl (w.heap.size + 1) rfl 25 (bytesV nonce).toArray (0, 0) _ HW0.out.nonce Tryd.underlying25 rfl HIN.out ?_))
  refine (matrix_any key nonce c w0 HKL.out HNL.out).mono ?_
  rintro e w1 ⟨rfl, hb1⟩
  have HW1 := Lib.hid (HW0.out.on hb1); clear hb1 HW0
  have HSL := Lib.hid (squareOf_length key c nonce)
  have HBW := Lib.hid (blockWords_length key c nonce)
  have HBG := Lib.hid (blockWords_get key c nonce)
  have HCB : Hid (ccBlock key c nonce = flatTo (blockWords key c nonce) 16) := show _ = _ from rfl
  generalize squareOf key c nonce = sq at HSL HBG ⊢
  have HI66 := Lib.hid (info16 sq HSL.out)
  have HDL := Lib.hid ((doubles_length sq 10).trans HSL.out)
  have HI67 := Lib.hid (info16 (doubles sq 10) HDL.out)
  have HO66 := Lib.hid (show (wordsV (List.replicate 16 0#32)).toArray.size = (wordsV sq).toArray.size by rw [wordsV_size _ 16 HSL.out]; rfl)
  have HO67 := Lib.hid (show (wordsV (List.replicate 16 0#32)).toArray.size = (wordsV (doubles sq 10)).toArray.size by rw [wordsV_size _ 16 HDL.out]; rfl)
  have H66 := Lib.hid (wordsV_one sq)
  have H67 := Lib.hid (wordsV_one (doubles sq 10))
  go_wp2_with (first
    | (refine wpList_store_new rfl 88 (.tmp 7) (.tmp 15) rfl w1.heap.size rfl (wordsV sq).toArray rfl rfl HI66.out (by rw [← zero16]; exact HO66.out) H66.out ?_; intro w2 h2 b2; have HR2 := Lib.hid (show WordsAt w2 w1.heap.size 88 sq from h2); have HW2 := Lib.hid (HW1.out.on b2); clear h2 b2)
    | (refine wpList_load_row rfl 88 (.tmp 7) rfl w1.heap.size rfl 88 (wordsV sq).toArray (0, 0) _ HR2.out Tryd.underlying88 rfl HI66.out ?_))
  have hlt1 : w.heap.size + 1 + 1 < w1.heap.size := HW1.out.res.size
  clear HW1
  generalize w1.heap.size = G1 at HR2 hlt1 ⊢
  refine (mix16_any sq w2 HSL.out (HQ.out.below HW2.out.below hqs)).mono ?_
  rintro e w3 ⟨rfl, hb3⟩
  have HR3 := Lib.hid (HR2.out.keep hb3)
  have HW3 := Lib.hid (HW2.out.on hb3); clear hb3 HR2 HW2
  have HIX := Lib.hid (index66 (doubles sq 10) HDL.out)
  generalize doubles sq 10 = mx at HBG HI67 HO67 H67 HIX HDL ⊢
  go_wp2_with (first
    | (refine wpList_store_new rfl 88 (.tmp 8) (.tmp 17) rfl w3.heap.size rfl (wordsV mx).toArray rfl rfl HI67.out (by rw [← zero16]; exact HO67.out) H67.out ?_; intro w4 h4 b4; have HX4 := Lib.hid (show WordsAt w4 w3.heap.size 88 mx from h4); have HR4 := Lib.hid (HR3.out.keep b4); have HW4 := Lib.hid (HW3.out.on b4); clear h4 b4)
    | (refine wpList_load_row rfl 88 (.tmp 8) rfl w3.heap.size rfl 88 (wordsV mx).toArray (0, 0) _ (HX4.out.keep ((Below.refl _ _).alloc (Nat.le_refl _) _)) Tryd.underlying88 rfl HI67.out ?_))
  have HGB : Hid (BlkW w G1 w4.heap.size sq (flatTo (blockWords key c nonce) 0 ++ noughts (64 - 4 * 0)) (w4.alloc (.cells (bytesV (noughts 64)).toArray 66))) :=
    ⟨HR4.out.keep ((Below.refl _ _).alloc (Nat.le_refl _) _), by rw [flatTo_zero]; exact heap_new_at rfl, (HW4.out.on ((Below.refl _ _).alloc (Nat.le_refl _) _)).res, (HW4.out.on ((Below.refl _ _).alloc (Nat.le_refl _) _)).below⟩
  have hlt4 : w.heap.size + 1 + 1 < w4.heap.size := HW4.out.res.size
  have hg13 : G1 < w4.heap.size := HR4.out.size
  have HFS := Lib.hid (fun k (hk : k < 16) => flatTo_set (blockWords key c nonce) k 64 (by rw [HBW.out]; exact hk) (by rw [HBW.out]))
  have HFL := Lib.hid (fun k (hk : k ≤ 16) => flatTo_length (blockWords key c nonce) k (by rw [HBW.out]; exact hk))
  clear HX4 HW4 HR4 HR3 HW3 HI66 HO66 H66 HI67 HO67 H67
  refine wp_gen (BlkW w G1 w4.heap.size sq (flatTo (blockWords key c nonce) 0 ++ noughts (64 - 4 * 0))) (by exact HGB.out) ?_
  clear HGB
  intro w5 hw5
  have HW5 := Lib.hid hw5; clear hw5
  generalize w4.heap.size = G3 at HW5 hlt4 hg13 ⊢
  have HG3 := Lib.hid hlt4; clear hlt4
  have HG13 : Hid (G1 ≠ G3) := show G1 ≠ G3 by omega
  clear hg13 hlt1
  generalize hX : blockWords key c nonce = X at HBW HBG HCB HFS HFL HW5
  clear hX
  go_loopw [10, 11, 19] (fun _ _ i wr => ∃ k : Nat, k ≤ 16 ∧ i = .int .i64 (k : Int) ∧ BlkW w G1 G3 sq (flatTo X k ++ noughts (64 - 4 * k)) wr) (fun _ _ i _ => 16 - (intOf i).toNat)
  case atStart => exact ⟨0, by omega, rfl, HW5.out⟩
  case round =>
    clear HW5
    obtain ⟨k, hk, rfl, hw⟩ := hrel
    by_cases hlt : k < 16
    · have hlen : (flatTo X k ++ noughts (64 - 4 * k)).length = 64 := by rw [List.length_append, HFL.out k hk, noughts_length]; omega
      have HF := Lib.hid (HFS.out k hlt)
      have HG := Lib.hid (HBG.out k hlt)
      have hix := HIX.out k hlt
      have cs := hw.row.cell k (by rw [HSL.out]; exact hlt)
      have e0 := hw.blk.cell (4 * k) (by omega)
      have e1 := hw.blk.cell (4 * k + 1) (by omega)
      have e2 := hw.blk.cell (4 * k + 2) (by omega)
      have e3 := hw.blk.cell (4 * k + 3) (by omega)
      have f0 := hw.blk.frozenAt (4 * k)
      have f1 := hw.blk.frozenAt (4 * k + 1)
      have f2 := hw.blk.frozenAt (4 * k + 2)
      have f3 := hw.blk.frozenAt (4 * k + 3)
      generalize mx.getD k 0#32 = x at hix HG
      generalize sq.getD k 0#32 = y at cs HG
      rw [HG.out] at HF
      have HW := Lib.hid hw; clear hw hlen
      go_wp2_with fail
      go_roundw
      case rel =>
        refine ⟨k + 1, by omega, by go_num, ?_⟩
        rw [← HF.out]
        exact (((HW.out.put HG13.out HG3.out _ _).put HG13.out HG3.out _ _).put HG13.out HG3.out _ _).put HG13.out HG3.out _ _
      case measure => simp [intOf]; omega
    · have HK : Hid (k = 16) := show k = 16 by omega
      have hfull : BytesAt wr G3 66 (ccBlock key c nonce) := by
        have h1 := hw.blk
        rw [HK.out] at h1
        rw [HCB.out]
        simpa [noughts] using h1
      have HLEN := Lib.hid (ccBlock_length key c nonce)
      have HI := Lib.hid (infoBlk _ HLEN.out)
      have HOLD := Lib.hid (show (bytesV (noughts 64)).toArray.size = (bytesV (ccBlock key c nonce)).toArray.size by rw [bytesV_size _ 64 HLEN.out, bytesV_size _ 64 (noughts_length 64)])
      have HONE := Lib.hid (bytesV_one (ccBlock key c nonce))
      have HZ := Lib.hid hw.res
      have HB := Lib.hid hw.below
      have HFULL : Hid (wr.heap[G3]? = some (.cells (bytesV (ccBlock key c nonce)).toArray 66 (0, 0))) := hfull
      clear hw hfull
      generalize hfe : (bytesV (ccBlock key c nonce)).toArray = full at HFULL HI HOLD HONE
      have HFE := Lib.hid hfe; clear hfe
      go_wp2_with (first
        | (refine wpList_load_row rfl 66 (.tmp 9) rfl G3 rfl 66 full (0, 0) _ HFULL.out Tryd.underlying66 rfl HI.out ?_)
        | (refine wpList_store_row rfl 66 (.tmp 6) (.tmp 55) rfl (w.heap.size + 1 + 1) full rfl rfl 66 _ HZ.out HI.out HOLD.out HONE.out ?_))
      have hrow := setRow_heap wr (w.heap.size + 1 + 1) _ full 66 _ HZ.out
      have hbel := below_setRow HB.out (show w.heap.size ≤ w.heap.size + 1 + 1 by omega) full
      generalize wr.setRow (w.heap.size + 1 + 1) full = wz at hrow hbel ⊢
      have hres : ∀ tmps : Array Value, tmps.getD 6 undef = .pointer (some ⟨w.heap.size + 1 + 1, 0, none⟩) → Sem.run Tryd.prog (results Tryd.f39 tmps) wz = .ok (.agg full) wz := fun tmps h =>
        results_cell_row (P := Tryd.prog) (p := 6) (ty := 66) Tryd.results39 tmps wz (w.heap.size + 1 + 1) 66 full (0, 0) (TypeDesc.array 64 5) h hrow Tryd.underlying66 rfl HI.out
      exact bodyPost_ret (v := .agg full) (hres _ rfl) rfl ⟨by rw [HFE.out], hbel⟩
end Go.Proofs.YtagkkihnfipfeaaDoor
