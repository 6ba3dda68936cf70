/-
  The contract of the closure that chacha.keystream makes: to every caller it gives the first n bytes of the keystream, each with its index.
-/
import Derived.Test.YtagkkihnfipfeaaDoorCcBlock
import Derived.Test.YtagkkihnfipfeaaDoorSeqCells
namespace Go.Proofs.YtagkkihnfipfeaaDoor
open Go.RowKit Go.Proofs.ShaWords
attribute [local go_sem] and32 or32 xor32 add32 shl32 shr32 wrap32_n8 wrap8_n32 Oper.semAt_some

/-- The keystream's j-th block; its k-th byte. -/
def blkAt (key : List (BitVec 8)) (c : BitVec 32) (nonce : List (BitVec 8)) (j : Nat) : List (BitVec 8) := ccBlock key (c + BitVec.ofNat 32 j) nonce
def ksAt (key : List (BitVec 8)) (c : BitVec 32) (nonce : List (BitVec 8)) (k : Nat) : BitVec 8 := (blkAt key c nonce (k / 64)).getD (k % 64) 0#8
theorem blkAt_length (key : List (BitVec 8)) (c : BitVec 32) (nonce : List (BitVec 8)) (j : Nat) : (blkAt key c nonce j).length = 64 := ccBlock_length _ _ _
def ksEncs (key : List (BitVec 8)) (c : BitVec 32) (nonce : List (BitVec 8)) (k : Nat) : Array Value := #[.int .i64 (k : Int), .int .u8 (n8 (ksAt key c nonce k))]
theorem wrap32_nat (m : Nat) : IntKind.u32.wrap (m : Int) = n32 (BitVec.ofNat 32 m) := by
  unfold n32; rw [IntKind.wrap_u32', BitVec.toNat_ofNat]; omega
/-- The boxes that the closure has captured. -/
structure KsBoxes (key : List (BitVec 8)) (c : BitVec 32) (nonce : List (BitVec 8)) (n bn bk bc bo : Nat) (w : World) : Prop where
  n : w.heap[bn]? = some (.cells #[.int .i64 (n : Int)] 3 (0, 0))
  key : BytesAt w bk 23 key
  c : w.heap[bc]? = some (.cells #[.int .u32 (n32 c)] 49 (0, 0))
  nonce : BytesAt w bo 25 nonce
  quads : Quads w
theorem one_cell {w : World} {b : Nat} {v : Value} {t : TypeId} (h : w.heap[b]? = some (.cells #[v] t (0, 0))) : w.cell? ⟨b, 0, none⟩ = some v := by rw [cell_of_row w b 0 _ _ _ h]; rfl
theorem KsBoxes.spared {key nonce : List (BitVec 8)} {c : BitVec 32} {n bn bk bc bo : Nat} {w w' : World} {T : Nat → Prop} (h : KsBoxes key c nonce n bn bk bc bo w) (hs : Spares T w w') (h1 : ¬ T bn) (h2 : ¬ T bk) (h3 : ¬ T bc) (h4 : ¬ T bo) (h5 : ¬ T 0) : KsBoxes key c nonce n bn bk bc bo w' :=
  ⟨(hs.block _ (Array.getElem?_eq_some_iff.1 h.n).1 h1).trans h.n, (hs.block _ h.key.size h2).trans h.key, (hs.block _ (Array.getElem?_eq_some_iff.1 h.c).1 h3).trans h.c, (hs.block _ h.nonce.size h4).trans h.nonce,
   fun j v hv => (World.cell?_of_block (a := ⟨0, 0 + j, none⟩) (hs.block _ h.quads.size h5)).trans (h.quads j v hv)⟩
theorem KsBoxes.below {key nonce : List (BitVec 8)} {c : BitVec 32} {n bn bk bc bo : Nat} {w w' : World} (h : KsBoxes key c nonce n bn bk bc bo w) (hb : Below w.heap.size w w') : KsBoxes key c nonce n bn bk bc bo w' :=
  h.spared (T := fun _ => False) (Spares.all hb) id id id id id

/-- Between two rounds. -/
structure KsW (T : Nat → Prop) (J : Nat → World → Prop) (key : List (BitVec 8)) (c : BitVec 32) (nonce : List (BitVec 8)) (W : World) (k : Nat) (wr : World) : Prop where
  inv : J k wr
  spares : Spares T W wr
  blk : ∃ b, BytesAt wr W.heap.size 66 b ∧ b.length = 64 ∧ (k % 64 ≠ 0 → b = blkAt key c nonce (k / 64))
def KsMid (T : Nat → Prop) (J : Nat → World → Prop) (b : List (BitVec 8)) (W : World) (k : Nat) (wr : World) : Prop := J k wr ∧ Spares T W wr ∧ BytesAt wr W.heap.size 66 b

theorem Spares.then_below {T : Nat → Prop} {W a b : World} (h : Spares T W a) (hb : Below W.heap.size a b) : Spares T W b :=
  ⟨hb.os.trans h.os, hb.tape.trans h.tape, hb.output.trans h.output, Nat.le_trans h.size hb.size, fun i hi hn => (hb.block i hi).trans (h.block i hi hn)⟩
attribute [local irreducible] ccBlock
set_option maxRecDepth 100000 in
set_option maxHeartbeats 4000000 in
theorem stream_gives (key nonce : List (BitVec 8)) (c : BitVec 32) (n bn bk bc bo m : Nat) (T : Nat → Prop) (w : World) (hkl : key.length = 32) (hnl : nonce.length = 12) (hn : n ≤ 1099511627776) (hT : ∀ b, T b → b < w.heap.size)
    (hB : KsBoxes key c nonce n bn bk bc bo w) (t1 : ¬ T bn) (t2 : ¬ T bk) (t3 : ¬ T bc) (t4 : ¬ T bo) (t5 : ¬ T 0) :
    Gives Tryd.prog 38 #[.pointer (some ⟨bn, 0, none⟩), .pointer (some ⟨bk, 0, none⟩), .pointer (some ⟨bc, 0, none⟩), .pointer (some ⟨bo, 0, none⟩)] (ksEncs key c nonce) n T m w := by
  intro l J W hb hl1 hl2 hJ hY h0
  have s1 := (Array.getElem?_eq_some_iff.1 hB.n).1
  have s2 := hB.key.size
  have s3 := (Array.getElem?_eq_some_iff.1 hB.c).1
  have s4 := hB.nonce.size
  have s5 := hB.quads.size
  have HBX : Hid (∀ wr, Spares (fun b => T b ∨ b = l) W wr → KsBoxes key c nonce n bn bk bc bo wr) := fun wr hs => (hB.below hb).spared hs (fun h => h.elim t1 (by omega)) (fun h => h.elim t2 (by omega)) (fun h => h.elim t3 (by omega)) (fun h => h.elim t4 (by omega)) (fun h => h.elim t5 (by omega))
  have HTW : Hid (∀ b, (fun b => T b ∨ b = l) b → b < W.heap.size) := fun b (h : T b ∨ b = l) => h.elim (fun h => Nat.lt_of_lt_of_le (hT b h) hb.size) (fun h => by rw [h]; exact hl2)
  have HY := Lib.hid hY; clear hY
  have HJ := Lib.hid hJ; clear hJ
  have HJ0 := Lib.hid h0; clear h0
  have HKL := Lib.hid hkl; clear hkl
  have HNL := Lib.hid hnl; clear hnl
  have HIK := Lib.hid (infoKey key HKL.out)
  have HIN := Lib.hid (infoNonce nonce HNL.out)
  have hN := one_cell (hB.below hb).n
  clear hB t1 t2 t3 t4 t5 s1 s2 s3 s4 s5 hT hb
  show Calls Tryd.prog 38 #[.func (.yield l) #[] #[], .pointer (some ⟨bn, 0, none⟩), .pointer (some ⟨bk, 0, none⟩), .pointer (some ⟨bc, 0, none⟩), .pointer (some ⟨bo, 0, none⟩)] W _
  generalize (fun b => T b ∨ b = l) = U at HBX HTW HY ⊢
  have hnb : bn < W.heap.size := (World.block_lt_of_cell? W _ hN)
  go_enter Tryd.func38, Tryd.ntmps38
  go_wp2_with fail
  have HK0 : Hid (KsW U J key c nonce W 0 (W.alloc (.cells (bytesV (noughts 64)).toArray 66))) :=
    ⟨HJ.out 0 _ _ HJ0.out ((Below.refl _ _).alloc (Nat.le_refl _) _), Spares.all ((Below.refl _ _).alloc (Nat.le_refl _) _), _, heap_new_at rfl, noughts_length 64, fun h => absurd rfl h⟩
  refine wp_gen (KsW U J key c nonce W 0) (by exact HK0.out) ?_
  clear HK0 HJ0 hN hl1 hl2 hnb
  intro w5 hw5
  have HW5 := Lib.hid hw5; clear hw5
  go_loopw [7, 9] (fun _ i wr => ∃ k : Nat, k ≤ n ∧ i = .int .i64 (k : Int) ∧ KsW U J key c nonce W k wr) (fun _ i _ => n - (intOf i).toNat)
  case atStart => exact ⟨0, Nat.zero_le _, rfl, HW5.out⟩
  case round =>
    clear HW5
    obtain ⟨k, hk, rfl, hw⟩ := hrel
    by_cases hlt : k < n
    · have hbx := HBX.out wr hw.spares
      obtain ⟨b, hb, hbl, hbe⟩ := hw.blk
      have HBE := Lib.hid hbe; clear hbe
      have HBL := Lib.hid hbl; clear hbl
      have HBA := Lib.hid hb; clear hb
      have HJK := Lib.hid hw.inv
      have HSP := Lib.hid hw.spares
      clear hw
      have HBK := Lib.hid hbx.key
      have HBO := Lib.hid hbx.nonce
      have HQ := Lib.hid hbx.quads
      have hc := one_cell hbx.c
      clear hbx
      have hwr : IntKind.u32.wrap ((k : Int) / 64) = n32 (BitVec.ofNat 32 (k / 64)) := wrap32_nat (k / 64)
      have q0 : (k : Int) < (n : Int) := by omega
      by_cases hm : k % 64 = 0
      · have hm1 : ((k : Int) % 64 == 0) = true := by have : (k : Int) % 64 = 0 := by omega
                                                      simp [this]
        have HM := Lib.hid hm; clear hm
        have HLX := Lib.hid (ccBlock_length key (c + BitVec.ofNat 32 (k / 64)) nonce)
        have HIB := Lib.hid (infoBlk _ HLX.out)
        have HOLD := Lib.hid (show (bytesV b).toArray.size = (bytesV (ccBlock key (c + BitVec.ofNat 32 (k / 64)) nonce)).toArray.size by rw [bytesV_size _ 64 HLX.out, bytesV_size _ 64 HBL.out])
        have HONE := Lib.hid (bytesV_one (ccBlock key (c + BitVec.ofNat 32 (k / 64)) nonce))
        go_upto_region 6 with (first
          | (refine wpList_load_row rfl 23 (.tmp 2) rfl bk rfl 23 (bytesV key).toArray (0, 0) _ HBK.out Tryd.underlying23 rfl HIK.out ?_)
          | (refine wpList_load_row rfl 25 (.tmp 4) rfl bo rfl 25 (bytesV nonce).toArray (0, 0) _ HBO.out Tryd.underlying25 rfl HIN.out ?_)
          | (go_at_call 39; refine (ccBlock_any key nonce _ _ HKL.out HNL.out HQ.out).mono ?_; rintro e w6 ⟨rfl, hb6⟩; have HB6 := Lib.hid hb6; clear hb6)
          | (refine wpList_store_row rfl 66 (.tmp 6) (.tmp 22) rfl W.heap.size (bytesV (ccBlock key (c + BitVec.ofNat 32 (k / 64)) nonce)).toArray rfl rfl 66 _ (HBA.out.keep HB6.out) HIB.out HOLD.out HONE.out ?_))
        have HBL6 := Lib.hid (below_setRow (HB6.out.mono HSP.out.size) (Nat.le_refl W.heap.size) (bytesV (ccBlock key (c + BitVec.ofNat 32 (k / 64)) nonce)).toArray)
        have HRW6 := Lib.hid (setRow_heap w6 W.heap.size _ (bytesV (ccBlock key (c + BitVec.ofNat 32 (k / 64)) nonce)).toArray 66 _ (HBA.out.keep HB6.out))
        refine wp_gen (KsMid U J (blkAt key c nonce (k / 64)) W k) ⟨HJ.out _ _ _ HJK.out HBL6.out, HSP.out.then_below HBL6.out, HRW6.out⟩ ?_
        clear HBL6 HRW6 HB6 HBA HOLD HBL HIB HLX HONE
        intro w7 hw7
        have HS7 := Lib.hid hw7.2.1
        have HB7 := Lib.hid hw7.2.2
        have hcell := hw7.2.2.cell (k % 64) (by rw [blkAt_length]; omega)
        obtain ⟨fn, tm, asg, bdy, hy0, hR⟩ := HY.out k w7 hlt hw7.1
        have hy : (Instr.yield l #[.int .i64 (k : Int), .int .u8 (n8 ((blkAt key c nonce (k / 64)).getD (k % 64) 0#8))]).run Tryd.prog w7 = .ok (.round l fn tm asg bdy) w7 := hy0
        have HR := Lib.hid hR
        clear hw7 hy0 hR
        generalize (blkAt key c nonce (k / 64)).getD (k % 64) 0#8 = kb at hy hcell
        have n0 : ((k : Int) % 64).toNat = k % 64 := by omega
        have l0 : (k : Int) % 64 < 64 := by omega
        have p0 : 0 ≤ (k : Int) % 64 := by omega
        refine (wpIn_wide (n := m + 1)).1 ?_
        gi_wp2
        refine HR.out.mono ?_
        rintro e w8 ⟨rfl, hj8, hs8⟩
        have HK8 : Hid (KsW U J key c nonce W (k + 1) w8) := ⟨hj8, ⟨hs8.os.trans HS7.out.os, hs8.tape.trans HS7.out.tape, hs8.output.trans HS7.out.output, Nat.le_trans HS7.out.size hs8.size, fun i hi hn => (hs8.block i (Nat.lt_of_lt_of_le hi HS7.out.size) hn).trans (HS7.out.block i hi hn)⟩, _, (hs8.block _ HB7.out.size (fun h => by have := HTW.out _ h; omega)).trans HB7.out, blkAt_length _ _ _ _, fun h => by rw [show (k + 1) / 64 = k / 64 by omega]⟩
        gi_wp2
        go_wp2_with fail
        go_roundw
        case rel => exact ⟨k + 1, by omega, by go_num, HK8.out⟩
        case measure => simp [intOf]; omega
      · have hm1 : ((k : Int) % 64 == 0) = false := by
          have : ¬ (k : Int) % 64 = 0 := by omega
          simp [this]
        have hbe := HBE.out hm
        have HB2 := Lib.hid (show BytesAt wr W.heap.size 66 (blkAt key c nonce (k / 64)) by rw [← hbe]; exact HBA.out)
        have HM := Lib.hid hm; clear hm hbe HBE HBA HBL
        go_upto_region 6 with (fail)
        refine wp_gen (KsMid U J (blkAt key c nonce (k / 64)) W k) ⟨HJK.out, HSP.out, HB2.out⟩ ?_
        clear HB2
        intro w7 hw7
        have HS7 := Lib.hid hw7.2.1
        have HB7 := Lib.hid hw7.2.2
        have hcell := hw7.2.2.cell (k % 64) (by rw [blkAt_length]; omega)
        obtain ⟨fn, tm, asg, bdy, hy0, hR⟩ := HY.out k w7 hlt hw7.1
        have hy : (Instr.yield l #[.int .i64 (k : Int), .int .u8 (n8 ((blkAt key c nonce (k / 64)).getD (k % 64) 0#8))]).run Tryd.prog w7 = .ok (.round l fn tm asg bdy) w7 := hy0
        have HR := Lib.hid hR
        clear hw7 hy0 hR
        generalize (blkAt key c nonce (k / 64)).getD (k % 64) 0#8 = kb at hy hcell
        have n0 : ((k : Int) % 64).toNat = k % 64 := by omega
        have l0 : (k : Int) % 64 < 64 := by omega
        have p0 : 0 ≤ (k : Int) % 64 := by omega
        refine (wpIn_wide (n := m + 1)).1 ?_
        gi_wp2
        refine HR.out.mono ?_
        rintro e w8 ⟨rfl, hj8, hs8⟩
        have HK8 : Hid (KsW U J key c nonce W (k + 1) w8) := ⟨hj8, ⟨hs8.os.trans HS7.out.os, hs8.tape.trans HS7.out.tape, hs8.output.trans HS7.out.output, Nat.le_trans HS7.out.size hs8.size, fun i hi hn => (hs8.block i (Nat.lt_of_lt_of_le hi HS7.out.size) hn).trans (HS7.out.block i hi hn)⟩, _, (hs8.block _ HB7.out.size (fun h => by have := HTW.out _ h; omega)).trans HB7.out, blkAt_length _ _ _ _, fun h => by rw [show (k + 1) / 64 = k / 64 by omega]⟩
        gi_wp2
        go_wp2_with fail
        go_roundw
        case rel => exact ⟨k + 1, by omega, by go_num, HK8.out⟩
        case measure => simp [intOf]; omega
    · have HK : Hid (k = n) := show k = n by omega
      have HWW := Lib.hid hw; clear hw
      go_wp2_with fail
      go_end0
      exact ⟨⟨_, rfl⟩, by rw [← HK.out]; exact HWW.out.inv, HWW.out.spares⟩
end Go.Proofs.YtagkkihnfipfeaaDoor
