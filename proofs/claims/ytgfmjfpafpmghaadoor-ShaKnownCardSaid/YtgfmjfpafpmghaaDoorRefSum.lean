/- The document's answer: its sum of any bytes is the code's (function 11). -/
import Derived.Test.YtgfmjfpafpmghaaDoorRefBlock
import Derived.Test.YtgfmjfpafpmghaaDoorRefRow
namespace Go.Proofs.YtgfmjfpafpmghaaDoor
open Go.RowKit Go.Proofs.ShaWords
/-- The eight words behind m blocks of a row. -/
def stateOf (row : List (BitVec 8)) (m : Nat) : St := (writeOf newHS (row.take (64 * m))).s
theorem stateOf_zero (row : List (BitVec 8)) : stateOf row 0 = iv := rfl
theorem splice_whole (L bs : List (BitVec 8)) (h : L.length = bs.length) : splice L 0 bs = bs := by
  unfold splice
  rw [List.take_zero, List.nil_append, Nat.zero_add, ← h, List.drop_length, List.append_nil]
theorem stateOf_succ (row : List (BitVec 8)) (m : Nat) (h : 64 * (m + 1) ≤ row.length) : stateOf row (m + 1) = mixOf (stateOf row m) ((row.drop (64 * m)).take 64) := by
  have hb : ((row.drop (64 * m)).take 64).length = 64 := by rw [List.length_take, List.length_drop]; omega
  have hn : (writeOf newHS (row.take (64 * m))).n = 64 * m := by
    rw [writeOf_n, List.length_take]
    show 0 + _ = _
    omega
  have hk : (writeOf newHS (row.take (64 * m))).blk.length = 64 := by rw [writeOf_blk_length]; rfl
  unfold stateOf
  rw [show 64 * (m + 1) = 64 * m + 64 by omega, List.take_add, writeOf_append, writeOf_chunk _ _ hk (by intro h0; rw [h0] at hb; cases hb) (by rw [hn, hb]; omega), hn, hb, if_pos (by omega), show 64 * m % 64 = 0 by omega, splice_whole _ _ (by rw [hk, hb])]
theorem row_length (n : Nat) : ∃ M, n + (padOf n).length = 64 * M := by
  rw [padOf, padTo_length]
  refine ⟨(n + (1 + zc n + 8)) / 64, ?_⟩
  unfold zc; omega
theorem stateOf_full (l : List (BitVec 8)) (M : Nat) (h : l.length + (padOf l.length).length = 64 * M) : digestOf (stateOf (l ++ padOf l.length) M) = shaOf l := by
  unfold stateOf shaOf sumOf
  rw [List.take_of_length_le (by rw [List.length_append]; omega), writeOf_append]
  have : (writeOf newHS l).n = l.length := by rw [writeOf_n]; show 0 + _ = _; omega
  rw [this]
theorem mod32_256 (x : BitVec 32) : n32 x % 256 = n8 (lo8 x) := by
  unfold n32 n8 lo8; rw [BitVec.toNat_setWidth]; omega
theorem rem32_256 (x : BitVec 32) : (n32 x).tmod 256 = n8 (lo8 x) := (Int.tmod_eq_emod_of_nonneg (n32_nonneg x)).trans (mod32_256 x)
theorem mod8_32 (x : BitVec 8) : n8 x % 4294967296 = n8 x := by unfold n8; have := x.isLt; omega
theorem mod8_8 (x : BitVec 8) : n8 x % 256 = n8 x := by unfold n8; have := x.isLt; omega
theorem wrap8_n8 (x : BitVec 8) : IntKind.u8.wrap (n8 x) = n8 x := by rw [IntKind.wrap_u8', mod8_8]
theorem lo8_ext (x : BitVec 8) : lo8 (ext x) = x := by
  unfold lo8 ext
  apply BitVec.eq_of_toNat_eq
  rw [BitVec.toNat_setWidth, BitVec.toNat_setWidth]; have := x.isLt; omega
attribute [local go_sem] mod32_256 rem32_256 mod8_32 mod8_8 wrap8_n8 lo8_ext
attribute [local irreducible] stateOf mixOf padOf digestOf shaOf
attribute [local go_sem] and32 or32 xor32 add32 shl32 shr32 wrap32_n8 wrap8_n32 shl32_8 shl32_16 shl32_24 shr32_3 shr32_8 shr32_10 shr32_16 shr32_24 not32 quo32_8 quo32_256 quo32_1024 mod32
set_option maxRecDepth 100000 in
set_option maxHeartbeats 1000000 in
theorem refSum_any (l : List (BitVec 8)) (p : Option Addr) (cap : Nat) (w : World) (hl : l.length < 1000000) (hL : Lies w p l) :
    Calls Tryd.prog 31 #[.slice p l.length cap] w fun e w' => e = .returned (.agg (bytesV (shaOf l)).toArray) ∧ Below w.heap.size w w' := by
  have HL := Lib.hid hL; clear hL
  obtain ⟨M, hM⟩ := row_length l.length
  have HSF := Lib.hid (stateOf_full l M hM)
  have hM2 : 0 < M := by
    have : 0 < (padOf l.length).length := by unfold padOf; rw [padTo_length]; omega
    omega
  have hM3 : M < 20000 := by
    have := padOf_length l.length
    omega
  go_enter Tryd.func31, Tryd.ntmps31
  go_wp2_with fail
  rw [← noughts32]
  have hz0 : (w.alloc (.cells (bytesV (List.replicate 32 0#8)).toArray 33)).heap[w.heap.size]? = some (.cells (bytesV (List.replicate 32 0#8)).toArray 33 (0, 0)) := heap_alloc_new w _
  have hb0 : Below w.heap.size w (w.alloc (.cells (bytesV (List.replicate 32 0#8)).toArray 33)) := (Below.refl _ _).alloc (Nat.le_refl _) _
  have hs0 : w.heap.size < (w.alloc (.cells (bytesV (List.replicate 32 0#8)).toArray 33)).heap.size := by rw [size_alloc]; omega
  generalize w.alloc (.cells (bytesV (List.replicate 32 0#8)).toArray 33) = w1 at hz0 hb0 hs0 ⊢
  have hL1 := HL.out.below hb0
  refine (row_any l p cap w1 hl hL1).mono ?_
  rintro e w2 ⟨v2, rfl, ho2, hb2⟩
  have HO2 := Lib.hid ho2; clear ho2
  have HB2 := Lib.hid hb2; clear hb2
  have HZ0 := Lib.hid hz0; clear hz0
  have HB0 := Lib.hid hb0; clear hb0 hL1 HL
  go_wp2_with fail
  refine (starts_any w2).mono ?_
  rintro e w3 ⟨v3, rfl, ho3, hb3⟩
  have sz2 := HB2.out.size
  have sz3 := hb3.size
  have hrl : (l ++ padOf l.length).length = 64 * M := by rw [List.length_append]; exact hM
  obtain ⟨pr, cr, rfl, hcr, hcm, hlr⟩ := (HO2.out.below hb3).lies
  rcases hlr with h0 | ⟨b, off, rfl, hrr⟩
  · exfalso; rw [h0] at hrl; simp at hrl; omega
  obtain ⟨hb, hc, rfl, hgb, -, -, hrh⟩ := ho3.form (by intro h0; cases h0)
  have hbl : b < w3.heap.size := World.block_lt_of_cell? w3 _ (hrr 0 _ (by rw [bytesV, List.getElem?_map, List.getElem?_eq_getElem (by omega)]; rfl))
  have HZ3 : Hid (w3.heap[w.heap.size]? = some (.cells (bytesV (List.replicate 32 0#8)).toArray 33 (0, 0))) := by
    show _ = _
    rw [hb3.block _ (by omega), HB2.out.block _ hs0]; exact HZ0.out
  have HB3 := Lib.hid (HB0.out.trans ((HB2.out.mono (by omega)).trans (hb3.mono (by omega))))
  rw [hrl] at hcr
  rw [hrl, show iv.list.length = 8 from rfl]
  have HRL := Lib.hid hrl; clear hrl
  have HRR := Lib.hid hrr; clear hrr
  have HRH := Lib.hid hrh; clear hrh
  clear HZ0 HB0 HB2 HO2 ho3 hb3
  generalize l ++ padOf l.length = row at HSF HRL HRR
  go_wp2_with fail
  go_loopw [4, 5] (fun h i wr => ∃ m g c : Nat, m ≤ M ∧ i = .int .i64 ((64 * m : Nat) : Int) ∧ h = .slice (some ⟨g, 0, none⟩) 8 c ∧ wr.rangeAt g 0 (wordsV (stateOf row m).list) ∧ Below w3.heap.size w3 wr) (fun _ i _ => 64 * M - (intOf i).toNat)
  case atStart => exact ⟨0, hb, hc, by omega, rfl, rfl, by rw [stateOf_zero]; exact HRH.out, Below.refl _ _⟩
  case round =>
    obtain ⟨m, g, c, hm, rfl, rfl, hr, hbw⟩ := hrel
    have szr := hbw.size
    by_cases hlt : m < M
    · have HS := Lib.hid (stateOf_succ row m (by rw [HRL.out]; omega))
      have hbk : ((row.drop (64 * m)).take 64).length = 64 := by rw [List.length_take, List.length_drop, HRL.out]; omega
      have hrb : wr.rangeAt b (off + 64 * m) (bytesV ((row.drop (64 * m)).take 64)) := by
        have h1 := range_below hbw HRR.out hbl
        rw [← List.take_append_drop (64 * m) row] at h1
        have h2 := range_back h1
        rw [List.length_take, HRL.out, Nat.min_eq_left (by omega)] at h2
        rw [← List.take_append_drop 64 (row.drop (64 * m))] at h2
        exact range_front h2
      have HBK := Lib.hid hbk; clear hbk
      have HRB := Lib.hid hrb; clear hrb
      have HR2 := Lib.hid hr; clear hr
      have HBW := Lib.hid hbw; clear hbw
      have k0 : (0 : Int) ≤ ((64 * m : Nat) : Int) := by omega
      have k1 : ((64 * m : Nat) : Int) < ((64 * M : Nat) : Int) := by omega
      have k2 : ((64 * m : Nat) : Int) + 64 ≤ (cr : Int) := by omega
      have k3 : IntKind.i64.wrap (((64 * m : Nat) : Int) + 64) = ((64 * m : Nat) : Int) + 64 := IntWalk.i64_in _ (by omega)
      go_wp2_with fail
      refine (block_any (stateOf row m) _ g c b (off + 64 * m) (cr - 64 * m) wr HBK.out HR2.out HRB.out).mono ?_
      rintro e w4 ⟨v4, rfl, ho4, hb4⟩
      rw [← HS.out] at ho4
      obtain ⟨g2, c2, rfl, hg2, -, -, hr2⟩ := ho4.form (by intro h0; cases h0)
      have HR4 := Lib.hid hr2; clear hr2 ho4
      have HB4 := Lib.hid (HBW.out.trans (hb4.mono szr)); clear hb4
      go_wp2_with fail
      go_roundw
      case rel => exact ⟨m + 1, g2, c2, by omega, by go_num, rfl, HR4.out, HB4.out⟩
      case measure => simp [intOf]; omega
    · have HMM : Hid (m = M) := show m = M by omega
      have HD : Hid (digestOf (stateOf row m) = shaOf l) := by
        show _ = _
        rw [HMM.out]; exact HSF.out
      have HZR : Hid (wr.heap[w.heap.size]? = some (.cells (bytesV (List.replicate 32 0#8)).toArray 33 (0, 0))) := by
        show _ = _
        rw [hbw.block _ (by omega)]; exact HZ3.out
      have HBR := Lib.hid (HB3.out.trans (hbw.mono HB3.out.size)); clear hbw HZ3 HB3 HRR HRH HSF HRL
      have hgr : g < wr.heap.size := World.block_lt_of_cell? wr _ (word_at hr 0 (by simp [St.list]))
      have HR2 := Lib.hid hr; clear hr
      generalize stateOf row m = s at HD HR2
      have hwr : w.heap.size < wr.heap.size := by omega
      go_wp2_with fail
      refine wp_gen (fun w2 => w2.rangeAt g 0 (wordsV s.list) ∧ SumW w w.heap.size wr.heap.size (List.replicate 32 0#8) w2) ?_ ?_
      · rw [← noughts32]
        refine ⟨fun j v hv => ?_, ?_, heap_alloc_new wr _, HBR.out.alloc (by omega) _⟩
        · exact (((Below.refl wr.heap.size wr).alloc (Nat.le_refl _) _).cell (p := ⟨g, 0 + j, none⟩) hgr).trans (HR2.out j v hv)
        · rw [Below.heap_alloc _ _ _ hwr]; exact HZR.out
      intro w5 hw5
      have HW5 := Lib.hid hw5; clear hw5
      have hdl := digestOf_length s
      have HDL := Lib.hid hdl; clear hdl
      generalize wr.heap.size = G at hgr hwr HW5 ⊢
      clear HR2 HZR HBR szr
      go_loopw [7, 8, 9] (fun i _ _ wr => ∃ k : Nat, k ≤ 32 ∧ i = .int .i64 (k : Int) ∧ wr.rangeAt g 0 (wordsV s.list) ∧ SumW w w.heap.size G ((digestOf s).take k ++ List.replicate (32 - k) 0#8) wr) (fun i _ _ _ => 32 - (intOf i).toNat)
      case atStart => exact ⟨0, by omega, rfl, HW5.out.1, HW5.out.2⟩
      case round =>
        clear HW5
        obtain ⟨k, hk, rfl, hc, hw⟩ := hrel
        have hlen : ((digestOf s).take k ++ List.replicate (32 - k) 0#8).length = 32 := by rw [List.length_append, List.length_take, HDL.out]; simp; omega
        by_cases hk32 : k < 32
        · have HDG := Lib.hid (digest_get s k hk32)
          have HTS := Lib.hid (take_set_fill (digestOf s) 32 k HDL.out hk32)
          have cs := word_at hc (k / 4) (by simp [St.list]; omega)
          obtain ⟨c0, e0⟩ : ∃ v, wr.cell? ⟨G, k, none⟩ = some v := ⟨_, cell_bytesV hw.2.1 (j := k) (by omega)⟩
          have f0 := frozen_of_row _ _ k _ _ hw.2.1
          generalize s.list.getD (k / 4) 0#32 = x at cs HDG
          have HW := Lib.hid hw; clear hw hlen
          have HC := Lib.hid hc; clear hc
          have k0 : (0 : Int) ≤ (k : Int) := by omega
          go_wp2_with fail
          rename World => w6
          go_loopw [8, 9] (fun xv i wr => ∃ (d : Nat) (y : BitVec 32), k % 4 + d ≤ 3 ∧ i = .int .i64 ((k % 4 + d : Nat) : Int) ∧ xv = .int .u32 (n32 y) ∧ y = x >>> (8 * d) ∧ wr = w6) (fun _ i _ => 3 - (intOf i).toNat)
          case atStart => exact ⟨0, x, by omega, by simp, rfl, by simp, rfl⟩
          case round =>
            obtain ⟨d, y, hd, rfl, rfl, hy, rfl⟩ := hrel
            have HY := Lib.hid hy; clear hy
            generalize hi : k % 4 + d = i at hd ⊢
            have HI := Lib.hid hi; clear hi
            by_cases hd3 : i < 3
            · have HY2 : Hid (y >>> 8 = x >>> (8 * (d + 1))) := by
                show _ = _
                rw [HY.out, show 8 * (d + 1) = 8 * d + 8 by omega, BitVec.shiftRight_add]
              go_wp2_with fail
              go_roundw
              case rel => exact ⟨d + 1, y >>> 8, by have := HI.out; omega, by have := HI.out; rw [show k % 4 + (d + 1) = i + 1 by omega]; go_num, by first | rfl | (simp only [mod32]) | (rw [IntKind.wrap_u32', mod32]) | go_num, HY2.out, by first | rfl | trivial⟩
              case measure => simp [intOf]; omega
            · have HE : Hid (lo8 y = (digestOf s).getD k 0#8) := by
                show _ = _
                rw [HDG.out, HY.out, show 8 * d = 24 - 8 * (k % 4) by have := HI.out; omega]
              go_wp2_with fail
              go_roundw
              case rel =>
                refine ⟨k + 1, by omega, by go_num, ?_, ?_⟩
                · exact fun j v hv => (World.cell?_of_block (a := ⟨g, 0 + j, none⟩) (heap_setCell_other _ _ _ _ (by show g ≠ G; omega))).trans (HC.out j v hv)
                · rw [← HTS.out, ← HE.out]
                  exact HW.out.set (by omega) (by omega) k (lo8 y)
              case measure => simp [intOf]; omega
        · have HFULL : Hid (wr.heap[G]? = some (.cells (bytesV (digestOf s)).toArray 33 (0, 0))) := by
            have h1 := hw.2.1
            rw [show k = 32 by omega, List.take_of_length_le (by rw [HDL.out]; omega), show 32 - 32 = 0 by omega, List.replicate_zero, List.append_nil] at h1
            exact h1
          have HI := Lib.hid ((show (Tryd.prog.info? 33).map (·.size) = some 32 by kernel_rfl).trans (congrArg some (bytesV_size _ 32 HDL.out).symm))
          have HOLD := Lib.hid (show (bytesV (List.replicate 32 0#8)).toArray.size = (bytesV (digestOf s)).toArray.size by rw [bytesV_size _ 32 HDL.out]; rfl)
          have HONE := Lib.hid (bytesV_one (digestOf s))
          have HZ := Lib.hid hw.1
          have HB := Lib.hid hw.2.2
          clear hw hlen hc
          rw [HD.out] at HFULL HI HOLD HONE
          generalize hfe : (bytesV (shaOf l)).toArray = full at HFULL HI HOLD HONE
          have HFE := Lib.hid hfe; clear hfe
          go_wp2_with (first
            | (refine wpList_load_row rfl 33 (.tmp 6) rfl G rfl 33 full (0, 0) _ HFULL.out Tryd.underlying33 rfl HI.out ?_)
            | (refine wpList_store_row rfl 33 (.tmp 2) (.tmp 48) rfl w.heap.size full rfl rfl 33 _ HZ.out HI.out HOLD.out HONE.out ?_))
          have hrow := setRow_heap wr w.heap.size _ full 33 _ HZ.out
          have hbel := below_setRow HB.out (show w.heap.size ≤ w.heap.size by omega) full
          generalize wr.setRow w.heap.size full = wz at hrow hbel ⊢
          have hres : ∀ tmps : Array Value, tmps.getD 2 undef = .pointer (some ⟨w.heap.size, 0, none⟩) → Sem.run Tryd.prog (results Tryd.f31 tmps) wz = .ok (.agg full) wz := fun tmps h =>
            results_cell_row (P := Tryd.prog) (p := 2) (ty := 33) Tryd.results31 tmps wz w.heap.size 33 _ (0, 0) (TypeDesc.array 32 5) h hrow Tryd.underlying33 rfl HI.out
          exact bodyPost_ret (v := .agg full) (hres _ rfl) rfl ⟨by rw [HFE.out], hbel⟩
end Go.Proofs.YtgfmjfpafpmghaaDoor
