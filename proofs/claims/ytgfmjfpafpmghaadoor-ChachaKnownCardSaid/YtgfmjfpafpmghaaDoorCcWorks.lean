/-
  The contracts of the law's own counted and works: the published block; works returns true, and nothing that was there changes.
-/
import Derived.Test.YtgfmjfpafpmghaaDoorCcWords
import Derived.Test.YtgfmjfpafpmghaaDoorCcBlock
namespace Go.Proofs.YtgfmjfpafpmghaaDoor
open Go.RowKit Go.Proofs.ShaWords

/-- The key 0, 1, 2 and so on. -/
def countedK : List (BitVec 8) := (List.range 32).map (BitVec.ofNat 8)
def countTo (k : Nat) : List (BitVec 8) := (List.range k).map (BitVec.ofNat 8) ++ noughts (32 - k)
theorem countTo_length (k : Nat) (hk : k ≤ 32) : (countTo k).length = 32 := by simp [countTo, noughts]; omega
theorem countTo_set (k : Nat) (hk : k < 32) : (countTo k).set k (BitVec.ofNat 8 k) = countTo (k + 1) := by
  unfold countTo noughts
  obtain ⟨m, hm⟩ : ∃ m, 32 - k = m + 1 := ⟨31 - k, by omega⟩
  rw [hm, show 32 - (k + 1) = m by omega, List.set_append_right _ _ (by simp), List.range_succ, List.map_append]
  simp [List.replicate_succ]
theorem countTo_full : countTo 32 = countedK := by simp [countTo, countedK, noughts]
theorem wrap8_nat (m : Nat) : IntKind.u8.wrap (m : Int) = n8 (BitVec.ofNat 8 m) := by
  unfold n8; rw [IntKind.wrap_u8', BitVec.toNat_ofNat]; omega
structure CntW (w : World) (l : List (BitVec 8)) (wr : World) : Prop where
  res : BytesAt wr w.heap.size 44 (noughts 32)
  row : BytesAt wr (w.heap.size + 1) 44 l
  below : Below w.heap.size w wr
theorem CntW.put {w wr : World} {l : List (BitVec 8)} (h : CntW w l wr) (k : Nat) (x : BitVec 8) : CntW w (l.set k x) (wr.setCell ⟨w.heap.size + 1, k, none⟩ (.int .u8 (n8 x))) :=
  ⟨h.res.putOther (by omega) _ _, h.row.put k x, h.below.setCell (by show w.heap.size ≤ w.heap.size + 1; omega) _⟩
attribute [local irreducible] countTo
set_option maxRecDepth 100000 in
set_option maxHeartbeats 1000000 in
theorem counted_any (w : World) : Calls Tryd.prog 20 #[] w fun e w' => e = .returned (.agg (bytesV countedK).toArray) ∧ Below w.heap.size w w' := by
  have HZ : Hid (countTo 0 = noughts 32) := show _ = _ by unfold countTo; rfl
  go_enter Tryd.func20, Tryd.ntmps20
  go_wp2_with fail
  refine wp_gen (CntW w (countTo 0)) ⟨?_, ?_, ((Below.refl _ _).alloc (Nat.le_refl _) _).alloc (by rw [size_alloc]; omega) _⟩ ?_
  · exact BytesAt.keep (w := w.alloc (.cells (bytesV (noughts 32)).toArray _)) (heap_alloc_new w _) ((Below.refl _ _).alloc (Nat.le_refl _) _)
  · rw [HZ.out]; show _ = some (Obj.cells (bytesV (noughts 32)).toArray _ _); exact heap_new_at (size_alloc _ _)
  intro w0 hw0
  have HW0 := Lib.hid hw0; clear hw0
  go_loopw [2] (fun i wr => ∃ k : Nat, k ≤ 32 ∧ i = .int .i64 (k : Int) ∧ CntW w (countTo k) wr) (fun i _ => 32 - (intOf i).toNat)
  case atStart => exact ⟨0, by omega, rfl, HW0.out⟩
  case round =>
    clear HW0
    obtain ⟨k, hk, rfl, hw⟩ := hrel
    by_cases hlt : k < 32
    · have e0 := hw.row.cell k (by rw [countTo_length k hk]; exact hlt)
      have f0 := hw.row.frozenAt k
      have HS := Lib.hid (countTo_set k hlt)
      have hwr := wrap8_nat k
      have HW := Lib.hid hw; clear hw
      go_wp2_with fail
      go_roundw
      case rel => exact ⟨k + 1, by omega, by go_num, by rw [← HS.out]; exact HW.out.put _ _⟩
      case measure => simp [intOf]; omega
    · have HK : Hid (k = 32) := show k = 32 by omega
      have hfull : BytesAt wr (w.heap.size + 1) 44 countedK := by rw [← countTo_full, ← HK.out]; exact hw.row
      have hlen : countedK.length = 32 := by simp [countedK]
      have HI := Lib.hid (infoKey _ hlen)
      have HOLD := Lib.hid (show (bytesV (noughts 32)).toArray.size = (bytesV countedK).toArray.size by rw [bytesV_size _ 32 hlen, bytesV_size _ 32 (noughts_length 32)])
      have HONE := Lib.hid (bytesV_one countedK)
      have HZ := Lib.hid hw.res
      have HB := Lib.hid hw.below
      have HFULL : Hid (wr.heap[w.heap.size + 1]? = some (.cells (bytesV countedK).toArray 44 (0, 0))) := hfull
      clear hw hfull hlen
      generalize hfe : (bytesV countedK).toArray = full at HFULL HI HOLD HONE
      have HFE := Lib.hid hfe; clear hfe
      go_wp2_with (first
        | (refine wpList_load_row rfl 44 (.tmp 1) rfl (w.heap.size + 1) rfl 44 full (0, 0) _ HFULL.out Tryd.underlying44 rfl HI.out ?_)
        | (refine wpList_store_row rfl 44 (.tmp 0) (.tmp 11) rfl w.heap.size full rfl rfl 44 _ HZ.out HI.out HOLD.out HONE.out ?_))
      have hrow := setRow_heap wr w.heap.size _ full 44 _ HZ.out
      have hbel := below_setRow HB.out (Nat.le_refl w.heap.size) full
      generalize wr.setRow w.heap.size full = wz at hrow hbel ⊢
      have hres : ∀ tmps : Array Value, tmps.getD 0 undef = .pointer (some ⟨w.heap.size, 0, none⟩) → Sem.run Tryd.prog (results Tryd.f20 tmps) wz = .ok (.agg full) wz := fun tmps h =>
        results_cell_row (P := Tryd.prog) (p := 0) (ty := 44) Tryd.results20 tmps wz w.heap.size 44 full (0, 0) (TypeDesc.array 32 5) h hrow Tryd.underlying44 rfl HI.out
      exact bodyPost_ret (v := .agg full) (hres _ rfl) rfl ⟨by rw [HFE.out], hbel⟩

/-- The published nonce and block. -/
def nonce9 : List (BitVec 8) := [0#8, 0#8, 0#8, 9#8, 0#8, 0#8, 0#8, 0x4A#8, 0#8, 0#8, 0#8, 0#8]
def blockW : List (BitVec 32) := [0x10F1E7E4#32, 0xD13B5915#32, 0x500FDD1F#32, 0xA32071C4#32, 0xC7D1F4C7#32, 0x33C06803#32, 0x0422AA9A#32, 0xC3D46C4E#32, 0xD2826446#32, 0x079FAA09#32, 0x14C2D705#32, 0xD98B02A2#32, 0xB5129CD1#32, 0xDE164EB9#32, 0xCBD083E8#32, 0xA2503C4E#32]
theorem published : ccBlock countedK 1#32 nonce9 = blockW.flatMap beBytes := by decide +kernel
theorem blockW_vals : (wordsV blockW).toArray = #[.int .u32 284288996, .int .u32 3510327573, .int .u32 1343216927, .int .u32 2736812484, .int .u32 3352425671, .int .u32 868247555, .int .u32 69380762, .int .u32 3285478478, .int .u32 3531760710, .int .u32 127904265, .int .u32 348313349, .int .u32 3649766050, .int .u32 3037895889, .int .u32 3726003897, .int .u32 3419440104, .int .u32 2723167310] := by kernel_rfl

attribute [local irreducible] ccBlock countedK
set_option maxRecDepth 100000 in
set_option maxHeartbeats 2000000 in
theorem works3_any (w : World) (hq : Quads w) : Calls Tryd.prog 27 #[] w fun e w' => e = .returned (.bool true) ∧ Below w.heap.size w w' := by
  have hqs := hq.size
  have HQ := Lib.hid hq; clear hq
  have HPB := Lib.hid published
  have HKL : Hid (countedK.length = 32) := show _ = _ by unfold countedK; rfl
  have HBL := Lib.hid (ccBlock_length countedK 1#32 nonce9)
  have HI := Lib.hid (infoBlk _ HBL.out)
  have HOLD := Lib.hid (show (bytesV (noughts 64)).toArray.size = (bytesV (ccBlock countedK 1#32 nonce9)).toArray.size by rw [bytesV_size _ 64 HBL.out, bytesV_size _ 64 (noughts_length 64)])
  have HONE := Lib.hid (bytesV_one (ccBlock countedK 1#32 nonce9))
  have HNV : Hid ((bytesV nonce9).toArray = #[.int .u8 0, .int .u8 0, .int .u8 0, .int .u8 9, .int .u8 0, .int .u8 0, .int .u8 0, .int .u8 74, .int .u8 0, .int .u8 0, .int .u8 0, .int .u8 0]) := show _ = _ by kernel_rfl
  go_enter Tryd.func27, Tryd.ntmps27
  go_wp2_with fail
  refine (counted_any w).mono ?_
  rintro e w1 ⟨rfl, hb1⟩
  have HB1 := Lib.hid hb1; clear hb1
  have sz1 := HB1.out.size
  go_wp2_with (refine wpList_build_eq rfl 46 #[(0, .const (.int .u8 0)), (1, .const (.int .u8 0)), (2, .const (.int .u8 0)), (3, .const (.int .u8 9)), (4, .const (.int .u8 0)), (5, .const (.int .u8 0)), (6, .const (.int .u8 0)), (7, .const (.int .u8 74))] rfl (bytesV nonce9).toArray (by kernel_rfl) ?_)
  refine (ccBlock_any countedK nonce9 1#32 w1 HKL.out rfl (HQ.out.below HB1.out hqs)).mono ?_
  rintro e w2 ⟨rfl, hb2⟩
  have HB2 := Lib.hid (HB1.out.trans (hb2.mono sz1)); clear hb2
  have sz2 := HB2.out.size
  clear HB1
  go_wp2_with (refine wpList_store_new rfl 42 (.tmp 1) (.tmp 5) rfl w2.heap.size rfl (bytesV (ccBlock countedK 1#32 nonce9)).toArray rfl rfl HI.out (by exact HOLD.out) HONE.out ?_; intro w3 h3 b3; have HK3 := Lib.hid (show BytesAt w3 w2.heap.size 42 (ccBlock countedK 1#32 nonce9) from h3); have HB3 := Lib.hid (HB2.out.trans (b3.mono sz2)); have sz3 := (Array.getElem?_eq_some_iff.1 h3).1; clear h3 b3)
  refine calls_gen (fun w4 => w4.rangeAt w3.heap.size 0 (wordsV blockW) ∧ BytesAt w4 w2.heap.size 42 (ccBlock countedK 1#32 nonce9) ∧ Below w.heap.size w w4) ⟨fun j v hv => by
    rw [Nat.zero_add, cell_of_row _ _ j _ _ _ (heap_new_at rfl), ← blockW_vals]; simpa using hv, HK3.out.keep ((Below.refl _ _).alloc (Nat.le_refl _) _), HB3.out.alloc (by omega) _⟩ ?_
  rintro w4 ⟨hr4, hk4, hb4⟩
  refine (words3_any blockW 16 w3.heap.size 16 w4 rfl (by omega) hr4).mono ?_
  rintro e w5 ⟨v, rfl, ho5, hb5⟩
  have HK5 := Lib.hid (hk4.keep hb5)
  have HB5 := Lib.hid (hb4.trans (hb5.mono hb4.size))
  obtain ⟨p, cp, hv, hc1, hc2, hl5⟩ := ho5.lies
  have hl64 : (blockW.flatMap beBytes).length = 64 := by kernel_rfl
  rw [hl64] at hv
  subst hv
  have HL5 := Lib.hid hl5
  have H64 := Lib.hid hl64
  clear hr4 hk4 hb4 hb5 ho5 HK3 HB3 hl5 hl64 hc1 hc2
  go_wp2_with fail
  refine (same_any (blockW.flatMap beBytes) 64 _ _ _ _ w5 H64.out (by omega) (Or.inr ⟨w2.heap.size, 0, rfl, by rw [← HPB.out]; exact HK5.out.range⟩) HL5.out).mono ?_
  rintro e w6 ⟨rfl, hb6⟩
  have HB6 := Lib.hid (HB5.out.trans (hb6.mono HB5.out.size)); clear hb6
  go_wp2_with fail
  go_ret
  exact ⟨rfl, HB6.out⟩
end Go.Proofs.YtgfmjfpafpmghaaDoor
