/-
  The contract of mac.padded: the digest of a block combined with a byte, followed by bytes; nothing that was there changes.
-/
import Derived.Test.YtifnflhkcpchhaaDoorMacPass
namespace Go.Proofs.YtifnflhkcpchhaaDoor
open Go.RowKit Go.Proofs.ShaWords

theorem writeOf_new_len (l : List (BitVec 8)) : (writeOf newHS l).n = l.length := by rw [writeOf_n]; show 0 + _ = _; omega
theorem sum_sha' (g : Nat) (l : List (BitVec 8)) (w : World) (ha : HashAt w g (writeOf newHS l)) (hk : Consts w) (hn : l.length < 549755813888) :
    Calls Tryd.prog 15 #[.pointer (some ⟨g, 0, none⟩)] w fun e w' => e = .returned (.agg (bytesV (shaOf l)).toArray) ∧ Below w.heap.size w w' :=
  sum_any g (writeOf newHS l) w ha hk (by rw [writeOf_new_len]; exact hn)
/-- A block that holds these bytes. -/
def BytesAt (w : World) (g : Nat) (t : TypeId) (l : List (BitVec 8)) : Prop := w.heap[g]? = some (.cells (bytesV l).toArray t (0, 0))
theorem BytesAt.size {w : World} {g : Nat} {t : TypeId} {l : List (BitVec 8)} (h : BytesAt w g t l) : g < w.heap.size := (Array.getElem?_eq_some_iff.1 h).1
theorem BytesAt.keep {w w' : World} {g : Nat} {t : TypeId} {l : List (BitVec 8)} (h : BytesAt w g t l) (hb : Below w.heap.size w w') : BytesAt w' g t l := (hb.block _ h.size).trans h
theorem BytesAt.past {w w' : World} {g r : Nat} {t : TypeId} {l : List (BitVec 8)} (h : BytesAt w g t l) (hg : w.grownBy w' (some r)) (hne : g ≠ r) : BytesAt w' g t l := (hg.block _ h.size (fun e => hne (Option.some.inj e))).trans h
theorem BytesAt.range {w : World} {g : Nat} {t : TypeId} {l : List (BitVec 8)} (h : BytesAt w g t l) : w.rangeAt g 0 (bytesV l) := range_bytesV h
theorem info64 (l : List (BitVec 8)) (h : l.length = 64) : (Tryd.prog.info? 52).map (·.size) = some (bytesV l).toArray.size :=
  (show (Tryd.prog.info? 52).map (·.size) = some 64 by kernel_rfl).trans (congrArg some (bytesV_size _ 64 h).symm)
theorem info32 (l : List (BitVec 8)) (h : l.length = 32) : (Tryd.prog.info? 31).map (·.size) = some (bytesV l).toArray.size :=
  (show (Tryd.prog.info? 31).map (·.size) = some 32 by kernel_rfl).trans (congrArg some (bytesV_size _ 32 h).symm)
def noughts (n : Nat) : List (BitVec 8) := List.replicate n 0#8
theorem noughts_length (n : Nat) : (noughts n).length = n := by simp [noughts]

attribute [local irreducible] writeOf xorAll shaOf
set_option maxRecDepth 100000 in
set_option maxHeartbeats 1000000 in
theorem padded_any (blk bs : List (BitVec 8)) (pd : BitVec 8) (p : Option Addr) (cap : Nat) (w : World) (hl : blk.length = 64) (hr : Lies w p bs) (hcap : bs.length ≤ cap)
    (hcm : cap ≤ 9223372036854775807) (hn : bs.length < 549755813000) (hk : Consts w) (hs : Starts w) :
    Calls Tryd.prog 44 #[.agg (bytesV blk).toArray, .int .u8 (n8 pd), .slice p bs.length cap] w
      fun e w' => e = .returned (.agg (bytesV (shaOf (xorAll blk pd ++ bs))).toArray) ∧ Below w.heap.size w w' := by
  have hs1 := hk.size
  have HL := Lib.hid hl; clear hl
  have HK := Lib.hid hk; clear hk
  have HS := Lib.hid hs; clear hs
  have HR := Lib.hid hr; clear hr
  go_enter Tryd.func44, Tryd.ntmps44
  go_wp2_with fail
  refine calls_gen (fun w0 => BytesAt w0 w.heap.size 52 blk ∧ BytesAt w0 (w.heap.size + 1) 31 (noughts 32) ∧ Below w.heap.size w w0) ⟨?_, ?_, ((Below.refl _ _).alloc (Nat.le_refl _) _).alloc (by rw [size_alloc]; omega) _⟩ ?_
  · exact BytesAt.keep (w := w.alloc _) (heap_alloc_new w _) ((Below.refl _ _).alloc (Nat.le_refl _) _)
  · show _ = some (Obj.cells (bytesV (List.replicate 32 0#8)).toArray _ _)
    rw [noughts32]; exact heap_new_at (size_alloc _ _)
  rintro w0 ⟨hb0, hz0, bel0⟩
  have sz0 := hz0.size
  refine (new_any w0 (HS.out.below bel0 (by omega))).mono ?_
  rintro e w1 ⟨rfl, ha1, hb1⟩
  have sz1 := ha1.size
  have HB1 := Lib.hid (bel0.trans (hb1.mono (by omega)))
  have HA1 := Lib.hid ha1
  have HBL := Lib.hid (hb0.keep hb1)
  have HZ := Lib.hid (hz0.keep hb1)
  clear hb0 hz0 bel0 ha1 hb1
  generalize w0.heap.size = g at sz0 sz1 HA1 ⊢
  have HI := Lib.hid (info64 blk HL.out)
  go_wp2_with (refine wpList_load_row rfl 52 (.tmp 3) rfl w.heap.size rfl 52 (bytesV blk).toArray (0, 0) _ HBL.out Tryd.underlying52 rfl HI.out ?_)
  refine (pass_any g newHS blk bs pd p cap w1 HL.out HA1.out (HR.out.reads HB1.out g (by omega)) hcap hcm (by show 0 + 64 + bs.length < _; omega) (HK.out.below HB1.out hs1) (by omega)).mono ?_
  rintro e w2 ⟨rfl, ha2, hg2⟩
  have HB2 := Lib.hid (HB1.out.grown hg2 (by omega) (fun k hk => by have := Option.some.inj hk; omega))
  have HA2 := Lib.hid ha2
  have HZ2 := Lib.hid (HZ.out.past hg2 (by omega))
  have sz2 := ha2.size
  have hxl : (xorAll blk pd ++ bs).length < 549755813888 := by rw [List.length_append, xorAll_length, HL.out]; omega
  have HXL := Lib.hid hxl
  clear hxl ha2 hg2 HA1 HB1 HZ HBL HI
  generalize hX : xorAll blk pd ++ bs = X at HA2 HXL ⊢
  have HX := Lib.hid hX; clear hX
  go_wp2_with fail
  refine (sum_sha' g X w2 HA2.out (HK.out.below HB2.out hs1) HXL.out).mono ?_
  rintro e w3 ⟨rfl, hb3⟩
  have HB3 := Lib.hid (HB2.out.trans (hb3.mono (by omega)))
  have HZ3 := Lib.hid (HZ2.out.keep hb3)
  clear hb3 HA2 HB2 HZ2 HXL
  have HSL := Lib.hid (shaOf_length X)
  have HI := Lib.hid (info32 _ HSL.out)
  have HOLD := Lib.hid (show (bytesV (noughts 32)).toArray.size = (bytesV (shaOf X)).toArray.size by rw [bytesV_size _ 32 HSL.out, bytesV_size _ 32 (noughts_length 32)])
  have HONE := Lib.hid (bytesV_one (shaOf X))
  generalize hfe : (bytesV (shaOf X)).toArray = full at HI HOLD HONE ⊢
  have HFE := Lib.hid hfe; clear hfe
  go_wp2_with (refine wpList_store_row rfl 31 (.tmp 6) (.tmp 16) rfl (w.heap.size + 1) full rfl rfl 31 _ HZ3.out HI.out HOLD.out HONE.out ?_)
  have hrow := setRow_heap w3 (w.heap.size + 1) _ full 31 _ HZ3.out
  have hbel := below_setRow HB3.out (show w.heap.size ≤ w.heap.size + 1 by omega) full
  generalize w3.setRow (w.heap.size + 1) full = wz at hrow hbel ⊢
  have hres : ∀ tmps : Array Value, tmps.getD 6 undef = .pointer (some ⟨w.heap.size + 1, 0, none⟩) → Sem.run Tryd.prog (results Tryd.f44 tmps) wz = .ok (.agg full) wz := fun tmps h =>
    results_cell_row (P := Tryd.prog) (p := 6) (ty := 31) Tryd.results44 tmps wz (w.heap.size + 1) 31 full (0, 0) (TypeDesc.array 32 5) h hrow Tryd.underlying31 rfl HI.out
  exact bodyPost_ret (v := .agg full) (hres _ rfl) rfl ⟨by rw [HX.out, HFE.out], hbel⟩
end Go.Proofs.YtifnflhkcpchhaaDoor
