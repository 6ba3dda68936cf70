/-
  The document's answer for layer 2: Of and Chain are what the code's are.
-/
import Derived.Test.YtifnflhkcpchhaaDoorRefMac
import Derived.Test.YtifnflhkcpchhaaDoorMacKeysMem
namespace Go.Proofs.YtifnflhkcpchhaaDoor
open Go.RowKit Go.Proofs.ShaWords

theorem turned_at (z : Int) (n m : Nat) (key bs : List (BitVec 8)) (pd : BitVec 8) (p q : Option Addr) (ck cb : Nat) (w : World) (hz : n8 pd = z) (hkn : key.length = n) (hbm : bs.length = m) (hrk : Lies w p key) (hrb : Lies w q bs) (hnk : n < 100000) (hnb : m < 100000) :
    Calls Tryd.prog 45 #[.slice p n ck, .int .u8 z, .slice q m cb] w fun e w' => ∃ v, e = .returned v ∧ Own w.heap.size w' (xorAll (blockK key) pd ++ bs) v ∧ Below w.heap.size w w' := by
  subst hz; subst hkn; subst hbm
  exact turned_ref key bs pd p q ck cb w hrk hrb hnk hnb
theorem turned_inner (key bs : List (BitVec 8)) (p q : Option Addr) (ck cb : Nat) (w : World) (hrk : Lies w p key) (hrb : Lies w q bs) (hnk : key.length < 100000) (hnb : bs.length < 10000) :
    Calls Tryd.prog 45 #[.slice p key.length ck, .int .u8 54, .slice q bs.length cb] w fun e w' => ∃ l p' c', e = .returned (.slice p' l.length c') ∧ shaOf l = innerOf key bs ∧ l.length < 100000 ∧ Lies w' p' l ∧ Below w.heap.size w w' :=
  (turned_at 54 _ _ key bs 0x36#8 p q ck cb w rfl rfl rfl hrk hrb hnk (by omega)).mono (by
    rintro e w' ⟨v, rfl, ho, hb⟩
    obtain ⟨p', c', rfl, _, _, hl⟩ := ho.lies
    exact ⟨_, p', c', rfl, rfl, by rw [List.length_append, xorAll_length, blockK_length]; omega, hl, hb⟩)
theorem turned_outer (key bs : List (BitVec 8)) (p : Option Addr) (ck g : Nat) (w : World) (hrk : Lies w p key) (hr : w.rangeAt g 0 (bytesV (innerOf key bs))) (hnk : key.length < 100000) :
    Calls Tryd.prog 45 #[.slice p key.length ck, .int .u8 92, .slice (some ⟨g, 0, none⟩) 32 32] w fun e w' => ∃ l p' c', e = .returned (.slice p' l.length c') ∧ shaOf l = macOf key bs ∧ l.length < 100000 ∧ Lies w' p' l ∧ Below w.heap.size w w' :=
  (turned_at 92 _ 32 key (innerOf key bs) 0x5c#8 p (some ⟨g, 0, none⟩) ck 32 w rfl rfl (innerOf_length _ _) hrk (Or.inr ⟨g, 0, rfl, hr⟩) hnk (by omega)).mono (by
    rintro e w' ⟨v, rfl, ho, hb⟩
    obtain ⟨p', c', rfl, _, _, hl⟩ := ho.lies
    exact ⟨_, p', c', rfl, rfl, by rw [List.length_append, xorAll_length, blockK_length, innerOf_length]; omega, hl, hb⟩)
theorem refSum_eq (X l : List (BitVec 8)) (p : Option Addr) (cap : Nat) (w : World) (hX : shaOf l = X) (hl : l.length < 1000000) (hL : Lies w p l) :
    Calls Tryd.prog 16 #[.slice p l.length cap] w fun e w' => e = .returned (.agg (bytesV X).toArray) ∧ Below w.heap.size w w' := by
  subst hX; exact refSum_any l p cap w hl hL

attribute [local irreducible] shaOf blockK xorAll innerOf macOf
set_option maxRecDepth 100000 in
set_option maxHeartbeats 1000000 in
theorem refOf_any (key bs : List (BitVec 8)) (p q : Option Addr) (ck cb : Nat) (w : World) (hrk : Lies w p key) (hrb : Lies w q bs) (hnk : key.length < 10000) (hnb : bs.length < 10000) :
    Calls Tryd.prog 28 #[.slice p key.length ck, .slice q bs.length cb] w fun e w' => e = .returned (.agg (bytesV (macOf key bs)).toArray) ∧ Below w.heap.size w w' := by
  have HRK := Lib.hid hrk; clear hrk
  have HRB := Lib.hid hrb; clear hrb
  have HIN := Lib.hid (innerOf_length key bs)
  have HI32 := Lib.hid (info32 _ HIN.out)
  have HO32 := Lib.hid (show (bytesV (noughts 32)).toArray.size = (bytesV (innerOf key bs)).toArray.size by rw [bytesV_size _ 32 HIN.out, bytesV_size _ 32 (noughts_length 32)])
  have HW32 := Lib.hid (bytesV_one (innerOf key bs))
  go_enter Tryd.func28, Tryd.ntmps28
  go_wp2_with fail
  refine calls_gen (fun w0 => BytesAt w0 w.heap.size 31 (noughts 32) ∧ Below w.heap.size w w0) ⟨by show _ = some (Obj.cells (bytesV (List.replicate 32 0#8)).toArray _ _); rw [noughts32]; exact heap_alloc_new w _, (Below.refl _ _).alloc (Nat.le_refl _) _⟩ ?_
  rintro w0 ⟨hz0, bel0⟩
  have sz0 := hz0.size
  refine (turned_inner key bs p q ck cb w0 (HRK.out.below bel0) (HRB.out.below bel0) (by omega) hnb).mono ?_
  rintro e w1 ⟨l1, p1, c1, rfl, he1, hn1, hl1, hb1⟩
  have HB1 := Lib.hid (bel0.trans (hb1.mono (by omega)))
  have HZ1 := Lib.hid (hz0.keep hb1)
  have HE1 := Lib.hid he1
  have HL1 := Lib.hid hl1
  have sz1 := HZ1.out.size
  clear hz0 bel0 hb1 he1 hl1
  go_wp2_with fail
  refine (refSum_eq (innerOf key bs) l1 p1 c1 w1 HE1.out (by omega) HL1.out).mono ?_
  rintro e w2 ⟨rfl, hb2⟩
  have HB2 := Lib.hid (HB1.out.trans (hb2.mono (by omega)))
  have HZ2 := Lib.hid (HZ1.out.keep hb2)
  have sz2 := HZ2.out.size
  clear hb2 HB1 HZ1
  go_wp2_with (refine wpList_store_new rfl 31 (.tmp 5) (.tmp 9) rfl w2.heap.size rfl (bytesV (innerOf key bs)).toArray rfl rfl HI32.out (by rw [← noughts32]; exact HO32.out) HW32.out ?_; intro w4 h4 b4; have HD4 := Lib.hid (show BytesAt w4 w2.heap.size 31 (innerOf key bs) from h4); have HZ4 := Lib.hid (HZ2.out.keep b4); have HB4 := Lib.hid (HB2.out.trans (b4.mono (by omega))); clear h4 b4)
  have sz4 := HD4.out.size
  clear HB2 HZ2 HI32 HO32 HW32
  generalize w2.heap.size = D at sz2 sz4 HD4 ⊢
  refine (turned_outer key bs p ck D w4 (HRK.out.below HB4.out) HD4.out.range (by omega)).mono ?_
  rintro e w5 ⟨l5, p5, c5, rfl, he5, hn5, hl5, hb5⟩
  have HB5 := Lib.hid (HB4.out.trans (hb5.mono (by omega)))
  have HZ5 := Lib.hid (HZ4.out.keep hb5)
  have HE5 := Lib.hid he5
  have HL5 := Lib.hid hl5
  have sz5 := HZ5.out.size
  clear hb5 he5 hl5 HB4 HZ4
  go_wp2_with fail
  refine (refSum_eq (macOf key bs) l5 p5 c5 w5 HE5.out (by omega) HL5.out).mono ?_
  rintro e w3 ⟨rfl, hb3⟩
  have HB3 := Lib.hid (HB5.out.trans (hb3.mono (by omega)))
  have HZ3 := Lib.hid (HZ5.out.keep hb3)
  clear hb3 HB5 HZ5
  have HML := Lib.hid (macOf_length key bs)
  have HI := Lib.hid (info32 _ HML.out)
  have HOLD := Lib.hid (show (bytesV (noughts 32)).toArray.size = (bytesV (macOf key bs)).toArray.size by rw [bytesV_size _ 32 HML.out, bytesV_size _ 32 (noughts_length 32)])
  have HONE := Lib.hid (bytesV_one (macOf key bs))
  generalize hfe : (bytesV (macOf key bs)).toArray = full at HI HOLD HONE ⊢
  have HFE := Lib.hid hfe; clear hfe
  go_wp2_with (refine wpList_store_row rfl 31 (.tmp 4) (.tmp 13) rfl w.heap.size full rfl rfl 31 _ HZ3.out HI.out HOLD.out HONE.out ?_)
  have hrow := setRow_heap w3 w.heap.size _ full 31 _ HZ3.out
  have hbel := below_setRow HB3.out (Nat.le_refl w.heap.size) full
  generalize w3.setRow w.heap.size full = wz at hrow hbel ⊢
  have hres : ∀ tmps : Array Value, tmps.getD 4 undef = .pointer (some ⟨w.heap.size, 0, none⟩) → Sem.run Tryd.prog (results Tryd.f28 tmps) wz = .ok (.agg full) wz := fun tmps h =>
    results_cell_row (P := Tryd.prog) (p := 4) (ty := 31) Tryd.results28 tmps wz w.heap.size 31 full (0, 0) (TypeDesc.array 32 5) h hrow Tryd.underlying31 rfl HI.out
  exact bodyPost_ret (v := .agg full) (hres _ rfl) rfl ⟨by rw [HFE.out], hbel⟩
theorem refOf_len (n m : Nat) (key bs : List (BitVec 8)) (p q : Option Addr) (ck cb : Nat) (w : World) (hkn : key.length = n) (hbm : bs.length = m) (hrk : Lies w p key) (hrb : Lies w q bs) (hnk : n < 10000) (hnb : m < 10000) :
    Calls Tryd.prog 28 #[.slice p n ck, .slice q m cb] w fun e w' => e = .returned (.agg (bytesV (macOf key bs)).toArray) ∧ Below w.heap.size w w' := by
  subst hkn; subst hbm; exact refOf_any key bs p q ck cb w hrk hrb hnk hnb
set_option maxRecDepth 100000 in
set_option maxHeartbeats 1000000 in
theorem refChain_any (s bs : List (BitVec 8)) (q : Option Addr) (cb : Nat) (w : World) (hsl : s.length = 32) (hrb : Lies w q bs) (hnb : bs.length < 10000) :
    Calls Tryd.prog 29 #[.agg (bytesV s).toArray, .slice q bs.length cb] w fun e w' => e = .returned (.agg (bytesV (macOf s bs)).toArray) ∧ Below w.heap.size w w' := by
  have HRB := Lib.hid hrb; clear hrb
  have HSL := Lib.hid hsl; clear hsl
  have HIN := Lib.hid (macOf_length s bs)
  have HI := Lib.hid (info32 _ HIN.out)
  have HOLD := Lib.hid (show (bytesV (noughts 32)).toArray.size = (bytesV (macOf s bs)).toArray.size by rw [bytesV_size _ 32 HIN.out, bytesV_size _ 32 (noughts_length 32)])
  have HONE := Lib.hid (bytesV_one (macOf s bs))
  go_enter Tryd.func29, Tryd.ntmps29
  go_wp2_with fail
  refine calls_gen (fun w0 => BytesAt w0 w.heap.size 31 s ∧ BytesAt w0 (w.heap.size + 1) 31 (noughts 32) ∧ Below w.heap.size w w0) ⟨?_, ?_, ((Below.refl _ _).alloc (Nat.le_refl _) _).alloc (by rw [size_alloc]; omega) _⟩ ?_
  · exact BytesAt.keep (w := w.alloc _) (heap_alloc_new w _) ((Below.refl _ _).alloc (Nat.le_refl _) _)
  · show _ = some (Obj.cells (bytesV (List.replicate 32 0#8)).toArray _ _)
    rw [noughts32]; exact heap_new_at (size_alloc _ _)
  rintro w0 ⟨hb0, hz0, bel0⟩
  have sz0 := hz0.size
  refine (refOf_len 32 bs.length s bs _ q 32 cb w0 HSL.out rfl (Or.inr ⟨w.heap.size, 0, rfl, hb0.range⟩) (HRB.out.below bel0) (by omega) hnb).mono ?_
  rintro e w3 ⟨rfl, hb3⟩
  have HB3 := Lib.hid (bel0.trans (hb3.mono (by omega)))
  have HZ3 := Lib.hid (hz0.keep hb3)
  clear hb0 hz0 bel0 hb3
  generalize hfe : (bytesV (macOf s bs)).toArray = full at HI HOLD HONE ⊢
  have HFE := Lib.hid hfe; clear hfe
  go_wp2_with (refine wpList_store_row rfl 31 (.tmp 4) (.tmp 7) rfl (w.heap.size + 1) full rfl rfl 31 _ HZ3.out HI.out HOLD.out HONE.out ?_)
  have hrow := setRow_heap w3 (w.heap.size + 1) _ full 31 _ HZ3.out
  have hbel := below_setRow HB3.out (show w.heap.size ≤ w.heap.size + 1 by omega) full
  generalize w3.setRow (w.heap.size + 1) full = wz at hrow hbel ⊢
  have hres : ∀ tmps : Array Value, tmps.getD 4 undef = .pointer (some ⟨w.heap.size + 1, 0, none⟩) → Sem.run Tryd.prog (results Tryd.f29 tmps) wz = .ok (.agg full) wz := fun tmps h =>
    results_cell_row (P := Tryd.prog) (p := 4) (ty := 31) Tryd.results29 tmps wz (w.heap.size + 1) 31 full (0, 0) (TypeDesc.array 32 5) h hrow Tryd.underlying31 rfl HI.out
  exact bodyPost_ret (v := .agg full) (hres _ rfl) rfl ⟨by rw [HFE.out], hbel⟩
end Go.Proofs.YtifnflhkcpchhaaDoor
