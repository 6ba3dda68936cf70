/-
  The contracts of mac.Of and mac.Chain: the code of bytes under a key; nothing that was there changes.
-/
import Derived.Test.YtifnflhkcpchhaaDoorMacBlock
namespace Go.Proofs.YtifnflhkcpchhaaDoor
open Go.RowKit Go.Proofs.ShaWords

/-- The code of bytes under a key. -/
def innerOf (key bs : List (BitVec 8)) : List (BitVec 8) := shaOf (xorAll (blockK key) 0x36#8 ++ bs)
def macOf (key bs : List (BitVec 8)) : List (BitVec 8) := shaOf (xorAll (blockK key) 0x5c#8 ++ innerOf key bs)
theorem innerOf_length (key bs : List (BitVec 8)) : (innerOf key bs).length = 32 := shaOf_length _
theorem macOf_length (key bs : List (BitVec 8)) : (macOf key bs).length = 32 := shaOf_length _
theorem padded_at (blk bs : List (BitVec 8)) (n : Nat) (pd : BitVec 8) (z : Int) (p : Option Addr) (cap : Nat) (w : World) (hz : n8 pd = z) (hbn : bs.length = n) (hl : blk.length = 64) (hr : Lies w p bs) (hcap : n ≤ cap)
    (hcm : cap ≤ 9223372036854775807) (hn : n < 549755813000) (hk : Consts w) (hs : Starts w) :
    Calls Tryd.prog 44 #[.agg (bytesV blk).toArray, .int .u8 z, .slice p n cap] w
      fun e w' => e = .returned (.agg (bytesV (shaOf (xorAll blk pd ++ bs))).toArray) ∧ Below w.heap.size w w' := by
  subst hz; subst hbn
  exact padded_any blk bs pd p cap w hl hr hcap hcm hn hk hs
theorem inner_at (key bs : List (BitVec 8)) (p : Option Addr) (cap : Nat) (w : World) (hr : Lies w p bs) (hcap : bs.length ≤ cap) (hcm : cap ≤ 9223372036854775807) (hn : bs.length < 549755813000) (hk : Consts w) (hs : Starts w) :
    Calls Tryd.prog 44 #[.agg (bytesV (blockK key)).toArray, .int .u8 54, .slice p bs.length cap] w fun e w' => e = .returned (.agg (bytesV (innerOf key bs)).toArray) ∧ Below w.heap.size w w' :=
  padded_at (blockK key) bs bs.length 0x36#8 54 p cap w rfl rfl (blockK_length _) hr hcap hcm hn hk hs
theorem outer_at (key bs : List (BitVec 8)) (g : Nat) (w : World) (hr : w.rangeAt g 0 (bytesV (innerOf key bs))) (hk : Consts w) (hs : Starts w) :
    Calls Tryd.prog 44 #[.agg (bytesV (blockK key)).toArray, .int .u8 92, .slice (some ⟨g, 0, none⟩) 32 32] w fun e w' => e = .returned (.agg (bytesV (macOf key bs)).toArray) ∧ Below w.heap.size w w' :=
  padded_at (blockK key) (innerOf key bs) 32 0x5c#8 92 _ 32 w rfl (innerOf_length _ _) (blockK_length _) (Or.inr ⟨g, 0, rfl, hr⟩) (by omega) (by omega) (by omega) hk hs
theorem run_load64 {ρ : Operand → Value} {o : Oper} {x : Operand} {l : List (BitVec 8)} {b : Nat} {w : World} (ho : o.op = .load 52 x) (hx : ρ x = .pointer (some ⟨b, 0, none⟩)) (hl : l.length = 64) (hr : w.rangeAt b 0 (bytesV l)) : (execOp ρ o).run Tryd.prog w = .ok (.value (.agg (bytesV l).toArray)) w := by
  have h := run_loadAt_mid (P := Tryd.prog) w b 0 52 (bytesV l) _ hr Tryd.underlying52 rfl (by rw [bytesV_length, hl]; kernel_rfl)
  unfold execOp
  simp only [ho, hx, Sem.run_bind, h, Result.andThen_ok, Sem.run_pure]
/-- A step of a region by the rule of the operation itself. -/
theorem step_wp {P : Program} {ops : Array Oper} {Q : Exit → Act → World → Prop} {S : World → Prop} {r : List (Nat × Bool)} {i : Nat} {o : Oper} {a : Act} {w : World} (ho : ops[i]? = some o) (hw : Region.wanted o (yielded ops a.tmps) = true)
    (h : o.wp P a w (fun a' w' => S w' ∧ wpS P ops Q S r a' w') Q) : wpS P ops Q S ((i, false) :: r) a w := by
  show wpOp P ops Q i _ a w
  unfold wpOp
  rw [ho]
  show if Region.wanted o (yielded ops a.tmps) = true then _ else _
  rw [if_pos hw]
  exact .inl h

attribute [local irreducible] shaOf blockK xorAll innerOf macOf
set_option maxRecDepth 100000 in
set_option maxHeartbeats 1000000 in
theorem of_any (key bs : List (BitVec 8)) (p q : Option Addr) (ck cb : Nat) (w : World) (hrk : Lies w p key) (hrb : Lies w q bs) (hck : key.length ≤ ck) (hckm : ck ≤ 9223372036854775807) (hnk : key.length < 549755813000)
    (hcb : bs.length ≤ cb) (hcbm : cb ≤ 9223372036854775807) (hnb : bs.length < 549755813000) (hk : Consts w) (hs : Starts w) :
    Calls Tryd.prog 26 #[.slice p key.length ck, .slice q bs.length cb] w fun e w' => e = .returned (.agg (bytesV (macOf key bs)).toArray) ∧ Below w.heap.size w w' := by
  have hs1 := hk.size
  have HK := Lib.hid hk; clear hk
  have HS := Lib.hid hs; clear hs
  have HRK := Lib.hid hrk; clear hrk
  have HRB := Lib.hid hrb; clear hrb
  have HBK := Lib.hid (blockK_length key)
  have HI64 := Lib.hid (info64 _ HBK.out)
  have HO64 := Lib.hid (show (bytesV (noughts 64)).toArray.size = (bytesV (blockK key)).toArray.size by rw [bytesV_size _ 64 HBK.out, bytesV_size _ 64 (noughts_length 64)])
  have HW64 := Lib.hid (bytesV_one (blockK key))
  have HIN := Lib.hid (innerOf_length key bs)
  have HI32 := Lib.hid (info32 _ HIN.out)
  have HO32 := Lib.hid (show (bytesV (noughts 32)).toArray.size = (bytesV (innerOf key bs)).toArray.size by rw [bytesV_size _ 32 HIN.out, bytesV_size _ 32 (noughts_length 32)])
  have HW32 := Lib.hid (bytesV_one (innerOf key bs))
  go_enter Tryd.func26, Tryd.ntmps26
  go_wp2_with fail
  refine calls_gen (fun w0 => BytesAt w0 w.heap.size 31 (noughts 32) ∧ Below w.heap.size w w0) ⟨by show _ = some (Obj.cells (bytesV (List.replicate 32 0#8)).toArray _ _); rw [noughts32]; exact heap_alloc_new w _, (Below.refl _ _).alloc (Nat.le_refl _) _⟩ ?_
  rintro w0 ⟨hz0, bel0⟩
  have sz0 := hz0.size
  refine (blockOf_any key p ck w0 (HRK.out.below bel0) hck hckm hnk (HK.out.below bel0 hs1) (HS.out.below bel0 (by omega))).mono ?_
  rintro e w1 ⟨rfl, hb1⟩
  have HB1 := Lib.hid (bel0.trans (hb1.mono (by omega)))
  have HZ1 := Lib.hid (hz0.keep hb1)
  have sz1 := HZ1.out.size
  clear hz0 bel0 hb1
  go_wp2_with (first
    | (refine wpList_store_new rfl 52 (.tmp 5) (.tmp 8) rfl w1.heap.size rfl (bytesV (blockK key)).toArray rfl rfl HI64.out HO64.out HW64.out ?_; intro w2 h2 b2; have HC2 := Lib.hid (show BytesAt w2 w1.heap.size 52 (blockK key) from h2); have HZ2 := Lib.hid (HZ1.out.keep b2); have HB2 := Lib.hid (HB1.out.trans (b2.mono (by omega))); clear h2 b2)
    | (refine wpList_load_row rfl 52 (.tmp 5) rfl w1.heap.size rfl 52 (bytesV (blockK key)).toArray (0, 0) _ HC2.out Tryd.underlying52 rfl HI64.out ?_))
  have sz2 := HC2.out.size
  clear HB1 HZ1
  generalize w1.heap.size = C at sz1 sz2 HC2 ⊢
  refine (inner_at key bs q cb w2 (HRB.out.below HB2.out) hcb hcbm hnb (HK.out.below HB2.out hs1) (HS.out.below HB2.out (by omega))).mono ?_
  rintro e w3 ⟨rfl, hb3⟩
  have HB3 := Lib.hid (HB2.out.trans (hb3.mono (by omega)))
  have HZ3 := Lib.hid (HZ2.out.keep hb3)
  have HC3 := Lib.hid (HC2.out.keep hb3)
  have sz3 := HC3.out.size
  clear hb3 HB2 HZ2 HC2
  go_wp2_with (refine wpList_store_new rfl 31 (.tmp 6) (.tmp 11) rfl w3.heap.size rfl (bytesV (innerOf key bs)).toArray rfl rfl HI32.out (by rw [← noughts32]; exact HO32.out) HW32.out ?_; intro w4 h4 b4; have HD4 := Lib.hid (show BytesAt w4 w3.heap.size 31 (innerOf key bs) from h4); have HZ4 := Lib.hid (HZ3.out.keep b4); have HC4 := Lib.hid (HC3.out.keep b4); have HB4 := Lib.hid (HB3.out.trans (b4.mono (by omega))); clear h4 b4)
  have sz4 := HD4.out.size
  clear HB3 HZ3 HC3
  generalize w3.heap.size = D at sz3 sz4 HD4 ⊢
  refine region_schedS (fun w' => w'.rangeAt C 0 (bytesV (blockK key))) (HC4.out.range : w4.drew.rangeAt _ _ _) [(0, true), (1, true), (2, false), (3, false)] (by kernel_rfl) (by kernel_rfl) (by kernel_rfl) (by kernel_rfl) (fun ops hops A hA => ?_)
  have hsz : A.tmps.size = 15 := by rw [hA]; rfl
  have base4 : A.eval (.tmp 4) = .pointer (some ⟨w.heap.size, 0, none⟩) := by rw [hA]; rfl
  have base5 : A.eval (.tmp 5) = .pointer (some ⟨C, 0, none⟩) := by rw [hA]; rfl
  have base6 : A.eval (.tmp 6) = .pointer (some ⟨D, 0, none⟩) := by rw [hA]; rfl
  have HAA := Lib.hid hA; clear hA
  obtain ⟨o0, po0, q0, d0, gd0⟩ : ∃ o, ops[0]? = some o ∧ o.op = .load 52 (.tmp 5) ∧ o.dst = some 12 ∧ o.guard = none := ⟨_, by rw [hops]; rfl, rfl, rfl, rfl⟩
  obtain ⟨o1, po1, q1, d1, gd1⟩ : ∃ o, ops[1]? = some o ∧ o.op = .slice 31 (.tmp 6) none none none ∧ o.dst = some 13 ∧ o.guard = none := ⟨_, by rw [hops]; rfl, rfl, rfl, rfl⟩
  obtain ⟨o2, po2, q2, d2, gd2⟩ : ∃ o, ops[2]? = some o ∧ o.op = .call { callee := .value (.func 44), args := #[.tmp 12, .const (.int .u8 92), .tmp 13], argTypes := #[52, 5, 26] } ∧ o.dst = some 14 ∧ o.guard = none := ⟨_, by rw [hops]; rfl, rfl, rfl, rfl⟩
  obtain ⟨o3, po3, q3, d3, gd3⟩ : ∃ o, ops[3]? = some o ∧ o.op = .store 31 (.tmp 4) (.tmp 14) ∧ o.dst = none ∧ o.guard = none := ⟨_, by rw [hops]; rfl, rfl, rfl, rfl⟩
  clear hops
  refine step_pure po0 d0 (wanted_of gd0) (fun w' hw' => run_load64 q0 base5 HBK.out hw') ?_
  refine step_pure po1 d1 (wanted_of gd1) (fun w' _ => run_slice32 q1 ((eval_other _ 12 6 _ (by decide)).trans base6) w') ?_
  refine step_call po2 d2 (wanted_of gd2) (run_callf3 q2 rfl ((eval_other _ 13 12 _ (by decide)).trans (eval_same _ _ _ (by rw [hsz]; decide))) rfl (eval_same _ _ _ (by simp only [put_size, hsz]; decide)) Tryd.func44 (by kernel_rfl) _)
    (outer_at key bs D w4.drew (HD4.out.range : w4.drew.rangeAt _ _ _) (HK.out.below HB4.out.drew hs1) (HS.out.below HB4.out.drew (by omega))) (fun w' hR => (BytesAt.keep (w := w4.drew) HC4.out hR).range) ?_
  intro w5 hb5
  have hz5 := BytesAt.keep (w := w4.drew) HZ4.out hb5
  have hc5 := BytesAt.keep (w := w4.drew) HC4.out hb5
  have hb5' := HB4.out.drew.trans (hb5.mono (by show w.heap.size ≤ w4.heap.size; omega))
  have hml := macOf_length key bs
  have him := info32 _ hml
  have hrow := setRow_heap w5 w.heap.size _ (bytesV (macOf key bs)).toArray 31 _ hz5
  have hbel := below_setRow hb5' (Nat.le_refl w.heap.size) (bytesV (macOf key bs)).toArray
  have hcz : BytesAt (w5.setRow w.heap.size (bytesV (macOf key bs)).toArray) C 52 (blockK key) := (setRow_other w5 w.heap.size C _ (by omega)).trans hc5
  refine step_wp po3 (wanted_of gd3) (wp_store_row 31 (.tmp 4) (.tmp 14) q3 w.heap.size (bytesV (macOf key bs)).toArray ((eval_other _ 14 4 _ (by decide)).trans ((eval_other _ 13 4 _ (by decide)).trans ((eval_other _ 12 4 _ (by decide)).trans base4))) (eval_same _ _ _ (by simp only [put_size, hsz]; decide)) 31 _ hz5 him
    (by rw [bytesV_size _ 32 hml, bytesV_size _ 32 (noughts_length 32)]) (bytesV_one _) ⟨hcz.range, ?_⟩)
  generalize w5.setRow w.heap.size (bytesV (macOf key bs)).toArray = wz at hrow hbel hcz
  generalize hfe : (bytesV (macOf key bs)).toArray = full at hrow him hbel ⊢
  have HFE := Lib.hid hfe; clear hfe
  rw [d3]
  show NoPanic _ .normal _ _
  refine NoPanic.normal ?_
  rw [HAA.out]
  have HROW := Lib.hid hrow
  have HIM := Lib.hid him
  have HBEL := Lib.hid hbel
  clear hcz hrow him hbel hb5' hc5 hz5 hb5 hml
  go_frame
  go_wp2_with fail
  have hres : ∀ tmps : Array Value, tmps.getD 4 undef = .pointer (some ⟨w.heap.size, 0, none⟩) → Sem.run Tryd.prog (results Tryd.f26 tmps) wz = .ok (.agg full) wz := fun tmps h =>
    results_cell_row (P := Tryd.prog) (p := 4) (ty := 31) Tryd.results26 tmps wz w.heap.size 31 full (0, 0) (TypeDesc.array 32 5) h HROW.out Tryd.underlying31 rfl HIM.out
  exact bodyPost_ret (v := .agg full) (hres _ rfl) rfl ⟨by rw [HFE.out], HBEL.out⟩
theorem of_len (n m : Nat) (key bs : List (BitVec 8)) (p q : Option Addr) (ck cb : Nat) (w : World) (hkn : key.length = n) (hbm : bs.length = m) (hrk : Lies w p key) (hrb : Lies w q bs) (hck : n ≤ ck) (hckm : ck ≤ 9223372036854775807) (hnk : n < 549755813000)
    (hcb : m ≤ cb) (hcbm : cb ≤ 9223372036854775807) (hnb : m < 549755813000) (hk : Consts w) (hs : Starts w) :
    Calls Tryd.prog 26 #[.slice p n ck, .slice q m cb] w fun e w' => e = .returned (.agg (bytesV (macOf key bs)).toArray) ∧ Below w.heap.size w w' := by
  subst hkn; subst hbm
  exact of_any key bs p q ck cb w hrk hrb hck hckm hnk hcb hcbm hnb hk hs
set_option maxRecDepth 100000 in
set_option maxHeartbeats 1000000 in
theorem chain_any (s bs : List (BitVec 8)) (q : Option Addr) (cb : Nat) (w : World) (hsl : s.length = 32) (hrb : Lies w q bs)
    (hcb : bs.length ≤ cb) (hcbm : cb ≤ 9223372036854775807) (hnb : bs.length < 549755813000) (hk : Consts w) (hs : Starts w) :
    Calls Tryd.prog 27 #[.agg (bytesV s).toArray, .slice q bs.length cb] w fun e w' => e = .returned (.agg (bytesV (macOf s bs)).toArray) ∧ Below w.heap.size w w' := by
  have hs1 := hk.size
  have HK := Lib.hid hk; clear hk
  have HS := Lib.hid hs; clear hs
  have HRB := Lib.hid hrb; clear hrb
  have HSL := Lib.hid hsl; clear hsl
  have HIN := Lib.hid (macOf_length s bs)
  have HI := Lib.hid (info32 _ HIN.out)
  have HOLD := Lib.hid (show (bytesV (noughts 32)).toArray.size = (bytesV (macOf s bs)).toArray.size by rw [bytesV_size _ 32 HIN.out, bytesV_size _ 32 (noughts_length 32)])
  have HONE := Lib.hid (bytesV_one (macOf s bs))
  go_enter Tryd.func27, Tryd.ntmps27
  go_wp2_with fail
  refine calls_gen (fun w0 => BytesAt w0 w.heap.size 31 s ∧ BytesAt w0 (w.heap.size + 1) 31 (noughts 32) ∧ Below w.heap.size w w0) ⟨?_, ?_, ((Below.refl _ _).alloc (Nat.le_refl _) _).alloc (by rw [size_alloc]; omega) _⟩ ?_
  · exact BytesAt.keep (w := w.alloc _) (heap_alloc_new w _) ((Below.refl _ _).alloc (Nat.le_refl _) _)
  · show _ = some (Obj.cells (bytesV (List.replicate 32 0#8)).toArray _ _)
    rw [noughts32]; exact heap_new_at (size_alloc _ _)
  rintro w0 ⟨hb0, hz0, bel0⟩
  have sz0 := hz0.size
  refine (of_len 32 bs.length s bs _ q 32 cb w0 HSL.out rfl (Or.inr ⟨w.heap.size, 0, rfl, hb0.range⟩) (HRB.out.below bel0) (by omega) (by omega) (by omega) hcb hcbm hnb (HK.out.below bel0 hs1) (HS.out.below bel0 (by omega))).mono ?_
  rintro e w3 ⟨rfl, hb3⟩
  have HB3 := Lib.hid (bel0.trans (hb3.mono (by omega)))
  have HZ3 := Lib.hid (hz0.keep hb3)
  clear hb0 hz0 bel0 hb3
  generalize hfe : (bytesV (macOf s bs)).toArray = full at HI HOLD HONE ⊢
  have HFE := Lib.hid hfe; clear hfe
  go_wp2_with (refine wpList_store_row rfl 31 (.tmp 4) (.tmp 7) rfl (w.heap.size + 1) full rfl rfl 31 _ HZ3.out HI.out HOLD.out HONE.out ?_)
  have hrow := setRow_heap w3 (w.heap.size + 1) _ full 31 _ HZ3.out
  have hbel := below_setRow HB3.out (show w.heap.size ≤ w.heap.size + 1 by omega) full
  generalize w3.setRow (w.heap.size + 1) full = wz at hrow hbel ⊢
  have hres : ∀ tmps : Array Value, tmps.getD 4 undef = .pointer (some ⟨w.heap.size + 1, 0, none⟩) → Sem.run Tryd.prog (results Tryd.f27 tmps) wz = .ok (.agg full) wz := fun tmps h =>
    results_cell_row (P := Tryd.prog) (p := 4) (ty := 31) Tryd.results27 tmps wz (w.heap.size + 1) 31 full (0, 0) (TypeDesc.array 32 5) h hrow Tryd.underlying31 rfl HI.out
  exact bodyPost_ret (v := .agg full) (hres _ rfl) rfl ⟨by rw [HFE.out], hbel⟩
end Go.Proofs.YtifnflhkcpchhaaDoor
