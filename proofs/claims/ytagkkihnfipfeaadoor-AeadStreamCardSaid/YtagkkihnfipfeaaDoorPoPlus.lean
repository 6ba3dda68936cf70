/-
  The contract of poly.plus: limb by limb.
-/
import Derived.Test.YtagkkihnfipfeaaDoorPoLimbs
namespace Go.Proofs.YtagkkihnfipfeaaDoor
open Go.RowKit Go.Proofs.ShaWords
attribute [local go_sem] add64
attribute [local irreducible] addL nought5
set_option maxRecDepth 100000 in
set_option maxHeartbeats 1000000 in
theorem plus_any (x y : List (BitVec 64)) (w : World) (hx : x.length = 5) (hy : y.length = 5) :
    Calls Tryd.prog 43 #[.agg (limbsV x).toArray, .agg (limbsV y).toArray] w fun e w' => e = .returned (.agg (limbsV (addL x y 5)).toArray) ∧ Below w.heap.size w w' := by
  have HX := Lib.hid (fun k => (addL_length x y k).trans hx)
  have HY := Lib.hid hy; clear hy hx
  go_enter Tryd.func43, Tryd.ntmps43
  go_upto_region 1 with (fail)
  refine wp_gen (TwoN w (addL x y 0) y) (by rw [addL_zero]; exact two_n w x y) ?_
  intro w0 hw0
  have HW0 := Lib.hid hw0; clear hw0
  go_wp2_with fail
  go_loopw [6] (fun i wr => ∃ k : Nat, k ≤ 5 ∧ i = .int .i64 k ∧ TwoN w (addL x y k) y wr) (fun i _ => 5 - (intOf i).toNat)
  case atStart => exact ⟨0, by omega, rfl, HW0.out⟩
  case round =>
    clear HW0
    obtain ⟨k, hk, rfl, hw⟩ := hrel
    by_cases hlt : k < 5
    · have c0 := hw.x.cell k (by rw [HX.out]; omega)
      have c1 := hw.y.cell k (by rw [HY.out]; omega)
      have cf := hw.x.frozen k
      have HS := Lib.hid (addL_succ x y k)
      have HW := Lib.hid hw; clear hw
      generalize (addL x y k).getD k 0#64 = u at c0 HS
      generalize y.getD k 0#64 = v at c1 HS
      have q0 : (k : Int) < 5 := by omega
      have p0 : 0 ≤ (k : Int) := by omega
      have z0 : (k : Int).toNat = k := by omega
      go_wp2_with fail
      go_still_tail 8, (by kernel_rfl)
      change wpList _ _ _ _ _ wr.drew
      go_wp2_with fail
      go_roundw
      case rel =>
        refine ⟨k + 1, by omega, by go_num, ?_⟩
        rw [HS.out]
        exact HW.out.on ((Below.refl _ _).drew) |>.set k _
      case measure => simp [intOf]; omega
    · obtain rfl : k = 5 := by omega
      have HW := Lib.hid hw; clear hw
      have HI := Lib.hid (info5n _ (HX.out 5))
      have HOLD := Lib.hid (show (limbsV nought5).toArray.size = (limbsV (addL x y 5)).toArray.size by rw [limbsV_size _ 5 (HX.out 5)]; unfold nought5; rfl)
      have HONE := Lib.hid (limbsV_one (addL x y 5))
      have HROW := Lib.hid HW.out.x
      have HRES := Lib.hid HW.out.res
      have HB5 := Lib.hid HW.out.below
      clear HW
      generalize hfe : (limbsV (addL x y 5)).toArray = full at HI HOLD HONE ⊢
      have HFE := Lib.hid hfe; clear hfe
      have HROW2 : Hid (wr.heap[w.heap.size]? = some (.cells full tNum (0, 0))) := show _ = _ by rw [← HFE.out]; exact HROW.out
      go_wp2_with (first
        | (refine wpList_load_row rfl 71 (.tmp 2) rfl w.heap.size rfl tNum full (0, 0) _ HROW2.out Tryd.underlying71 rfl HI.out ?_)
        | (refine wpList_store_row rfl 71 (.tmp 4) (.tmp 18) rfl (w.heap.size + 1 + 1) full rfl rfl tNum _ HRES.out HI.out HOLD.out HONE.out ?_))
      have hrow := setRow_heap wr (w.heap.size + 1 + 1) _ full tNum _ HRES.out
      have hbel := below_setRow HB5.out (show w.heap.size ≤ w.heap.size + 1 + 1 by omega) full
      generalize wr.setRow (w.heap.size + 1 + 1) full = wz at hrow hbel ⊢
      have hres : ∀ tmps : Array Value, tmps.getD 4 undef = .pointer (some ⟨w.heap.size + 1 + 1, 0, none⟩) → Sem.run Tryd.prog (results Tryd.f43 tmps) wz = .ok (.agg full) wz := fun tmps h =>
        results_cell_row (P := Tryd.prog) (p := 4) (ty := 71) Tryd.results43 tmps wz (w.heap.size + 1 + 1) tNum full (0, 0) _ h hrow Tryd.underlying71 rfl HI.out
      exact bodyPost_ret (v := .agg full) (hres _ rfl) rfl ⟨by rw [HFE.out], hbel⟩
end Go.Proofs.YtagkkihnfipfeaaDoor
