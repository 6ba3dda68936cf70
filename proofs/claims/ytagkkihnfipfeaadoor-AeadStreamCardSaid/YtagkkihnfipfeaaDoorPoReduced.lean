/-
  The contract of poly.reduced.
-/
import Derived.Test.YtagkkihnfipfeaaDoorPoNormal
import Derived.Test.YtagkkihnfipfeaaDoorPoPlus
namespace Go.Proofs.YtagkkihnfipfeaaDoor
open Go.RowKit Go.Proofs.ShaWords
attribute [local go_sem] add64 mul64_5
/-- A number with one limb, the lowest. -/
def oneLimb (x : BitVec 64) : List (BitVec 64) := [x, 0#64, 0#64, 0#64, 0#64]
theorem oneLimb_eq (x : BitVec 64) : (limbsV (oneLimb x)).toArray = #[Value.int .u64 (n64 x), Value.int .u64 0, Value.int .u64 0, Value.int .u64 0, Value.int .u64 0] := rfl
/-- What is beyond the limbs, folded in. -/
def redA (x : List (BitVec 64)) : List (BitVec 64) := (normL x 5).set 0 ((normL x 5).getD 0 0#64 + 5#64 * normO x 5)
/-- Is the number p or more? -/
def redO (x : List (BitVec 64)) : BitVec 64 := normO (addL (redA x) (oneLimb 5#64) 5) 5
def redOf (x : List (BitVec 64)) : List (BitVec 64) := normL (addL (redA x) (oneLimb (5#64 * redO x)) 5) 5
theorem redA_length (x : List (BitVec 64)) (h : x.length = 5) : (redA x).length = 5 := by rw [redA, List.length_set, normL_length, h]
theorem redOf_length (x : List (BitVec 64)) (h : x.length = 5) : (redOf x).length = 5 := by rw [redOf, normL_length, addL_length, redA_length x h]
theorem redA_eq (x : List (BitVec 64)) : redA x = (normL x 5).set 0 ((normL x 5).getD 0 0#64 + 5#64 * normO x 5) := rfl
theorem redO_eq (x : List (BitVec 64)) : redO x = normO (addL (redA x) (oneLimb 5#64) 5) 5 := rfl
theorem redOf_eq (x : List (BitVec 64)) : redOf x = normL (addL (redA x) (oneLimb (5#64 * redO x)) 5) 5 := rfl
theorem OneN.row {w wr : World} {L m : List (BitVec 64)} (h : OneN w L wr) : OneN w m (wr.setRow w.heap.size (limbsV m).toArray) :=
  ⟨setRow_heap _ _ _ _ _ _ h.x, h.res.past (grown_setRow _ _ _) (by omega), below_setRow h.below (Nat.le_refl _) _⟩
theorem plus_one (x : List (BitVec 64)) (c : BitVec 64) (w : World) (hx : x.length = 5) :
    Calls Tryd.prog 43 #[.agg (limbsV x).toArray, .agg #[.int .u64 (n64 c), .int .u64 0, .int .u64 0, .int .u64 0, .int .u64 0]] w fun e w' => e = .returned (.agg (limbsV (addL x (oneLimb c) 5)).toArray) ∧ Below w.heap.size w w' := by
  rw [← oneLimb_eq]
  exact plus_any x (oneLimb c) w hx rfl
theorem plus_five (x : List (BitVec 64)) (w : World) (hx : x.length = 5) :
    Calls Tryd.prog 43 #[.agg (limbsV x).toArray, .agg #[.int .u64 5, .int .u64 0, .int .u64 0, .int .u64 0, .int .u64 0]] w fun e w' => e = .returned (.agg (limbsV (addL x (oneLimb 5#64) 5)).toArray) ∧ Below w.heap.size w w' :=
  plus_one x 5#64 w hx

attribute [local irreducible] normL normO nought5 addL redA redO redOf oneLimb
set_option maxRecDepth 100000 in
set_option maxHeartbeats 4000000 in
theorem reduced_any (x : List (BitVec 64)) (w : World) (hx : x.length = 5) :
    Calls Tryd.prog 41 #[.agg (limbsV x).toArray] w fun e w' => e = .returned (.agg (limbsV (redOf x)).toArray) ∧ Below w.heap.size w w' := by
  have HX := Lib.hid hx
  have HN := Lib.hid ((normL_length x 5).trans hx)
  have HA := Lib.hid (redA_length x hx)
  have HR := Lib.hid (redOf_length x hx); clear hx
  go_enter Tryd.func41, Tryd.ntmps41
  go_upto_region 1 with (fail)
  refine wp_gen (OneN w x) (one_n w x) ?_
  intro w0 hw0
  have HROW := Lib.hid hw0.x
  have HI := Lib.hid (info5n _ HX.out)
  have HW0 := Lib.hid hw0; clear hw0
  go_wp2_with (refine wpList_load_row rfl 71 (.tmp 1) rfl w.heap.size rfl tNum _ (0, 0) _ HROW.out Tryd.underlying71 rfl HI.out ?_)
  refine (normal_any x w0 HX.out).mono ?_
  rintro e w1 ⟨rfl, hb⟩
  have HW1 := Lib.hid (HW0.out.on hb); clear hb HW0 HROW HI
  have HNO := Lib.hid (rfl : normO x 5 = normO x 5)
  have HRA := Lib.hid (redA_eq x)
  have HRO := Lib.hid (redO_eq x)
  have HRF := Lib.hid (redOf_eq x)
  generalize normL x 5 = l1 at HN HRA ⊢
  generalize normO x 5 = o1 at HRA ⊢
  have HI1 := Lib.hid (info5n _ HN.out)
  have HOLD1 := Lib.hid (show (limbsV x).toArray.size = (limbsV l1).toArray.size by rw [limbsV_size _ 5 HX.out, limbsV_size _ 5 HN.out])
  have HONE1 := Lib.hid (limbsV_one l1)
  have HROW1 := Lib.hid HW1.out.x
  go_upto_region 2 with (refine wpList_store_row rfl 71 (.tmp 1) (.tmp 7) rfl w.heap.size _ rfl rfl tNum _ HROW1.out HI1.out HOLD1.out HONE1.out ?_)
  refine wp_gen (OneN w l1) HW1.out.row ?_
  clear HW1 HROW1 HOLD1 HONE1 HI1
  intro w2 hw2
  have c0 := hw2.x.cell 0 (by rw [HN.out]; omega)
  have cf := hw2.x.frozen 0
  have HW2 := Lib.hid hw2; clear hw2
  generalize l1.getD 0 0#64 = u at c0 HRA
  go_upto_region 3 with (fail)
  refine wp_gen (OneN w (redA x)) (by rw [HRA.out]; exact HW2.out.set 0 _) ?_
  clear c0 cf HW2 HRA HN
  intro w3 hw3
  generalize redA x = ra at hw3 HA HRO HRF
  have HI3 := Lib.hid (info5n _ HA.out)
  have HROW3 := Lib.hid hw3.x
  have HW3 := Lib.hid hw3; clear hw3
  go_wp2_with (refine wpList_load_row rfl 71 (.tmp 1) rfl w.heap.size rfl tNum _ (0, 0) _ HROW3.out Tryd.underlying71 rfl HI3.out ?_)
  refine (plus_five ra w3 HA.out).mono ?_
  rintro e w4 ⟨rfl, hb⟩
  have HW4 := Lib.hid (HW3.out.on hb); clear hb HW3 HROW3
  go_wp2_with fail
  refine (normal_any _ w4 ((addL_length _ _ _).trans HA.out)).mono ?_
  rintro e w5 ⟨rfl, hb⟩
  rw [← HRO.out]
  have HW5 := Lib.hid (HW4.out.on hb); clear hb HW4 HRO
  have HROW5 := Lib.hid HW5.out.x
  generalize redO x = ro at HRF ⊢
  go_wp2_with (refine wpList_load_row rfl 71 (.tmp 1) rfl w.heap.size rfl tNum _ (0, 0) _ HROW5.out Tryd.underlying71 rfl HI3.out ?_)
  refine (plus_one ra (5#64 * ro) w5 HA.out).mono ?_
  rintro e w6 ⟨rfl, hb⟩
  have HW6 := Lib.hid (HW5.out.on hb); clear hb HW5 HROW5
  go_wp2_with fail
  refine (normal_any _ w6 ((addL_length _ _ _).trans HA.out)).mono ?_
  rintro e w7 ⟨rfl, hb⟩
  rw [← HRF.out]
  have HW7 := Lib.hid (HW6.out.on hb); clear hb HW6 HRF
  have HI := Lib.hid (info5n _ HR.out)
  have HOLD := Lib.hid (show (limbsV ra).toArray.size = (limbsV (redOf x)).toArray.size by rw [limbsV_size _ 5 HA.out, limbsV_size _ 5 HR.out])
  have HOLD2 := Lib.hid (show (limbsV nought5).toArray.size = (limbsV (redOf x)).toArray.size by rw [limbsV_size _ 5 HR.out]; unfold nought5; rfl)
  have HONE := Lib.hid (limbsV_one (redOf x))
  have HROW7 := Lib.hid HW7.out.x
  have hw8 : OneN w (redOf x) (w7.setRow w.heap.size (limbsV (redOf x)).toArray) := HW7.out.row
  have HROW8 := Lib.hid (show (w7.setRow w.heap.size (limbsV (redOf x)).toArray).heap[w.heap.size]? = some (.cells (limbsV (redOf x)).toArray tNum (0, 0)) from hw8.x)
  have HRES8 := Lib.hid (show (w7.setRow w.heap.size (limbsV (redOf x)).toArray).heap[w.heap.size + 1]? = some (.cells (limbsV nought5).toArray tNum (0, 0)) from hw8.res)
  have HBE8 := Lib.hid hw8.below
  clear hw8 HW7
  generalize hfe : (limbsV (redOf x)).toArray = full at HI HOLD HOLD2 HONE HROW8 HRES8 HBE8 ⊢
  have HFE := Lib.hid hfe; clear hfe
  go_wp2_with (first
    | (refine wpList_store_row rfl 71 (.tmp 1) (.tmp 29) rfl w.heap.size full rfl rfl tNum _ HROW7.out HI.out HOLD.out HONE.out ?_)
    | (refine wpList_load_row rfl 71 (.tmp 1) rfl w.heap.size rfl tNum full (0, 0) _ HROW8.out Tryd.underlying71 rfl HI.out ?_)
    | (refine wpList_store_row rfl 71 (.tmp 2) (.tmp 31) rfl (w.heap.size + 1) full rfl rfl tNum _ HRES8.out HI.out HOLD2.out HONE.out ?_))
  have hrow := setRow_heap (w7.setRow w.heap.size full) (w.heap.size + 1) _ full tNum _ HRES8.out
  have hbel := below_setRow HBE8.out (show w.heap.size ≤ w.heap.size + 1 by omega) full
  generalize (w7.setRow w.heap.size full).setRow (w.heap.size + 1) full = wz at hrow hbel ⊢
  have hres : ∀ tmps : Array Value, tmps.getD 2 undef = .pointer (some ⟨w.heap.size + 1, 0, none⟩) → Sem.run Tryd.prog (results Tryd.f41 tmps) wz = .ok (.agg full) wz := fun tmps h =>
    results_cell_row (P := Tryd.prog) (p := 2) (ty := 71) Tryd.results41 tmps wz (w.heap.size + 1) tNum full (0, 0) _ h hrow Tryd.underlying71 rfl HI.out
  exact bodyPost_ret (v := .agg full) (hres _ rfl) rfl ⟨by rw [HFE.out], hbel⟩
end Go.Proofs.YtagkkihnfipfeaaDoor
