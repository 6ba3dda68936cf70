/-
  The contract of poly.product: limb by limb, what is beyond the fifth counts five times below.
-/
import Derived.Test.YtagkkihnfipfeaaDoorPoLimbs
namespace Go.Proofs.YtagkkihnfipfeaaDoor
open Go.RowKit Go.Proofs.ShaWords
attribute [local go_sem] add64 mul64 mul64_5
/-- One product of two limbs, taken in. -/
def mulStep (x y n : List (BitVec 64)) (i j : Nat) : List (BitVec 64) :=
  if i + j < 5 then n.set (i + j) (n.getD (i + j) 0#64 + x.getD i 0#64 * y.getD j 0#64)
  else n.set (i + j - 5) (n.getD (i + j - 5) 0#64 + 5#64 * x.getD i 0#64 * y.getD j 0#64)
/-- A limb of x with the first k of y. -/
def mulRow (x y n : List (BitVec 64)) (i : Nat) : Nat → List (BitVec 64)
  | 0 => n
  | k + 1 => mulStep x y (mulRow x y n i k) i k
/-- The first k limbs of x with all of y. -/
def mulL (x y : List (BitVec 64)) : Nat → List (BitVec 64)
  | 0 => nought5
  | k + 1 => mulRow x y (mulL x y k) k 5
theorem mulStep_length (x y n : List (BitVec 64)) (i j : Nat) : (mulStep x y n i j).length = n.length := by unfold mulStep; split <;> simp
theorem mulRow_length (x y n : List (BitVec 64)) (i k : Nat) : (mulRow x y n i k).length = n.length := by
  induction k with
  | zero => rfl
  | succ k ih => rw [mulRow, mulStep_length, ih]
theorem mulL_length (x y : List (BitVec 64)) (k : Nat) : (mulL x y k).length = 5 := by
  induction k with
  | zero => rfl
  | succ k ih => rw [mulL, mulRow_length, ih]
theorem mulRow_zero (x y n : List (BitVec 64)) (i : Nat) : mulRow x y n i 0 = n := rfl
theorem mulRow_succ (x y n : List (BitVec 64)) (i k : Nat) : mulRow x y n i (k + 1) = mulStep x y (mulRow x y n i k) i k := rfl
theorem mulL_zero (x y : List (BitVec 64)) : mulL x y 0 = nought5 := rfl
theorem mulL_succ (x y : List (BitVec 64)) (k : Nat) : mulL x y (k + 1) = mulRow x y (mulL x y k) k 5 := rfl
theorem mulStep_low (x y n : List (BitVec 64)) (i j : Nat) (h : i + j < 5) : mulStep x y n i j = n.set (i + j) (n.getD (i + j) 0#64 + x.getD i 0#64 * y.getD j 0#64) := if_pos h
theorem mulStep_high (x y n : List (BitVec 64)) (i j : Nat) (h : ¬ i + j < 5) : mulStep x y n i j = n.set (i + j - 5) (n.getD (i + j - 5) 0#64 + 5#64 * x.getD i 0#64 * y.getD j 0#64) := if_neg h
/-- Two numbers that came in, the result's block, the product's. -/
structure MulN (w : World) (x y n : List (BitVec 64)) (wr : World) : Prop where
  two : TwoN w x y wr
  n : LimbsAt wr (w.heap.size + 1 + 1 + 1) tNum n
theorem MulN.set {w wr : World} {x y n : List (BitVec 64)} (h : MulN w x y n wr) (k : Nat) (v : BitVec 64) : MulN w x y (n.set k v) (wr.setCell ⟨w.heap.size + 1 + 1 + 1, k, none⟩ (.int .u64 (n64 v))) :=
  ⟨⟨h.two.x.setOther (by omega) _ _, h.two.y.setOther (by omega) _ _, h.two.res.setOther (by omega) _ _, h.two.below.setCell (show w.heap.size ≤ w.heap.size + 1 + 1 + 1 by omega) _⟩, h.n.set k v⟩
theorem MulN.drew {w wr : World} {x y n : List (BitVec 64)} (h : MulN w x y n wr) : MulN w x y n wr.drew := ⟨h.two.on ((Below.refl _ _).drew), h.n.drew⟩

attribute [local irreducible] mulStep mulRow mulL nought5
set_option maxRecDepth 100000 in
set_option maxHeartbeats 1000000 in
theorem product_any (x y : List (BitVec 64)) (w : World) (hx : x.length = 5) (hy : y.length = 5) :
    Calls Tryd.prog 42 #[.agg (limbsV x).toArray, .agg (limbsV y).toArray] w fun e w' => e = .returned (.agg (limbsV (mulL x y 5)).toArray) ∧ Below w.heap.size w w' := by
  have HX := Lib.hid hx; clear hx
  have HY := Lib.hid hy; clear hy
  have HL := Lib.hid (mulL_length x y)
  have HR0 := Lib.hid (mulRow_zero x y)
  have HLS := Lib.hid (mulL_succ x y)
  go_enter Tryd.func42, Tryd.ntmps42
  go_upto_region 2 with (fail)
  refine wp_gen (MulN w x y (mulL x y 0)) ?_ ?_
  · rw [mulL_zero]
    exact ⟨(two_n w x y).on ((Below.refl _ _).alloc (Nat.le_refl _) _), by show _ = some (Obj.cells (limbsV nought5).toArray _ _); rw [nought5_eq]; exact heap_new_at (by simp)⟩
  intro w0 hw0
  have HW0 := Lib.hid hw0; clear hw0
  go_wp2_with fail
  go_loopw [8] (fun i wr => ∃ k : Nat, k ≤ 5 ∧ i = .int .i64 k ∧ MulN w x y (mulL x y k) wr) (fun i _ => 5 - (intOf i).toNat)
  case atStart => exact ⟨0, by omega, rfl, HW0.out⟩
  case round =>
    clear HW0
    obtain ⟨i, hi, rfl, hw⟩ := hrel
    by_cases hlt : i < 5
    · have HW := Lib.hid hw; clear hw
      have q0 : (i : Int) < 5 := by omega
      have HLi := Lib.hid (HL.out i)
      have HLSi := Lib.hid (HLS.out i)
      generalize mulL x y i = n0 at HW HLi HLSi
      go_wp2_with fail
      go_loopw [11] (fun j wi => ∃ k : Nat, k ≤ 5 ∧ j = .int .i64 k ∧ MulN w x y (mulRow x y n0 i k) wi) (fun j _ => 5 - (intOf j).toNat)
      case atStart => exact ⟨0, by omega, rfl, by rw [HR0.out]; exact HW.out⟩
      case round =>
        clear HW
        obtain ⟨j, hj, rfl, hwi⟩ := hrel
        by_cases hlj : j < 5
        · have hnl := (mulRow_length x y n0 i j).trans HLi.out
          have HS := Lib.hid (mulRow_succ x y n0 i j)
          generalize mulRow x y n0 i j = n at hwi HS hnl
          have c1 := hwi.two.x.cell i (by rw [HX.out]; omega)
          have c2 := hwi.two.y.cell j (by rw [HY.out]; omega)
          have j0 : (j : Int) < 5 := by omega
          have ip : 0 ≤ (i : Int) := by omega
          have jp : 0 ≤ (j : Int) := by omega
          have zi : (i : Int).toNat = i := by omega
          have zj : (j : Int).toNat = j := by omega
          have sw : IntKind.i64.wrap ((i : Int) + j) = (i : Int) + j := IntWalk.i64_in _ (by omega)
          by_cases hs : i + j < 5
          · have c0 := hwi.n.cell (i + j) (by rw [hnl]; omega)
            have cf := hwi.n.frozen (i + j)
            have HM := Lib.hid (mulStep_low x y n i j hs)
            have HWI := Lib.hid hwi; clear hwi hnl
            generalize x.getD i 0#64 = u at c1 HM
            generalize y.getD j 0#64 = v at c2 HM
            generalize n.getD (i + j) 0#64 = z at c0 HM
            have s0 : (i : Int) + j < 5 := by omega
            have sp : 0 ≤ (i : Int) + j := by omega
            have sz : ((i : Int) + j).toNat = i + j := by omega
            go_wp2_with fail
            go_still_tail 14, (by kernel_rfl)
            change wpList _ _ _ _ _ wr.drew
            go_wp2_with fail
            go_roundw
            case rel =>
              refine ⟨j + 1, by omega, by go_num, ?_⟩
              rw [HS.out, HM.out]
              exact HWI.out.drew.set _ _
            case measure => simp [intOf]; omega
          · have c0 := hwi.n.cell (i + j - 5) (by rw [hnl]; omega)
            have cf := hwi.n.frozen (i + j - 5)
            have HM := Lib.hid (mulStep_high x y n i j hs)
            have HWI := Lib.hid hwi; clear hwi hnl
            generalize x.getD i 0#64 = u at c1 HM
            generalize y.getD j 0#64 = v at c2 HM
            generalize n.getD (i + j - 5) 0#64 = z at c0 HM
            have s0 : ¬ (i : Int) + j < 5 := by omega
            have sd : IntKind.i64.wrap ((i : Int) + j - 5) = (i : Int) + j - 5 := IntWalk.i64_in _ (by omega)
            have sl : (i : Int) + j - 5 < 5 := by omega
            have sp : 0 ≤ (i : Int) + j - 5 := by omega
            have sz : ((i : Int) + j - 5).toNat = i + j - 5 := by omega
            go_wp2_with fail
            go_still_tail 16, (by kernel_rfl)
            change wpList _ _ _ _ _ wr.drew
            go_wp2_with fail
            go_roundw
            case rel =>
              refine ⟨j + 1, by omega, by go_num, ?_⟩
              rw [HS.out, HM.out]
              exact HWI.out.drew.set _ _
            case measure => simp [intOf]; omega
        · obtain rfl : j = 5 := by omega
          have HWI := Lib.hid hwi; clear hwi
          go_wp2_with fail
          go_roundw
          case rel => exact ⟨i + 1, by omega, by go_num, by rw [HLSi.out]; exact HWI.out⟩
          case measure => simp [intOf]; omega
    · obtain rfl : i = 5 := by omega
      have HW := Lib.hid hw; clear hw
      have HI := Lib.hid (info5n _ (HL.out 5))
      have HOLD := Lib.hid (show (limbsV nought5).toArray.size = (limbsV (mulL x y 5)).toArray.size by rw [limbsV_size _ 5 (HL.out 5)]; unfold nought5; rfl)
      have HONE := Lib.hid (limbsV_one (mulL x y 5))
      have HROW := Lib.hid HW.out.n
      have HRES := Lib.hid HW.out.two.res
      have HB5 := Lib.hid HW.out.two.below
      clear HW
      generalize hfe : (limbsV (mulL x y 5)).toArray = full at HI HOLD HONE ⊢
      have HFE := Lib.hid hfe; clear hfe
      have HROW2 : Hid (wr.heap[w.heap.size + 1 + 1 + 1]? = some (.cells full tNum (0, 0))) := show _ = _ by rw [← HFE.out]; exact HROW.out
      go_wp2_with (first
        | (refine wpList_load_row rfl 71 (.tmp 5) rfl (w.heap.size + 1 + 1 + 1) rfl tNum full (0, 0) _ HROW2.out Tryd.underlying71 rfl HI.out ?_)
        | (refine wpList_store_row rfl 71 (.tmp 4) (.tmp 50) rfl (w.heap.size + 1 + 1) full rfl rfl tNum _ HRES.out HI.out HOLD.out HONE.out ?_))
      have hrow := setRow_heap wr (w.heap.size + 1 + 1) _ full tNum _ HRES.out
      have hbel := below_setRow HB5.out (show w.heap.size ≤ w.heap.size + 1 + 1 by omega) full
      generalize wr.setRow (w.heap.size + 1 + 1) full = wz at hrow hbel ⊢
      have hres : ∀ tmps : Array Value, tmps.getD 4 undef = .pointer (some ⟨w.heap.size + 1 + 1, 0, none⟩) → Sem.run Tryd.prog (results Tryd.f42 tmps) wz = .ok (.agg full) wz := fun tmps h =>
        results_cell_row (P := Tryd.prog) (p := 4) (ty := 71) Tryd.results42 tmps wz (w.heap.size + 1 + 1) tNum full (0, 0) _ h hrow Tryd.underlying71 rfl HI.out
      exact bodyPost_ret (v := .agg full) (hres _ rfl) rfl ⟨by rw [HFE.out], hbel⟩
end Go.Proofs.YtagkkihnfipfeaaDoor
