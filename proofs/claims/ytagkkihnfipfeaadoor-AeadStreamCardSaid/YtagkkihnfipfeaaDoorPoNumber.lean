/-
  The contract of poly.numberOf: the number of at most seventeen bytes.
-/
import Derived.Test.YtagkkihnfipfeaaDoorPoNormal
namespace Go.Proofs.YtagkkihnfipfeaaDoor
open Go.RowKit Go.Proofs.ShaWords
attribute [local go_sem] add64 wrap64_n8 shl64
/-- The first k bytes taken in. -/
def numK (bs : List (BitVec 8)) : Nat → List (BitVec 64)
  | 0 => nought5
  | k + 1 => (numK bs k).set (8 * k / 26) ((numK bs k).getD (8 * k / 26) 0#64 + ext64 (bs.getD k 0#8) <<< (8 * k % 26))
theorem numK_zero (bs : List (BitVec 8)) : numK bs 0 = nought5 := rfl
theorem numK_succ (bs : List (BitVec 8)) (k : Nat) : numK bs (k + 1) = (numK bs k).set (8 * k / 26) ((numK bs k).getD (8 * k / 26) 0#64 + ext64 (bs.getD k 0#8) <<< (8 * k % 26)) := rfl
theorem numK_length (bs : List (BitVec 8)) (k : Nat) : (numK bs k).length = 5 := by
  induction k with
  | zero => rfl
  | succ k ih => rw [numK_succ, List.length_set, ih]
/-- The number's limbs. -/
def numOf (bs : List (BitVec 8)) : List (BitVec 64) := normL (numK bs bs.length) 5
theorem numOf_length (bs : List (BitVec 8)) : (numOf bs).length = 5 := (normL_length _ _).trans (numK_length _ _)
/-- The result's block, the number's. -/
structure NumN (w : World) (n : List (BitVec 64)) (wr : World) : Prop where
  res : LimbsAt wr w.heap.size tNum nought5
  n : LimbsAt wr (w.heap.size + 1) tNum n
  below : Below w.heap.size w wr
theorem NumN.set {w wr : World} {n : List (BitVec 64)} (h : NumN w n wr) (k : Nat) (v : BitVec 64) : NumN w (n.set k v) (wr.setCell ⟨w.heap.size + 1, k, none⟩ (.int .u64 (n64 v))) :=
  ⟨h.res.setOther (by omega) _ _, h.n.set k v, h.below.setCell (show w.heap.size ≤ w.heap.size + 1 by omega) _⟩
theorem NumN.on {w wr w' : World} {n : List (BitVec 64)} (h : NumN w n wr) (hb : Below wr.heap.size wr w') : NumN w n w' := ⟨h.res.keep hb, h.n.keep hb, h.below.trans (hb.mono h.below.size)⟩
theorem NumN.row {w wr : World} {n m : List (BitVec 64)} (h : NumN w n wr) (hw : LimbsAt (wr.setRow (w.heap.size + 1) (limbsV m).toArray) (w.heap.size + 1) tNum m) : NumN w m (wr.setRow (w.heap.size + 1) (limbsV m).toArray) :=
  ⟨h.res.past (grown_setRow _ _ _) (by omega), hw, below_setRow h.below (show w.heap.size ≤ w.heap.size + 1 by omega) _⟩

attribute [local irreducible] numK nought5 normL
set_option maxRecDepth 100000 in
set_option maxHeartbeats 1000000 in
theorem numberOf_any (bs : List (BitVec 8)) (m : Nat) (p : Option Addr) (cap : Nat) (w : World) (hm : bs.length = m) (hl : m ≤ 17) (hL : Lies w p bs) :
    Calls Tryd.prog 44 #[.slice p m cap] w fun e w' => e = .returned (.agg (limbsV (numOf bs)).toArray) ∧ Below w.heap.size w w' := by
  have HM := Lib.hid hm; clear hm
  have HL := Lib.hid hL; clear hL
  have HN := Lib.hid (numK_length bs)
  have HOF : Hid (numOf bs = normL (numK bs m) 5) := show _ = _ by rw [← HM.out]; rfl
  go_enter Tryd.func44, Tryd.ntmps44
  go_upto_region 2 with (fail)
  refine wp_gen (NumN w (numK bs 0)) ?_ ?_
  · rw [numK_zero]
    refine ⟨LimbsAt.keep (w := w.alloc _) (by show _ = some (Obj.cells (limbsV nought5).toArray _ _); rw [nought5_eq]; exact heap_alloc_new w _) ((Below.refl _ _).alloc (Nat.le_refl _) _), by show _ = some (Obj.cells (limbsV nought5).toArray _ _); rw [nought5_eq]; exact heap_new_at (by simp), ((Below.refl _ _).alloc (Nat.le_refl _) _).alloc (by simp) _⟩
  intro w0 hw0
  have HW0 := Lib.hid hw0; clear hw0
  go_wp2_with fail
  go_loopw [8] (fun i wr => ∃ k : Nat, k ≤ m ∧ i = .int .i64 k ∧ NumN w (numK bs k) wr) (fun i _ => m - (intOf i).toNat)
  case atStart => exact ⟨0, by omega, rfl, HW0.out⟩
  case round =>
    clear HW0
    obtain ⟨k, hk, rfl, hw⟩ := hrel
    by_cases hlt : k < m
    · obtain ⟨b, off, rfl, hr⟩ : ∃ b off, p = some ⟨b, off, none⟩ ∧ w.rangeAt b off (bytesV bs) := by
        rcases HL.out with h | h
        · exact absurd h (by intro h; have := HM.out; rw [h] at this; simp at this; omega)
        · exact h
      have cb := range_cell (range_keep hr hw.below) k (by rw [HM.out]; omega)
      have c0 := hw.n.cell (8 * k / 26) (by rw [HN.out]; omega)
      have cf := hw.n.frozen (8 * k / 26)
      have HS := Lib.hid (numK_succ bs k)
      have HW := Lib.hid hw; clear hw hr
      generalize bs.getD k 0#8 = x at cb HS
      generalize (numK bs k).getD (8 * k / 26) 0#64 = z at c0 HS
      have q0 : (k : Int) < (m : Int) := by omega
      have p0 : 0 ≤ (k : Int) := by omega
      have z0 : (k : Int).toNat = k := by omega
      have m0 : IntKind.i64.wrap (8 * (k : Int)) = 8 * (k : Int) := IntWalk.i64_in _ (by omega)
      have d0 : (8 * (k : Int)).tdiv 26 = ((8 * k / 26 : Nat) : Int) := by rw [Int.tdiv_eq_ediv_of_nonneg (by omega)]; omega
      have r0 : (8 * (k : Int)).tmod 26 = ((8 * k % 26 : Nat) : Int) := by rw [Int.tmod_eq_emod_of_nonneg (by omega)]; omega
      have e0 : ((8 * k / 26 : Nat) : Int) < 5 := by omega
      have e1 : 0 ≤ ((8 * k / 26 : Nat) : Int) := by omega
      have e2 : (((8 * k / 26 : Nat) : Int)).toNat = 8 * k / 26 := by omega
      have f1 : 0 ≤ ((8 * k % 26 : Nat) : Int) := by omega
      have f2 : (((8 * k % 26 : Nat) : Int)).toNat = 8 * k % 26 := by omega
      have f3 : ¬ (64 : Int) ≤ ((8 * k % 26 : Nat) : Int) := by omega
      have w1 : IntKind.i64.wrap ((8 * k / 26 : Nat) : Int) = ((8 * k / 26 : Nat) : Int) := IntWalk.i64_in _ (by omega)
      have w2 : IntKind.i64.wrap ((8 * k % 26 : Nat) : Int) = ((8 * k % 26 : Nat) : Int) := IntWalk.i64_in _ (by omega)
      generalize 8 * k / 26 = d at c0 cf HS d0 e0 e1 e2 w1
      generalize 8 * k % 26 = s at HS r0 f1 f2 f3 w2
      go_wp2_with fail
      go_still_tail 13, (by kernel_rfl)
      change wpList _ _ _ _ _ wr.drew
      go_wp2_with fail
      go_roundw
      case rel =>
        refine ⟨k + 1, by omega, by go_num, ?_⟩
        rw [HS.out]
        exact (HW.out.on ((Below.refl _ _).drew)).set _ _
      case measure => simp [intOf]; omega
    · obtain rfl : k = m := by omega
      have HW := Lib.hid hw; clear hw
      have HI := Lib.hid (info5n _ (HN.out k))
      have HROW := Lib.hid HW.out.n
      have HNL := Lib.hid ((normL_length (numK bs k) 5).trans (HN.out k))
      go_wp2_with (refine wpList_load_row rfl 71 (.tmp 3) rfl (w.heap.size + 1) rfl tNum _ (0, 0) _ HROW.out Tryd.underlying71 rfl HI.out ?_)
      refine (normal_any _ wr (HN.out k)).mono ?_
      rintro e w1 ⟨rfl, hb⟩
      have HW1 := Lib.hid (HW.out.on hb); clear hb HW HROW HI
      have HI := Lib.hid (info5n _ HNL.out)
      have HOLD := Lib.hid (show (limbsV (numK bs k)).toArray.size = (limbsV (normL (numK bs k) 5)).toArray.size by rw [limbsV_size _ 5 HNL.out, limbsV_size _ 5 (HN.out k)])
      have HOLD2 := Lib.hid (show (limbsV nought5).toArray.size = (limbsV (normL (numK bs k) 5)).toArray.size by rw [limbsV_size _ 5 HNL.out]; unfold nought5; rfl)
      have HONE := Lib.hid (limbsV_one (normL (numK bs k) 5))
      have HROW := Lib.hid HW1.out.n
      have HRES : Hid (w1.setRow (w.heap.size + 1) (limbsV (normL (numK bs k) 5)).toArray |>.heap[w.heap.size]? = some (.cells (limbsV nought5).toArray tNum (0, 0))) := show _ = _ from HW1.out.res.past (grown_setRow _ _ _) (by omega)
      have HROW2 : Hid ((w1.setRow (w.heap.size + 1) (limbsV (normL (numK bs k) 5)).toArray).heap[w.heap.size + 1]? = some (.cells (limbsV (normL (numK bs k) 5)).toArray tNum (0, 0))) := show _ = _ from setRow_heap _ _ _ _ _ _ HROW.out
      have HB1 := Lib.hid (below_setRow HW1.out.below (show w.heap.size ≤ w.heap.size + 1 by omega) (limbsV (normL (numK bs k) 5)).toArray)
      clear HW1
      generalize hfe : (limbsV (normL (numK bs k) 5)).toArray = full at HI HOLD HOLD2 HONE HRES HROW2 HB1 ⊢
      have HFE := Lib.hid hfe; clear hfe
      go_wp2_with (first
        | (refine wpList_store_row rfl 71 (.tmp 3) (.tmp 30) rfl (w.heap.size + 1) full rfl rfl tNum _ HROW.out HI.out HOLD.out HONE.out ?_)
        | (refine wpList_load_row rfl 71 (.tmp 3) rfl (w.heap.size + 1) rfl tNum full (0, 0) _ HROW2.out Tryd.underlying71 rfl HI.out ?_)
        | (refine wpList_store_row rfl 71 (.tmp 2) (.tmp 32) rfl w.heap.size full rfl rfl tNum _ HRES.out HI.out HOLD2.out HONE.out ?_))
      have hrow := setRow_heap (w1.setRow (w.heap.size + 1) full) w.heap.size _ full tNum _ HRES.out
      have hbel := below_setRow HB1.out (Nat.le_refl _) full
      generalize (w1.setRow (w.heap.size + 1) full).setRow w.heap.size full = wz at hrow hbel ⊢
      have hres : ∀ tmps : Array Value, tmps.getD 2 undef = .pointer (some ⟨w.heap.size, 0, none⟩) → Sem.run Tryd.prog (results Tryd.f44 tmps) wz = .ok (.agg full) wz := fun tmps h =>
        results_cell_row (P := Tryd.prog) (p := 2) (ty := 71) Tryd.results44 tmps wz w.heap.size tNum full (0, 0) _ h hrow Tryd.underlying71 rfl HI.out
      exact bodyPost_ret (v := .agg full) (hres _ rfl) rfl ⟨by rw [HOF.out, HFE.out], hbel⟩
end Go.Proofs.YtagkkihnfipfeaaDoor
