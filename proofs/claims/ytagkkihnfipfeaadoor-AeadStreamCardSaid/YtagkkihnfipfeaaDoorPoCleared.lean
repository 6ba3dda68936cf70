/-
  The contract of poly.cleared: the number of a key's first sixteen bytes, in which the bits that are let go are cleared.
-/
import Derived.Test.YtagkkihnfipfeaaDoorPoNumber
namespace Go.Proofs.YtagkkihnfipfeaaDoor
open Go.RowKit Go.Proofs.ShaWords
theorem andNot240 (x : BitVec 8) : bits .andNot .u8 (n8 x) 240 = n8 (x &&& 15#8) := by
  have H : ∀ v : Fin 256, bits .andNot .u8 (v.val : Int) 240 = ((v.val &&& 15 : Nat) : Int) := by decide +kernel
  have h := H ⟨x.toNat, x.isLt⟩
  unfold n8
  rw [BitVec.toNat_and]
  exact h
theorem andNot3 (x : BitVec 8) : bits .andNot .u8 (n8 x) 3 = n8 (x &&& 252#8) := by
  have H : ∀ v : Fin 256, bits .andNot .u8 (v.val : Int) 3 = ((v.val &&& 252 : Nat) : Int) := by decide +kernel
  have h := H ⟨x.toNat, x.isLt⟩
  unfold n8
  rw [BitVec.toNat_and]
  exact h
attribute [local go_sem] andNot240 andNot3
/-- The first k of the four bytes cleared: above, below. -/
def clrA (key : List (BitVec 8)) : Nat → List (BitVec 8)
  | 0 => key
  | k + 1 => (clrA key k).set (4 * k + 3) ((clrA key k).getD (4 * k + 3) 0#8 &&& 15#8)
def clrB (key : List (BitVec 8)) : Nat → List (BitVec 8)
  | 0 => clrA key 4
  | k + 1 => (clrB key k).set (4 * k + 4) ((clrB key k).getD (4 * k + 4) 0#8 &&& 252#8)
theorem clrA_zero (key : List (BitVec 8)) : clrA key 0 = key := rfl
theorem clrA_succ (key : List (BitVec 8)) (k : Nat) : clrA key (k + 1) = (clrA key k).set (4 * k + 3) ((clrA key k).getD (4 * k + 3) 0#8 &&& 15#8) := rfl
theorem clrB_zero (key : List (BitVec 8)) : clrB key 0 = clrA key 4 := rfl
theorem clrB_succ (key : List (BitVec 8)) (k : Nat) : clrB key (k + 1) = (clrB key k).set (4 * k + 4) ((clrB key k).getD (4 * k + 4) 0#8 &&& 252#8) := rfl
theorem clrA_length (key : List (BitVec 8)) (k : Nat) : (clrA key k).length = key.length := by
  induction k with
  | zero => rfl
  | succ k ih => rw [clrA_succ, List.length_set, ih]
theorem clrB_length (key : List (BitVec 8)) (k : Nat) : (clrB key k).length = key.length := by
  induction k with
  | zero => exact clrA_length _ _
  | succ k ih => rw [clrB_succ, List.length_set, ih]
/-- The bytes of r. -/
def clrOf (key : List (BitVec 8)) : List (BitVec 8) := (clrB key 3).take 16
theorem clrOf_length (key : List (BitVec 8)) (h : key.length = 32) : (clrOf key).length = 16 := by rw [clrOf, List.length_take, clrB_length, h]; rfl
/-- The key's block, the result's. -/
structure ClrN (w : World) (key : List (BitVec 8)) (wr : World) : Prop where
  key : BytesAt wr w.heap.size 23 key
  res : LimbsAt wr (w.heap.size + 1) tNum nought5
  below : Below w.heap.size w wr
theorem ClrN.set {w wr : World} {key : List (BitVec 8)} (h : ClrN w key wr) (k : Nat) (v : BitVec 8) : ClrN w (key.set k v) (wr.setCell ⟨w.heap.size, k, none⟩ (.int .u8 (n8 v))) :=
  ⟨h.key.put k v, h.res.setOther (by omega) _ _, h.below.setCell (Nat.le_refl _) _⟩
theorem ClrN.on {w wr w' : World} {key : List (BitVec 8)} (h : ClrN w key wr) (hb : Below wr.heap.size wr w') : ClrN w key w' := ⟨h.key.keep hb, h.res.keep hb, h.below.trans (hb.mono h.below.size)⟩

attribute [local irreducible] clrA clrB nought5 numOf
set_option maxRecDepth 100000 in
set_option maxHeartbeats 1000000 in
theorem cleared_any (key : List (BitVec 8)) (w : World) (hk : key.length = 32) :
    Calls Tryd.prog 40 #[.agg (bytesV key).toArray] w fun e w' => e = .returned (.agg (limbsV (numOf (clrOf key))).toArray) ∧ Below w.heap.size w w' := by
  have HKL := Lib.hid hk
  have HA := Lib.hid (fun k => (clrA_length key k).trans hk)
  have HB := Lib.hid (fun k => (clrB_length key k).trans hk); clear hk
  have HB0 := Lib.hid (clrB_zero key)
  go_enter Tryd.func40, Tryd.ntmps40
  go_upto_region 1 with (fail)
  refine wp_gen (ClrN w (clrA key 0)) ?_ ?_
  · rw [clrA_zero]
    exact ⟨BytesAt.keep (w := w.alloc _) (heap_alloc_new w _) ((Below.refl _ _).alloc (Nat.le_refl _) _), by show _ = some (Obj.cells (limbsV nought5).toArray _ _); rw [nought5_eq]; exact heap_new_at (by simp), ((Below.refl _ _).alloc (Nat.le_refl _) _).alloc (by simp) _⟩
  intro w0 hw0
  have HW0 := Lib.hid hw0; clear hw0
  go_wp2_with fail
  go_loopw [3] (fun i wr => ∃ k : Nat, k ≤ 4 ∧ i = .int .i64 ((4 * k + 3 : Nat) : Int) ∧ ClrN w (clrA key k) wr) (fun i _ => 20 - (intOf i).toNat)
  case atStart => exact ⟨0, by omega, rfl, HW0.out⟩
  case round =>
    clear HW0
    obtain ⟨k, hk, rfl, hw⟩ := hrel
    by_cases hlt : k < 4
    · have c0 := hw.key.cell (4 * k + 3) (by rw [HA.out]; omega)
      have cf := hw.key.frozenAt (4 * k + 3)
      have HS := Lib.hid (clrA_succ key k)
      have HW := Lib.hid hw; clear hw
      generalize (clrA key k).getD (4 * k + 3) 0#8 = x at c0 HS
      have q0 : ((4 * k + 3 : Nat) : Int) < 16 := by omega
      have q1 : ((4 * k + 3 : Nat) : Int) < 32 := by omega
      have p0 : 0 ≤ ((4 * k + 3 : Nat) : Int) := by omega
      have z0 : ((4 * k + 3 : Nat) : Int).toNat = 4 * k + 3 := by omega
      have m0 : IntKind.i64.wrap (((4 * k + 3 : Nat) : Int) + 4) = ((4 * (k + 1) + 3 : Nat) : Int) := by rw [IntWalk.i64_in _ (by omega)]; omega
      generalize hi : 4 * k + 3 = i at c0 cf HS q0 q1 p0 z0 m0
      have HI := Lib.hid hi; clear hi
      go_wp2_with fail
      go_roundw
      case rel =>
        refine ⟨k + 1, by omega, rfl, ?_⟩
        rw [HS.out]
        exact HW.out.set _ _
      case measure => have := HI.out; simp [intOf]; omega
    · obtain rfl : k = 4 := by omega
      have HW := Lib.hid (show ClrN w (clrB key 0) wr by rw [HB0.out]; exact hw); clear hw
      go_wp2_with fail
      go_loopw [4] (fun i wr => ∃ k : Nat, k ≤ 3 ∧ i = .int .i64 ((4 * k + 4 : Nat) : Int) ∧ ClrN w (clrB key k) wr) (fun i _ => 20 - (intOf i).toNat)
      case atStart => exact ⟨0, by omega, rfl, HW.out⟩
      case round =>
        clear HW
        obtain ⟨k, hk, rfl, hw⟩ := hrel
        by_cases hlt : k < 3
        · have c0 := hw.key.cell (4 * k + 4) (by rw [HB.out]; omega)
          have cf := hw.key.frozenAt (4 * k + 4)
          have HS := Lib.hid (clrB_succ key k)
          have HW := Lib.hid hw; clear hw
          generalize (clrB key k).getD (4 * k + 4) 0#8 = x at c0 HS
          have q0 : ((4 * k + 4 : Nat) : Int) < 16 := by omega
          have q1 : ((4 * k + 4 : Nat) : Int) < 32 := by omega
          have p0 : 0 ≤ ((4 * k + 4 : Nat) : Int) := by omega
          have z0 : ((4 * k + 4 : Nat) : Int).toNat = 4 * k + 4 := by omega
          have m0 : IntKind.i64.wrap (((4 * k + 4 : Nat) : Int) + 4) = ((4 * (k + 1) + 4 : Nat) : Int) := by rw [IntWalk.i64_in _ (by omega)]; omega
          generalize hi : 4 * k + 4 = i at c0 cf HS q0 q1 p0 z0 m0
          have HI := Lib.hid hi; clear hi
          go_wp2_with fail
          go_roundw
          case rel =>
            refine ⟨k + 1, by omega, rfl, ?_⟩
            rw [HS.out]
            exact HW.out.set _ _
          case measure => have := HI.out; simp [intOf]; omega
        · obtain rfl : k = 3 := by omega
          have HW := Lib.hid hw; clear hw
          have HLie := Lib.hid (show Lies wr (some ⟨w.heap.size, 0, none⟩) (clrOf key) from Or.inr ⟨_, _, rfl, by
            have h := HW.out.key.range
            intro j v hv
            refine h j v ?_
            rw [clrOf, bytesV_take, List.getElem?_take] at hv
            split at hv
            · exact hv
            · cases hv⟩)
          have HLen := Lib.hid (clrOf_length key HKL.out)
          go_wp2_with fail
          refine (numberOf_any (clrOf key) 16 _ _ wr HLen.out (by omega) HLie.out).mono ?_
          rintro e w1 ⟨rfl, hb⟩
          have HW1 := Lib.hid (HW.out.on hb); clear hb HW HLie
          have HNL := Lib.hid (numOf_length (clrOf key))
          have HI := Lib.hid (info5n _ HNL.out)
          have HOLD2 := Lib.hid (show (limbsV nought5).toArray.size = (limbsV (numOf (clrOf key))).toArray.size by rw [limbsV_size _ 5 HNL.out]; unfold nought5; rfl)
          have HONE := Lib.hid (limbsV_one (numOf (clrOf key)))
          have HRES := Lib.hid HW1.out.res
          have HB1 := Lib.hid HW1.out.below
          clear HW1
          generalize hfe : (limbsV (numOf (clrOf key))).toArray = full at HI HOLD2 HONE ⊢
          have HFE := Lib.hid hfe; clear hfe
          go_wp2_with (refine wpList_store_row rfl 71 (.tmp 2) (.tmp 24) rfl (w.heap.size + 1) full rfl rfl tNum _ HRES.out HI.out HOLD2.out HONE.out ?_)
          have hrow := setRow_heap w1 (w.heap.size + 1) _ full tNum _ HRES.out
          have hbel := below_setRow HB1.out (show w.heap.size ≤ w.heap.size + 1 by omega) full
          generalize w1.setRow (w.heap.size + 1) full = wz at hrow hbel ⊢
          have hres : ∀ tmps : Array Value, tmps.getD 2 undef = .pointer (some ⟨w.heap.size + 1, 0, none⟩) → Sem.run Tryd.prog (results Tryd.f40 tmps) wz = .ok (.agg full) wz := fun tmps h =>
            results_cell_row (P := Tryd.prog) (p := 2) (ty := 71) Tryd.results40 tmps wz (w.heap.size + 1) tNum full (0, 0) _ h hrow Tryd.underlying71 rfl HI.out
          exact bodyPost_ret (v := .agg full) (hres _ rfl) rfl ⟨by rw [HFE.out], hbel⟩
end Go.Proofs.YtagkkihnfipfeaaDoor
