/-
  The contract of the statements' own sum: two numbers of sixteen bytes, modulo 2^128.
-/
import Derived.Test.YtgfmjfpafpmghaaPoLawOps
namespace Go.Proofs.Ytgfmjfpafpmghaa
open Go.RowKit Go.Proofs.ShaWords
theorem wrap8_nat (m : Nat) : IntKind.u8.wrap (m : Int) = n8 (BitVec.ofNat 8 m) := by
  unfold n8; rw [IntKind.wrap_u8', BitVec.toNat_ofNat]; omega
def byteN (l : List (BitVec 8)) (i : Nat) : Nat := (l.getD i 0#8).toNat
theorem byteN_lt (l : List (BitVec 8)) (i : Nat) : byteN l i < 256 := (l.getD i 0#8).isLt
/-- What is carried into the place k; the bytes below it. -/
def carB (x y : List (BitVec 8)) : Nat → Nat
  | 0 => 0
  | k + 1 => (byteN x k + byteN y k + carB x y k) / 256
def addB (x y : List (BitVec 8)) : Nat → List (BitVec 8)
  | 0 => zeros16
  | k + 1 => (addB x y k).set k (BitVec.ofNat 8 ((byteN x k + byteN y k + carB x y k) % 256))
theorem carB_zero (x y : List (BitVec 8)) : carB x y 0 = 0 := rfl
theorem carB_succ (x y : List (BitVec 8)) (k : Nat) : carB x y (k + 1) = (byteN x k + byteN y k + carB x y k) / 256 := rfl
theorem addB_zero (x y : List (BitVec 8)) : addB x y 0 = zeros16 := rfl
theorem addB_succ (x y : List (BitVec 8)) (k : Nat) : addB x y (k + 1) = (addB x y k).set k (BitVec.ofNat 8 ((byteN x k + byteN y k + carB x y k) % 256)) := rfl
theorem carB_le (x y : List (BitVec 8)) (k : Nat) : carB x y k ≤ 1 := by
  induction k with
  | zero => simp [carB]
  | succ k ih => have := byteN_lt x k; have := byteN_lt y k; rw [carB_succ]; omega
theorem addB_length (x y : List (BitVec 8)) (k : Nat) : (addB x y k).length = 16 := by
  induction k with
  | zero => rfl
  | succ k ih => rw [addB_succ, List.length_set, ih]
/-- Two tags' blocks, the result's, the sum's. -/
structure AddW (w : World) (x y t : List (BitVec 8)) (wr : World) : Prop where
  x : BytesAt wr w.heap.size 28 x
  y : BytesAt wr (w.heap.size + 1) 28 y
  res : BytesAt wr (w.heap.size + 1 + 1) 28 zeros16
  t : BytesAt wr (w.heap.size + 1 + 1 + 1) 28 t
  below : Below w.heap.size w wr
theorem AddW.set {w wr : World} {x y t : List (BitVec 8)} (h : AddW w x y t wr) (k : Nat) (v : BitVec 8) : AddW w x y (t.set k v) (wr.setCell ⟨w.heap.size + 1 + 1 + 1, k, none⟩ (.int .u8 (n8 v))) :=
  ⟨h.x.putOther (by omega) _ _, h.y.putOther (by omega) _ _, h.res.putOther (by omega) _ _, h.t.put k v, h.below.setCell (show w.heap.size ≤ w.heap.size + 1 + 1 + 1 by omega) _⟩
theorem AddW.drew {w wr : World} {x y t : List (BitVec 8)} (h : AddW w x y t wr) : AddW w x y t wr.drew := ⟨h.x, h.y, h.res, h.t, h.below.trans (((Below.refl _ _).drew).mono h.below.size)⟩
attribute [local go_sem] wrap8_nat
attribute [local irreducible] zeros16 addB carB
set_option maxRecDepth 100000 in
set_option maxHeartbeats 1000000 in
theorem sumTag_any (x y : List (BitVec 8)) (w : World) (hx : x.length = 16) (hy : y.length = 16) :
    Calls Try.prog 15 #[.agg (bytesV x).toArray, .agg (bytesV y).toArray] w fun e w' => e = .returned (.agg (bytesV (addB x y 16)).toArray) ∧ Below w.heap.size w w' := by
  have HX := Lib.hid hx; clear hx
  have HY := Lib.hid hy; clear hy
  have HL := Lib.hid (addB_length x y)
  have HC0 := Lib.hid (carB_zero x y)
  go_enter Try.func15, Try.ntmps15
  go_upto_region 2 with (fail)
  refine wp_gen (AddW w x y (addB x y 0)) ?_ ?_
  · refine ⟨(show BytesAt _ _ _ _ from alloc3_1 w _ _ _).keep ((Below.refl _ _).alloc (Nat.le_refl _) _), (show BytesAt _ _ _ _ from alloc3_2 w _ _ _).keep ((Below.refl _ _).alloc (Nat.le_refl _) _), ?_, ?_, (alloc3_below w _ _ _).alloc (by simp; omega) _⟩
    · refine BytesAt.keep (w := ((w.alloc _).alloc _).alloc _) ?_ ((Below.refl _ _).alloc (Nat.le_refl _) _)
      show _ = some (Obj.cells (bytesV zeros16).toArray _ _); rw [zeros16_eq]; exact alloc3_3 w _ _ _
    · rw [addB_zero]; show _ = some (Obj.cells (bytesV zeros16).toArray _ _); rw [zeros16_eq]; exact heap_new_at (by simp)
  intro w0 hw0
  have HW0 := Lib.hid hw0; clear hw0
  go_wp2_with fail
  go_loopw [6, 7, 8] (fun c i _ wr => ∃ k : Nat, k ≤ 16 ∧ i = .int .i64 (k : Int) ∧ c = .int .i64 (carB x y k : Int) ∧ AddW w x y (addB x y k) wr) (fun _ i _ _ => 16 - (intOf i).toNat)
  case atStart => exact ⟨0, by omega, rfl, by rw [HC0.out]; rfl, HW0.out⟩
  case round =>
    clear HW0
    obtain ⟨k, hk, rfl, rfl, hw⟩ := hrel
    by_cases hlt : k < 16
    · have c0 : wr.cell? ⟨w.heap.size, k, none⟩ = some (.int .u8 (byteN x k : Int)) := hw.x.cell k (by rw [HX.out]; exact hlt)
      have c1 : wr.cell? ⟨w.heap.size + 1, k, none⟩ = some (.int .u8 (byteN y k : Int)) := hw.y.cell k (by rw [HY.out]; exact hlt)
      have c2 := hw.t.cell k (by rw [HL.out]; exact hlt)
      have cf := hw.t.frozenAt k
      have HS := Lib.hid (addB_succ x y k)
      have HC := Lib.hid (carB_succ x y k)
      have l0 := byteN_lt x k
      have l1 := byteN_lt y k
      have l2 := carB_le x y k
      have HW := Lib.hid hw; clear hw
      generalize (addB x y k).getD k 0#8 = u2 at c2
      generalize byteN x k = u at c0 HS HC l0
      generalize byteN y k = v at c1 HS HC l1
      generalize carB x y k = c at HS HC l2
      obtain ⟨s, hs⟩ : ∃ s, s = u + v + c := ⟨_, rfl⟩
      rw [← hs] at HS HC
      have q0 : (k : Int) < 16 := by omega
      have p0 : 0 ≤ (k : Int) := by omega
      have z0 : (k : Int).toNat = k := by omega
      have m0 : IntKind.i64.wrap (u : Int) = (u : Int) := IntWalk.i64_in _ (by omega)
      have m1 : IntKind.i64.wrap (v : Int) = (v : Int) := IntWalk.i64_in _ (by omega)
      have m2 : IntKind.i64.wrap ((u : Int) + (v : Int)) = (u : Int) + (v : Int) := IntWalk.i64_in _ (by omega)
      have m3 : IntKind.i64.wrap ((u : Int) + (v : Int) + (c : Int)) = (s : Int) := by rw [IntWalk.i64_in _ (by omega)]; omega
      have d0 : (s : Int).tmod 256 = ((s % 256 : Nat) : Int) := by rw [Int.tmod_eq_emod_of_nonneg (by omega)]; omega
      have d1 : (s : Int).tdiv 256 = ((s / 256 : Nat) : Int) := by rw [Int.tdiv_eq_ediv_of_nonneg (by omega)]; omega
      have d2 : IntKind.i64.wrap ((s / 256 : Nat) : Int) = ((s / 256 : Nat) : Int) := IntWalk.i64_in _ (by omega)
      have d3 : IntKind.i64.wrap ((s % 256 : Nat) : Int) = ((s % 256 : Nat) : Int) := IntWalk.i64_in _ (by omega)
      generalize s / 256 = sd at d1 d2 HC
      generalize s % 256 = sm at d0 d3 HS
      clear hs
      go_wp2_with fail
      go_still_tail 11, (by kernel_rfl)
      change wpList _ _ _ _ _ wr.drew
      go_wp2_with fail
      go_roundw
      case rel =>
        refine ⟨k + 1, by omega, by go_num, by rw [HC.out], ?_⟩
        rw [HS.out]
        exact HW.out.drew.set k _
      case measure => simp [intOf]; omega
    · obtain rfl : k = 16 := by omega
      have HW := Lib.hid hw; clear hw
      have HI := Lib.hid (infoTag _ (HL.out 16))
      have HOLD := Lib.hid (show (bytesV zeros16).toArray.size = (bytesV (addB x y 16)).toArray.size by rw [bytesV_size _ 16 (HL.out 16)]; unfold zeros16; rfl)
      have HONE := Lib.hid (bytesV_one (addB x y 16))
      have HROW := Lib.hid HW.out.t
      have HRES := Lib.hid HW.out.res
      have HB5 := Lib.hid HW.out.below
      clear HW
      generalize hfe : (bytesV (addB x y 16)).toArray = full at HI HOLD HONE ⊢
      have HFE := Lib.hid hfe; clear hfe
      have HROW2 : Hid (wr.heap[w.heap.size + 1 + 1 + 1]? = some (.cells full 28 (0, 0))) := show _ = _ by rw [← HFE.out]; exact HROW.out
      go_wp2_with (first
        | (refine wpList_load_row rfl 28 (.tmp 5) rfl (w.heap.size + 1 + 1 + 1) rfl 28 full (0, 0) _ HROW2.out Try.underlying28 rfl HI.out ?_)
        | (refine wpList_store_row rfl 28 (.tmp 4) (.tmp 31) rfl (w.heap.size + 1 + 1) full rfl rfl 28 _ HRES.out HI.out HOLD.out HONE.out ?_))
      have hrow := setRow_heap wr (w.heap.size + 1 + 1) _ full 28 _ HRES.out
      have hbel := below_setRow HB5.out (show w.heap.size ≤ w.heap.size + 1 + 1 by omega) full
      generalize wr.setRow (w.heap.size + 1 + 1) full = wz at hrow hbel ⊢
      have hres : ∀ tmps : Array Value, tmps.getD 4 undef = .pointer (some ⟨w.heap.size + 1 + 1, 0, none⟩) → Sem.run Try.prog (results Try.f15 tmps) wz = .ok (.agg full) wz := fun tmps h =>
        results_cell_row (P := Try.prog) (p := 4) (ty := 28) Try.results15 tmps wz (w.heap.size + 1 + 1) 28 full (0, 0) _ h hrow Try.underlying28 rfl HI.out
      exact bodyPost_ret (v := .agg full) (hres _ rfl) rfl ⟨by rw [HFE.out], hbel⟩
end Go.Proofs.Ytgfmjfpafpmghaa
