/-
  The contract of poly.normal: limbs of 26 bits, and what is beyond them.
-/
import Derived.Test.YtagkkihnfipfeaaDoorPoLimbs
namespace Go.Proofs.YtagkkihnfipfeaaDoor
open Go.RowKit Go.Proofs.ShaWords
attribute [local go_sem] add64 and64_mask shr64_26
/-- The first k limbs made right, and what is carried out of them. -/
def normS (x : List (BitVec 64)) : Nat → List (BitVec 64) × BitVec 64
  | 0 => (x, 0#64)
  | k + 1 => ((normS x k).1.set k (((normS x k).1.getD k 0#64 + (normS x k).2) &&& 67108863#64), ((normS x k).1.getD k 0#64 + (normS x k).2) >>> 26)
def normL (x : List (BitVec 64)) (k : Nat) : List (BitVec 64) := (normS x k).1
def normO (x : List (BitVec 64)) (k : Nat) : BitVec 64 := (normS x k).2
theorem normL_zero (x : List (BitVec 64)) : normL x 0 = x := rfl
theorem normO_zero (x : List (BitVec 64)) : normO x 0 = 0#64 := rfl
theorem normL_succ (x : List (BitVec 64)) (k : Nat) : normL x (k + 1) = (normL x k).set k (((normL x k).getD k 0#64 + normO x k) &&& 67108863#64) := rfl
theorem normO_succ (x : List (BitVec 64)) (k : Nat) : normO x (k + 1) = ((normL x k).getD k 0#64 + normO x k) >>> 26 := rfl
theorem normL_length (x : List (BitVec 64)) (k : Nat) : (normL x k).length = x.length := by
  induction k with
  | zero => rfl
  | succ k ih => rw [normL_succ, List.length_set, ih]
/-- A number that came in, and the result's block. -/
structure OneN (w : World) (L : List (BitVec 64)) (wr : World) : Prop where
  x : LimbsAt wr w.heap.size tNum L
  res : LimbsAt wr (w.heap.size + 1) tNum nought5
  below : Below w.heap.size w wr
theorem OneN.set {w wr : World} {L : List (BitVec 64)} (h : OneN w L wr) (k : Nat) (v : BitVec 64) : OneN w (L.set k v) (wr.setCell ⟨w.heap.size, k, none⟩ (.int .u64 (n64 v))) :=
  ⟨h.x.set k v, h.res.setOther (by omega) _ _, h.below.setCell (Nat.le_refl _) _⟩
theorem OneN.on {w wr w' : World} {L : List (BitVec 64)} (h : OneN w L wr) (hb : Below wr.heap.size wr w') : OneN w L w' :=
  ⟨h.x.keep hb, h.res.keep hb, h.below.trans (hb.mono h.below.size)⟩
theorem one_n (w : World) (x : List (BitVec 64)) : OneN w x ((w.alloc (.cells (limbsV x).toArray tNum)).alloc (.cells #[.int .u64 0, .int .u64 0, .int .u64 0, .int .u64 0, .int .u64 0] tNum)) :=
  ⟨LimbsAt.keep (w := w.alloc _) (heap_alloc_new w _) ((Below.refl _ _).alloc (Nat.le_refl _) _), by show _ = some (Obj.cells (limbsV nought5).toArray _ _); rw [nought5_eq]; exact heap_new_at (size_alloc _ _), ((Below.refl _ _).alloc (Nat.le_refl _) _).alloc (by rw [size_alloc]; omega) _⟩
theorem set_set_same {α : Type} (l : List α) (k : Nat) (a b : α) : (l.set k a).set k b = l.set k b := List.set_set ..

theorem results_row_tmp {P : Program} {fn : Func} {p u : Tmp} {ty : TypeId} (h : fn.results = #[.cell p ty, .tmp u]) (tmps : Array Value) (w : World) (g : Nat) (t : TypeId) (cs : Array Value) (fr : Nat × Nat) (d : TypeDesc) (v : Value)
    (hp : tmps.getD p undef = .pointer (some ⟨g, 0, none⟩)) (hv : tmps.getD u undef = v) (hg : w.heap[g]? = some (.cells cs t fr))
    (hu : P.underlying ty = some d) (hd : (match d with | .struct _ | .array _ _ => true | _ => false) = true) (hi : (P.info? ty).map (·.size) = some cs.size) :
    (results fn tmps).run P w = .ok (.tuple #[.agg cs, v]) w := by
  rw [results_cell_tmp h, hp, hv]
  simp [asAddr, Result.andThen, run_loadVar_row w g t ty cs fr d hg hu hd hi]

attribute [local irreducible] normL normO nought5
set_option maxRecDepth 100000 in
set_option maxHeartbeats 1000000 in
theorem normal_any (x : List (BitVec 64)) (w : World) (hx : x.length = 5) :
    Calls Tryd.prog 57 #[.agg (limbsV x).toArray] w fun e w' => e = .returned (.tuple #[.agg (limbsV (normL x 5)).toArray, .int .u64 (n64 (normO x 5))]) ∧ Below w.heap.size w w' := by
  have HX := Lib.hid (fun k => (normL_length x k).trans hx); clear hx
  have HO0 := Lib.hid (normO_zero x)
  go_enter Tryd.func57, Tryd.ntmps57
  go_upto_region 1 with (fail)
  refine wp_gen (OneN w (normL x 0)) (by rw [normL_zero]; exact one_n w x) ?_
  intro w0 hw0
  have HW0 := Lib.hid hw0; clear hw0
  go_wp2_with fail
  go_loopw [4, 6] (fun o i wr => ∃ k : Nat, k ≤ 5 ∧ i = .int .i64 k ∧ o = .int .u64 (n64 (normO x k)) ∧ OneN w (normL x k) wr) (fun _ i _ => 5 - (intOf i).toNat)
  case atStart => exact ⟨0, by omega, rfl, by rw [HO0.out]; rfl, HW0.out⟩
  case round =>
    clear HW0
    obtain ⟨k, hk, rfl, rfl, hw⟩ := hrel
    by_cases hlt : k < 5
    · have c0 := hw.x.cell k (by rw [HX.out]; omega)
      have cf := hw.x.frozen k
      have HS := Lib.hid (normL_succ x k)
      have HO := Lib.hid (normO_succ x k)
      have HXK := Lib.hid (HX.out k)
      have HW := Lib.hid hw; clear hw
      generalize normL x k = L at c0 HS HO HW HXK
      generalize hu : L.getD k 0#64 = u at c0 HS HO
      generalize normO x k = v at HS HO
      have HU := Lib.hid hu; clear hu
      have q0 : (k : Int) < 5 := by omega
      have p0 : 0 ≤ (k : Int) := by omega
      have z0 : (k : Int).toNat = k := by omega
      go_upto_region 6 with (fail)
      refine wp_gen (OneN w (L.set k (u + v))) (HW.out.set k _) ?_
      intro w1 hw1
      have d0 := hw1.x.cell k (by rw [List.length_set, HXK.out]; omega)
      have df := hw1.x.frozen k
      rw [set_getD_self _ _ _ _ (by rw [HXK.out]; omega)] at d0
      have HW1 := Lib.hid hw1; clear hw1 c0 cf HW
      go_wp2_with fail
      go_roundw
      case rel =>
        refine ⟨k + 1, by omega, by go_num, by rw [HO.out], ?_⟩
        rw [HS.out, ← set_set_same L k (u + v)]
        exact HW1.out.set k _
      case measure => simp [intOf]; omega
    · obtain rfl : k = 5 := by omega
      have HW := Lib.hid hw; clear hw
      have HI := Lib.hid (info5n _ (HX.out 5))
      have HOLD := Lib.hid (show (limbsV nought5).toArray.size = (limbsV (normL x 5)).toArray.size by rw [limbsV_size _ 5 (HX.out 5)]; unfold nought5; rfl)
      have HONE := Lib.hid (limbsV_one (normL x 5))
      have HROW := Lib.hid HW.out.x
      have HRES := Lib.hid HW.out.res
      have HB5 := Lib.hid HW.out.below
      clear HW
      generalize hfe : (limbsV (normL x 5)).toArray = full at HI HOLD HONE ⊢
      have HFE := Lib.hid hfe; clear hfe
      have HROW2 : Hid (wr.heap[w.heap.size]? = some (.cells full tNum (0, 0))) := show _ = _ by rw [← HFE.out]; exact HROW.out
      go_wp2_with (first
        | (refine wpList_load_row rfl 71 (.tmp 1) rfl w.heap.size rfl tNum full (0, 0) _ HROW2.out Tryd.underlying71 rfl HI.out ?_)
        | (refine wpList_store_row rfl 71 (.tmp 2) (.tmp 25) rfl (w.heap.size + 1) full rfl rfl tNum _ HRES.out HI.out HOLD.out HONE.out ?_))
      have hrow := setRow_heap wr (w.heap.size + 1) _ full tNum _ HRES.out
      have hbel := below_setRow HB5.out (show w.heap.size ≤ w.heap.size + 1 by omega) full
      generalize wr.setRow (w.heap.size + 1) full = wz at hrow hbel ⊢
      have hres : ∀ tmps : Array Value, tmps.getD 2 undef = .pointer (some ⟨w.heap.size + 1, 0, none⟩) → tmps.getD 3 undef = .int .u64 (n64 (normO x 5)) → Sem.run Tryd.prog (results Tryd.f57 tmps) wz = .ok (.tuple #[.agg full, .int .u64 (n64 (normO x 5))]) wz := fun tmps h h2 =>
        results_row_tmp (P := Tryd.prog) (p := 2) (u := 3) (ty := 71) Tryd.results57 tmps wz (w.heap.size + 1) tNum full (0, 0) _ _ h h2 hrow Tryd.underlying71 rfl HI.out
      exact bodyPost_ret (v := .tuple #[.agg full, .int .u64 (n64 (normO x 5))]) (hres _ rfl rfl) rfl ⟨by rw [HFE.out], hbel⟩
end Go.Proofs.YtagkkihnfipfeaaDoor
