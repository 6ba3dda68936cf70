/-
  RingNonces, for any two numbers: the law returns true, and what came in reads afterwards as it read before. Without any condition.
-/
import Derived.Test.YtoidjapenompiaaPkA
import Derived.Test.YtoidjapenompiaaPkT
import Derived.Test.YtoidjapenompiaaPkZ
/-
  RingNonces' walk.
-/
namespace Go.Proofs.Ytoidjapenompiaa
open Go.RowKit Go.Proofs.ShaWords
def topN (n : Int) (k : Nat) : Int := (n % 18446744073709551616) / (256 ^ (8 - k) : Int)
theorem n8_at (n : Int) {k : Nat} (hk : k < 8) : n8 (nonceAt n (4 + k)) = (n / (2 : Int) ^ (8 * (7 - k))) % 256 := by
  unfold nonceAt
  rw [if_neg (by omega), show 11 - (4 + k) = 7 - k by omega, ← wrap8_ofInt, IntKind.wrap_u8]
theorem topN_succ (n : Int) {k : Nat} (hk : k < 8) : topN n (k + 1) = topN n k * 256 + n8 (nonceAt n (4 + k)) := by
  rw [n8_at n hk]
  unfold topN
  rcases k with _ | _ | _ | _ | _ | _ | _ | _ | k
  all_goals first
    | (exfalso; omega)
    | (simp only [Nat.reduceAdd, Nat.reduceSub, Nat.reduceMul, Int.reducePow]; omega)
theorem topN_zero (n : Int) : topN n 0 = 0 := by
  unfold topN
  simp only [Nat.reduceSub, Int.reducePow]
  omega
theorem topN_all (n : Int) : topN n 8 = n % 18446744073709551616 := by
  unfold topN
  simp
theorem topN_pos (n : Int) (k : Nat) : 0 ≤ topN n k ∧ topN n k < 18446744073709551616 := by
  unfold topN
  have h0 : 0 ≤ n % 18446744073709551616 := Int.emod_nonneg _ (by decide)
  have h1 : n % 18446744073709551616 < 18446744073709551616 := Int.emod_lt_of_pos _ (by decide)
  have hp : (0 : Int) < 256 ^ (8 - k) := Int.pow_pos (by decide)
  refine ⟨Int.ediv_nonneg h0 (Int.le_of_lt hp), Int.lt_of_le_of_lt (Int.ediv_le_self _ h0) h1⟩
theorem nonceB_at (n : Int) {j : Nat} (hj : j < 12) : (nonceB n)[j]? = some (nonceAt n j) := by
  rw [List.getElem?_eq_getElem (by rw [nonceB_length]; exact hj)]
  unfold nonceB
  rw [nonceTo_get]
  by_cases h : 12 ≤ j + 8
  · rw [if_pos h]
  · rw [if_neg h]
    unfold nonceAt
    rw [if_pos (by omega)]
theorem nonceB_inj {a b : Int} (ha : wrap64 a = a) (hb : wrap64 b = b) : decide (nonceB a = nonceB b) = decide (a = b) := by
  apply Bool.eq_iff_iff.2
  simp only [decide_eq_true_eq]
  refine ⟨fun h => ?_, fun h => h ▸ rfl⟩
  have hat : ∀ j, j < 12 → nonceAt a j = nonceAt b j := fun j hj => by
    have h1 := nonceB_at a hj
    rw [h, nonceB_at b hj] at h1
    exact (Option.some.inj h1).symm
  have htop : ∀ k, k ≤ 8 → topN a k = topN b k := by
    intro k
    induction k with
    | zero => intro _; rw [topN_zero, topN_zero]
    | succ k ih => intro hk; rw [topN_succ a (by omega), topN_succ b (by omega), ih (by omega), hat (4 + k) (by omega)]
  have h8 := htop 8 (Nat.le_refl _)
  rw [topN_all, topN_all] at h8
  unfold wrap64 at ha hb
  omega
set_option maxRecDepth 100000 in
set_option maxHeartbeats 1000000 in
theorem krNonces_any (a b : Int) (w : World) (ha : wrap64 a = a) (hb : wrap64 b = b) : Calls Try.prog 6 #[.int .i64 a, .int .i64 b] w fun e w' => e = .returned (.bool true) ∧ Below w.heap.size w w' := by
  have hz0 := zero33
  have HA : Hid (wrap64 a = a ∧ wrap64 b = b) := show _ ∧ _ from ⟨ha, hb⟩
  have HIA := Lib.hid (infoNonce _ (nonceB_length a))
  have HIB := Lib.hid (infoNonce _ (nonceB_length b))
  have HOA := Lib.hid (show (bytesV (noughts 12)).toArray.size = (bytesV (nonceB a)).toArray.size by rw [bytesV_size _ 12 (nonceB_length _), bytesV_size _ 12 (noughts_length 12)])
  have HOB := Lib.hid (show (bytesV (noughts 12)).toArray.size = (bytesV (nonceB b)).toArray.size by rw [bytesV_size _ 12 (nonceB_length _), bytesV_size _ 12 (noughts_length 12)])
  have HNA := Lib.hid (bytesV_one (nonceB a))
  have HNB := Lib.hid (bytesV_one (nonceB b))
  clear ha hb
  go_enter Try.func6, Try.ntmps6
  go_wp2_with fail
  refine (krNonce_any a w).mono ?_
  rintro e w1 ⟨rfl, hb1⟩
  have HB1 := Lib.hid hb1
  clear hb1
  go_upto_region 2 with (refine wpList_store_new rfl 33 (.tmp 5) (.tmp 10) rfl w1.heap.size rfl (bytesV (nonceB a)).toArray rfl rfl HIA.out (by exact HOA.out) HNA.out ?_; intro w2 h2 b2; have HT2 := Lib.hid h2; have HB2 := Lib.hid (HB1.out.trans (b2.mono HB1.out.size)); clear h2 b2)
  obtain ⟨T1, hT1⟩ : ∃ T, T = w1.heap.size := ⟨_, rfl⟩
  have HT1 : Hid (w.heap.size ≤ T1) := show _ ≤ _ from by rw [hT1]; exact HB1.out.size
  rw [← hT1] at HT2 ⊢
  clear hT1 HB1
  go_wp2_with fail
  refine (krNonce_any b w2).mono ?_
  rintro e w3 ⟨rfl, hb3⟩
  have HB3 := Lib.hid (HB2.out.trans (hb3.mono HB2.out.size))
  have HT3 : Hid (w3.heap[T1]? = some (.cells (bytesV (nonceB a)).toArray 33 (0, 0))) := show _ = _ from (hb3.block _ (Array.getElem?_eq_some_iff.1 HT2.out).1).trans HT2.out
  clear hb3 HB2 HT2
  go_upto_region 3 with (refine wpList_store_new rfl 33 (.tmp 6) (.tmp 12) rfl w3.heap.size rfl (bytesV (nonceB b)).toArray rfl rfl HIB.out (by exact HOB.out) HNB.out ?_; intro w4 h4 b4; have HU4 := Lib.hid h4; have HT4 : Hid (w4.heap[T1]? = some (.cells (bytesV (nonceB a)).toArray 33 (0, 0))) := show _ = _ from (b4.block _ (Array.getElem?_eq_some_iff.1 HT3.out).1).trans HT3.out; have HB4 := Lib.hid (HB3.out.trans (b4.mono HB3.out.size)); clear h4 b4)
  obtain ⟨T2, hT2⟩ : ∃ T, T = w3.heap.size := ⟨_, rfl⟩
  rw [← hT2] at HU4 ⊢
  clear hT2 HB3 HT3 hz0
  have hcell : ∀ j, j < 12 → w4.cell? ⟨T1, j, none⟩ = some (.int .u8 (n8 (nonceAt a j))) := fun j hj => (cell_of_row _ _ j _ _ _ HT4.out).trans (by simp [bytesV, List.getElem?_map, nonceB_at a hj])
  have HC := Lib.hid hcell
  clear hcell
  go_wp2_with fail
  go_loopw [7, 8] (fun v i wr => ∃ k : Nat, k ≤ 8 ∧ i = .int .i64 ((k : Int) + 4) ∧ v = .int .u64 (topN a k) ∧ wr = w4) (fun _ i _ => 12 - (intOf i).toNat)
  case atStart => exact ⟨0, by omega, by simp, by rw [topN_zero], rfl⟩
  case round =>
    obtain ⟨k, hk, rfl, rfl, rfl⟩ := hrel
    by_cases hlt : k < 8
    · have hc := HC.out (4 + k) (by omega)
      rw [show (4 + k : Nat) = k + 4 by omega] at hc
      have ht := topN_succ a hlt
      have hp := topN_pos a k
      have hp1 := topN_pos a (k + 1)
      rw [show (4 + k : Nat) = k + 4 by omega] at ht
      have hc0 := n8_nonneg (nonceAt a (k + 4))
      have hc1 := n8_lt (nonceAt a (k + 4))
      generalize n8 (nonceAt a (k + 4)) = c at hc ht hc0 hc1
      have HTK := Lib.hid ht
      obtain ⟨V1, hV1⟩ : ∃ V1, topN a (k + 1) = V1 := ⟨_, rfl⟩
      rw [hV1] at HTK hp1
      have HV1 := Lib.hid hV1
      clear hV1
      generalize topN a k = V at HTK hp ⊢
      have HPP := Lib.hid (And.intro hp (And.intro hp1 (And.intro hc0 hc1)))
      clear ht hp hp1 hc0 hc1
      go_wp2_with fail
      go_roundw
      case rel =>
        refine ⟨k + 1, by omega, by go_num, ?_, by trivial⟩
        rw [HV1.out]
        congr 1
        have h1 := HPP.out
        have h2 := HTK.out
        rw [IntKind.wrap_u64, IntKind.wrap_u64, IntKind.wrap_u64]
        omega
      case measure => simp [intOf]; omega
    · obtain rfl : k = 8 := by omega
      have h0 := HC.out 0 (by omega)
      have h1 := HC.out 1 (by omega)
      have h2 := HC.out 2 (by omega)
      have h3 := HC.out 3 (by omega)
      have hz : ∀ j, j < 4 → n8 (nonceAt a j) = 0 := fun j hj => by unfold nonceAt; rw [if_pos hj]; rfl
      rw [hz _ (by omega)] at h0 h1 h2 h3
      have ht := topN_all a
      have HTA := Lib.hid ht
      have hp8 := topN_pos a 8
      generalize topN a 8 = V at HTA hp8 ⊢
      have HP8 := Lib.hid hp8
      clear HC hz ht hp8 hk hlt
      have HEQ := Lib.hid (nonceB_inj HA.out.1 HA.out.2)
      have hnb : ∀ w', Below w.heap.size w w' → Calls Try.prog 13 #[] w' fun e w'' => e = .returned (.bool true) ∧ Below w.heap.size w w'' := fun w' h => (krKnown_any w').mono fun e w'' ⟨h1, h2⟩ => ⟨h1, h.trans (h2.mono h.size)⟩
      have HKN := Lib.hid (hnb _ HB4.out)
      clear hnb
      go_wp2_with (first
        | (refine wpList_load_row rfl 33 (.tmp 5) rfl T1 rfl 33 (bytesV (nonceB a)).toArray (0, 0) _ HT4.out Try.underlying33 rfl HIA.out ?_)
        | (refine wpList_load_row rfl 33 (.tmp 6) rfl T2 rfl 33 (bytesV (nonceB b)).toArray (0, 0) _ HU4.out Try.underlying33 rfl HIB.out ?_)
        | (show wpList _ _ _ (⟨_, .binOp .eql 33 _ _ _, _, _, _, _⟩ :: _) _ _; refine wpList_run (by rfl) (run_eqArr (N := 12) (l := nonceB a) (m := nonceB b) rfl Try.underlying33 (by kernel_rfl) (nonceB_length _) (nonceB_length _) rfl rfl _) ?_; rw [HEQ.out]))
      refine HKN.out.mono ?_
      rintro e w9 ⟨rfl, hb9⟩
      have HB9 := Lib.hid hb9
      clear hb9
      go_wp2_with fail
      go_ret
      exact ⟨rfl, HB9.out⟩
end Go.Proofs.Ytoidjapenompiaa

/-
  RingNonces, for any two numbers: the law returns true, and what came in reads afterwards as it read before. Without any condition.
-/
namespace Go.Proofs.Ytoidjapenompiaa
open Go.ChangeShapes Go.WideShapes Go.ChangeAt Go.RowKit Go.Proofs.ShaWords

set_option maxRecDepth 100000 in
theorem ringNonces_lifted (os : Os) (started : os.Started) (H : Type) (enc : TypeId × Value → H) :
    ReturnsInHanded {} Try.checked os 6 .any (Rows.ringNoncesSpec.pre6 enc Try.prog Try.f6 Rows.ringNoncesRow.domain false)
      (Rows.ringNoncesSpec.post enc Try.prog Try.f6 false true false false) := by
  refine returnsInHanded_of_change_sized (C := Try.checked) own started (by kernel_rfl) Try.func6
    (ChangeSpec.witness6 (enc := enc) (C := Try.checked) false ⟨#[], #[.int .i64 0, .int .i64 0], []⟩ 8 (by kernel_rfl) (by kernel_rfl) (by kernel_rfl) (by kernel_rfl)) ?_
  intro W base args ds gs before hval0 hW _ hsz _
  have hW' := hW
  obtain ⟨p, q, hA0, hV, rfl, hfz, hnd⟩ := hW
  have hA : DataW.TrodAll enc Try.prog W 0 (fun _ => true) true Try.f6.params.toList args.toList ds p := hA0
  have hval : ∀ (j : Nat) t v, Try.f6.params[j]? = some t → args[j]? = some v → Value.okWide Try.prog W .any base t v := hval0
  have hsz2 : (DataW.weightsEach Try.prog (Try.f6.params.toList ++ Rows.ringNoncesSpec.plain.varTypes Try.prog) (ds ++ gs)).all (· ≤ reachBytes) = true := hsz
  rw [Try.params6] at hA hval hsz2
  obtain ⟨v0, vs0, d0, ds0, p0, q0, hargs, rfl, rfl, h0, r0⟩ := trodAll_cons hA
  obtain ⟨v1, vs1, d1, ds1, p1, q1, rfl, rfl, rfl, h1, r1⟩ := trodAll_cons r0
  obtain ⟨rfl, rfl, rfl⟩ := trodAll_nil r1
  obtain rfl : args = #[v0, v1] := by cases args; simp_all
  obtain ⟨rfl, rfl⟩ := trodVars_none hV
  obtain ⟨z0, rfl, rfl, rfl, wz0⟩ := open_int Try.underlying3 (hval 0 3 v0 rfl rfl) h0
  obtain ⟨z1, rfl, rfl, rfl, wz1⟩ := open_int Try.underlying3 (hval 1 3 v1 rfl rfl) h1
  clear hA0 hval0
  refine (krNonces_any z0 z1 W (wrap_wfK wz0) (wrap_wfK wz1)).mono fun e W' ⟨he, bel⟩ => ?_
  subst he
  exact ⟨_, rfl, _, _, _, [], _, [], hW', trodAll_mk1 (shut_bool Try.underlying4 _), (trodAll_cons_mk (shut_int Try.underlying3 wz0) (trodAll_cons_mk (shut_int Try.underlying3 wz1) trodAll_mk0)), rfl, bel.frame _, fun h => by cases h⟩

theorem ringNonces_holds : Rows.RingNoncesSaid :=
  OpenClaim.holds_of_wide 6 Try.f6 rfl rfl rfl rfl rfl rfl rfl ⟨rfl, rfl, rfl, rfl, rfl⟩ rfl rfl rfl rfl rfl (by kernel_rfl) Try.func6 (by kernel_rfl)
    (of_decide_eq_true (by kernel_rfl)) (by unfold Func.isWrapper; first | (rw [if_pos (by decide +kernel)]; kernel_rfl) | (rw [if_neg (by decide +kernel)]; exact ⟨rfl, rfl⟩))
    (fun os started H enc _ => ringNonces_lifted os started H enc)

#print axioms ringNonces_holds
end Go.Proofs.Ytoidjapenompiaa
