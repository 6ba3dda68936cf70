/-
  BoxKnown: the law returns true. Without any condition.
-/
import Derived.Test.YtacgkfngpeieaaaPkA
import Derived.Test.YtacgkfngpeieaaaPkV
/-
  The walk of the closed law BoxKnown.
-/
namespace Go.Proofs.Ytacgkfngpeieaaa
open Go.RowKit Go.Proofs.ShaWords
def bkA : List (BitVec 8) := [0#8, 0#8, 0#8, 0#8, 0#8, 0#8, 0#8, 0#8, 5#8, 6#8, 7#8, 0#8, 0#8, 0#8, 0#8, 0#8, 0#8, 0#8]
def bkB : List (BitVec 8) := [1#8, 0#8, 0#8, 0#8, 0#8, 0#8, 0#8, 0#8, 0#8, 0#8, 0#8, 0#8, 0#8, 0#8, 0#8, 0#8]
def bkF : List (BitVec 8) := [255#8, 255#8, 255#8, 255#8, 255#8, 255#8, 255#8, 255#8, 0#8]
def bkRa : RowA := ⟨noughts 32, noughts 12, [], [1#8, 2#8], bkA⟩
def bkRb : RowA := ⟨noughts 32, noughts 12, [], [], bkB⟩
def bkRows : List RowA := [bkRa, bkRb]
theorem bk_yes : openA bkRows (noughts 32) (noughts 12) [] bkB = some bkRb := by
  unfold openA bkRows
  rw [List.find?_cons_of_neg (by decide +kernel), List.find?_cons_of_pos (by decide +kernel)]
theorem bk_no1 : openA bkRows (noughts 32) (noughts 12) [] [] = none := by
  unfold openA bkRows
  rw [List.find?_cons_of_neg (by decide +kernel), List.find?_cons_of_neg (by decide +kernel)]; rfl
theorem bk_no2 : openA bkRows (noughts 32) (noughts 12) [] bkF = none := by
  unfold openA bkRows
  rw [List.find?_cons_of_neg (by decide +kernel), List.find?_cons_of_neg (by decide +kernel)]; rfl
theorem bk_no3 : openA bkRows (noughts 32) (noughts 12) [] (bkA.take 17) = none := by
  unfold openA bkRows
  rw [List.find?_cons_of_neg (by decide +kernel), List.find?_cons_of_neg (by decide +kernel)]; rfl
theorem bk_small : ∀ r ∈ bkRows, r.Small := by
  intro r hr
  unfold bkRows at hr
  rcases List.mem_cons.1 hr with rfl | hr
  · exact ⟨by decide, by decide, by decide⟩
  · rw [List.mem_singleton.1 hr]
    exact ⟨by decide, by decide, by decide⟩
attribute [local irreducible] boxOf openA openB
set_option maxRecDepth 100000 in
set_option maxHeartbeats 4000000 in
theorem boxKnown_any (w : World) : Calls Try.prog 6 #[] w fun e w' => e = .returned (.bool true) ∧ Below w.heap.size w w' := by
  go_enter Try.func6, Try.ntmps6
  go_wp2_with fail
  have HL0 : Hid (Lies (w.alloc (.cells #[.int .u8 5, .int .u8 6, .int .u8 7] 5)) (some ⟨w.heap.size, 0, none⟩) [5#8, 6#8, 7#8]) := show Lies _ _ _ from lies_new rfl
  have hb0 : Below w.heap.size w (w.alloc (.cells #[.int .u8 5, .int .u8 6, .int .u8 7] 5)) := (Below.refl _ _).alloc (Nat.le_refl _) _
  generalize w.alloc (.cells #[.int .u8 5, .int .u8 6, .int .u8 7] 5) = w0 at HL0 hb0 ⊢
  refine (codeNew_any [5#8, 6#8, 7#8] 3 _ 3 w0 rfl (by omega) HL0.out).mono ?_
  rintro e w1 ⟨v, S, rfl, hbx, hS, hb1⟩
  obtain ⟨b, rfl⟩ := hbx.pointer
  have HB1 : Hid (Below w.heap.size w w1) := show Below _ _ _ from hb0.trans (hb1.mono hb0.size)
  have HX1 := Lib.hid hbx; clear hbx
  have HS : Hid (∀ k, S k → w.heap.size ≤ k) := show ∀ k, _ from fun k hk => Nat.le_trans hb0.size (hS k hk)
  clear hb1 hS hb0 HL0
  go_wp2_with fail
  refine (codeLen_any S _ _ _ [] w1 HX1.out).mono ?_
  rintro e w2 ⟨rfl, rfl⟩
  have hk0 : ([] : List RowA).length = 0 := rfl
  rw [hk0]
  clear hk0
  go_wp2_with fail
  have HL2 : Hid (Lies (w1.alloc (.cells #[.int .u8 1, .int .u8 2] 5)) (some ⟨w1.heap.size, 0, none⟩) [1#8, 2#8]) := show Lies _ _ _ from lies_new rfl
  have hb2 : Below w1.heap.size w1 (w1.alloc (.cells #[.int .u8 1, .int .u8 2] 5)) := (Below.refl _ _).alloc (Nat.le_refl _) _
  generalize w1.alloc (.cells #[.int .u8 1, .int .u8 2] 5) = w2 at HL2 hb2 ⊢
  have HB2 : Hid (Below w.heap.size w w2) := show Below _ _ _ from HB1.out.trans (hb2.mono HB1.out.size)
  refine (codeSeal_any S _ 0 [5#8, 6#8, 7#8] (noughts 32) (noughts 12) [] [1#8, 2#8] [] 0 2 _ _ 0 2 w2 rfl rfl rfl rfl (by omega) (by omega) (by simp) (by simp) (Or.inl rfl) HL2.out (HX1.out.keep (F := fun _ => False) (Below.stays hb2) (fun _ h => h.elim))).mono ?_
  rintro e w4 ⟨u, S4, rfl, hbx4, hS4, ho4, hu4x, hs4⟩
  have hbo : boxOf [5#8, 6#8, 7#8] 0 ([] : List RowA).length 2 = bkA := by decide +kernel
  rw [hbo] at ho4 hbx4
  have hA : ([] : List RowA) ++ [⟨noughts 32, noughts 12, [], [1#8, 2#8], bkA⟩] = [bkRa] := rfl
  rw [hA] at hbx4
  have HB4 : Hid (Below w.heap.size w w4) := show Below _ _ _ from HB2.out.trans (hs4.below (fun k hk => HS.out k hk) HB2.out.size)
  have HS4 : Hid (∀ k, S4 k → w.heap.size ≤ k) := show ∀ k, _ from fun k hk => (hS4 k hk).elim (HS.out k) (fun h => Nat.le_trans HB2.out.size h)
  obtain ⟨g4, c4, hu4, -⟩ := ho4.form8 (by decide)
  subst hu4
  have HO4 := Lib.hid ho4; clear ho4
  have HX4 := Lib.hid hbx4; clear hbx4
  have HN4 : Hid (¬ S4 g4) := show ¬ _ from hu4x g4 rfl
  have hkA : bkA.length = 18 := rfl
  rw [hkA]
  clear HX1 HL2 HS hb2 hS4 hs4 hbo hA hu4x HB1 HB2
  go_wp2_with fail
  refine (codeSeal_any S4 _ _ [5#8, 6#8, 7#8] (noughts 32) (noughts 12) [] [] [bkRa] 0 0 _ _ 0 0 w4 rfl rfl rfl rfl (by omega) (by omega) (by simp) (by simp) (Or.inl rfl) (Or.inl rfl) HX4.out).mono ?_
  rintro e w5 ⟨u, S5, rfl, hbx5, hS5, ho5, -, hs5⟩
  have hbo : boxOf [5#8, 6#8, 7#8] (0 + (8 + 2)) [bkRa].length 0 = bkB := by decide +kernel
  rw [hbo] at ho5 hbx5
  have hA : [bkRa] ++ [⟨noughts 32, noughts 12, [], [], bkB⟩] = bkRows := rfl
  rw [hA] at hbx5
  have HB5 : Hid (Below w.heap.size w w5) := show Below _ _ _ from HB4.out.trans (hs5.below (fun k hk => HS4.out k hk) HB4.out.size)
  obtain ⟨g5, c5, hu5, -⟩ := ho5.form8 (by decide)
  subst hu5
  have HO45 : Hid (Own w2.heap.size w5 bkA (.slice (some ⟨g4, 0, none⟩) 18 c4)) := show Own _ _ _ _ from ownsRow_stays HO4.out hs5 (fun k hk f => HN4.out (by have h2 : g4 = k := Option.some.inj hk; rw [h2]; exact f))
  have HO5 := Lib.hid ho5; clear ho5
  have HX5 := Lib.hid hbx5; clear hbx5
  have hkB : bkB.length = 16 := rfl
  rw [hkB]
  clear HX4 HO4 HS4 hS5 hs5 hbo hA HN4 HB4
  go_wp2_with fail
  refine (codeOpen_any S5 _ _ [5#8, 6#8, 7#8] (noughts 32) (noughts 12) [] bkB bkRows 0 16 _ _ 0 c5 w5 rfl rfl rfl rfl HO5.out.lies0.2 (by decide) bk_small (Or.inl rfl) HO5.out.lies0.1 HX5.out).mono ?_
  rintro e w6 ⟨u6, rfl, ho6, hb6⟩
  rw [bk_yes]
  have hob : openB bkRows (noughts 32) (noughts 12) [] bkB = [] := by unfold openB; rw [bk_yes]; rfl
  rw [hob] at ho6
  obtain ⟨p6, c6, hu6, -⟩ := ho6.lies
  subst hu6
  have hk0 : ([] : List (BitVec 8)).length = 0 := rfl
  rw [hk0]
  have HB6 := Lib.hid hb6
  clear hb6 hob hk0 ho6
  go_wp2_with fail
  refine (codeOpen_any S5 _ _ [5#8, 6#8, 7#8] (noughts 32) (noughts 12) [] [] bkRows 0 0 _ _ 0 0 w6 rfl rfl rfl rfl (by omega) (by decide) bk_small (Or.inl rfl) (Or.inl rfl) (HX5.out.keep (F := fun _ => False) (Below.stays HB6.out) (fun _ h => h.elim))).mono ?_
  rintro e w7 ⟨u7, rfl, -, hb7⟩
  rw [bk_no1]
  have HB7 : Hid (Below w5.heap.size w5 w7) := show Below _ _ _ from HB6.out.trans (hb7.mono HB6.out.size)
  clear hb7 HB6
  go_wp2_with fail
  have HL8 : Hid (Lies (w7.alloc (.cells #[.int .u8 255, .int .u8 255, .int .u8 255, .int .u8 255, .int .u8 255, .int .u8 255, .int .u8 255, .int .u8 255, .int .u8 0] 5)) (some ⟨w7.heap.size, 0, none⟩) [255#8, 255#8, 255#8, 255#8, 255#8, 255#8, 255#8, 255#8, 0#8]) := show Lies _ _ _ from lies_new rfl
  have hb8 : Below w7.heap.size w7 (w7.alloc (.cells #[.int .u8 255, .int .u8 255, .int .u8 255, .int .u8 255, .int .u8 255, .int .u8 255, .int .u8 255, .int .u8 255, .int .u8 0] 5)) := (Below.refl _ _).alloc (Nat.le_refl _) _
  generalize w7.alloc (.cells #[.int .u8 255, .int .u8 255, .int .u8 255, .int .u8 255, .int .u8 255, .int .u8 255, .int .u8 255, .int .u8 255, .int .u8 0] 5) = w8 at HL8 hb8 ⊢
  have HB8 : Hid (Below w5.heap.size w5 w8) := show Below _ _ _ from HB7.out.trans (hb8.mono HB7.out.size)
  refine (codeOpen_any S5 _ _ [5#8, 6#8, 7#8] (noughts 32) (noughts 12) [] bkF bkRows 0 9 _ _ 0 9 w8 rfl rfl rfl rfl (by omega) (by decide) bk_small (Or.inl rfl) HL8.out (HX5.out.keep (F := fun _ => False) (Below.stays HB8.out) (fun _ h => h.elim))).mono ?_
  rintro e w9 ⟨u9, rfl, -, hb9⟩
  rw [bk_no2]
  have HB9 : Hid (Below w5.heap.size w5 w9) := show Below _ _ _ from HB8.out.trans (hb9.mono HB8.out.size)
  have hc4 := HO45.out.lies0.2
  have q17 : (17 : Int) ≤ (c4 : Int) := by omega
  clear hb9 HB8 HB7 HL8 hb8
  go_wp2_with fail
  refine (codeOpen_any S5 _ _ [5#8, 6#8, 7#8] (noughts 32) (noughts 12) [] (bkA.take 17) bkRows 0 17 _ _ 0 c4 w9 rfl rfl rfl rfl (by omega) (by decide) bk_small (Or.inl rfl) (lies_takeB (HO45.out.below HB9.out).lies0.1 17) (HX5.out.keep (F := fun _ => False) (Below.stays HB9.out) (fun _ h => h.elim))).mono ?_
  rintro e w10 ⟨u10, rfl, -, hb10⟩
  rw [bk_no3]
  have HB10 : Hid (Below w5.heap.size w5 w10) := show Below _ _ _ from HB9.out.trans (hb10.mono HB9.out.size)
  clear hb10 HB9
  go_wp2_with fail
  have HL11 : Hid (Lies (w10.alloc (.cells #[.int .u8 0, .int .u8 0, .int .u8 0, .int .u8 0, .int .u8 0, .int .u8 0, .int .u8 0, .int .u8 0, .int .u8 5, .int .u8 6, .int .u8 7, .int .u8 0, .int .u8 0, .int .u8 0, .int .u8 0, .int .u8 0, .int .u8 0, .int .u8 0] 5)) (some ⟨w10.heap.size, 0, none⟩) [0#8, 0#8, 0#8, 0#8, 0#8, 0#8, 0#8, 0#8, 5#8, 6#8, 7#8, 0#8, 0#8, 0#8, 0#8, 0#8, 0#8, 0#8]) := show Lies _ _ _ from lies_new rfl
  have hb11 : Below w10.heap.size w10 (w10.alloc (.cells #[.int .u8 0, .int .u8 0, .int .u8 0, .int .u8 0, .int .u8 0, .int .u8 0, .int .u8 0, .int .u8 0, .int .u8 5, .int .u8 6, .int .u8 7, .int .u8 0, .int .u8 0, .int .u8 0, .int .u8 0, .int .u8 0, .int .u8 0, .int .u8 0] 5)) := (Below.refl _ _).alloc (Nat.le_refl _) _
  generalize w10.alloc (.cells #[.int .u8 0, .int .u8 0, .int .u8 0, .int .u8 0, .int .u8 0, .int .u8 0, .int .u8 0, .int .u8 0, .int .u8 5, .int .u8 6, .int .u8 7, .int .u8 0, .int .u8 0, .int .u8 0, .int .u8 0, .int .u8 0, .int .u8 0, .int .u8 0] 5) = w11 at HL11 hb11 ⊢
  have HB11 : Hid (Below w5.heap.size w5 w11) := show Below _ _ _ from HB10.out.trans (hb11.mono HB10.out.size)
  refine (sameBytes_any bkA bkA 18 18 _ _ c4 18 w11 rfl rfl (by omega) (by omega) (HO45.out.below HB11.out).lies0.1 HL11.out).mono ?_
  rintro e w12 ⟨rfl, hb12⟩
  rw [decide_eq_true rfl]
  have HB12 : Hid (Below w5.heap.size w5 w12) := show Below _ _ _ from HB11.out.trans (hb12.mono HB11.out.size)
  clear hb12 HB11 HL11 hb11 HB10
  go_wp2_with fail
  have HL13 : Hid (Lies (w12.alloc (.cells #[.int .u8 1, .int .u8 0, .int .u8 0, .int .u8 0, .int .u8 0, .int .u8 0, .int .u8 0, .int .u8 0, .int .u8 0, .int .u8 0, .int .u8 0, .int .u8 0, .int .u8 0, .int .u8 0, .int .u8 0, .int .u8 0] 5)) (some ⟨w12.heap.size, 0, none⟩) [1#8, 0#8, 0#8, 0#8, 0#8, 0#8, 0#8, 0#8, 0#8, 0#8, 0#8, 0#8, 0#8, 0#8, 0#8, 0#8]) := show Lies _ _ _ from lies_new rfl
  have hb13 : Below w12.heap.size w12 (w12.alloc (.cells #[.int .u8 1, .int .u8 0, .int .u8 0, .int .u8 0, .int .u8 0, .int .u8 0, .int .u8 0, .int .u8 0, .int .u8 0, .int .u8 0, .int .u8 0, .int .u8 0, .int .u8 0, .int .u8 0, .int .u8 0, .int .u8 0] 5)) := (Below.refl _ _).alloc (Nat.le_refl _) _
  generalize w12.alloc (.cells #[.int .u8 1, .int .u8 0, .int .u8 0, .int .u8 0, .int .u8 0, .int .u8 0, .int .u8 0, .int .u8 0, .int .u8 0, .int .u8 0, .int .u8 0, .int .u8 0, .int .u8 0, .int .u8 0, .int .u8 0, .int .u8 0] 5) = w13 at HL13 hb13 ⊢
  have HB13 : Hid (Below w5.heap.size w5 w13) := show Below _ _ _ from HB12.out.trans (hb13.mono HB12.out.size)
  refine (sameBytes_any bkB bkB 16 16 _ _ c5 16 w13 rfl rfl (by omega) (by omega) (HO5.out.below HB13.out).lies0.1 HL13.out).mono ?_
  rintro e w14 ⟨rfl, hb14⟩
  rw [decide_eq_true rfl]
  have HB14 : Hid (Below w5.heap.size w5 w14) := show Below _ _ _ from HB13.out.trans (hb14.mono HB13.out.size)
  have HX14 := Lib.hid (HX5.out.keep (F := fun _ => False) (Below.stays HB14.out) (fun _ h => h.elim))
  clear hb14 HB13 HL13 hb13 HB12 HO45 HO5 HX5
  go_wp2_with fail
  refine (codeLen_any S5 _ _ _ bkRows w14 HX14.out).mono ?_
  rintro e w15 ⟨rfl, rfl⟩
  have hk2 : bkRows.length = 2 := rfl
  rw [hk2]
  go_wp2_with fail
  refine (known6_any w14).mono ?_
  rintro e w16 ⟨rfl, hb16⟩
  go_wp2_with fail
  go_ret
  have hb1 := HB5.out.trans (HB14.out.mono HB5.out.size)
  exact ⟨rfl, hb1.trans (hb16.mono hb1.size)⟩
end Go.Proofs.Ytacgkfngpeieaaa

/-
  BoxKnown: the law returns true. Without any condition.
-/
namespace Go.Proofs.Ytacgkfngpeieaaa
open Go.ChangeShapes Go.WideShapes Go.ChangeAt Go.RowKit Go.Proofs.ShaWords

set_option maxRecDepth 100000 in
theorem boxKnown_lifted (os : Os) (started : os.Started) (H : Type) (enc : TypeId × Value → H) :
    ReturnsInHanded {} Try.checked os 6 .any (Rows.boxKnownSpec.pre6 enc Try.prog Try.f6 Rows.boxKnownRow.domain false)
      (Rows.boxKnownSpec.post enc Try.prog Try.f6 false true false false) := by
  refine returnsInHanded_of_change_sized (C := Try.checked) own started (by kernel_rfl) Try.func6
    (ChangeSpec.witness6 (enc := enc) (C := Try.checked) false ⟨#[], #[], []⟩ 8 (by kernel_rfl) (by kernel_rfl) (by kernel_rfl) (by kernel_rfl)) ?_
  intro W base args ds gs before hval0 hW _ hsz _
  have hW' := hW
  obtain ⟨p, q, hA0, hV, rfl, hfz, hnd⟩ := hW
  have hA : DataW.TrodAll enc Try.prog W 0 (fun _ => true) true Try.f6.params.toList args.toList ds p := hA0
  have hval : ∀ (j : Nat) t v, Try.f6.params[j]? = some t → args[j]? = some v → Value.okWide Try.prog W .any base t v := hval0
  have hsz2 : (DataW.weightsEach Try.prog (Try.f6.params.toList ++ Rows.boxKnownSpec.plain.varTypes Try.prog) (ds ++ gs)).all (· ≤ reachBytes) = true := hsz
  rw [Try.params6] at hA hval hsz2
  obtain ⟨hargs, rfl, rfl⟩ := trodAll_nil hA
  obtain rfl : args = #[] := by cases args; simp_all
  obtain ⟨rfl, rfl⟩ := trodVars_none hV
  clear hA0 hval0
  refine (boxKnown_any W).mono fun e W' ⟨he, bel⟩ => ?_
  subst he
  exact ⟨_, rfl, _, _, _, [], _, [], hW', trodAll_mk1 (shut_bool Try.underlying4 _), trodAll_mk0, rfl, bel.frame _, fun h => by cases h⟩

theorem boxKnown_holds : Rows.BoxKnownSaid :=
  OpenClaim.holds_of_wide 6 Try.f6 rfl rfl rfl rfl rfl rfl rfl ⟨rfl, rfl, rfl, rfl, rfl⟩ rfl rfl rfl rfl rfl (by kernel_rfl) Try.func6 (by kernel_rfl)
    (of_decide_eq_true (by kernel_rfl)) (by unfold Func.isWrapper; first | (rw [if_pos (by decide +kernel)]; kernel_rfl) | (rw [if_neg (by decide +kernel)]; exact ⟨rfl, rfl⟩))
    (fun os started H enc _ => boxKnown_lifted os started H enc)

#print axioms boxKnown_holds
end Go.Proofs.Ytacgkfngpeieaaa
