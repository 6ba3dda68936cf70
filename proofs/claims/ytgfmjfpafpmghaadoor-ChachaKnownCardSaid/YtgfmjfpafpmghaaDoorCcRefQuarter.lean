/-
  The document's quarter round on a slice of words of the caller's own.
-/
import Derived.Test.YtgfmjfpafpmghaaDoorCcMix
import Derived.Test.YtgfmjfpafpmghaaDoorRefWords
import Derived.StillTailTactics
namespace Go.Proofs.YtgfmjfpafpmghaaDoor
open Go.RowKit Go.Proofs.ShaWords
attribute [local go_sem] and32 or32 xor32 add32 shl32 shr32

theorem left_q (x : BitVec 32) (n : Int) (w : World) (h1 : 1 ≤ n) (h2 : n ≤ 31) :
    Calls Tryd.prog 37 #[.int .u32 (n32 x), .int .u64 n] w fun e w' => e = .returned (.int .u32 (n32 (rl x n.toNat))) ∧ w' = w :=
  (left_any x n w h1 h2).mono fun _ _ h => ⟨h.1, h.2.symm⟩
theorem OwnW.cell {B g n cap : Nat} {w : World} {l : List (BitVec 32)} (h : OwnW B w l (.slice (some ⟨g, 0, none⟩) n cap)) (k : Nat) (hk : k < l.length) : w.cell? ⟨g, k, none⟩ = some (.int .u32 (n32 (l.getD k 0#32))) := by
  rcases h.2 with ⟨h0, _⟩ | ⟨g', cap', cur, he, hg, hh, hc, hm, hs, ht⟩
  · cases h0
  · cases he
    rw [cell_of_row w g k cur 25 (0, 0) hh]
    have hv : (wordsV l)[k]? = some (.int .u32 (n32 (l.getD k 0#32))) := by simp [wordsV, List.getD, hk]
    rw [← ht, Nat.mul_one, List.getElem?_take, if_pos hk] at hv
    simpa using hv
theorem OwnW.frozen {B g n cap : Nat} {w : World} {l : List (BitVec 32)} (h : OwnW B w l (.slice (some ⟨g, 0, none⟩) n cap)) (k : Nat) : w.frozen? ⟨g, k, none⟩ = false := by
  rcases h.2 with ⟨h0, _⟩ | ⟨g', cap', cur, he, hg, hh, hc, hm, hs, ht⟩
  · cases h0
  · cases he
    exact frozen_of_row _ _ _ _ _ hh
theorem OwnW.at' {B g n cap : Nat} {w : World} {l : List (BitVec 32)} (h : OwnW B w l (.slice (some ⟨g, 0, none⟩) n cap)) : B ≤ g ∧ g < w.heap.size ∧ n = l.length := by
  rcases h.2 with ⟨h0, _⟩ | ⟨g', cap', cur, he, hg, hh, hc, hm, hs, ht⟩
  · cases h0
  · cases he
    exact ⟨hg, (Array.getElem?_eq_some_iff.1 hh).1, rfl⟩
theorem OwnW.put {B g n cap : Nat} {w : World} {l : List (BitVec 32)} (h : OwnW B w l (.slice (some ⟨g, 0, none⟩) n cap)) (k : Nat) (x : BitVec 32) : OwnW B (w.setCell ⟨g, k, none⟩ (.int .u32 (n32 x))) (l.set k x) (.slice (some ⟨g, 0, none⟩) n cap) := by
  rcases h.2 with ⟨h0, _⟩ | ⟨g', cap', cur, he, hg, hh, hc, hm, hs, ht⟩
  · cases h0
  · cases he
    refine ⟨by simp [wordsV], .inr ⟨g, cap, cur.setIfInBounds k (.int .u32 (n32 x)), by rw [List.length_set], hg, heap_setCell_same _ _ _ _ _ _ hh, by rw [List.length_set]; exact hc, hm, by rw [Array.size_setIfInBounds]; exact hs, ?_⟩⟩
    rw [Nat.mul_one] at ht
    rw [List.length_set, Array.toList_setIfInBounds, Nat.mul_one, List.take_set, ht]
    simp [wordsV, List.map_set]
/-- The slice and what was there. -/
structure QW (B g n cp : Nat) (w : World) (m : List (BitVec 32)) (wr : World) : Prop where
  own : OwnW B wr m (.slice (some ⟨g, 0, none⟩) n cp)
  grown : w.grownBy wr (some g)
theorem QW.put {B g n cp : Nat} {w wr : World} {m : List (BitVec 32)} (h : QW B g n cp w m wr) (k : Nat) (x : BitVec 32) : QW B g n cp w (m.set k x) (wr.drew.setCell ⟨g, k, none⟩ (.int .u32 (n32 x))) :=
  ⟨(h.own.below ((Below.refl _ _).drew)).put k x, grown_trans (grown_trans h.grown (grown_drew _ _)) (grown_setCell _ _ _ _)⟩
theorem list_ext32 {a b : List (BitVec 32)} (hl : a.length = b.length) (h : ∀ i, i < a.length → a.getD i 0#32 = b.getD i 0#32) : a = b := by
  apply List.ext_getElem hl
  intro i h1 h2
  have := h i h1
  simpa [List.getD, h1, h2] using this
theorem refQ_eq (m : List (BitVec 32)) (i0 i1 i2 i3 : Nat) (h0 : i0 < m.length) (h1 : i1 < m.length) (h2 : i2 < m.length) (h3 : i3 < m.length) (e01 : i0 ≠ i1) (e02 : i0 ≠ i2) (e03 : i0 ≠ i3) (e12 : i1 ≠ i2) (e13 : i1 ≠ i3) (e23 : i2 ≠ i3)
    (m1 m2 m3 m4 m5 m6 m7 m8 : List (BitVec 32)) (g1 : m1 = m.set i0 (m.getD i0 0#32 + m.getD i1 0#32)) (g2 : m2 = m1.set i3 (rl (m1.getD i3 0#32 ^^^ m1.getD i0 0#32) 16)) (g3 : m3 = m2.set i2 (m2.getD i2 0#32 + m2.getD i3 0#32)) (g4 : m4 = m3.set i1 (rl (m3.getD i1 0#32 ^^^ m3.getD i2 0#32) 12)) (g5 : m5 = m4.set i0 (m4.getD i0 0#32 + m4.getD i1 0#32)) (g6 : m6 = m5.set i3 (rl (m5.getD i3 0#32 ^^^ m5.getD i0 0#32) 8)) (g7 : m7 = m6.set i2 (m6.getD i2 0#32 + m6.getD i3 0#32)) (g8 : m8 = m7.set i1 (rl (m7.getD i1 0#32 ^^^ m7.getD i2 0#32) 7)) : m8 = stepQ m i0 i1 i2 i3 := by
  have l1 : m1.length = m.length := by rw [g1, List.length_set]
  have l2 : m2.length = m.length := by rw [g2, List.length_set, l1]
  have l3 : m3.length = m.length := by rw [g3, List.length_set, l2]
  have l4 : m4.length = m.length := by rw [g4, List.length_set, l3]
  have l5 : m5.length = m.length := by rw [g5, List.length_set, l4]
  have l6 : m6.length = m.length := by rw [g6, List.length_set, l5]
  have l7 : m7.length = m.length := by rw [g7, List.length_set, l6]
  have l8 : m8.length = m.length := by rw [g8, List.length_set, l7]
  have q0 : m.getD i0 0#32 = (fourAt m i0 i1 i2 i3).a := rfl
  have q1 : m.getD i1 0#32 = (fourAt m i0 i1 i2 i3).b := rfl
  have q2 : m.getD i2 0#32 = (fourAt m i0 i1 i2 i3).c := rfl
  have q3 : m.getD i3 0#32 = (fourAt m i0 i1 i2 i3).d := rfl
  rw [stepQ_eq]
  generalize hq : fourAt m i0 i1 i2 i3 = q at q0 q1 q2 q3 ⊢
  have v10 : m1.getD i0 0#32 = qA1 q := by rw [g1, set_getD_self _ _ _ _ (by omega), q0, q1]; rfl
  have v11 : m1.getD i1 0#32 = q.b := by rw [g1, set_getD_other _ _ _ _ _ e01, q1]
  have v12 : m1.getD i2 0#32 = q.c := by rw [g1, set_getD_other _ _ _ _ _ e02, q2]
  have v13 : m1.getD i3 0#32 = q.d := by rw [g1, set_getD_other _ _ _ _ _ e03, q3]
  have v20 : m2.getD i0 0#32 = qA1 q := by rw [g2, set_getD_other _ _ _ _ _ e03.symm, v10]
  have v21 : m2.getD i1 0#32 = q.b := by rw [g2, set_getD_other _ _ _ _ _ e13.symm, v11]
  have v22 : m2.getD i2 0#32 = q.c := by rw [g2, set_getD_other _ _ _ _ _ e23.symm, v12]
  have v23 : m2.getD i3 0#32 = qD1 q := by rw [g2, set_getD_self _ _ _ _ (by omega), v13, v10]; rfl
  have v30 : m3.getD i0 0#32 = qA1 q := by rw [g3, set_getD_other _ _ _ _ _ e02.symm, v20]
  have v31 : m3.getD i1 0#32 = q.b := by rw [g3, set_getD_other _ _ _ _ _ e12.symm, v21]
  have v32 : m3.getD i2 0#32 = qC1 q := by rw [g3, set_getD_self _ _ _ _ (by omega), v22, v23]; rfl
  have v33 : m3.getD i3 0#32 = qD1 q := by rw [g3, set_getD_other _ _ _ _ _ e23, v23]
  have v40 : m4.getD i0 0#32 = qA1 q := by rw [g4, set_getD_other _ _ _ _ _ e01.symm, v30]
  have v41 : m4.getD i1 0#32 = qB1 q := by rw [g4, set_getD_self _ _ _ _ (by omega), v31, v32]; rfl
  have v42 : m4.getD i2 0#32 = qC1 q := by rw [g4, set_getD_other _ _ _ _ _ e12, v32]
  have v43 : m4.getD i3 0#32 = qD1 q := by rw [g4, set_getD_other _ _ _ _ _ e13, v33]
  have v50 : m5.getD i0 0#32 = qA2 q := by rw [g5, set_getD_self _ _ _ _ (by omega), v40, v41]; rfl
  have v51 : m5.getD i1 0#32 = qB1 q := by rw [g5, set_getD_other _ _ _ _ _ e01, v41]
  have v52 : m5.getD i2 0#32 = qC1 q := by rw [g5, set_getD_other _ _ _ _ _ e02, v42]
  have v53 : m5.getD i3 0#32 = qD1 q := by rw [g5, set_getD_other _ _ _ _ _ e03, v43]
  have v60 : m6.getD i0 0#32 = qA2 q := by rw [g6, set_getD_other _ _ _ _ _ e03.symm, v50]
  have v61 : m6.getD i1 0#32 = qB1 q := by rw [g6, set_getD_other _ _ _ _ _ e13.symm, v51]
  have v62 : m6.getD i2 0#32 = qC1 q := by rw [g6, set_getD_other _ _ _ _ _ e23.symm, v52]
  have v63 : m6.getD i3 0#32 = qD2 q := by rw [g6, set_getD_self _ _ _ _ (by omega), v53, v50]; rfl
  have v70 : m7.getD i0 0#32 = qA2 q := by rw [g7, set_getD_other _ _ _ _ _ e02.symm, v60]
  have v71 : m7.getD i1 0#32 = qB1 q := by rw [g7, set_getD_other _ _ _ _ _ e12.symm, v61]
  have v72 : m7.getD i2 0#32 = qC2 q := by rw [g7, set_getD_self _ _ _ _ (by omega), v62, v63]; rfl
  have v73 : m7.getD i3 0#32 = qD2 q := by rw [g7, set_getD_other _ _ _ _ _ e23, v63]
  have v80 : m8.getD i0 0#32 = qA2 q := by rw [g8, set_getD_other _ _ _ _ _ e01.symm, v70]
  have v81 : m8.getD i1 0#32 = qB2 q := by rw [g8, set_getD_self _ _ _ _ (by omega), v71, v72]; rfl
  have v82 : m8.getD i2 0#32 = qC2 q := by rw [g8, set_getD_other _ _ _ _ _ e12, v72]
  have v83 : m8.getD i3 0#32 = qD2 q := by rw [g8, set_getD_other _ _ _ _ _ e13, v73]
  apply list_ext32
  · simp [l8]
  · intro i _
    by_cases c3 : i3 = i
    · subst c3
      rw [v83, set_getD_self _ _ _ _ (by simp only [List.length_set]; exact h3)]
    · rw [set_getD_other _ _ _ _ _ c3]
      by_cases c2 : i2 = i
      · subst c2
        rw [v82, set_getD_self _ _ _ _ (by simp only [List.length_set]; exact h2)]
      · rw [set_getD_other _ _ _ _ _ c2]
        by_cases c1 : i1 = i
        · subst c1
          rw [v81, set_getD_self _ _ _ _ (by simp only [List.length_set]; exact h1)]
        · rw [set_getD_other _ _ _ _ _ c1]
          by_cases c0 : i0 = i
          · subst c0
            rw [v80, set_getD_self _ _ _ _ h0]
          · rw [set_getD_other _ _ _ _ _ c0]
            rw [g8, set_getD_other _ _ _ _ _ c1, g7, set_getD_other _ _ _ _ _ c2, g6, set_getD_other _ _ _ _ _ c3, g5, set_getD_other _ _ _ _ _ c0, g4, set_getD_other _ _ _ _ _ c1, g3, set_getD_other _ _ _ _ _ c2, g2, set_getD_other _ _ _ _ _ c3, g1, set_getD_other _ _ _ _ _ c0]
attribute [local irreducible] rl
set_option maxRecDepth 100000 in
set_option maxHeartbeats 2000000 in
theorem refQuarter_any (m : List (BitVec 32)) (B g n cp i0 i1 i2 i3 : Nat) (w : World) (h0 : i0 < n) (h1 : i1 < n) (h2 : i2 < n) (h3 : i3 < n) (e01 : i0 ≠ i1) (e02 : i0 ≠ i2) (e03 : i0 ≠ i3) (e12 : i1 ≠ i2) (e13 : i1 ≠ i3) (e23 : i2 ≠ i3) (hO : OwnW B w m (.slice (some ⟨g, 0, none⟩) n cp)) :
    Calls Tryd.prog 17 #[.slice (some ⟨g, 0, none⟩) n cp, .int .i64 (i0 : Int), .int .i64 (i1 : Int), .int .i64 (i2 : Int), .int .i64 (i3 : Int)] w fun e w' =>
      e = .returned (.tuple #[]) ∧ OwnW B w' (stepQ m i0 i1 i2 i3) (.slice (some ⟨g, 0, none⟩) n cp) ∧ w.grownBy w' (some g) := by
  have hml := hO.at'.2.2
  have HE := Lib.hid (refQ_eq m i0 i1 i2 i3 (hml ▸ h0) (hml ▸ h1) (hml ▸ h2) (hml ▸ h3) e01 e02 e03 e12 e13 e23)
  have HO := Lib.hid hO; clear hO
  have HML := Lib.hid hml; clear hml e01 e02 e03 e12 e13 e23
  have p0 : (i0 : Int) < (n : Int) := by omega
  have p1 : (i1 : Int) < (n : Int) := by omega
  have p2 : (i2 : Int) < (n : Int) := by omega
  have p3 : (i3 : Int) < (n : Int) := by omega
  go_enter Tryd.func17, Tryd.ntmps17
  go_upto_region 0 with (fail)
  refine wp_gen (fun wr => QW B g n cp w m wr) ⟨HO.out, World.grownBy.refl _ _⟩ ?_
  intro w0 hw0
  have HW0 := Lib.hid hw0; clear hw0 HO
  have HL0 : Hid (m.length = n) := show _ = _ from HML.out.symm
  have cx := HW0.out.own.cell i0 (by rw [HL0.out]; exact h0)
  have cy := HW0.out.own.cell i1 (by rw [HL0.out]; exact h1)
  have fx := HW0.out.own.frozen i0
  go_still_tail 11, (by kernel_rfl)
  change wpList _ _ _ _ _ w0.drew
  go_upto_region 1 with (fail)
  refine wp_gen (fun wr => QW B g n cp w (m.set i0 (m.getD i0 0#32 + m.getD i1 0#32)) wr) (HW0.out.put i0 _) ?_
  intro w1 hw1
  have HW1 := Lib.hid hw1; clear hw1 cx cy fx HW0
  have HL1 : Hid ((m.set i0 (m.getD i0 0#32 + m.getD i1 0#32)).length = n) := show _ = _ by rw [List.length_set]; exact HL0.out
  generalize hm1 : m.set i0 (m.getD i0 0#32 + m.getD i1 0#32) = m1 at HW1 HL1
  have HM1 := Lib.hid hm1; clear hm1
  have cx := HW1.out.own.cell i3 (by rw [HL1.out]; exact h3)
  have cy := HW1.out.own.cell i0 (by rw [HL1.out]; exact h0)
  have fx := HW1.out.own.frozen i3
  refine wp_region_still_tail 12 (by kernel_rfl) (by kernel_rfl) ?_
  simp only [List.take_succ_cons, List.take_zero, List.drop_succ_cons, List.drop_zero]
  iterate 11 still_step
  still_call (left_q _ _ _ (by omega) (by omega))
  refine wpStill_nil ?_
  change wpList _ _ _ _ _ w1.drew
  go_upto_region 2 with (fail)
  refine wp_gen (fun wr => QW B g n cp w (m1.set i3 (rl (m1.getD i3 0#32 ^^^ m1.getD i0 0#32) 16)) wr) (HW1.out.put i3 _) ?_
  intro w2 hw2
  have HW2 := Lib.hid hw2; clear hw2 cx cy fx HW1
  have HL2 : Hid ((m1.set i3 (rl (m1.getD i3 0#32 ^^^ m1.getD i0 0#32) 16)).length = n) := show _ = _ by rw [List.length_set]; exact HL1.out
  generalize hm2 : m1.set i3 (rl (m1.getD i3 0#32 ^^^ m1.getD i0 0#32) 16) = m2 at HW2 HL2
  have HM2 := Lib.hid hm2; clear hm2
  have cx := HW2.out.own.cell i2 (by rw [HL2.out]; exact h2)
  have cy := HW2.out.own.cell i3 (by rw [HL2.out]; exact h3)
  have fx := HW2.out.own.frozen i2
  go_still_tail 11, (by kernel_rfl)
  change wpList _ _ _ _ _ w2.drew
  go_upto_region 3 with (fail)
  refine wp_gen (fun wr => QW B g n cp w (m2.set i2 (m2.getD i2 0#32 + m2.getD i3 0#32)) wr) (HW2.out.put i2 _) ?_
  intro w3 hw3
  have HW3 := Lib.hid hw3; clear hw3 cx cy fx HW2
  have HL3 : Hid ((m2.set i2 (m2.getD i2 0#32 + m2.getD i3 0#32)).length = n) := show _ = _ by rw [List.length_set]; exact HL2.out
  generalize hm3 : m2.set i2 (m2.getD i2 0#32 + m2.getD i3 0#32) = m3 at HW3 HL3
  have HM3 := Lib.hid hm3; clear hm3
  have cx := HW3.out.own.cell i1 (by rw [HL3.out]; exact h1)
  have cy := HW3.out.own.cell i2 (by rw [HL3.out]; exact h2)
  have fx := HW3.out.own.frozen i1
  refine wp_region_still_tail 12 (by kernel_rfl) (by kernel_rfl) ?_
  simp only [List.take_succ_cons, List.take_zero, List.drop_succ_cons, List.drop_zero]
  iterate 11 still_step
  still_call (left_q _ _ _ (by omega) (by omega))
  refine wpStill_nil ?_
  change wpList _ _ _ _ _ w3.drew
  go_upto_region 4 with (fail)
  refine wp_gen (fun wr => QW B g n cp w (m3.set i1 (rl (m3.getD i1 0#32 ^^^ m3.getD i2 0#32) 12)) wr) (HW3.out.put i1 _) ?_
  intro w4 hw4
  have HW4 := Lib.hid hw4; clear hw4 cx cy fx HW3
  have HL4 : Hid ((m3.set i1 (rl (m3.getD i1 0#32 ^^^ m3.getD i2 0#32) 12)).length = n) := show _ = _ by rw [List.length_set]; exact HL3.out
  generalize hm4 : m3.set i1 (rl (m3.getD i1 0#32 ^^^ m3.getD i2 0#32) 12) = m4 at HW4 HL4
  have HM4 := Lib.hid hm4; clear hm4
  have cx := HW4.out.own.cell i0 (by rw [HL4.out]; exact h0)
  have cy := HW4.out.own.cell i1 (by rw [HL4.out]; exact h1)
  have fx := HW4.out.own.frozen i0
  go_still_tail 11, (by kernel_rfl)
  change wpList _ _ _ _ _ w4.drew
  go_upto_region 5 with (fail)
  refine wp_gen (fun wr => QW B g n cp w (m4.set i0 (m4.getD i0 0#32 + m4.getD i1 0#32)) wr) (HW4.out.put i0 _) ?_
  intro w5 hw5
  have HW5 := Lib.hid hw5; clear hw5 cx cy fx HW4
  have HL5 : Hid ((m4.set i0 (m4.getD i0 0#32 + m4.getD i1 0#32)).length = n) := show _ = _ by rw [List.length_set]; exact HL4.out
  generalize hm5 : m4.set i0 (m4.getD i0 0#32 + m4.getD i1 0#32) = m5 at HW5 HL5
  have HM5 := Lib.hid hm5; clear hm5
  have cx := HW5.out.own.cell i3 (by rw [HL5.out]; exact h3)
  have cy := HW5.out.own.cell i0 (by rw [HL5.out]; exact h0)
  have fx := HW5.out.own.frozen i3
  refine wp_region_still_tail 12 (by kernel_rfl) (by kernel_rfl) ?_
  simp only [List.take_succ_cons, List.take_zero, List.drop_succ_cons, List.drop_zero]
  iterate 11 still_step
  still_call (left_q _ _ _ (by omega) (by omega))
  refine wpStill_nil ?_
  change wpList _ _ _ _ _ w5.drew
  go_upto_region 6 with (fail)
  refine wp_gen (fun wr => QW B g n cp w (m5.set i3 (rl (m5.getD i3 0#32 ^^^ m5.getD i0 0#32) 8)) wr) (HW5.out.put i3 _) ?_
  intro w6 hw6
  have HW6 := Lib.hid hw6; clear hw6 cx cy fx HW5
  have HL6 : Hid ((m5.set i3 (rl (m5.getD i3 0#32 ^^^ m5.getD i0 0#32) 8)).length = n) := show _ = _ by rw [List.length_set]; exact HL5.out
  generalize hm6 : m5.set i3 (rl (m5.getD i3 0#32 ^^^ m5.getD i0 0#32) 8) = m6 at HW6 HL6
  have HM6 := Lib.hid hm6; clear hm6
  have cx := HW6.out.own.cell i2 (by rw [HL6.out]; exact h2)
  have cy := HW6.out.own.cell i3 (by rw [HL6.out]; exact h3)
  have fx := HW6.out.own.frozen i2
  go_still_tail 11, (by kernel_rfl)
  change wpList _ _ _ _ _ w6.drew
  go_upto_region 7 with (fail)
  refine wp_gen (fun wr => QW B g n cp w (m6.set i2 (m6.getD i2 0#32 + m6.getD i3 0#32)) wr) (HW6.out.put i2 _) ?_
  intro w7 hw7
  have HW7 := Lib.hid hw7; clear hw7 cx cy fx HW6
  have HL7 : Hid ((m6.set i2 (m6.getD i2 0#32 + m6.getD i3 0#32)).length = n) := show _ = _ by rw [List.length_set]; exact HL6.out
  generalize hm7 : m6.set i2 (m6.getD i2 0#32 + m6.getD i3 0#32) = m7 at HW7 HL7
  have HM7 := Lib.hid hm7; clear hm7
  have cx := HW7.out.own.cell i1 (by rw [HL7.out]; exact h1)
  have cy := HW7.out.own.cell i2 (by rw [HL7.out]; exact h2)
  have fx := HW7.out.own.frozen i1
  refine wp_region_still_tail 12 (by kernel_rfl) (by kernel_rfl) ?_
  simp only [List.take_succ_cons, List.take_zero, List.drop_succ_cons, List.drop_zero]
  iterate 11 still_step
  still_call (left_q _ _ _ (by omega) (by omega))
  refine wpStill_nil ?_
  change wpList _ _ _ _ _ w7.drew
  go_wp2_with fail
  go_end0
  have HF := Lib.hid (HW7.out.put i1 (rl (m7.getD i1 0#32 ^^^ m7.getD i2 0#32) 7))
  rw [HE.out m1 m2 m3 m4 m5 m6 m7 _ HM1.out.symm HM2.out.symm HM3.out.symm HM4.out.symm HM5.out.symm HM6.out.symm HM7.out.symm rfl] at HF
  exact ⟨rfl, HF.out.own, HF.out.grown⟩
end Go.Proofs.YtgfmjfpafpmghaaDoor
