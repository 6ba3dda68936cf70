/-
  What other texts lean on: CcRefQuarter, CcRefWord, CcRefSquare, CcRefPlaces, CcRefBlock, CcRefXor, SpoilOwn, AeOwnAt.
-/
import Derived.Test.YtagkkihnfipfeaaDoorPkA
import Derived.Test.YtagkkihnfipfeaaDoorPkC
import Derived.Test.YtagkkihnfipfeaaDoorPkP
import Derived.Test.YtagkkihnfipfeaaDoorPkE
import Derived.StillTailTactics
import Derived.Shelf.RegionOpen
import Derived.BigQuiet
import Derived.Deep.CutRange
/-
  The document's quarter round on a slice of words of the caller's own.
-/
namespace Go.Proofs.YtagkkihnfipfeaaDoor
open Go.RowKit Go.Proofs.ShaWords
attribute [local go_sem] and32 or32 xor32 add32 shl32 shr32

theorem left_q (x : BitVec 32) (n : Int) (w : World) (h1 : 1 ≤ n) (h2 : n ≤ 31) :
    Calls Tryd.prog 59 #[.int .u32 (n32 x), .int .u64 n] w fun e w' => e = .returned (.int .u32 (n32 (rl x n.toNat))) ∧ w' = w :=
  (left_any x n w h1 h2).mono fun _ _ h => ⟨h.1, h.2.symm⟩
theorem OwnW.cell {B g n cap : Nat} {w : World} {l : List (BitVec 32)} (h : OwnW B w l (.slice (some ⟨g, 0, none⟩) n cap)) (k : Nat) (hk : k < l.length) : w.cell? ⟨g, k, none⟩ = some (.int .u32 (n32 (l.getD k 0#32))) := by
  rcases h.2 with ⟨h0, _⟩ | ⟨g', cap', cur, he, hg, hh, hc, hm, hs, ht⟩
  · cases h0
  · cases he
    rw [cell_of_row w g k cur 49 (0, 0) hh]
    have hv : (wordsV l)[k]? = some (.int .u32 (n32 (l.getD k 0#32))) := by simp [wordsV, List.getD, hk]
    rw [← ht, Nat.mul_one, List.getElem?_take, if_pos hk] at hv
    simpa using hv
theorem OwnW.frozen {B g n cap : Nat} {w : World} {l : List (BitVec 32)} (h : OwnW B w l (.slice (some ⟨g, 0, none⟩) n cap)) (k : Nat) : w.frozen? ⟨g, k, none⟩ = false := by
  rcases h.2 with ⟨h0, _⟩ | ⟨g', cap', cur, he, hg, hh, hc, hm, hs, ht⟩
  · cases h0
  · cases he
    exact frozen_of_row _ _ _ _ _ hh
theorem OwnW.at' {B g n cap : Nat} {w : World} {l : List (BitVec 32)} (h : OwnW B w l (.slice (some ⟨g, 0, none⟩) n cap)) : B ≤ g ∧ g < w.heap.size ∧ n = l.length := by
  rcases h.2 with ⟨h0, _⟩ | ⟨g', cap', cur, he, hg, hh, hc, hm, hs, ht⟩
  · cases h0
  · cases he
    exact ⟨hg, (Array.getElem?_eq_some_iff.1 hh).1, rfl⟩
theorem OwnW.put {B g n cap : Nat} {w : World} {l : List (BitVec 32)} (h : OwnW B w l (.slice (some ⟨g, 0, none⟩) n cap)) (k : Nat) (x : BitVec 32) : OwnW B (w.setCell ⟨g, k, none⟩ (.int .u32 (n32 x))) (l.set k x) (.slice (some ⟨g, 0, none⟩) n cap) := by
  rcases h.2 with ⟨h0, _⟩ | ⟨g', cap', cur, he, hg, hh, hc, hm, hs, ht⟩
  · cases h0
  · cases he
    refine ⟨by simp [wordsV], .inr ⟨g, cap, cur.setIfInBounds k (.int .u32 (n32 x)), by rw [List.length_set], hg, heap_setCell_same _ _ _ _ _ _ hh, by rw [List.length_set]; exact hc, hm, by rw [Array.size_setIfInBounds]; exact hs, ?_⟩⟩
    rw [Nat.mul_one] at ht
    rw [List.length_set, Array.toList_setIfInBounds, Nat.mul_one, List.take_set, ht]
    simp [wordsV, List.map_set]
/-- The slice and what was there. -/
structure QW (B g n cp : Nat) (w : World) (m : List (BitVec 32)) (wr : World) : Prop where
  own : OwnW B wr m (.slice (some ⟨g, 0, none⟩) n cp)
  grown : w.grownBy wr (some g)
theorem QW.put {B g n cp : Nat} {w wr : World} {m : List (BitVec 32)} (h : QW B g n cp w m wr) (k : Nat) (x : BitVec 32) : QW B g n cp w (m.set k x) (wr.drew.setCell ⟨g, k, none⟩ (.int .u32 (n32 x))) :=
  ⟨(h.own.below ((Below.refl _ _).drew)).put k x, grown_trans (grown_trans h.grown (grown_drew _ _)) (grown_setCell _ _ _ _)⟩
theorem list_ext32 {a b : List (BitVec 32)} (hl : a.length = b.length) (h : ∀ i, i < a.length → a.getD i 0#32 = b.getD i 0#32) : a = b := by
  apply List.ext_getElem hl
  intro i h1 h2
  have := h i h1
  simpa [List.getD, h1, h2] using this
theorem refQ_eq (m : List (BitVec 32)) (i0 i1 i2 i3 : Nat) (h0 : i0 < m.length) (h1 : i1 < m.length) (h2 : i2 < m.length) (h3 : i3 < m.length) (e01 : i0 ≠ i1) (e02 : i0 ≠ i2) (e03 : i0 ≠ i3) (e12 : i1 ≠ i2) (e13 : i1 ≠ i3) (e23 : i2 ≠ i3)
    (m1 m2 m3 m4 m5 m6 m7 m8 : List (BitVec 32)) (g1 : m1 = m.set i0 (m.getD i0 0#32 + m.getD i1 0#32)) (g2 : m2 = m1.set i3 (rl (m1.getD i3 0#32 ^^^ m1.getD i0 0#32) 16)) (g3 : m3 = m2.set i2 (m2.getD i2 0#32 + m2.getD i3 0#32)) (g4 : m4 = m3.set i1 (rl (m3.getD i1 0#32 ^^^ m3.getD i2 0#32) 12)) (g5 : m5 = m4.set i0 (m4.getD i0 0#32 + m4.getD i1 0#32)) (g6 : m6 = m5.set i3 (rl (m5.getD i3 0#32 ^^^ m5.getD i0 0#32) 8)) (g7 : m7 = m6.set i2 (m6.getD i2 0#32 + m6.getD i3 0#32)) (g8 : m8 = m7.set i1 (rl (m7.getD i1 0#32 ^^^ m7.getD i2 0#32) 7)) : m8 = stepQ m i0 i1 i2 i3 := by
  have l1 : m1.length = m.length := by rw [g1, List.length_set]
  have l2 : m2.length = m.length := by rw [g2, List.length_set, l1]
  have l3 : m3.length = m.length := by rw [g3, List.length_set, l2]
  have l4 : m4.length = m.length := by rw [g4, List.length_set, l3]
  have l5 : m5.length = m.length := by rw [g5, List.length_set, l4]
  have l6 : m6.length = m.length := by rw [g6, List.length_set, l5]
  have l7 : m7.length = m.length := by rw [g7, List.length_set, l6]
  have l8 : m8.length = m.length := by rw [g8, List.length_set, l7]
  have q0 : m.getD i0 0#32 = (fourAt m i0 i1 i2 i3).a := rfl
  have q1 : m.getD i1 0#32 = (fourAt m i0 i1 i2 i3).b := rfl
  have q2 : m.getD i2 0#32 = (fourAt m i0 i1 i2 i3).c := rfl
  have q3 : m.getD i3 0#32 = (fourAt m i0 i1 i2 i3).d := rfl
  rw [stepQ_eq]
  generalize hq : fourAt m i0 i1 i2 i3 = q at q0 q1 q2 q3 ⊢
  have v10 : m1.getD i0 0#32 = qA1 q := by rw [g1, set_getD_self _ _ _ _ (by omega), q0, q1]; rfl
  have v11 : m1.getD i1 0#32 = q.b := by rw [g1, set_getD_other _ _ _ _ _ e01, q1]
  have v12 : m1.getD i2 0#32 = q.c := by rw [g1, set_getD_other _ _ _ _ _ e02, q2]
  have v13 : m1.getD i3 0#32 = q.d := by rw [g1, set_getD_other _ _ _ _ _ e03, q3]
  have v20 : m2.getD i0 0#32 = qA1 q := by rw [g2, set_getD_other _ _ _ _ _ e03.symm, v10]
  have v21 : m2.getD i1 0#32 = q.b := by rw [g2, set_getD_other _ _ _ _ _ e13.symm, v11]
  have v22 : m2.getD i2 0#32 = q.c := by rw [g2, set_getD_other _ _ _ _ _ e23.symm, v12]
  have v23 : m2.getD i3 0#32 = qD1 q := by rw [g2, set_getD_self _ _ _ _ (by omega), v13, v10]; rfl
  have v30 : m3.getD i0 0#32 = qA1 q := by rw [g3, set_getD_other _ _ _ _ _ e02.symm, v20]
  have v31 : m3.getD i1 0#32 = q.b := by rw [g3, set_getD_other _ _ _ _ _ e12.symm, v21]
  have v32 : m3.getD i2 0#32 = qC1 q := by rw [g3, set_getD_self _ _ _ _ (by omega), v22, v23]; rfl
  have v33 : m3.getD i3 0#32 = qD1 q := by rw [g3, set_getD_other _ _ _ _ _ e23, v23]
  have v40 : m4.getD i0 0#32 = qA1 q := by rw [g4, set_getD_other _ _ _ _ _ e01.symm, v30]
  have v41 : m4.getD i1 0#32 = qB1 q := by rw [g4, set_getD_self _ _ _ _ (by omega), v31, v32]; rfl
  have v42 : m4.getD i2 0#32 = qC1 q := by rw [g4, set_getD_other _ _ _ _ _ e12, v32]
  have v43 : m4.getD i3 0#32 = qD1 q := by rw [g4, set_getD_other _ _ _ _ _ e13, v33]
  have v50 : m5.getD i0 0#32 = qA2 q := by rw [g5, set_getD_self _ _ _ _ (by omega), v40, v41]; rfl
  have v51 : m5.getD i1 0#32 = qB1 q := by rw [g5, set_getD_other _ _ _ _ _ e01, v41]
  have v52 : m5.getD i2 0#32 = qC1 q := by rw [g5, set_getD_other _ _ _ _ _ e02, v42]
  have v53 : m5.getD i3 0#32 = qD1 q := by rw [g5, set_getD_other _ _ _ _ _ e03, v43]
  have v60 : m6.getD i0 0#32 = qA2 q := by rw [g6, set_getD_other _ _ _ _ _ e03.symm, v50]
  have v61 : m6.getD i1 0#32 = qB1 q := by rw [g6, set_getD_other _ _ _ _ _ e13.symm, v51]
  have v62 : m6.getD i2 0#32 = qC1 q := by rw [g6, set_getD_other _ _ _ _ _ e23.symm, v52]
  have v63 : m6.getD i3 0#32 = qD2 q := by rw [g6, set_getD_self _ _ _ _ (by omega), v53, v50]; rfl
  have v70 : m7.getD i0 0#32 = qA2 q := by rw [g7, set_getD_other _ _ _ _ _ e02.symm, v60]
  have v71 : m7.getD i1 0#32 = qB1 q := by rw [g7, set_getD_other _ _ _ _ _ e12.symm, v61]
  have v72 : m7.getD i2 0#32 = qC2 q := by rw [g7, set_getD_self _ _ _ _ (by omega), v62, v63]; rfl
  have v73 : m7.getD i3 0#32 = qD2 q := by rw [g7, set_getD_other _ _ _ _ _ e23, v63]
  have v80 : m8.getD i0 0#32 = qA2 q := by rw [g8, set_getD_other _ _ _ _ _ e01.symm, v70]
  have v81 : m8.getD i1 0#32 = qB2 q := by rw [g8, set_getD_self _ _ _ _ (by omega), v71, v72]; rfl
  have v82 : m8.getD i2 0#32 = qC2 q := by rw [g8, set_getD_other _ _ _ _ _ e12, v72]
  have v83 : m8.getD i3 0#32 = qD2 q := by rw [g8, set_getD_other _ _ _ _ _ e13, v73]
  apply list_ext32
  · simp [l8]
  · intro i _
    by_cases c3 : i3 = i
    · subst c3
      rw [v83, set_getD_self _ _ _ _ (by simp only [List.length_set]; exact h3)]
    · rw [set_getD_other _ _ _ _ _ c3]
      by_cases c2 : i2 = i
      · subst c2
        rw [v82, set_getD_self _ _ _ _ (by simp only [List.length_set]; exact h2)]
      · rw [set_getD_other _ _ _ _ _ c2]
        by_cases c1 : i1 = i
        · subst c1
          rw [v81, set_getD_self _ _ _ _ (by simp only [List.length_set]; exact h1)]
        · rw [set_getD_other _ _ _ _ _ c1]
          by_cases c0 : i0 = i
          · subst c0
            rw [v80, set_getD_self _ _ _ _ h0]
          · rw [set_getD_other _ _ _ _ _ c0]
            rw [g8, set_getD_other _ _ _ _ _ c1, g7, set_getD_other _ _ _ _ _ c2, g6, set_getD_other _ _ _ _ _ c3, g5, set_getD_other _ _ _ _ _ c0, g4, set_getD_other _ _ _ _ _ c1, g3, set_getD_other _ _ _ _ _ c2, g2, set_getD_other _ _ _ _ _ c3, g1, set_getD_other _ _ _ _ _ c0]
attribute [local irreducible] rl
set_option maxRecDepth 100000 in
set_option maxHeartbeats 2000000 in
theorem refQuarter_any (m : List (BitVec 32)) (B g n cp i0 i1 i2 i3 : Nat) (w : World) (h0 : i0 < n) (h1 : i1 < n) (h2 : i2 < n) (h3 : i3 < n) (e01 : i0 ≠ i1) (e02 : i0 ≠ i2) (e03 : i0 ≠ i3) (e12 : i1 ≠ i2) (e13 : i1 ≠ i3) (e23 : i2 ≠ i3) (hO : OwnW B w m (.slice (some ⟨g, 0, none⟩) n cp)) :
    Calls Tryd.prog 48 #[.slice (some ⟨g, 0, none⟩) n cp, .int .i64 (i0 : Int), .int .i64 (i1 : Int), .int .i64 (i2 : Int), .int .i64 (i3 : Int)] w fun e w' =>
      e = .returned (.tuple #[]) ∧ OwnW B w' (stepQ m i0 i1 i2 i3) (.slice (some ⟨g, 0, none⟩) n cp) ∧ w.grownBy w' (some g) := by
  have hml := hO.at'.2.2
  have HE := Lib.hid (refQ_eq m i0 i1 i2 i3 (hml ▸ h0) (hml ▸ h1) (hml ▸ h2) (hml ▸ h3) e01 e02 e03 e12 e13 e23)
  have HO := Lib.hid hO; clear hO
  have HML := Lib.hid hml; clear hml e01 e02 e03 e12 e13 e23
  have p0 : (i0 : Int) < (n : Int) := by omega
  have p1 : (i1 : Int) < (n : Int) := by omega
  have p2 : (i2 : Int) < (n : Int) := by omega
  have p3 : (i3 : Int) < (n : Int) := by omega
  go_enter Tryd.func48, Tryd.ntmps48
  go_upto_region 0 with (fail)
  refine wp_gen (fun wr => QW B g n cp w m wr) ⟨HO.out, World.grownBy.refl _ _⟩ ?_
  intro w0 hw0
  have HW0 := Lib.hid hw0; clear hw0 HO
  have HL0 : Hid (m.length = n) := show _ = _ from HML.out.symm
  have cx := HW0.out.own.cell i0 (by rw [HL0.out]; exact h0)
  have cy := HW0.out.own.cell i1 (by rw [HL0.out]; exact h1)
  have fx := HW0.out.own.frozen i0
  go_still_tail 11, (by kernel_rfl)
  change wpList _ _ _ _ _ w0.drew
  go_upto_region 1 with (fail)
  refine wp_gen (fun wr => QW B g n cp w (m.set i0 (m.getD i0 0#32 + m.getD i1 0#32)) wr) (HW0.out.put i0 _) ?_
  intro w1 hw1
  have HW1 := Lib.hid hw1; clear hw1 cx cy fx HW0
  have HL1 : Hid ((m.set i0 (m.getD i0 0#32 + m.getD i1 0#32)).length = n) := show _ = _ by rw [List.length_set]; exact HL0.out
  generalize hm1 : m.set i0 (m.getD i0 0#32 + m.getD i1 0#32) = m1 at HW1 HL1
  have HM1 := Lib.hid hm1; clear hm1
  have cx := HW1.out.own.cell i3 (by rw [HL1.out]; exact h3)
  have cy := HW1.out.own.cell i0 (by rw [HL1.out]; exact h0)
  have fx := HW1.out.own.frozen i3
  refine wp_region_still_tail 12 (by kernel_rfl) (by kernel_rfl) ?_
  simp only [List.take_succ_cons, List.take_zero, List.drop_succ_cons, List.drop_zero]
  iterate 11 still_step
  still_call (left_q _ _ _ (by omega) (by omega))
  refine wpStill_nil ?_
  change wpList _ _ _ _ _ w1.drew
  go_upto_region 2 with (fail)
  refine wp_gen (fun wr => QW B g n cp w (m1.set i3 (rl (m1.getD i3 0#32 ^^^ m1.getD i0 0#32) 16)) wr) (HW1.out.put i3 _) ?_
  intro w2 hw2
  have HW2 := Lib.hid hw2; clear hw2 cx cy fx HW1
  have HL2 : Hid ((m1.set i3 (rl (m1.getD i3 0#32 ^^^ m1.getD i0 0#32) 16)).length = n) := show _ = _ by rw [List.length_set]; exact HL1.out
  generalize hm2 : m1.set i3 (rl (m1.getD i3 0#32 ^^^ m1.getD i0 0#32) 16) = m2 at HW2 HL2
  have HM2 := Lib.hid hm2; clear hm2
  have cx := HW2.out.own.cell i2 (by rw [HL2.out]; exact h2)
  have cy := HW2.out.own.cell i3 (by rw [HL2.out]; exact h3)
  have fx := HW2.out.own.frozen i2
  go_still_tail 11, (by kernel_rfl)
  change wpList _ _ _ _ _ w2.drew
  go_upto_region 3 with (fail)
  refine wp_gen (fun wr => QW B g n cp w (m2.set i2 (m2.getD i2 0#32 + m2.getD i3 0#32)) wr) (HW2.out.put i2 _) ?_
  intro w3 hw3
  have HW3 := Lib.hid hw3; clear hw3 cx cy fx HW2
  have HL3 : Hid ((m2.set i2 (m2.getD i2 0#32 + m2.getD i3 0#32)).length = n) := show _ = _ by rw [List.length_set]; exact HL2.out
  generalize hm3 : m2.set i2 (m2.getD i2 0#32 + m2.getD i3 0#32) = m3 at HW3 HL3
  have HM3 := Lib.hid hm3; clear hm3
  have cx := HW3.out.own.cell i1 (by rw [HL3.out]; exact h1)
  have cy := HW3.out.own.cell i2 (by rw [HL3.out]; exact h2)
  have fx := HW3.out.own.frozen i1
  refine wp_region_still_tail 12 (by kernel_rfl) (by kernel_rfl) ?_
  simp only [List.take_succ_cons, List.take_zero, List.drop_succ_cons, List.drop_zero]
  iterate 11 still_step
  still_call (left_q _ _ _ (by omega) (by omega))
  refine wpStill_nil ?_
  change wpList _ _ _ _ _ w3.drew
  go_upto_region 4 with (fail)
  refine wp_gen (fun wr => QW B g n cp w (m3.set i1 (rl (m3.getD i1 0#32 ^^^ m3.getD i2 0#32) 12)) wr) (HW3.out.put i1 _) ?_
  intro w4 hw4
  have HW4 := Lib.hid hw4; clear hw4 cx cy fx HW3
  have HL4 : Hid ((m3.set i1 (rl (m3.getD i1 0#32 ^^^ m3.getD i2 0#32) 12)).length = n) := show _ = _ by rw [List.length_set]; exact HL3.out
  generalize hm4 : m3.set i1 (rl (m3.getD i1 0#32 ^^^ m3.getD i2 0#32) 12) = m4 at HW4 HL4
  have HM4 := Lib.hid hm4; clear hm4
  have cx := HW4.out.own.cell i0 (by rw [HL4.out]; exact h0)
  have cy := HW4.out.own.cell i1 (by rw [HL4.out]; exact h1)
  have fx := HW4.out.own.frozen i0
  go_still_tail 11, (by kernel_rfl)
  change wpList _ _ _ _ _ w4.drew
  go_upto_region 5 with (fail)
  refine wp_gen (fun wr => QW B g n cp w (m4.set i0 (m4.getD i0 0#32 + m4.getD i1 0#32)) wr) (HW4.out.put i0 _) ?_
  intro w5 hw5
  have HW5 := Lib.hid hw5; clear hw5 cx cy fx HW4
  have HL5 : Hid ((m4.set i0 (m4.getD i0 0#32 + m4.getD i1 0#32)).length = n) := show _ = _ by rw [List.length_set]; exact HL4.out
  generalize hm5 : m4.set i0 (m4.getD i0 0#32 + m4.getD i1 0#32) = m5 at HW5 HL5
  have HM5 := Lib.hid hm5; clear hm5
  have cx := HW5.out.own.cell i3 (by rw [HL5.out]; exact h3)
  have cy := HW5.out.own.cell i0 (by rw [HL5.out]; exact h0)
  have fx := HW5.out.own.frozen i3
  refine wp_region_still_tail 12 (by kernel_rfl) (by kernel_rfl) ?_
  simp only [List.take_succ_cons, List.take_zero, List.drop_succ_cons, List.drop_zero]
  iterate 11 still_step
  still_call (left_q _ _ _ (by omega) (by omega))
  refine wpStill_nil ?_
  change wpList _ _ _ _ _ w5.drew
  go_upto_region 6 with (fail)
  refine wp_gen (fun wr => QW B g n cp w (m5.set i3 (rl (m5.getD i3 0#32 ^^^ m5.getD i0 0#32) 8)) wr) (HW5.out.put i3 _) ?_
  intro w6 hw6
  have HW6 := Lib.hid hw6; clear hw6 cx cy fx HW5
  have HL6 : Hid ((m5.set i3 (rl (m5.getD i3 0#32 ^^^ m5.getD i0 0#32) 8)).length = n) := show _ = _ by rw [List.length_set]; exact HL5.out
  generalize hm6 : m5.set i3 (rl (m5.getD i3 0#32 ^^^ m5.getD i0 0#32) 8) = m6 at HW6 HL6
  have HM6 := Lib.hid hm6; clear hm6
  have cx := HW6.out.own.cell i2 (by rw [HL6.out]; exact h2)
  have cy := HW6.out.own.cell i3 (by rw [HL6.out]; exact h3)
  have fx := HW6.out.own.frozen i2
  go_still_tail 11, (by kernel_rfl)
  change wpList _ _ _ _ _ w6.drew
  go_upto_region 7 with (fail)
  refine wp_gen (fun wr => QW B g n cp w (m6.set i2 (m6.getD i2 0#32 + m6.getD i3 0#32)) wr) (HW6.out.put i2 _) ?_
  intro w7 hw7
  have HW7 := Lib.hid hw7; clear hw7 cx cy fx HW6
  have HL7 : Hid ((m6.set i2 (m6.getD i2 0#32 + m6.getD i3 0#32)).length = n) := show _ = _ by rw [List.length_set]; exact HL6.out
  generalize hm7 : m6.set i2 (m6.getD i2 0#32 + m6.getD i3 0#32) = m7 at HW7 HL7
  have HM7 := Lib.hid hm7; clear hm7
  have cx := HW7.out.own.cell i1 (by rw [HL7.out]; exact h1)
  have cy := HW7.out.own.cell i2 (by rw [HL7.out]; exact h2)
  have fx := HW7.out.own.frozen i1
  refine wp_region_still_tail 12 (by kernel_rfl) (by kernel_rfl) ?_
  simp only [List.take_succ_cons, List.take_zero, List.drop_succ_cons, List.drop_zero]
  iterate 11 still_step
  still_call (left_q _ _ _ (by omega) (by omega))
  refine wpStill_nil ?_
  change wpList _ _ _ _ _ w7.drew
  go_wp2_with fail
  go_end0
  have HF := Lib.hid (HW7.out.put i1 (rl (m7.getD i1 0#32 ^^^ m7.getD i2 0#32) 7))
  rw [HE.out m1 m2 m3 m4 m5 m6 m7 _ HM1.out.symm HM2.out.symm HM3.out.symm HM4.out.symm HM5.out.symm HM6.out.symm HM7.out.symm rfl] at HF
  exact ⟨rfl, HF.out.own, HF.out.grown⟩
end Go.Proofs.YtagkkihnfipfeaaDoor

/-
  The document's word of four bytes; a word appended; words of bytes one behind the other.
-/
namespace Go.Proofs.YtagkkihnfipfeaaDoor
open Go.RowKit Go.Proofs.ShaWords
attribute [local go_sem] and32 or32 xor32 add32 shl32 shr32 wrap32_n8 wrap8_n32 shl32_8 shl32_16 shl32_24

theorem four_or (x y z t : BitVec 32) (h : t + z + y + x = (t ||| z ||| y ||| x)) : x + y + z + t = x ||| y ||| z ||| t := by
  rw [show x + y + z + t = t + z + y + x by ac_rfl, h]; ac_rfl
theorem le_sum (a b c d : BitVec 8) : ext a + ext b <<< 8 + ext c <<< 16 + ext d <<< 24 = ext a ||| ext b <<< 8 ||| ext c <<< 16 ||| ext d <<< 24 := four_or _ _ _ _ (word_sum d c b a)
theorem ext_nat (x : BitVec 8) : (ext x).toNat = x.toNat := by
  unfold ext; rw [BitVec.toNat_setWidth]; have := x.isLt; omega
theorem lo8_nat (x : BitVec 32) : (lo8 x).toNat = x.toNat % 256 := by unfold lo8; rw [BitVec.toNat_setWidth]
theorem ext_shl_nat (x : BitVec 8) (k : Nat) (hk : k ≤ 24) : (ext x <<< k).toNat = x.toNat * 2 ^ k := by
  rw [BitVec.toNat_shiftLeft, ext_nat, Nat.shiftLeft_eq]
  have h1 : x.toNat * 2 ^ k < 2 ^ 32 := by
    have h2 : 2 ^ k ≤ 2 ^ 24 := Nat.pow_le_pow_right (by omega) hk
    have h3 := x.isLt
    calc x.toNat * 2 ^ k ≤ 255 * 2 ^ 24 := Nat.mul_le_mul (by omega) h2
      _ < 2 ^ 32 := by decide
  exact Nat.mod_eq_of_lt h1
theorem leWord_bytes (c : BitVec 32) : leWord (leBytes c) 0 = c := by
  show (ext (lo8 c) ||| ext (lo8 (c >>> 8)) <<< 8 ||| ext (lo8 (c >>> 16)) <<< 16 ||| ext (lo8 (c >>> 24)) <<< 24) = c
  rw [← le_sum]
  apply BitVec.eq_of_toNat_eq
  rw [BitVec.toNat_add, BitVec.toNat_add, BitVec.toNat_add, ext_shl_nat _ 8 (by omega), ext_shl_nat _ 16 (by omega), ext_shl_nat _ 24 (by omega), ext_nat, lo8_nat, lo8_nat, lo8_nat, lo8_nat, BitVec.toNat_ushiftRight, BitVec.toNat_ushiftRight, BitVec.toNat_ushiftRight,
    Nat.shiftRight_eq_div_pow, Nat.shiftRight_eq_div_pow, Nat.shiftRight_eq_div_pow]
  have := c.isLt
  omega
theorem getD_append_left8 (A B : List (BitVec 8)) (i : Nat) (h : i < A.length) : (A ++ B).getD i 0#8 = A.getD i 0#8 := by simp [List.getD, List.getElem?_append_left h]
theorem getD_append_right8 (A B : List (BitVec 8)) (i : Nat) : (A ++ B).getD (A.length + i) 0#8 = B.getD i 0#8 := by
  unfold List.getD
  rw [List.getElem?_append_right (by omega), Nat.add_sub_cancel_left]
theorem leWord_left (A B : List (BitVec 8)) (t : Nat) (h : 4 * t + 3 < A.length) : leWord (A ++ B) t = leWord A t := by
  rw [leWord_eq, leWord_eq, getD_append_left8 _ _ _ (by omega), getD_append_left8 _ _ _ (by omega), getD_append_left8 _ _ _ (by omega), getD_append_left8 _ _ _ h]
theorem leWord_right (A B : List (BitVec 8)) (m t : Nat) (h : A.length = 4 * m) : leWord (A ++ B) (m + t) = leWord B t := by
  rw [leWord_eq, leWord_eq, show 4 * (m + t) = A.length + 4 * t by omega, Nat.add_assoc A.length, Nat.add_assoc A.length, Nat.add_assoc A.length, getD_append_right8, getD_append_right8, getD_append_right8, getD_append_right8]
theorem leWords_append (A B : List (BitVec 8)) (m n : Nat) (h : A.length = 4 * m) : leWords (A ++ B) (m + n) = leWords A m ++ leWords B n := by
  unfold leWords
  rw [List.range_add, List.map_append, List.map_map]
  congr 1
  · apply List.map_congr_left
    intro t ht
    exact leWord_left _ _ _ (by have := List.mem_range.1 ht; omega)
  · apply List.map_congr_left
    intro t _
    exact leWord_right _ _ _ _ h
/-- The words of the whole row of bytes are the square. -/
theorem square_all (key nonce : List (BitVec 8)) (c : BitVec 32) (hk : key.length = 32) : leWords (labelB ++ key ++ leBytes c ++ nonce) 16 = squareOf key c nonce := by
  rw [List.append_assoc, List.append_assoc, show 16 = 4 + (8 + (1 + 3)) from rfl, leWords_append labelB _ 4 _ rfl, leWords_append key _ 8 _ hk, leWords_append (leBytes c) _ 1 _ rfl]
  unfold squareOf
  rw [show leWords (leBytes c) 1 = [c] by unfold leWords; simp [List.range_succ, leWord_bytes]]
  rfl
set_option maxRecDepth 100000 in
set_option maxHeartbeats 1000000 in
theorem word3_any (b0 b1 b2 b3 : BitVec 8) (b off cp : Nat) (w : World) (c0 : w.cell? ⟨b, off, none⟩ = some (.int .u8 (n8 b0))) (c1 : w.cell? ⟨b, off + 1, none⟩ = some (.int .u8 (n8 b1))) (c2 : w.cell? ⟨b, off + 2, none⟩ = some (.int .u8 (n8 b2))) (c3 : w.cell? ⟨b, off + 3, none⟩ = some (.int .u8 (n8 b3))) :
    Calls Tryd.prog 58 #[.slice (some ⟨b, off, none⟩) 4 cp] w fun e w' => e = .returned (.int .u32 (n32 (ext b0 ||| ext b1 <<< 8 ||| ext b2 <<< 16 ||| ext b3 <<< 24))) ∧ Below w.heap.size w w' := by
  go_enter Tryd.func58, Tryd.ntmps58
  go_wp2_with fail
  go_quiet (fail)
  go_wp2_with fail
  go_ret
  refine ⟨?_, ⟨rfl, rfl, rfl, Nat.le_refl _, fun _ _ => rfl⟩⟩
  rw [← le_sum]
  rfl
/-- One word more, behind a slice of words of the call's own. -/
theorem append_word_step {ops : Array Oper} {rest : List Oper} {o : Oper} {a : Act} {w : World} {Q : Exit → Act → World → Prop} (hgd : o.guard = none) (s x : Operand)
    (ho : o.op = .call { callee := .builtin .append, args := #[s, x], argTypes := #[77, 77] }) (B : Nat) (v : Value) (l : List (BitVec 32)) (b : BitVec 32) (hs : a.eval s = v) (hown : OwnW B w l v) (hx : a.eval x = .slice (some ⟨w.heap.size, 0, none⟩) 1 1)
    (hl : l.length < 1099511627776) (hB : B ≤ w.heap.size)
    (h : ∀ v' w', OwnW B w' (l ++ [b]) v' → Below B w w' → wpList Tryd.prog ops Q rest (a.put o.dst v') w') : wpList Tryd.prog ops Q (o :: rest) a (w.alloc (.cells #[.int .u32 (n32 b)] 49)) := by
  obtain ⟨i, hi, hz, hsz, hby⟩ := info_parts info41
  refine wpList_append_own (w := w.alloc (.cells #[.int .u32 (n32 b)] 49)) hgd s x 77 ho B 49 i (.int .u32 0) 1 4 Tryd.underlying77 hi hz hsz hby rfl (by decide) v l.length (wordsV l) hs (World.ownsRow.alloc hown _) ⟨w.heap.size, 0, none⟩ 1 1 [.int .u32 (n32 b)] hx rfl ?_ ?_ (by unfold maxLen; omega) (by omega) (by rw [size_alloc]; omega) ?_
  · intro j u hu
    have hj : j = 0 := by have := (List.getElem?_eq_some_iff.1 hu).1; simp at this; exact this
    subst hj
    rw [Addr.add_mid, cell_of_row _ _ _ _ _ _ (heap_new_at rfl)]
    simpa using hu
  · intro u hu
    rw [List.mem_singleton.1 hu]; rfl
  · intro v' w' ho' hg _
    refine h v' w' ?_ ?_
    · unfold OwnW
      rw [List.length_append, wordsV_append]; exact ho'
    · refine ((Below.refl B w).alloc hB _).grown hg (by rw [size_alloc]; omega) (fun k hk => ?_)
      exact (World.ownsRow.lt hown k hk).1
end Go.Proofs.YtagkkihnfipfeaaDoor

/-
  The document's square: the sixteen words of a key, a counter and a nonce, in new memory.
-/
namespace Go.Proofs.YtagkkihnfipfeaaDoor
open Go.RowKit Go.Proofs.ShaWords
attribute [local go_sem] and32 or32 xor32 add32 shl32 shr32 wrap32_n8 wrap8_n32

theorem rem256 (x : BitVec 32) : IntKind.u8.wrap ((n32 x).tmod 256) = n8 (lo8 x) := by
  unfold n8 n32
  rw [Int.tmod_eq_emod_of_nonneg (by omega), IntKind.wrap_u8', lo8_nat]; omega
theorem quo256 (x : BitVec 32) : IntKind.u32.wrap ((n32 x).tdiv 256) = n32 (x >>> 8) := by
  unfold n32
  rw [Int.tdiv_eq_ediv_of_nonneg (by omega), IntKind.wrap_u32', BitVec.toNat_ushiftRight, Nat.shiftRight_eq_div_pow]; have := x.isLt; omega
theorem take_le_succ (c : BitVec 32) (k : Nat) (hk : k < 4) : (leBytes c).take (k + 1) = (leBytes c).take k ++ [lo8 (c >>> (8 * k))] := by
  rcases k with _ | _ | _ | _ | k
  · rfl
  · rfl
  · rfl
  · rfl
  · omega
theorem take_getD8 (l : List (BitVec 8)) (k : Nat) (hk : k < l.length) : l.take (k + 1) = l.take k ++ [l.getD k 0#8] := by
  rw [List.take_succ_eq_append_getElem hk]; simp [List.getD, hk]
theorem OwnW.base {B B' : Nat} {w : World} {l : List (BitVec 32)} {v : Value} (h : OwnW B w l v) (hb : B' ≤ B) : OwnW B' w l v :=
  ⟨h.1, h.2.imp id (fun ⟨g, cap, cur, a, b, r⟩ => ⟨g, cap, cur, a, Nat.le_trans hb b, r⟩)⟩
theorem strCells_label : Go.Lib.strCells { data := #[101, 120, 112, 97, 110, 100, 32, 51, 50, 45, 98, 121, 116, 101, 32, 107] } = bytesV labelB := by unfold labelB; rfl
/-- Where the square stands: its boxes, the bytes so far. -/
structure SqW (w : World) (key nonce : List (BitVec 8)) (B : Nat) (l : List (BitVec 8)) (v : Value) (wr : World) : Prop where
  two : TwoW w key nonce wr
  own : Own B wr l v
  le : B ≤ wr.heap.size
  hB : w.heap.size + 1 < B
theorem SqW.on {w wr w' : World} {key nonce : List (BitVec 8)} {B : Nat} {l l' : List (BitVec 8)} {v v' : Value} (h : SqW w key nonce B l v wr) (ho : Own B w' l' v') (hb : Below B wr w') : SqW w key nonce B l' v' w' :=
  ⟨⟨(hb.block _ (by have := h.hB; omega)).trans h.two.key, (hb.block _ h.hB).trans h.two.nonce, h.two.below.trans (hb.mono (by have := h.hB; omega))⟩, ho, Nat.le_trans h.le hb.size, h.hB⟩
attribute [local irreducible] labelB leBytes leWords
set_option maxRecDepth 100000 in
set_option maxHeartbeats 2000000 in
theorem refSquare_any (key nonce : List (BitVec 8)) (c : BitVec 32) (w : World) (hk : key.length = 32) (hn : nonce.length = 12) :
    Calls Tryd.prog 46 #[.agg (bytesV key).toArray, .int .u32 (n32 c), .agg (bytesV nonce).toArray] w
      fun e w' => ∃ v, e = .returned v ∧ OwnW w.heap.size w' (squareOf key c nonce) v ∧ Below w.heap.size w w' := by
  have HKL := Lib.hid hk; clear hk
  have HNL := Lib.hid hn; clear hn
  have HLL : Hid (labelB.length = 16) := show _ = _ by unfold labelB; rfl
  have HCL : Hid ((leBytes c).length = 4) := show _ = _ by unfold leBytes; rfl
  have HSQ := Lib.hid (square_all key nonce c HKL.out)
  obtain ⟨i5, hi5, hz5, hs5, hb5⟩ := info5'
  have HI5 := Lib.hid hi5; have HZ5 := Lib.hid hz5; have HS5 := Lib.hid hs5; have HB5 := Lib.hid hb5
  clear hi5 hz5 hs5 hb5
  go_enter Tryd.func46, Tryd.ntmps46
  go_upto_region 2 with (fail)
  refine wp_gen (TwoW w key nonce) (two_start w key nonce) ?_
  intro w0 hw0
  have HW0 := Lib.hid hw0; clear hw0
  have hB0 : w.heap.size + 1 < w0.heap.size := HW0.out.nonce.size
  go_upto_region 4 with (at_builtin; refine Go.Lib.wpList_append_own_string (P := Tryd.prog) w0 rfl (.tmp 14) _ 26 9 rfl w0.heap.size 5 i5 Tryd.underlying26 Tryd.underlying9 HI5.out HZ5.out HS5.out HB5.out (.slice none 0 0) 0 [] rfl (World.ownsRow_nil w0 w0.heap.size 5 1) _ rfl (by decide) (by decide) (Nat.le_refl _) ?_; intro v1 w1 ho1 hg1 hx1; clear hx1; have HO1 : Hid (Own w0.heap.size w1 labelB v1) := (show World.ownsRow _ _ _ _ _ _ _ by rw [strCells_label, List.nil_append] at ho1; rw [HLL.out]; exact ho1); have HB1 : Hid (Below w0.heap.size w0 w1) := (Below.refl w0.heap.size w0).grown hg1 (Nat.le_refl _) (fun k hk => by cases hk); clear ho1 hg1)
  have HQ1 : Hid (SqW w key nonce w0.heap.size labelB v1 w1) := show SqW _ _ _ _ _ _ _ from ⟨HW0.out.on HB1.out, HO1.out, HB1.out.size, hB0⟩
  clear HO1 HB1 HW0 HI5 HZ5 HS5 HB5
  generalize w0.heap.size = B at HQ1 hB0
  go_loopw [7, 8] (fun v i wr => ∃ k : Nat, k ≤ 32 ∧ i = .int .i64 k ∧ SqW w key nonce B (labelB ++ key.take k) v wr) (fun _ i _ => 32 - (intOf i).toNat)
  case atStart => exact ⟨0, by omega, rfl, by rw [List.take_zero, List.append_nil]; exact HQ1.out⟩
  case round =>
    clear HQ1
    obtain ⟨k, hk, rfl, hq⟩ := hrel
    by_cases hlt : k < 32
    · have hc := hq.two.key.cell k (by rw [HKL.out]; exact hlt)
      have HTK := Lib.hid (take_getD8 key k (by rw [HKL.out]; exact hlt))
      have HL : Hid ((labelB ++ key.take k).length < 1099511627776) := show _ < _ by rw [List.length_append, List.length_take, HLL.out]; omega
      generalize key.getD k 0#8 = x at hc HTK
      have HQ := Lib.hid hq; clear hq
      have hlB := HQ.out.le
      have p0 : (k : Int) < 32 := by omega
      go_wp2_with (at_builtin; refine wpList_append_byte rfl (.tmp 20) (.tmp 24) rfl B _ (labelB ++ key.take k) x rfl HQ.out.own rfl HL.out hlB ?_; intro v' w' ho' hb'; rw [List.append_assoc, ← HTK.out] at ho'; have HO' := Lib.hid ho'; have HB' := Lib.hid hb'; clear ho' hb')
      go_roundw
      case rel => exact ⟨k + 1, by omega, by go_num, HQ.out.on HO'.out HB'.out⟩
      case measure => simp [intOf]; omega
    · have HQ2 : Hid (SqW w key nonce B (labelB ++ key) u7 wr) := show SqW _ _ _ _ _ _ _ by
        rw [List.take_of_length_le (by rw [HKL.out]; omega)] at hq; exact hq
      have p0 : ¬ (k : Int) < 32 := by omega
      clear hq
      go_wp2_with fail
      clear p0 hlt hk hB0
      rename World => w2
      have hs0 : c >>> (8 * 0) = c := by simp
      go_loopw [7, 9, 10] (fun v x i wr => ∃ k : Nat, k ≤ 4 ∧ i = .int .i64 k ∧ x = .int .u32 (n32 (c >>> (8 * k))) ∧ SqW w key nonce B (labelB ++ key ++ (leBytes c).take k) v wr) (fun _ _ i _ => 4 - (intOf i).toNat)
      case atStart => exact ⟨0, by omega, rfl, by rw [hs0], by rw [List.take_zero, List.append_nil]; exact HQ2.out⟩
      case round =>
        clear HQ2 hs0
        obtain ⟨k, hk, rfl, rfl, hq⟩ := hrel
        have hlB := hq.le
        have HQ := Lib.hid hq; clear hq
        by_cases hlt : k < 4
        · have p0 : (k : Int) < 4 := by omega
          have HTK := Lib.hid (take_le_succ c k hlt)
          have HSH : Hid (c >>> (8 * (k + 1)) = (c >>> (8 * k)) >>> 8) := show _ = _ by rw [← BitVec.shiftRight_add]; rfl
          have HL : Hid ((labelB ++ key ++ (leBytes c).take k).length < 1099511627776) := show _ < _ by rw [List.length_append, List.length_append, List.length_take, HLL.out, HKL.out]; omega
          generalize c >>> (8 * k) = y at HTK HSH ⊢
          have r1 := rem256 y
          have r2 := quo256 y
          go_wp2_with (at_builtin; refine wpList_append_byte rfl (.tmp 31) (.tmp 35) rfl B _ (labelB ++ key ++ (leBytes c).take k) (lo8 y) rfl HQ.out.own rfl HL.out hlB ?_; intro v' w' ho' hb'; rw [List.append_assoc, ← HTK.out] at ho'; have HO' := Lib.hid ho'; have HB' := Lib.hid hb'; clear ho' hb')
          go_roundw
          case rel => exact ⟨k + 1, by omega, by go_num, by rw [HSH.out], HQ.out.on HO'.out HB'.out⟩
          case measure => simp [intOf]; omega
        · have HQ3 : Hid (SqW w key nonce B (labelB ++ key ++ leBytes c) u7 wr) := show SqW _ _ _ _ _ _ _ by
            have hq := HQ.out
            rw [List.take_of_length_le (by rw [HCL.out]; omega)] at hq; exact hq
          have p0 : ¬ (k : Int) < 4 := by omega
          clear HQ hlB
          generalize c >>> (8 * k) = y
          go_wp2_with fail
          clear p0 hlt hk
          have HLA : Hid ((labelB ++ key ++ leBytes c).length = 52) := show _ = _ by rw [List.length_append, List.length_append, HLL.out, HKL.out, HCL.out]
          generalize labelB ++ key ++ leBytes c = A at HQ3 HLA HSQ
          rename World => w3
          go_loopw [7, 11] (fun v i wr => ∃ k : Nat, k ≤ 12 ∧ i = .int .i64 k ∧ SqW w key nonce B (A ++ nonce.take k) v wr) (fun _ i _ => 12 - (intOf i).toNat)
          case atStart => exact ⟨0, by omega, rfl, by rw [List.take_zero, List.append_nil]; exact HQ3.out⟩
          case round =>
            clear HQ3
            obtain ⟨k, hk, rfl, hq⟩ := hrel
            by_cases hlt : k < 12
            · have hc := hq.two.nonce.cell k (by rw [HNL.out]; exact hlt)
              have HTK := Lib.hid (take_getD8 nonce k (by rw [HNL.out]; exact hlt))
              have HL : Hid ((A ++ nonce.take k).length < 1099511627776) := show _ < _ by rw [List.length_append, List.length_take, HLA.out]; omega
              generalize nonce.getD k 0#8 = x at hc HTK
              have HQ := Lib.hid hq; clear hq
              have hlB := HQ.out.le
              have p0 : (k : Int) < 12 := by omega
              go_wp2_with (at_builtin; refine wpList_append_byte rfl (.tmp 43) (.tmp 47) rfl B _ (A ++ nonce.take k) x rfl HQ.out.own rfl HL.out hlB ?_; intro v' w' ho' hb'; rw [List.append_assoc, ← HTK.out] at ho'; have HO' := Lib.hid ho'; have HB' := Lib.hid hb'; clear ho' hb')
              go_roundw
              case rel => exact ⟨k + 1, by omega, by go_num, HQ.out.on HO'.out HB'.out⟩
              case measure => simp [intOf]; omega
            · have hq4 : SqW w key nonce B (A ++ nonce) u7 wr := by
                rw [List.take_of_length_le (by rw [HNL.out]; omega)] at hq; exact hq
              have p0 : ¬ (k : Int) < 12 := by omega
              clear hq
              have HLT : Hid ((A ++ nonce).length = 64) := show _ = _ by rw [List.length_append, HLA.out, HNL.out]
              generalize A ++ nonce = T at hq4 HLT HSQ
              obtain ⟨G, cp, rfl, hBG, hGs, hcp, -, hcell, -⟩ := hq4.own.form8 (by rw [HLT.out]; omega)
              rw [HLT.out] at hcp hcell ⊢
              have HB4 := Lib.hid hq4.two.below
              have hsz4 := hq4.two.below.size
              clear hq4
              go_wp2_with fail
              clear p0 hlt hk
              rename World => w4
              have HCE := Lib.hid hcell; clear hcell
              go_loopw [12, 13] (fun v i wr => ∃ k : Nat, k ≤ 16 ∧ i = .int .i64 (4 * (k : Int)) ∧ OwnW w4.heap.size wr (leWords T k) v ∧ Below w4.heap.size w4 wr) (fun _ i _ => 64 - (intOf i).toNat)
              case atStart => exact ⟨0, by omega, rfl, by (unfold leWords; exact OwnW.nil _ _), Below.refl _ _⟩
              case round =>
                obtain ⟨k, hk, rfl, ho, hb⟩ := hrel
                have sz := hb.size
                by_cases hlt : k < 16
                · have c0 := (hb.cell (p := ⟨G, 4 * k, none⟩) hGs).trans (HCE.out (4 * k) (by omega))
                  have c1 := (hb.cell (p := ⟨G, 4 * k + 1, none⟩) hGs).trans (HCE.out (4 * k + 1) (by omega))
                  have c2 := (hb.cell (p := ⟨G, 4 * k + 2, none⟩) hGs).trans (HCE.out (4 * k + 2) (by omega))
                  have c3 := (hb.cell (p := ⟨G, 4 * k + 3, none⟩) hGs).trans (HCE.out (4 * k + 3) (by omega))
                  have HS := Lib.hid (leWords_succ T k)
                  rw [leWord_eq] at HS
                  have HLK : Hid ((leWords T k).length < 1099511627776) := show _ < _ by rw [leWords_length]; omega
                  have HO := Lib.hid ho; clear ho
                  have HB := Lib.hid hb; clear hb
                  generalize T.getD (4 * k) 0#8 = b0 at c0 HS
                  generalize T.getD (4 * k + 1) 0#8 = b1 at c1 HS
                  generalize T.getD (4 * k + 2) 0#8 = b2 at c2 HS
                  generalize T.getD (4 * k + 3) 0#8 = b3 at c3 HS
                  have l0 : 4 * (k : Int) < 64 := by omega
                  have m0 : IntKind.i64.wrap (4 * (k : Int) + 4) = 4 * (k : Int) + 4 := IntWalk.i64_in _ (by omega)
                  have p0 : (0 : Int) ≤ 4 * (k : Int) := by omega
                  have p1 : (0 : Int) ≤ 4 * (k : Int) + 4 := by omega
                  have p2 : 4 * (k : Int) + 4 ≤ (cp : Int) := by omega
                  have n0 : (4 * (k : Int)).toNat = 4 * k := by omega
                  have n1 : (4 * (k : Int) + 4).toNat = 4 * k + 4 := by omega
                  go_wp2_with fail
                  refine (word3_any b0 b1 b2 b3 G (4 * k) _ wr c0 c1 c2 c3).mono ?_
                  rintro e w5 ⟨rfl, hb5⟩
                  have HO5 := Lib.hid (HO.out.below hb5)
                  have HB5 := Lib.hid (HB.out.trans (hb5.mono sz))
                  have sz5 := HB5.out.size
                  clear hb5 HO HB c0 c1 c2 c3
                  generalize ext b0 ||| ext b1 <<< 8 ||| ext b2 <<< 16 ||| ext b3 <<< 24 = x at HS ⊢
                  go_wp2_with (at_builtin; refine append_word_step rfl (.tmp 55) (.tmp 62) rfl w4.heap.size _ (leWords T k) x rfl HO5.out rfl HLK.out sz5 ?_; intro v' w' ho' hb'; rw [← HS.out] at ho'; have HO' := Lib.hid ho'; have HB' := Lib.hid (HB5.out.trans hb'); clear ho' hb')
                  go_roundw
                  case rel => exact ⟨k + 1, by omega, by go_num, HO'.out, HB'.out⟩
                  case measure => simp [intOf]; omega
                · have HO : Hid (OwnW w4.heap.size wr (squareOf key c nonce) u12) := show OwnW _ _ _ _ by
                    rw [← HSQ.out, show 16 = k by omega]; exact ho
                  have HB := Lib.hid hb; clear hb ho
                  have p0 : ¬ 4 * (k : Int) < 64 := by omega
                  go_wp2_with fail
                  go_ret
                  exact ⟨_, rfl, HO.out.base hsz4, HB4.out.trans (HB.out.mono hsz4)⟩
end Go.Proofs.YtagkkihnfipfeaaDoor

/-
  The document's table of places, in new memory.
-/
namespace Go.Proofs.YtagkkihnfipfeaaDoor
open Go.RowKit Go.Proofs.ShaWords

/-- One row of the table. -/
def placeV (k : Nat) : Array Value := #[.int .i64 (qi k 0 : Nat), .int .i64 (qi k 1 : Nat), .int .i64 (qi k 2 : Nat), .int .i64 (qi k 3 : Nat)]
/-- The table, laid in nine blocks from H on. -/
structure PlacesAt (H : Nat) (w : World) : Prop where
  top : w.heap[H + 8]? = some (.cells #[.slice (some ⟨H, 0, none⟩) 4 4, .slice (some ⟨H + 1, 0, none⟩) 4 4, .slice (some ⟨H + 2, 0, none⟩) 4 4, .slice (some ⟨H + 3, 0, none⟩) 4 4, .slice (some ⟨H + 4, 0, none⟩) 4 4, .slice (some ⟨H + 5, 0, none⟩) 4 4, .slice (some ⟨H + 6, 0, none⟩) 4 4, .slice (some ⟨H + 7, 0, none⟩) 4 4] 82 (0, 0))
  rows : ∀ k, k < 8 → w.heap[H + k]? = some (.cells (placeV k) 3 (0, 0))
theorem PlacesAt.size {H : Nat} {w : World} (h : PlacesAt H w) : H + 8 < w.heap.size := (Array.getElem?_eq_some_iff.1 h.top).1
theorem PlacesAt.cell {H : Nat} {w : World} (h : PlacesAt H w) (k : Nat) (hk : k < 8) : w.cell? ⟨H + 8, k, none⟩ = some (.slice (some ⟨H + k, 0, none⟩) 4 4) := by
  rw [cell_of_row w (H + 8) k _ _ _ h.top]
  rcases k with _ | _ | _ | _ | _ | _ | _ | _ | k
  iterate 8 rfl
  omega
theorem PlacesAt.row {H : Nat} {w : World} (h : PlacesAt H w) (k : Nat) (hk : k < 8) : w.cell? ⟨H + k, 0, none⟩ = some (.int .i64 (qi k 0 : Nat)) ∧ w.cell? ⟨H + k, 1, none⟩ = some (.int .i64 (qi k 1 : Nat)) ∧ w.cell? ⟨H + k, 2, none⟩ = some (.int .i64 (qi k 2 : Nat)) ∧ w.cell? ⟨H + k, 3, none⟩ = some (.int .i64 (qi k 3 : Nat)) := by
  have hr := h.rows k hk
  exact ⟨by rw [cell_of_row w _ 0 _ _ _ hr]; rfl, by rw [cell_of_row w _ 1 _ _ _ hr]; rfl, by rw [cell_of_row w _ 2 _ _ _ hr]; rfl, by rw [cell_of_row w _ 3 _ _ _ hr]; rfl⟩
theorem PlacesAt.grown {H g : Nat} {w w' : World} (h : PlacesAt H w) (hg : w.grownBy w' (some g)) (hne : g < H) : PlacesAt H w' :=
  ⟨(hg.block _ h.size (fun e => by have := Option.some.inj e; omega)).trans h.top, fun k hk => (hg.block _ (by have := h.size; omega) (fun e => by have := Option.some.inj e; omega)).trans (h.rows k hk)⟩
theorem PlacesAt.on {H : Nat} {w w' : World} (h : PlacesAt H w) (hb : Below w.heap.size w w') : PlacesAt H w' :=
  ⟨(hb.block _ h.size).trans h.top, fun k hk => (hb.block _ (by have := h.size; omega)).trans (h.rows k hk)⟩
theorem qi_apart (k : Nat) (hk : k < 8) : qi k 0 ≠ qi k 1 ∧ qi k 0 ≠ qi k 2 ∧ qi k 0 ≠ qi k 3 ∧ qi k 1 ≠ qi k 2 ∧ qi k 1 ≠ qi k 3 ∧ qi k 2 ≠ qi k 3 := by
  have h : ∀ k : Fin 8, qi k.val 0 ≠ qi k.val 1 ∧ qi k.val 0 ≠ qi k.val 2 ∧ qi k.val 0 ≠ qi k.val 3 ∧ qi k.val 1 ≠ qi k.val 2 ∧ qi k.val 1 ≠ qi k.val 3 ∧ qi k.val 2 ≠ qi k.val 3 := by decide
  exact h ⟨k, hk⟩
theorem heap_alloc_get (w : World) (cs : Array Value) (t : TypeId) (i : Nat) : (w.alloc (.cells cs t (0, 0))).heap[i]? = if i = w.heap.size then some (.cells cs t (0, 0)) else w.heap[i]? := by
  split
  · rename_i h; exact heap_new_at h.symm
  · rename_i h
    simp only [World.alloc, Array.getElem?_push]
    rw [if_neg h]
set_option maxRecDepth 100000 in
set_option maxHeartbeats 1000000 in
theorem places3_any (w : World) :
    Calls Tryd.prog 47 #[] w fun e w' => e = .returned (.slice (some ⟨w.heap.size + 8, 0, none⟩) 8 8) ∧ PlacesAt w.heap.size w' ∧ Below w.heap.size w w' := by
  go_enter Tryd.func47, Tryd.ntmps47
  go_wp2_with fail
  go_ret
  refine ⟨rfl, ⟨?_, ?_⟩, ?_⟩
  · simp only [heap_alloc_get, size_alloc]
    simp
  · intro k hk
    rcases k with _ | _ | _ | _ | _ | _ | _ | _ | k
    all_goals first | omega | skip
    all_goals simp only [heap_alloc_get, size_alloc, Nat.zero_add, Nat.add_zero]
    all_goals first | (simp [placeV, qi, quartersL]; done) | (repeat rw [if_neg (by omega)]
                                                              rw [if_pos (by first | rfl | trivial)]; rfl)
  · repeat first | exact (Below.refl _ _).alloc (Nat.le_refl _) _ | (refine Below.alloc ?_ (by simp only [size_alloc]; omega) _)
end Go.Proofs.YtagkkihnfipfeaaDoor

/-
  The document's block: the same as chacha's, in new memory.
-/
namespace Go.Proofs.YtagkkihnfipfeaaDoor
open Go.RowKit Go.Shelf Go.Proofs.ShaWords
attribute [local go_sem] and32 or32 xor32 add32 shl32 shr32 wrap32_n8 wrap8_n32

theorem flat_getD (X : List (BitVec 32)) (i : Nat) (h : i < 4 * X.length) : (X.flatMap leBytes).getD i 0#8 = lo8 (X.getD (i / 4) 0#32 >>> (8 * (i % 4))) := by
  induction X generalizing i with
  | nil => simp at h
  | cons a r ih =>
    rw [List.flatMap_cons]
    by_cases h4 : i < 4
    · rw [getD_append_left8 _ _ _ (by show i < 4; exact h4)]
      rcases i with _ | _ | _ | _ | i
      · show lo8 a = lo8 (a >>> 0); simp
      · rfl
      · rfl
      · rfl
      · omega
    · obtain ⟨j, rfl⟩ : ∃ j, i = 4 + j := ⟨i - 4, by omega⟩
      rw [show 4 + j = (leBytes a).length + j from rfl, getD_append_right8, ih j (by simp only [List.length_cons] at h; omega)]
      show _ = lo8 ((a :: r).getD ((4 + j) / 4) 0#32 >>> (8 * ((4 + j) % 4)))
      rw [show (4 + j) / 4 = j / 4 + 1 by omega, show (4 + j) % 4 = j % 4 by omega]
      simp [List.getD]
/-- The byte of a block at an index. -/
theorem ccBlock_getD (key nonce : List (BitVec 8)) (c : BitVec 32) (i : Nat) (h : i < 64) : (ccBlock key c nonce).getD i 0#8 = lo8 ((blockWords key c nonce).getD (i / 4) 0#32 >>> (8 * (i % 4))) := by
  unfold ccBlock flatTo
  rw [List.take_of_length_le (by rw [blockWords_length]; omega)]
  exact flat_getD _ _ (by rw [blockWords_length]; omega)
/-- What the document's block has in memory: its boxes, the first square, the mixed words, the table of places. -/
structure RB (w : World) (key nonce : List (BitVec 8)) (G1 c1 G2 c2 H : Nat) (sq m : List (BitVec 32)) (wr : World) : Prop where
  kn : KnW w key nonce wr
  first : OwnW w.heap.size wr sq (.slice (some ⟨G1, 0, none⟩) 16 c1)
  l : OwnW w.heap.size wr m (.slice (some ⟨G2, 0, none⟩) 16 c2)
  pl : PlacesAt H wr
theorem RB.step {w wr w' : World} {key nonce : List (BitVec 8)} {G1 c1 G2 c2 H : Nat} {sq m m' : List (BitVec 32)} (h : RB w key nonce G1 c1 G2 c2 H sq m wr) (hg : wr.grownBy w' (some G2)) (hl : OwnW w.heap.size w' m' (.slice (some ⟨G2, 0, none⟩) 16 c2))
    (h2 : w.heap.size + 1 + 1 < G2) (h1 : G1 ≠ G2) (hH : G2 < H) : RB w key nonce G1 c1 G2 c2 H sq m' w' :=
  ⟨⟨h.kn.key.past hg (by omega), h.kn.nonce.past hg (by omega), h.kn.res.past hg (by omega), h.kn.below.grown hg (by have := h.kn.below.size; omega) (fun k hk => by have := Option.some.inj hk; omega)⟩,
    World.ownsRow.kept h.first hg (Or.inr (by simp [Value.ownBlock]; omega)), hl, h.pl.grown hg hH⟩
theorem RB.on {w wr w' : World} {key nonce : List (BitVec 8)} {G1 c1 G2 c2 H : Nat} {sq m : List (BitVec 32)} (h : RB w key nonce G1 c1 G2 c2 H sq m wr) (hb : Below wr.heap.size wr w') : RB w key nonce G1 c1 G2 c2 H sq m w' :=
  ⟨h.kn.on hb, h.first.below hb, h.l.below hb, h.pl.on hb⟩
/-- What it has when it lays its bytes. -/
structure RC (w : World) (G1 c1 G2 c2 D : Nat) (sq m : List (BitVec 32)) (l : List (BitVec 8)) (wr : World) : Prop where
  first : OwnW w.heap.size wr sq (.slice (some ⟨G1, 0, none⟩) 16 c1)
  mid : OwnW w.heap.size wr m (.slice (some ⟨G2, 0, none⟩) 16 c2)
  out : BytesAt wr D 66 l
  res : BytesAt wr (w.heap.size + 1 + 1) 66 (noughts 64)
  below : Below w.heap.size w wr
theorem RC.on {w wr w' : World} {G1 c1 G2 c2 D : Nat} {sq m : List (BitVec 32)} {l : List (BitVec 8)} (h : RC w G1 c1 G2 c2 D sq m l wr) (hb : Below wr.heap.size wr w') : RC w G1 c1 G2 c2 D sq m l w' :=
  ⟨h.first.below hb, h.mid.below hb, h.out.keep hb, h.res.keep hb, h.below.trans (hb.mono h.below.size)⟩
theorem RC.put {w wr : World} {G1 c1 G2 c2 D : Nat} {sq m : List (BitVec 32)} {l : List (BitVec 8)} (h : RC w G1 c1 G2 c2 D sq m l wr) (h1 : G1 < D) (h2 : G2 < D) (h3 : w.heap.size + 1 + 1 < D) (k : Nat) (x : BitVec 8) :
    RC w G1 c1 G2 c2 D sq m (l.set k x) (wr.setCell ⟨D, k, none⟩ (.int .u8 (n8 x))) :=
  ⟨World.ownsRow.kept h.first (grown_setCell _ _ _ _) (Or.inr (by simp [Value.ownBlock]; omega)), World.ownsRow.kept h.mid (grown_setCell _ _ _ _) (Or.inr (by simp [Value.ownBlock]; omega)), h.out.put k x, h.res.putOther (by omega) _ _, h.below.setCell (by show w.heap.size ≤ D; omega) _⟩
attribute [local irreducible] flatTo squareOf doubles blockWords quartersOf ccBlock
set_option maxRecDepth 100000 in
set_option maxHeartbeats 4000000 in
theorem refBlock_any (key nonce : List (BitVec 8)) (c : BitVec 32) (w : World) (hk : key.length = 32) (hn : nonce.length = 12) :
    Calls Tryd.prog 34 #[.agg (bytesV key).toArray, .int .u32 (n32 c), .agg (bytesV nonce).toArray] w
      fun e w' => e = .returned (.agg (bytesV (ccBlock key c nonce)).toArray) ∧ Below w.heap.size w w' := by
  have HKL := Lib.hid hk; clear hk
  have HNL := Lib.hid hn; clear hn
  have HIK := Lib.hid (infoKey key HKL.out)
  have HIN := Lib.hid (infoNonce nonce HNL.out)
  go_enter Tryd.func34, Tryd.ntmps34
  go_upto_region 1 with (fail)
  refine wp_gen (KnW w key nonce) (knw_start w key nonce _ (by rfl)) ?_
  intro w0 hw0
  have HW0 := Lib.hid hw0; clear hw0
  go_wp2_with (first
    | (refine wpList_load_row rfl 23 (.tmp 3) rfl w.heap.size rfl 23 (bytesV key).toArray (0, 0) _ HW0.out.key Tryd.underlying23 rfl HIK.out ?_)
    | (refine wpList_load_row rfl 25 (.tmp 5) rfl (w.heap.size + 1) rfl 25 (bytesV nonce).toArray (0, 0) _ HW0.out.nonce Tryd.underlying25 rfl HIN.out ?_))
  refine (refSquare_any key nonce c w0 HKL.out HNL.out).mono ?_
  rintro e w1 ⟨v1, rfl, ho1, hb1⟩
  have HW1 := Lib.hid (HW0.out.on hb1)
  obtain ⟨G1, c1, rfl, hG1, -, -, -⟩ := ho1.form (fun h => by have := squareOf_length key c nonce; rw [h] at this; simp at this)
  rw [squareOf_length] at ho1 ⊢
  have hr0 := HW0.out.res.size
  have HO1 := Lib.hid (ho1.base (B' := w.heap.size) HW0.out.below.size); clear hb1 ho1
  go_wp2_with (first
    | (refine wpList_load_row rfl 23 (.tmp 3) rfl w.heap.size rfl 23 (bytesV key).toArray (0, 0) _ HW1.out.key Tryd.underlying23 rfl HIK.out ?_)
    | (refine wpList_load_row rfl 25 (.tmp 5) rfl (w.heap.size + 1) rfl 25 (bytesV nonce).toArray (0, 0) _ HW1.out.nonce Tryd.underlying25 rfl HIN.out ?_))
  refine (refSquare_any key nonce c w1 HKL.out HNL.out).mono ?_
  rintro e w2 ⟨v2, rfl, ho2, hb2⟩
  have HW2 := Lib.hid (HW1.out.on hb2)
  obtain ⟨G2, c2, rfl, hG2, -, -, -⟩ := ho2.form (fun h => by have := squareOf_length key c nonce; rw [h] at this; simp at this)
  rw [squareOf_length] at ho2 ⊢
  have h12 : G1 ≠ G2 := by have := HO1.out.at'.2.1; omega
  have h2 : w.heap.size + 1 + 1 < G2 := by have := HW1.out.res.size; omega
  have HO2 := Lib.hid (ho2.base (B' := w.heap.size) HW1.out.below.size)
  have HO1' := Lib.hid (HO1.out.below hb2)
  clear hb2 ho2 HO1 HW0 HW1 hG1 hG2 hr0
  go_wp2_with fail
  refine (places3_any w2).mono ?_
  rintro e w3 ⟨rfl, hp3, hb3⟩
  have h2H : G2 < w2.heap.size := HO2.out.at'.2.1
  have HR3 : Hid (RB w key nonce G1 c1 G2 c2 w2.heap.size (squareOf key c nonce) (doubles (squareOf key c nonce) 0) w3) := show RB _ _ _ _ _ _ _ _ _ _ _ from
    ⟨HW2.out.on hb3, HO1'.out.below hb3, by rw [doubles_zero]; exact HO2.out.below hb3, hp3⟩
  clear hp3 hb3 HW2 HO2 HO1'
  generalize w2.heap.size = H at HR3 h2H ⊢
  have HSL := Lib.hid (squareOf_length key c nonce)
  have HBW := Lib.hid (blockWords_length key c nonce)
  have HBG := Lib.hid (blockWords_get key c nonce)
  have HCG := Lib.hid (ccBlock_getD key nonce c)
  have HCL := Lib.hid (ccBlock_length key c nonce)
  generalize hblk : ccBlock key c nonce = blk at HCG HCL
  have HBLK := Lib.hid hblk; clear hblk
  generalize squareOf key c nonce = sq at HSL HBG HR3
  go_wp2_with fail
  go_loopw [10, 11] (fun n _ wr => ∃ k : Nat, k ≤ 10 ∧ n = .int .i64 (k : Int) ∧ RB w key nonce G1 c1 G2 c2 H sq (doubles sq k) wr) (fun n _ _ => 10 - (intOf n).toNat)
  case atStart => exact ⟨0, by omega, rfl, HR3.out⟩
  case round =>
    clear HR3
    obtain ⟨k, hk, rfl, hr⟩ := hrel
    have HR := Lib.hid hr; clear hr
    by_cases hlt : k < 10
    · have p0 : (k : Int) < 10 := by omega
      have HDL : Hid ((doubles sq k).length = 16) := show _ = _ by rw [doubles_length]; exact HSL.out
      have HDS := Lib.hid (doubles_succ sq k)
      generalize doubles sq k = m at HR HDL HDS
      have HR0 : Hid (RB w key nonce G1 c1 G2 c2 H sq (quartersOf m 0) wr) := show RB _ _ _ _ _ _ _ _ _ _ _ by rw [quartersOf_zero]; exact HR.out
      clear HR
      go_wp2_with fail
      rename World => w4
      go_loopw [11] (fun i wr => ∃ j : Nat, j ≤ 8 ∧ i = .int .i64 (j : Int) ∧ RB w key nonce G1 c1 G2 c2 H sq (quartersOf m j) wr) (fun i _ => 8 - (intOf i).toNat)
      case atStart => exact ⟨0, by omega, rfl, HR0.out⟩
      case round =>
        clear HR0
        obtain ⟨j, hj, rfl, hr⟩ := hrel
        by_cases hltj : j < 8
        · have r0 : (j : Int) < 8 := by omega
          have d0 := hr.pl.cell j hltj
          obtain ⟨d1, d2, d3, d4⟩ := hr.pl.row j hltj
          have HR := Lib.hid hr; clear hr
          have HQS := Lib.hid (quartersOf_succ m j)
          have HAP := Lib.hid (qi_apart j hltj)
          have z0 := qi_lt j 0
          have z1 := qi_lt j 1
          have z2 := qi_lt j 2
          have z3 := qi_lt j 3
          generalize qi j 0 = i0 at d1 HQS HAP z0
          generalize qi j 1 = i1 at d2 HQS HAP z1
          generalize qi j 2 = i2 at d3 HQS HAP z2
          generalize qi j 3 = i3 at d4 HQS HAP z3
          obtain ⟨e01, e02, e03, e12, e13, e23⟩ := HAP.out
          have HE01 := Lib.hid e01; have HE02 := Lib.hid e02; have HE03 := Lib.hid e03; have HE12 := Lib.hid e12; have HE13 := Lib.hid e13; have HE23 := Lib.hid e23
          clear e01 e02 e03 e12 e13 e23 HAP
          go_wp2_with fail
          go_still_tail 25, (by kernel_rfl)
          change wpList _ _ _ _ _ wr.drew
          go_wp2_with fail
          refine (refQuarter_any (quartersOf m j) w.heap.size G2 16 c2 i0 i1 i2 i3 wr.drew z0 z1 z2 z3 HE01.out HE02.out HE03.out HE12.out HE13.out HE23.out (HR.out.l.below ((Below.refl _ _).drew))).mono ?_
          rintro e w5 ⟨rfl, ho5, hg5⟩
          rw [← HQS.out] at ho5
          have HR5 := Lib.hid ((HR.out.on ((Below.refl _ _).drew)).step hg5 ho5 h2 h12 h2H)
          clear ho5 hg5 HR d0 d1 d2 d3 d4
          go_wp2_with fail
          go_roundw
          case rel => exact ⟨j + 1, by omega, by go_num, HR5.out⟩
          case measure => simp [intOf]; omega
        · have r0 : ¬ (j : Int) < 8 := by omega
          have HR5 : Hid (RB w key nonce G1 c1 G2 c2 H sq (doubles sq (k + 1)) wr) := show RB _ _ _ _ _ _ _ _ _ _ _ by
            rw [HDS.out, show 8 = j by omega]; exact hr
          clear hr
          go_wp2_with fail
          go_roundw
          case rel => exact ⟨k + 1, by omega, by go_num, HR5.out⟩
          case measure => simp [intOf]; omega
    · have p0 : ¬ (k : Int) < 10 := by omega
      obtain rfl : k = 10 := by omega
      have HDL : Hid ((doubles sq 10).length = 16) := show _ = _ by rw [doubles_length]; exact HSL.out
      generalize doubles sq 10 = mx at HR HBG HDL
      go_wp2_with fail
      have HG1 : Hid (G1 < wr.heap.size) := HR.out.first.at'.2.1
      have HG2 : Hid (G2 < wr.heap.size) := HR.out.l.at'.2.1
      have HG3 : Hid (w.heap.size + 1 + 1 < wr.heap.size) := HR.out.kn.res.size
      refine wp_gen (RC w G1 c1 G2 c2 wr.heap.size sq mx (xorTo' blk 0)) ?_ ?_
      · have hb : Below wr.heap.size wr (wr.alloc (.cells (bytesV (noughts 64)).toArray 66)) := (Below.refl _ _).alloc (Nat.le_refl _) _
        have h1 := HR.out.on hb
        exact ⟨h1.first, h1.l, by rw [xorTo'_zero, HCL.out]; exact heap_new_at rfl, h1.kn.res, h1.kn.below⟩
      intro w5 hw5
      have HW5 := Lib.hid hw5; clear hw5 HR
      generalize wr.heap.size = D at HW5 HG1 HG2 HG3 ⊢
      have HTS := Lib.hid (xorTo'_set blk)
      have HTL := Lib.hid (xorTo'_length blk)
      go_loopw [13, 14, 15] (fun iv _ _ wr => ∃ i : Nat, i ≤ 64 ∧ iv = .int .i64 (i : Int) ∧ RC w G1 c1 G2 c2 D sq mx (xorTo' blk i) wr) (fun iv _ _ _ => 64 - (intOf iv).toNat)
      case atStart => exact ⟨0, by omega, rfl, HW5.out⟩
      case round =>
        clear HW5
        obtain ⟨i, hi, rfl, hr⟩ := hrel
        have HR := Lib.hid hr; clear hr
        by_cases hlti : i < 64
        · have HLEN : Hid ((xorTo' blk i).length = 64) := show _ = _ by rw [HTL.out i (by rw [HCL.out]; exact hi)]; exact HCL.out
          have HSET := Lib.hid (HTS.out i (by rw [HCL.out]; exact hlti))
          have HX := Lib.hid (HCG.out i hlti)
          have t0 : (i : Int).tdiv 4 = ((i / 4 : Nat) : Int) := by rw [Int.tdiv_eq_ediv_of_nonneg (by omega)]; rfl
          have t1 : (i : Int).tmod 4 = ((i % 4 : Nat) : Int) := by rw [Int.tmod_eq_emod_of_nonneg (by omega)]; rfl
          have hq4 : i / 4 < 16 := by omega
          have hr4 : i % 4 < 4 := by omega
          have HXW := Lib.hid (HBG.out (i / 4) hq4)
          rw [HXW.out] at HX
          have cl := HR.out.mid.cell (i / 4) (by rw [HDL.out]; exact hq4)
          have cf := HR.out.first.cell (i / 4) (by rw [HSL.out]; exact hq4)
          generalize mx.getD (i / 4) 0#32 = xa at cl HX
          generalize sq.getD (i / 4) 0#32 = xb at cf HX
          generalize i / 4 = t at t0 hq4 cl cf
          generalize i % 4 = s4 at t1 hr4 HX
          have p1 : (i : Int) < 64 := by omega
          have p2 : (t : Int) < 16 := by omega
          clear HXW
          go_wp2_with fail
          go_quiet (fail)
          clear cl cf t0 p2 hq4
          have HR6 : Hid (RC w G1 c1 G2 c2 D sq mx (xorTo' blk i) (wr.drewN nq)) := show RC _ _ _ _ _ _ _ _ _ _ from HR.out.on ⟨rfl, rfl, rfl, Nat.le_refl _, fun _ _ => rfl⟩
          clear HR
          generalize wr.drewN nq = w6 at HR6 ⊢
          generalize xa + xb = X at HX ⊢
          have hx0 : X >>> (8 * 0) = X := by simp
          go_wp2_with fail
          go_loopw [14, 15] (fun x kk w7 => ∃ q : Nat, q ≤ s4 ∧ kk = .int .i64 (q : Int) ∧ x = .int .u32 (n32 (X >>> (8 * q))) ∧ w7 = w6) (fun _ kk _ => s4 - (intOf kk).toNat)
          case atStart => exact ⟨0, by omega, rfl, by rw [hx0], rfl⟩
          case round =>
            clear hx0
            obtain ⟨q, hq, rfl, rfl, rfl⟩ := hrel
            by_cases hltq : q < s4
            · have p3 : (q : Int) < (s4 : Int) := by omega
              have HSH : Hid (X >>> (8 * (q + 1)) = (X >>> (8 * q)) >>> 8) := show _ = _ by rw [← BitVec.shiftRight_add]; rfl
              generalize X >>> (8 * q) = y at HSH ⊢
              have r2 := quo256 y
              go_wp2_with fail
              go_roundw
              case rel => exact ⟨q + 1, by omega, by go_num, by rw [HSH.out], by first | rfl | trivial⟩
              case measure => simp [intOf]; omega
            · have p3 : ¬ (q : Int) < (s4 : Int) := by omega
              obtain rfl : q = s4 := by omega
              generalize X >>> (8 * q) = y at HX ⊢
              have r1 := rem256 y
              have co := HR6.out.out.cell i (by rw [HLEN.out]; exact hlti)
              have fo := HR6.out.out.frozenAt i
              rw [HX.out] at HSET
              have HR7 := Lib.hid (HR6.out.put HG1.out HG2.out HG3.out i (lo8 y))
              rw [HSET.out] at HR7
              clear HR6 HX
              go_wp2_with fail
              go_roundw
              case rel => exact ⟨i + 1, by omega, by go_num, HR7.out⟩
              case measure => simp [intOf]; omega
        · have p1 : ¬ (i : Int) < 64 := by omega
          have hfull : BytesAt wr D 66 blk := by
            have h1 := HR.out.out
            rw [show i = blk.length by rw [HCL.out]; omega, xorTo'_full] at h1
            exact h1
          have HI := Lib.hid (infoBlk _ HCL.out)
          have HOLD := Lib.hid (show (bytesV (noughts 64)).toArray.size = (bytesV blk).toArray.size by rw [bytesV_size _ 64 HCL.out, bytesV_size _ 64 (noughts_length 64)])
          have HONE := Lib.hid (bytesV_one blk)
          have HZ := Lib.hid HR.out.res
          have HB := Lib.hid HR.out.below
          have HFULL : Hid (wr.heap[D]? = some (.cells (bytesV blk).toArray 66 (0, 0))) := hfull
          clear HR hfull
          generalize hfe : (bytesV blk).toArray = full at HFULL HI HOLD HONE
          have HFE := Lib.hid hfe; clear hfe
          go_wp2_with (first
            | (refine wpList_load_row rfl 66 (.tmp 12) rfl D rfl 66 full (0, 0) _ HFULL.out Tryd.underlying66 rfl HI.out ?_)
            | (refine wpList_store_row rfl 66 (.tmp 6) (.tmp 89) rfl (w.heap.size + 1 + 1) full rfl rfl 66 _ HZ.out HI.out HOLD.out HONE.out ?_))
          have hrow := setRow_heap wr (w.heap.size + 1 + 1) _ full 66 _ HZ.out
          have hbel := below_setRow HB.out (show w.heap.size ≤ w.heap.size + 1 + 1 by omega) full
          generalize wr.setRow (w.heap.size + 1 + 1) full = wz at hrow hbel ⊢
          have hres : ∀ tmps : Array Value, tmps.getD 6 undef = .pointer (some ⟨w.heap.size + 1 + 1, 0, none⟩) → Sem.run Tryd.prog (results Tryd.f34 tmps) wz = .ok (.agg full) wz := fun tmps h =>
            results_cell_row (P := Tryd.prog) (p := 6) (ty := 66) Tryd.results34 tmps wz (w.heap.size + 1 + 1) 66 full (0, 0) (TypeDesc.array 64 5) h hrow Tryd.underlying66 rfl HI.out
          exact bodyPost_ret (v := .agg full) (hres _ rfl) rfl ⟨by rw [HBLK.out, HFE.out], hbel⟩
end Go.Proofs.YtagkkihnfipfeaaDoor

/-
  The document's Xor: each byte combined with the keystream's at its index, in new memory.
-/
namespace Go.Proofs.YtagkkihnfipfeaaDoor
open Go.RowKit Go.Shelf Go.Proofs.ShaWords
attribute [local go_sem] add32

theorem run_rem64 {ρ : Operand → Value} {o : Oper} {x : Operand} {i : Nat} (ho : o.op = .binOp .rem 3 x (.const (.int .i64 64)) 3) (h0 : ∀ u, ρ (.const u) = u) (hx : ρ x = .int .i64 (i : Int)) (hi : i ≤ 1000000) (w : World) :
    (execOp ρ o).run Tryd.prog w = .ok (.value (.int .i64 ((i % 64 : Nat) : Int))) w := by
  obtain ⟨dst, op, ty', pos, after, guard⟩ := o
  simp only at ho
  subst ho
  have hc := h0 (.int .i64 64)
  have t1 : (i : Int).tmod 64 = ((i % 64 : Nat) : Int) := by rw [Int.tmod_eq_emod_of_nonneg (by omega)]; rfl
  have t2 : IntKind.i64.wrap ((i % 64 : Nat) : Int) = ((i % 64 : Nat) : Int) := IntWalk.i64_in _ (by omega)
  generalize i % 64 = m at t1 t2 ⊢
  go_simp
theorem run_ix64 {ρ : Operand → Value} {o : Oper} {x y : Operand} {g j : Nat} (ho : o.op = .indexAddr 66 x y) (hx : ρ x = .pointer (some ⟨g, 0, none⟩)) (hy : ρ y = .int .i64 (j : Int)) (hj : j < 64) (w : World) :
    (execOp ρ o).run Tryd.prog w = .ok (.value (.pointer (some ⟨g, j, none⟩))) w := by
  obtain ⟨dst, op, ty', pos, after, guard⟩ := o
  simp only at ho
  subst ho
  have q : (j : Int) < 64 := by omega
  go_simp

theorem Own.base' {B B' : Nat} {w : World} {l : List (BitVec 8)} {v : Value} (h : Own B w l v) (hb : B' ≤ B) : Own B' w l v :=
  ⟨h.1, h.2.imp id (fun ⟨g, cap, cur, a, b, r⟩ => ⟨g, cap, cur, a, Nat.le_trans hb b, r⟩)⟩
/-- What the document's Xor has in memory: its boxes, a block of the stream, the bytes so far. -/
structure RX (w : World) (key nonce : List (BitVec 8)) (D B : Nat) (P l : List (BitVec 8)) (v : Value) (wr : World) : Prop where
  two : TwoW w key nonce wr
  part : BytesAt wr D 66 P
  own : Own B wr l v
  le : B ≤ wr.heap.size
  lo : w.heap.size + 1 < D
  hi : D < B
theorem RX.on {w wr w' : World} {key nonce : List (BitVec 8)} {D B : Nat} {P l : List (BitVec 8)} {v : Value} (h : RX w key nonce D B P l v wr) (hb : Below wr.heap.size wr w') : RX w key nonce D B P l v w' :=
  ⟨h.two.on hb, h.part.keep hb, h.own.below hb, Nat.le_trans h.le hb.size, h.lo, h.hi⟩
theorem RX.next {w wr w' : World} {key nonce : List (BitVec 8)} {D B : Nat} {P l l' : List (BitVec 8)} {v v' : Value} (h : RX w key nonce D B P l v wr) (ho : Own B w' l' v') (hb : Below B wr w') : RX w key nonce D B P l' v' w' :=
  ⟨⟨(hb.block _ (by have := h.hi; have := h.lo; omega)).trans h.two.key, (hb.block _ (by have := h.hi; have := h.lo; omega)).trans h.two.nonce, h.two.below.trans (hb.mono (by have := h.hi; have := h.lo; omega))⟩,
    (hb.block _ h.hi).trans h.part, ho, Nat.le_trans h.le hb.size, h.lo, h.hi⟩
theorem RX.row {w wr : World} {key nonce : List (BitVec 8)} {D B : Nat} {P l P' : List (BitVec 8)} {v : Value} (h : RX w key nonce D B P l v wr) : RX w key nonce D B P' l v (wr.setRow D (bytesV P').toArray) :=
  ⟨⟨(setRow_other _ _ _ _ (by have := h.lo; omega)).trans h.two.key, (setRow_other _ _ _ _ (by have := h.lo; omega)).trans h.two.nonce, below_setRow h.two.below (by have := h.lo; omega) _⟩,
    setRow_heap _ _ _ _ _ _ h.part, World.ownsRow.kept h.own (grown_setRow _ _ _) (by
      rcases h.own.2 with ⟨rfl, _⟩ | ⟨g, _, _, rfl, hg, _⟩
      · exact Or.inl rfl
      · exact Or.inr (by simp [Value.ownBlock]; have := h.hi; omega)), by rw [size_setRow]; exact h.le, h.lo, h.hi⟩
attribute [local irreducible] ccBlock xorKs
set_option maxRecDepth 100000 in
set_option maxHeartbeats 1000000 in
theorem refXor_any (key nonce bs : List (BitVec 8)) (n : Nat) (c : BitVec 32) (p : Option Addr) (cap : Nat) (w : World) (hbn : bs.length = n) (hl : n ≤ 1000000) (hk : key.length = 32) (hn : nonce.length = 12) (hL : Lies w p bs) :
    Calls Tryd.prog 26 #[.agg (bytesV key).toArray, .int .u32 (n32 c), .agg (bytesV nonce).toArray, .slice p n cap] w
      fun e w' => ∃ v, e = .returned v ∧ Own w.heap.size w' (xorKs key c nonce bs) v ∧ Below w.heap.size w w' := by
  have HKL := Lib.hid hk; clear hk
  have HNL := Lib.hid hn; clear hn
  have HL := Lib.hid hL; clear hL
  have HBN := Lib.hid hbn; clear hbn
  have HIK := Lib.hid (infoKey key HKL.out)
  have HIN := Lib.hid (infoNonce nonce HNL.out)
  have HZL : Hid ((xorKs key c nonce bs).length = n) := show _ = _ by rw [xorKs_length]; exact HBN.out
  have HZG := Lib.hid (xorKs_get key c nonce bs)
  generalize hz : xorKs key c nonce bs = Z at HZL HZG
  clear hz
  go_enter Tryd.func26, Tryd.ntmps26
  go_upto_region 1 with (fail)
  refine wp_gen (TwoW w key nonce) (two_start w key nonce) ?_
  intro w0 hw0
  have HW0 := Lib.hid hw0; clear hw0
  go_upto_region 4 with (fail)
  have hx0 : RX w key nonce w0.heap.size (w0.heap.size + 1) (noughts 64) (Z.take 0) (.slice none 0 0) (w0.alloc (.cells (bytesV (noughts 64)).toArray 66)) :=
    ⟨HW0.out.on ((Below.refl _ _).alloc (Nat.le_refl _) _), heap_new_at rfl, Own.nil _ _, by rw [size_alloc]; exact Nat.le_refl _, HW0.out.nonce.size, by omega⟩
  refine wp_gen (RX w key nonce w0.heap.size (w0.heap.size + 1) (noughts 64) (Z.take 0) (.slice none 0 0)) (by exact hx0) ?_
  clear hx0
  intro w1 hw1
  have HW1 := Lib.hid hw1; clear hw1 HW0
  generalize w0.heap.size + 1 = B at HW1
  generalize w0.heap.size = D at HW1 ⊢
  go_loopw [9, 11] (fun v iv wr => ∃ (i : Nat) (P : List (BitVec 8)), i ≤ n ∧ iv = .int .i64 (i : Int) ∧ P.length = 64 ∧ (¬ i % 64 = 0 → P = ccBlock key (c + BitVec.ofNat 32 (i / 64)) nonce) ∧ RX w key nonce D B P (Z.take i) v wr) (fun _ iv _ => n - (intOf iv).toNat)
  case atStart => exact ⟨0, noughts 64, by omega, rfl, noughts_length 64, fun h => absurd rfl h, HW1.out⟩
  case round =>
    clear HW1
    obtain ⟨i, P, hi, rfl, hP, hPb, hr⟩ := hrel
    have HP := Lib.hid hP; clear hP
    have HPB := Lib.hid hPb; clear hPb
    have HR := Lib.hid hr; clear hr
    by_cases hlt : i < n
    · obtain ⟨b, off, rfl, hbw, hsrc⟩ : ∃ b off, p = some ⟨b, off, none⟩ ∧ b < w.heap.size ∧ ∀ w', Below w.heap.size w w' → w'.cell? ⟨b, off + i, none⟩ = some (.int .u8 (n8 (bs.getD i 0#8))) := by
        rcases HL.out with h0 | ⟨b, off, rfl, hr⟩
        · have := HBN.out; rw [h0] at this; simp at this; omega
        · have hb := World.block_lt_of_cell? w _ (range_cell hr i (by rw [HBN.out]; exact hlt))
          exact ⟨b, off, rfl, hb, fun w' h => (h.cell (p := ⟨b, off + i, none⟩) hb).trans (range_cell hr i (by rw [HBN.out]; exact hlt))⟩
      have hq0 : (i : Int) < (n : Int) := by omega
      have t1 : (i : Int).tmod 64 = ((i % 64 : Nat) : Int) := by rw [Int.tmod_eq_emod_of_nonneg (by omega)]; rfl
      have h64l : i % 64 < 64 := by omega
      have HLEN : Hid ((Z.take i).length + 1 < 1099511627776) := show _ < _ by rw [List.length_take]; omega
      have HTK := Lib.hid (take_getD8 Z i (by rw [HZL.out]; exact hlt))
      have HZI := Lib.hid (HZG.out i (by rw [HBN.out]; exact hlt))
      have hks : ksAt key c nonce i = (ccBlock key (c + BitVec.ofNat 32 (i / 64)) nonce).getD (i % 64) 0#8 := rfl
      rw [HZI.out, hks] at HTK
      clear HZI hks
      generalize bs.getD i 0#8 = x at hsrc HTK
      have HSRC := Lib.hid hsrc; clear hsrc
      have HbB : Hid (b < B) := show b < B by have := HR.out.lo; have := HR.out.hi; omega
      have HDB : Hid (D < B) := HR.out.hi
      have HCL := Lib.hid (ccBlock_length key (c + BitVec.ofNat 32 (i / 64)) nonce)
      have HBC := fun w' => refBlock_any key nonce (c + BitVec.ofNat 32 (i / 64)) w' HKL.out HNL.out
      generalize hCB : ccBlock key (c + BitVec.ofNat 32 (i / 64)) nonce = CB at HTK HPB HCL HBC
      have HCB := Lib.hid hCB; clear hCB hbw
      have HPN : Hid ((i + 1) % 64 ≠ 0 → CB = ccBlock key (c + BitVec.ofNat 32 ((i + 1) / 64)) nonce) := show _ → _ from fun h => by
        rw [show (i + 1) / 64 = i / 64 by omega]; exact HCB.out.symm
      by_cases h64 : i % 64 = 0
      · have e64 : (((i % 64 : Nat) : Int) == 0) = true := by simp; omega
        have t2 : (i : Int).tdiv 64 = ((i / 64 : Nat) : Int) := by rw [Int.tdiv_eq_ediv_of_nonneg (by omega)]; rfl
        have cv : IntKind.u32.wrap ((i / 64 : Nat) : Int) = n32 (BitVec.ofNat 32 (i / 64)) := by unfold n32; rw [IntKind.wrap_u32', BitVec.toNat_ofNat]; omega
        have HCC : Hid ((n32 c + (i : Int) / 64) % 4294967296 = n32 (c + BitVec.ofNat 32 (i / 64))) := show _ = _ by
          unfold n32; rw [BitVec.toNat_add, BitVec.toNat_ofNat]; omega
        have HIB := Lib.hid (infoBlk _ HCL.out)
        have HOLD := Lib.hid (show (bytesV P).toArray.size = (bytesV CB).toArray.size by rw [bytesV_size _ 64 HCL.out, bytesV_size _ 64 HP.out])
        have HONE := Lib.hid (bytesV_one CB)
        have HBCH := Lib.hid HBC; clear HBC
        go_upto_region 8 with (first
          | (refine wpList_load_row rfl 23 (.tmp 4) rfl w.heap.size rfl 23 (bytesV key).toArray (0, 0) _ HR.out.two.key Tryd.underlying23 rfl HIK.out ?_)
          | (refine wpList_load_row rfl 25 (.tmp 6) rfl (w.heap.size + 1) rfl 25 (bytesV nonce).toArray (0, 0) _ HR.out.two.nonce Tryd.underlying25 rfl HIN.out ?_)
          | (go_at_call 34; rw [HCC.out]; refine (HBCH.out _).mono ?_; rintro e w6 ⟨rfl, hb6⟩; have HR6 := Lib.hid (HR.out.on hb6); clear hb6)
          | (refine wpList_store_row rfl 66 (.tmp 10) (.tmp 28) rfl D (bytesV CB).toArray rfl rfl 66 _ HR6.out.part HIB.out HOLD.out HONE.out ?_))
        clear t2 cv e64 HIB HOLD HONE HBCH
        refine wp_gen (RX w key nonce D B CB (Z.take i) u9) HR6.out.row ?_
        clear HR6 HR
        intro w8 hw8
        have H8 := Lib.hid hw8; clear hw8
        have hcb := HSRC.out w8 H8.out.two.below
        have hcp := H8.out.part.cell (i % 64) (by rw [HCL.out]; exact h64l)
        generalize CB.getD (i % 64) 0#8 = y at hcp HTK
        have hbl : b < w8.heap.size := by have := H8.out.le; have := HbB.out; omega
        have hDl : D < w8.heap.size := H8.out.part.size
        refine region_phase (fun w1 => w1.cell? ⟨b, off + i, none⟩ = some (.int .u8 (n8 x)) ∧ w1.cell? ⟨D, i % 64, none⟩ = some (.int .u8 (n8 y))) (fun _ => True) 10 ⟨hcb, hcp⟩ trivial [(0, .free), (1, .free), (2, .free), (3, .free), (4, .free), (5, .free), (6, .free), (7, .free), (8, .free), (9, .free), (10, .behind), (11, .behind), (12, .free)] (by kernel_rfl) (by kernel_rfl) (by kernel_rfl) (by kernel_rfl) (fun ops hops A hA => ?_)
        have hsz : A.tmps.size = 42 := by rw [hA]; rfl
        have base3 : A.eval (.tmp 3) = .slice (some ⟨b, off, none⟩) n cap := by rw [hA]; rfl
        have base9 : A.eval (.tmp 9) = u9 := by rw [hA]; rfl
        have base10 : A.eval (.tmp 10) = .pointer (some ⟨D, 0, none⟩) := by rw [hA]; rfl
        have base11 : A.eval (.tmp 11) = .int .i64 (i : Int) := by rw [hA]; rfl
        have HAA := Lib.hid hA; clear hA
        obtain ⟨o0, po0, q0, d0, gd0⟩ : ∃ o, ops[0]? = some o ∧ o.op = .move (.tmp 9) ∧ o.dst = some 29 ∧ o.guard = none := ⟨_, by rw [hops]; rfl, rfl, rfl, rfl⟩
        obtain ⟨o1, po1, q1, d1, gd1⟩ : ∃ o, ops[1]? = some o ∧ o.op = .move (.tmp 3) ∧ o.dst = some 30 ∧ o.guard = none := ⟨_, by rw [hops]; rfl, rfl, rfl, rfl⟩
        obtain ⟨o2, po2, q2, d2, gd2⟩ : ∃ o, ops[2]? = some o ∧ o.op = .move (.tmp 11) ∧ o.dst = some 31 ∧ o.guard = none := ⟨_, by rw [hops]; rfl, rfl, rfl, rfl⟩
        obtain ⟨o3, po3, q3, d3, gd3⟩ : ∃ o, ops[3]? = some o ∧ o.op = .indexAddr 26 (.tmp 30) (.tmp 31) ∧ o.dst = some 32 ∧ o.guard = none := ⟨_, by rw [hops]; rfl, rfl, rfl, rfl⟩
        obtain ⟨o4, po4, q4, d4, gd4⟩ : ∃ o, ops[4]? = some o ∧ o.op = .load 5 (.tmp 32) ∧ o.dst = some 33 ∧ o.guard = none := ⟨_, by rw [hops]; rfl, rfl, rfl, rfl⟩
        obtain ⟨o5, po5, q5, d5, gd5⟩ : ∃ o, ops[5]? = some o ∧ o.op = .move (.tmp 11) ∧ o.dst = some 34 ∧ o.guard = none := ⟨_, by rw [hops]; rfl, rfl, rfl, rfl⟩
        obtain ⟨o6, po6, q6, d6, gd6⟩ : ∃ o, ops[6]? = some o ∧ o.op = .binOp .rem 3 (.tmp 34) (.const (.int .i64 64)) 3 ∧ o.dst = some 35 ∧ o.guard = none := ⟨_, by rw [hops]; rfl, rfl, rfl, rfl⟩
        obtain ⟨o7, po7, q7, d7, gd7⟩ : ∃ o, ops[7]? = some o ∧ o.op = .indexAddr 66 (.tmp 10) (.tmp 35) ∧ o.dst = some 36 ∧ o.guard = none := ⟨_, by rw [hops]; rfl, rfl, rfl, rfl⟩
        obtain ⟨o8, po8, q8, d8, gd8⟩ : ∃ o, ops[8]? = some o ∧ o.op = .load 5 (.tmp 36) ∧ o.dst = some 37 ∧ o.guard = none := ⟨_, by rw [hops]; rfl, rfl, rfl, rfl⟩
        obtain ⟨o9, po9, q9, d9, gd9⟩ : ∃ o, ops[9]? = some o ∧ o.op = .binOp .xor 5 (.tmp 33) (.tmp 37) 5 ∧ o.dst = some 38 ∧ o.guard = none := ⟨_, by rw [hops]; rfl, rfl, rfl, rfl⟩
        obtain ⟨o10, po10, q10, d10, gd10⟩ : ∃ o, ops[10]? = some o ∧ o.op = .buildSlice 26 1 #[(0, (.tmp 38))] ∧ o.dst = some 39 ∧ o.guard = none := ⟨_, by rw [hops]; rfl, rfl, rfl, rfl⟩
        obtain ⟨o11, po11, q11, d11, gd11⟩ : ∃ o, ops[11]? = some o ∧ o.op = .call { callee := .builtin .append, args := #[.tmp 29, .tmp 39], argTypes := #[26, 26] } ∧ o.dst = some 40 ∧ o.guard = none := ⟨_, by rw [hops]; rfl, rfl, rfl, rfl⟩
        obtain ⟨o12, po12, q12, d12, gd12⟩ : ∃ o, ops[12]? = some o ∧ o.op = .assign (.tmp 40) ∧ o.dst = some 9 ∧ o.guard = none := ⟨_, by rw [hops]; rfl, rfl, rfl, rfl⟩
        clear hops
        refine met_free po0 d0 (wanted_of gd0) (fun w' _ => run_move q0 base9 w') ?_
        refine met_free po1 d1 (wanted_of gd1) (fun w' _ => run_move q1 ((eval_other _ 29 3 _ (by decide)).trans base3) w') ?_
        refine met_free po2 d2 (wanted_of gd2) (fun w' _ => run_move q2 ((eval_other _ 30 11 _ (by decide)).trans ((eval_other _ 29 11 _ (by decide)).trans base11)) w') ?_
        refine met_free po3 d3 (wanted_of gd3) (fun w' _ => run_ixSlice q3 ((eval_other _ 31 30 _ (by decide)).trans (eval_same _ _ _ (by simp only [put_size, hsz]; decide))) (eval_same _ _ _ (by simp only [put_size, hsz]; decide)) hlt w') ?_
        refine met_free po4 d4 (wanted_of gd4) (fun w' h' => run_load8 q4 (eval_same _ _ _ (by simp only [put_size, hsz]; decide)) h'.1) ?_
        refine met_free po5 d5 (wanted_of gd5) (fun w' _ => run_move q5 ((eval_other _ 33 11 _ (by decide)).trans ((eval_other _ 32 11 _ (by decide)).trans ((eval_other _ 31 11 _ (by decide)).trans ((eval_other _ 30 11 _ (by decide)).trans ((eval_other _ 29 11 _ (by decide)).trans base11))))) w') ?_
        refine met_free po6 d6 (wanted_of gd6) (fun w' _ => run_rem64 q6 (fun _ => rfl) (eval_same _ _ _ (by simp only [put_size, hsz]; decide)) (by omega) w') ?_
        refine met_free po7 d7 (wanted_of gd7) (fun w' _ => run_ix64 q7 ((eval_other _ 35 10 _ (by decide)).trans ((eval_other _ 34 10 _ (by decide)).trans ((eval_other _ 33 10 _ (by decide)).trans ((eval_other _ 32 10 _ (by decide)).trans ((eval_other _ 31 10 _ (by decide)).trans ((eval_other _ 30 10 _ (by decide)).trans ((eval_other _ 29 10 _ (by decide)).trans base10))))))) (eval_same _ _ _ (by simp only [put_size, hsz]; decide)) h64l w') ?_
        refine met_free po8 d8 (wanted_of gd8) (fun w' h' => run_load8 q8 (eval_same _ _ _ (by simp only [put_size, hsz]; decide)) h'.2) ?_
        refine met_free po9 d9 (wanted_of gd9) (fun w' _ => run_xor8 q9 ((eval_other _ 37 33 _ (by decide)).trans ((eval_other _ 36 33 _ (by decide)).trans ((eval_other _ 35 33 _ (by decide)).trans ((eval_other _ 34 33 _ (by decide)).trans (eval_same _ _ _ (by simp only [put_size, hsz]; decide)))))) (eval_same _ _ _ (by simp only [put_size, hsz]; decide)) w') ?_
        refine met_op po10 d10 (wanted_of gd10) (run_build1 q10 (eval_same _ _ _ (by simp only [put_size, hsz]; decide)) _) ⟨((((Below.refl _ _).alloc (Nat.le_refl _) _).cell (p := ⟨b, off + i, none⟩) hbl).trans hcb), ((((Below.refl _ _).alloc (Nat.le_refl _) _).cell (p := ⟨D, i % 64, none⟩) hDl).trans hcp)⟩ ?_
        refine met_wp po11 (wanted_of gd11) (wp_append_bytes (.tmp 29) (.tmp 39) q11 B u9 (Z.take i) [x ^^^ y] w8.heap.size 0 1 ((eval_other _ 39 29 _ (by decide)).trans ((eval_other _ 38 29 _ (by decide)).trans ((eval_other _ 37 29 _ (by decide)).trans ((eval_other _ 36 29 _ (by decide)).trans ((eval_other _ 35 29 _ (by decide)).trans ((eval_other _ 34 29 _ (by decide)).trans ((eval_other _ 33 29 _ (by decide)).trans ((eval_other _ 32 29 _ (by decide)).trans ((eval_other _ 31 29 _ (by decide)).trans ((eval_other _ 30 29 _ (by decide)).trans (eval_same _ _ _ (by rw [hsz]; decide)))))))))))) (H8.out.own.below (((Below.refl _ _).drew).alloc (Nat.le_refl _) _)) (eval_same _ _ _ (by simp only [put_size, hsz]; decide)) (range_bytesV (t := 5) (fr := (0, 0)) (l := [x ^^^ y]) (heap_new_at rfl)) (by simp) HLEN.out (by rw [size_alloc]; show B ≤ w8.heap.size + 1; have := H8.out.le; omega) (fun v' w' ho' hb' => ?_))
        rw [d11]
        have HO' := Lib.hid ho'; have HB' := Lib.hid hb'; clear ho' hb'
        refine ⟨⟨(HB'.out.cell (p := ⟨b, off + i, none⟩) HbB.out).trans ((((Below.refl w8.drew.heap.size w8.drew).alloc (Nat.le_refl _) _).cell (p := ⟨b, off + i, none⟩) hbl).trans hcb), (HB'.out.cell (p := ⟨D, i % 64, none⟩) HDB.out).trans ((((Below.refl w8.drew.heap.size w8.drew).alloc (Nat.le_refl _) _).cell (p := ⟨D, i % 64, none⟩) hDl).trans hcp)⟩, ?_⟩
        refine met_free po12 d12 (wanted_of gd12) (fun w' _ => run_assign q12 (eval_same _ _ _ (by simp only [put_size, hsz]; decide)) w') ?_
        show NoPanic _ .normal _ _
        refine NoPanic.normal ?_
        rw [HAA.out]
        go_frame
        rw [← HTK.out] at HO'
        go_wp2_with fail
        go_roundw
        case rel => exact ⟨i + 1, CB, by omega, by go_num, HCL.out, HPN.out, H8.out.next HO'.out ((((Below.refl B w8).drew).alloc (by show B ≤ w8.heap.size; exact H8.out.le) _).trans HB'.out)⟩
        case measure => simp [intOf]; omega
      · have e64 : (((i % 64 : Nat) : Int) == 0) = false := by simp; omega
        clear HBC
        go_upto_region 8 with (fail)
        clear e64
        have hPC : P = CB := HPB.out h64
        refine wp_gen (RX w key nonce D B CB (Z.take i) u9) (by rw [← hPC]; exact HR.out) ?_
        clear HR hPC
        intro w8 hw8
        have H8 := Lib.hid hw8; clear hw8
        have hcb := HSRC.out w8 H8.out.two.below
        have hcp := H8.out.part.cell (i % 64) (by rw [HCL.out]; exact h64l)
        generalize CB.getD (i % 64) 0#8 = y at hcp HTK
        have hbl : b < w8.heap.size := by have := H8.out.le; have := HbB.out; omega
        have hDl : D < w8.heap.size := H8.out.part.size
        refine region_phase (fun w1 => w1.cell? ⟨b, off + i, none⟩ = some (.int .u8 (n8 x)) ∧ w1.cell? ⟨D, i % 64, none⟩ = some (.int .u8 (n8 y))) (fun _ => True) 10 ⟨hcb, hcp⟩ trivial [(0, .free), (1, .free), (2, .free), (3, .free), (4, .free), (5, .free), (6, .free), (7, .free), (8, .free), (9, .free), (10, .behind), (11, .behind), (12, .free)] (by kernel_rfl) (by kernel_rfl) (by kernel_rfl) (by kernel_rfl) (fun ops hops A hA => ?_)
        have hsz : A.tmps.size = 42 := by rw [hA]; rfl
        have base3 : A.eval (.tmp 3) = .slice (some ⟨b, off, none⟩) n cap := by rw [hA]; rfl
        have base9 : A.eval (.tmp 9) = u9 := by rw [hA]; rfl
        have base10 : A.eval (.tmp 10) = .pointer (some ⟨D, 0, none⟩) := by rw [hA]; rfl
        have base11 : A.eval (.tmp 11) = .int .i64 (i : Int) := by rw [hA]; rfl
        have HAA := Lib.hid hA; clear hA
        obtain ⟨o0, po0, q0, d0, gd0⟩ : ∃ o, ops[0]? = some o ∧ o.op = .move (.tmp 9) ∧ o.dst = some 29 ∧ o.guard = none := ⟨_, by rw [hops]; rfl, rfl, rfl, rfl⟩
        obtain ⟨o1, po1, q1, d1, gd1⟩ : ∃ o, ops[1]? = some o ∧ o.op = .move (.tmp 3) ∧ o.dst = some 30 ∧ o.guard = none := ⟨_, by rw [hops]; rfl, rfl, rfl, rfl⟩
        obtain ⟨o2, po2, q2, d2, gd2⟩ : ∃ o, ops[2]? = some o ∧ o.op = .move (.tmp 11) ∧ o.dst = some 31 ∧ o.guard = none := ⟨_, by rw [hops]; rfl, rfl, rfl, rfl⟩
        obtain ⟨o3, po3, q3, d3, gd3⟩ : ∃ o, ops[3]? = some o ∧ o.op = .indexAddr 26 (.tmp 30) (.tmp 31) ∧ o.dst = some 32 ∧ o.guard = none := ⟨_, by rw [hops]; rfl, rfl, rfl, rfl⟩
        obtain ⟨o4, po4, q4, d4, gd4⟩ : ∃ o, ops[4]? = some o ∧ o.op = .load 5 (.tmp 32) ∧ o.dst = some 33 ∧ o.guard = none := ⟨_, by rw [hops]; rfl, rfl, rfl, rfl⟩
        obtain ⟨o5, po5, q5, d5, gd5⟩ : ∃ o, ops[5]? = some o ∧ o.op = .move (.tmp 11) ∧ o.dst = some 34 ∧ o.guard = none := ⟨_, by rw [hops]; rfl, rfl, rfl, rfl⟩
        obtain ⟨o6, po6, q6, d6, gd6⟩ : ∃ o, ops[6]? = some o ∧ o.op = .binOp .rem 3 (.tmp 34) (.const (.int .i64 64)) 3 ∧ o.dst = some 35 ∧ o.guard = none := ⟨_, by rw [hops]; rfl, rfl, rfl, rfl⟩
        obtain ⟨o7, po7, q7, d7, gd7⟩ : ∃ o, ops[7]? = some o ∧ o.op = .indexAddr 66 (.tmp 10) (.tmp 35) ∧ o.dst = some 36 ∧ o.guard = none := ⟨_, by rw [hops]; rfl, rfl, rfl, rfl⟩
        obtain ⟨o8, po8, q8, d8, gd8⟩ : ∃ o, ops[8]? = some o ∧ o.op = .load 5 (.tmp 36) ∧ o.dst = some 37 ∧ o.guard = none := ⟨_, by rw [hops]; rfl, rfl, rfl, rfl⟩
        obtain ⟨o9, po9, q9, d9, gd9⟩ : ∃ o, ops[9]? = some o ∧ o.op = .binOp .xor 5 (.tmp 33) (.tmp 37) 5 ∧ o.dst = some 38 ∧ o.guard = none := ⟨_, by rw [hops]; rfl, rfl, rfl, rfl⟩
        obtain ⟨o10, po10, q10, d10, gd10⟩ : ∃ o, ops[10]? = some o ∧ o.op = .buildSlice 26 1 #[(0, (.tmp 38))] ∧ o.dst = some 39 ∧ o.guard = none := ⟨_, by rw [hops]; rfl, rfl, rfl, rfl⟩
        obtain ⟨o11, po11, q11, d11, gd11⟩ : ∃ o, ops[11]? = some o ∧ o.op = .call { callee := .builtin .append, args := #[.tmp 29, .tmp 39], argTypes := #[26, 26] } ∧ o.dst = some 40 ∧ o.guard = none := ⟨_, by rw [hops]; rfl, rfl, rfl, rfl⟩
        obtain ⟨o12, po12, q12, d12, gd12⟩ : ∃ o, ops[12]? = some o ∧ o.op = .assign (.tmp 40) ∧ o.dst = some 9 ∧ o.guard = none := ⟨_, by rw [hops]; rfl, rfl, rfl, rfl⟩
        clear hops
        refine met_free po0 d0 (wanted_of gd0) (fun w' _ => run_move q0 base9 w') ?_
        refine met_free po1 d1 (wanted_of gd1) (fun w' _ => run_move q1 ((eval_other _ 29 3 _ (by decide)).trans base3) w') ?_
        refine met_free po2 d2 (wanted_of gd2) (fun w' _ => run_move q2 ((eval_other _ 30 11 _ (by decide)).trans ((eval_other _ 29 11 _ (by decide)).trans base11)) w') ?_
        refine met_free po3 d3 (wanted_of gd3) (fun w' _ => run_ixSlice q3 ((eval_other _ 31 30 _ (by decide)).trans (eval_same _ _ _ (by simp only [put_size, hsz]; decide))) (eval_same _ _ _ (by simp only [put_size, hsz]; decide)) hlt w') ?_
        refine met_free po4 d4 (wanted_of gd4) (fun w' h' => run_load8 q4 (eval_same _ _ _ (by simp only [put_size, hsz]; decide)) h'.1) ?_
        refine met_free po5 d5 (wanted_of gd5) (fun w' _ => run_move q5 ((eval_other _ 33 11 _ (by decide)).trans ((eval_other _ 32 11 _ (by decide)).trans ((eval_other _ 31 11 _ (by decide)).trans ((eval_other _ 30 11 _ (by decide)).trans ((eval_other _ 29 11 _ (by decide)).trans base11))))) w') ?_
        refine met_free po6 d6 (wanted_of gd6) (fun w' _ => run_rem64 q6 (fun _ => rfl) (eval_same _ _ _ (by simp only [put_size, hsz]; decide)) (by omega) w') ?_
        refine met_free po7 d7 (wanted_of gd7) (fun w' _ => run_ix64 q7 ((eval_other _ 35 10 _ (by decide)).trans ((eval_other _ 34 10 _ (by decide)).trans ((eval_other _ 33 10 _ (by decide)).trans ((eval_other _ 32 10 _ (by decide)).trans ((eval_other _ 31 10 _ (by decide)).trans ((eval_other _ 30 10 _ (by decide)).trans ((eval_other _ 29 10 _ (by decide)).trans base10))))))) (eval_same _ _ _ (by simp only [put_size, hsz]; decide)) h64l w') ?_
        refine met_free po8 d8 (wanted_of gd8) (fun w' h' => run_load8 q8 (eval_same _ _ _ (by simp only [put_size, hsz]; decide)) h'.2) ?_
        refine met_free po9 d9 (wanted_of gd9) (fun w' _ => run_xor8 q9 ((eval_other _ 37 33 _ (by decide)).trans ((eval_other _ 36 33 _ (by decide)).trans ((eval_other _ 35 33 _ (by decide)).trans ((eval_other _ 34 33 _ (by decide)).trans (eval_same _ _ _ (by simp only [put_size, hsz]; decide)))))) (eval_same _ _ _ (by simp only [put_size, hsz]; decide)) w') ?_
        refine met_op po10 d10 (wanted_of gd10) (run_build1 q10 (eval_same _ _ _ (by simp only [put_size, hsz]; decide)) _) ⟨((((Below.refl _ _).alloc (Nat.le_refl _) _).cell (p := ⟨b, off + i, none⟩) hbl).trans hcb), ((((Below.refl _ _).alloc (Nat.le_refl _) _).cell (p := ⟨D, i % 64, none⟩) hDl).trans hcp)⟩ ?_
        refine met_wp po11 (wanted_of gd11) (wp_append_bytes (.tmp 29) (.tmp 39) q11 B u9 (Z.take i) [x ^^^ y] w8.heap.size 0 1 ((eval_other _ 39 29 _ (by decide)).trans ((eval_other _ 38 29 _ (by decide)).trans ((eval_other _ 37 29 _ (by decide)).trans ((eval_other _ 36 29 _ (by decide)).trans ((eval_other _ 35 29 _ (by decide)).trans ((eval_other _ 34 29 _ (by decide)).trans ((eval_other _ 33 29 _ (by decide)).trans ((eval_other _ 32 29 _ (by decide)).trans ((eval_other _ 31 29 _ (by decide)).trans ((eval_other _ 30 29 _ (by decide)).trans (eval_same _ _ _ (by rw [hsz]; decide)))))))))))) (H8.out.own.below (((Below.refl _ _).drew).alloc (Nat.le_refl _) _)) (eval_same _ _ _ (by simp only [put_size, hsz]; decide)) (range_bytesV (t := 5) (fr := (0, 0)) (l := [x ^^^ y]) (heap_new_at rfl)) (by simp) HLEN.out (by rw [size_alloc]; show B ≤ w8.heap.size + 1; have := H8.out.le; omega) (fun v' w' ho' hb' => ?_))
        rw [d11]
        have HO' := Lib.hid ho'; have HB' := Lib.hid hb'; clear ho' hb'
        refine ⟨⟨(HB'.out.cell (p := ⟨b, off + i, none⟩) HbB.out).trans ((((Below.refl w8.drew.heap.size w8.drew).alloc (Nat.le_refl _) _).cell (p := ⟨b, off + i, none⟩) hbl).trans hcb), (HB'.out.cell (p := ⟨D, i % 64, none⟩) HDB.out).trans ((((Below.refl w8.drew.heap.size w8.drew).alloc (Nat.le_refl _) _).cell (p := ⟨D, i % 64, none⟩) hDl).trans hcp)⟩, ?_⟩
        refine met_free po12 d12 (wanted_of gd12) (fun w' _ => run_assign q12 (eval_same _ _ _ (by simp only [put_size, hsz]; decide)) w') ?_
        show NoPanic _ .normal _ _
        refine NoPanic.normal ?_
        rw [HAA.out]
        go_frame
        rw [← HTK.out] at HO'
        go_wp2_with fail
        go_roundw
        case rel => exact ⟨i + 1, CB, by omega, by go_num, HCL.out, HPN.out, H8.out.next HO'.out ((((Below.refl B w8).drew).alloc (by show B ≤ w8.heap.size; exact H8.out.le) _).trans HB'.out)⟩
        case measure => simp [intOf]; omega
    · have q0 : ¬ (i : Int) < (n : Int) := by omega
      have HRZ : Hid (Own B wr Z u9) := show Own _ _ _ _ by
        have h1 := HR.out.own
        rw [List.take_of_length_le (by rw [HZL.out]; omega)] at h1; exact h1
      go_wp2_with fail
      go_ret
      exact ⟨_, rfl, HRZ.out.base' (B' := w.heap.size) (by have := HR.out.lo; have := HR.out.hi; omega), HR.out.two.below⟩
end Go.Proofs.YtagkkihnfipfeaaDoor

/-
  The kit's SpoilBytes: it writes over the slice's own block, and nowhere else.
-/
namespace Go.Proofs.YtagkkihnfipfeaaDoor
open Go.RowKit Go.Proofs.ShaWords
set_option maxHeartbeats 400000 in
/-- SpoilBytes writes over the slice's own block, and nowhere else. -/
theorem spoil_own (xs : List (BitVec 8)) (B n cap : Nat) (q : Option Addr) (w : World) (hx : xs.length = n) (h : n ≤ 100000) (ho : Own B w xs (.slice q n cap)) :
    Calls Tryd.prog 15 #[.slice q n cap] w fun e w' => e = .returned (.tuple #[]) ∧ w.grownBy w' (Value.slice q n cap).ownBlock := by
  have HX := Lib.hid hx; clear hx
  have HO := Lib.hid ho; clear ho
  go_enter Tryd.func15, Tryd.ntmps15
  go_wp2_with fail
  go_loopw [2] (fun i wr => ∃ (k : Nat) (ys : List (BitVec 8)), k ≤ n ∧ i = .int .i64 (k : Int) ∧ ys.length = n ∧ Own B wr ys (.slice q n cap) ∧ w.grownBy wr (Value.slice q n cap).ownBlock) (fun i _ => n - (intOf i).toNat)
  case atStart => exact ⟨0, xs, by omega, rfl, HX.out, HO.out, World.grownBy.refl _ _⟩
  case round =>
    obtain ⟨k, ys, hk, rfl, hy, ho, hb⟩ := hrel
    by_cases hlt : k < n
    · obtain ⟨g, cc, he, -, -, -, -, hcell, hfr⟩ := ho.form8 (by omega)
      injection he with h1 h2 h3
      subst h1
      have hc := hcell k (by omega)
      have hf := hfr k
      clear hcell hfr h2 h3
      generalize ys.getD k 0#8 = x at hc
      have HW := Lib.hid ho; clear ho
      have HB := Lib.hid hb; clear hb
      have k0 : (0 : Int) ≤ (k : Int) := by omega
      have k1 : (k : Int) < (n : Int) := by omega
      have hm := mark_any (k + 7) wr (by omega)
      rw [show ((k + 7 : Nat) : Int) = (k : Int) + 7 by omega] at hm
      have HM := Lib.hid hm; clear hm
      go_wp2_with fail
      refine HM.out.mono ?_
      rintro e w' ⟨rfl, rfl⟩
      go_wp2_with fail
      have HOS := Lib.hid (HW.out.put k (mark (k + 7)))
      have HBS : Hid (w.grownBy (wr.setCell ⟨g, k, none⟩ (.int .u8 (n8 (mark (k + 7))))) (some g)) := grown_trans HB.out (grown_setCell _ _ _ _)
      go_roundw
      case rel => exact ⟨k + 1, ys.set k (mark (k + 7)), by omega, by go_num, by simp [hy], HOS.out, HBS.out⟩
      case measure => simp [intOf]; omega
    · have HB := Lib.hid hb; clear hb
      have k1 : ¬ (k : Int) < (n : Int) := by omega
      go_wp2_with fail
      go_end0
      exact ⟨rfl, HB.out⟩
end Go.Proofs.YtagkkihnfipfeaaDoor

/-
  Bytes that lie somewhere, past a change of one block.
-/
namespace Go.Proofs.YtagkkihnfipfeaaDoor
open Go.RowKit Go.Proofs.ShaWords
theorem lies_apart {w : World} {p : Option Addr} {l : List (BitVec 8)} {g h off : Nat} (hl : Lies w p l) (hp : p = some ⟨h, off, none⟩) (hne : h ≠ g) : Reads w g p l := by
  rcases hl with h0 | ⟨b, off, rfl, hr⟩
  · exact Or.inl h0
  · cases hp
    exact Or.inr ⟨_, _, rfl, hne, hr⟩
theorem lies_low {w wr : World} {p : Option Addr} {l : List (BitVec 8)} {g : Nat} (hl : Lies w p l) (hb : Below w.heap.size w wr) (hle : w.heap.size ≤ g) : Reads wr g p l := by
  rcases hl with h0 | ⟨b, off, rfl, hr⟩
  · exact Or.inl h0
  · cases l with
    | nil => exact Or.inl rfl
    | cons x l =>
      have h1 := World.block_lt_of_cell? w _ (hr 0 (.int .u8 (n8 x)) rfl)
      have h2 : b < w.heap.size := h1
      exact Or.inr ⟨_, _, rfl, by omega, range_keep hr hb⟩
theorem Reads.lies {w : World} {p : Option Addr} {l : List (BitVec 8)} {g : Nat} (h : Reads w g p l) : Lies w p l := by
  rcases h with h0 | ⟨b, off, rfl, _, hr⟩
  · exact Or.inl h0
  · exact Or.inr ⟨b, off, rfl, hr⟩
theorem KnL.past {w wr w' : World} {key nonce : List (BitVec 8)} {L L' : List (Option Addr × List (BitVec 8))} {g : Nat} (h : KnL w key nonce L wr) (hg : wr.grownBy w' (some g)) (hlo : w.heap.size + 1 < g) (hne : ∀ x ∈ L', Reads wr g x.1 x.2) : KnL w key nonce L' w' :=
  ⟨h.key.past hg (by omega), h.nonce.past hg (by omega), fun x hx => ((hne x hx).past hg).lies, h.below.grown hg h.below.size (fun k hk => by have := Option.some.inj hk; omega)⟩
end Go.Proofs.YtagkkihnfipfeaaDoor
