/-
  The reference's trimmed and p.
-/
import Derived.Test.YtgfmjfpafpmghaaPoRef2
import Derived.Test.YtgfmjfpafpmghaaPoMath
namespace Go.Proofs.Ytgfmjfpafpmghaa
open Go.RowKit Go.Proofs.ShaWords
theorem d4_cut (l : List Nat) (n : Nat) (h : l.getD n 0 = 0) (hv : d4 (l.take (n + 1)) = d4 l) : d4 (l.take n) = d4 l := by
  rw [← hv, d4_take_succ, h, Nat.mul_zero, Nat.add_zero]
set_option maxRecDepth 100000 in
set_option maxHeartbeats 2000000 in
theorem trimmed_any (l : List Nat) (m : Nat) (p : Option Addr) (cap : Nat) (w : World) (hm : l.length = m) (hl : m ≤ 1000) (hcap : m ≤ cap) (hL : LiesI w p l) :
    Calls Try.prog 33 #[.slice p m cap] w fun e w' => ∃ n, e = .returned (.slice p n cap) ∧ n ≤ m ∧ (n = 0 ∨ l.getD (n - 1) 0 ≠ 0) ∧ d4 (l.take n) = d4 l ∧ w = w' := by
  have HM := Lib.hid hm; clear hm
  have HL := Lib.hid hL; clear hL
  go_enter Try.func33, Try.ntmps33
  go_wp2_with fail
  go_loopw [3] (fun i wr => ∃ n : Nat, n ≤ m ∧ i = .int .i64 (n : Int) ∧ d4 (l.take n) = d4 l ∧ wr = w) (fun i _ => (intOf i).toNat)
  case atStart => exact ⟨m, Nat.le_refl _, rfl, by rw [List.take_of_length_le (by rw [HM.out]; omega)], rfl⟩
  case round =>
    obtain ⟨n, hn, rfl, hv, rfl⟩ := hrel
    by_cases h0 : n = 0
    · subst h0
      have HV := Lib.hid hv; clear hv
      have q1 : 0 ≤ (cap : Int) := by omega
      go_wp2_with fail
      go_ret
      exact ⟨0, rfl, Nat.zero_le _, Or.inl rfl, HV.out, rfl⟩
    · obtain ⟨b, off, hp, hr⟩ : ∃ b off, p = some ⟨b, off, none⟩ ∧ wr.rangeAt b off (numsV l) := by
        rcases HL.out with h | h
        · have := HM.out; rw [h] at this; simp at this; omega
        · exact h
      subst hp
      obtain ⟨k, rfl⟩ : ∃ k, n = k + 1 := ⟨n - 1, by omega⟩
      have c0 := rangeI_cell hr k (by rw [HM.out]; omega)
      have HV := Lib.hid hv
      have HR := Lib.hid hr
      clear hv hr
      have HC := Lib.hid (d4_cut l k)
      have q0 : 0 < ((k + 1 : Nat) : Int) := by omega
      have s0 : IntKind.i64.wrap (((k + 1 : Nat) : Int) - 1) = (k : Int) := by rw [IntWalk.i64_in _ (by omega)]; omega
      have q1 : 0 ≤ (k : Int) := by omega
      have q2 : (k : Int) < (m : Int) := by omega
      have q3 : (k : Int).toNat = k := by omega
      have HX : Hid (l.getD (k + 1 - 1) 0 = l.getD k 0) := show _ = _ by rw [Nat.add_sub_cancel]
      generalize l.getD k 0 = x at c0 HC HX
      obtain ⟨n, hnk⟩ : ∃ n, n = k + 1 := ⟨_, rfl⟩
      rw [← hnk] at q0 s0 HV HX hn ⊢
      have n1 : (n : Int) ≤ (cap : Int) := by omega
      have n2 : 0 ≤ (n : Int) := by omega
      have n3 : 0 < n := by omega
      have n4 : (n : Int).toNat = n := by omega
      by_cases hx : x = 0
      · subst hx
        have s1 : (n : Int) - 1 = (k : Int) := by omega
        go_wp2_with fail
        go_roundw
        case rel => exact ⟨k, by omega, by first | rfl | rw [s1], HC.out rfl (by rw [← hnk]; exact HV.out), by trivial⟩
        case measure => simp [intOf]; omega
      · have x0 : ¬ (x : Int) = 0 := by omega
        have s1 : (n : Int) - 1 = (k : Int) := by omega
        go_wp2_with fail
        go_ret
        exact ⟨n, by rw [hnk]; rfl, hn, Or.inr (by rw [HX.out]; exact hx), HV.out, rfl⟩
/-- The digits of 2^130 - 5. -/
def threes (k : Nat) : List Nat := List.replicate k 3
theorem threes_succ (k : Nat) : threes k ++ [3] = threes (k + 1) := by unfold threes; rw [List.replicate_succ']
def pL : List Nat := (threes 65).set 1 2
theorem pL_val : d4 pL = P130 := by decide +kernel
theorem pL_length : pL.length = 65 := by decide
theorem pL_dig (i : Nat) : pL.getD i 0 < 4 := by
  by_cases h : i < 65
  · have H : ∀ i : Fin 65, pL.getD i.val 0 < 4 := by decide +kernel
    exact H ⟨i, h⟩
  · simp [List.getD, List.getElem?_eq_none (show pL.length ≤ i by rw [pL_length]; omega)]
theorem OwnI.form {B : Nat} {w : World} {l : List Nat} {v : Value} (h : OwnI B w l v) (hne : 0 < l.length) : ∃ g cap, v = .slice (some ⟨g, 0, none⟩) l.length cap ∧ B ≤ g ∧ g < w.heap.size ∧ l.length ≤ cap ∧
    (∀ j, j < l.length → w.cell? ⟨g, j, none⟩ = some (.int .i64 (l.getD j 0 : Nat))) ∧ ∀ j, w.frozen? ⟨g, j, none⟩ = false := by
  rcases h.2 with ⟨rfl, h0⟩ | ⟨g, cap, cur, rfl, hg, hh, hc, hm, hs, ht⟩
  · omega
  · refine ⟨g, cap, rfl, hg, (Array.getElem?_eq_some_iff.1 hh).1, hc, fun j hj => ?_, fun j => frozen_of_row _ _ _ _ _ hh⟩
    rw [cell_of_row w g j cur 3 (0, 0) hh]
    have hv : (numsV l)[j]? = some (.int .i64 (l.getD j 0 : Nat)) := by simp [numsV, List.getD, hj]
    rw [← ht, Nat.mul_one, List.getElem?_take, if_pos hj] at hv
    simpa using hv
theorem OwnI.put {B g n cap : Nat} {w : World} {l : List Nat} (h : OwnI B w l (.slice (some ⟨g, 0, none⟩) n cap)) (k : Nat) (x : Nat) : OwnI B (w.setCell ⟨g, k, none⟩ (.int .i64 (x : Int))) (l.set k x) (.slice (some ⟨g, 0, none⟩) n cap) := by
  rcases h.2 with ⟨h0, _⟩ | ⟨g', cap', cur, he, hg, hh, hc, hm, hs, ht⟩
  · cases h0
  · cases he
    refine ⟨by rw [numsV_length, Nat.mul_one], .inr ⟨g, cap, cur.setIfInBounds k (.int .i64 (x : Int)), by rw [List.length_set], hg, heap_setCell_same _ _ _ _ _ _ hh, by rw [List.length_set]; exact hc, hm, by rw [Array.size_setIfInBounds]; exact hs, ?_⟩⟩
    rw [Nat.mul_one] at ht
    rw [List.length_set, Array.toList_setIfInBounds, Nat.mul_one, List.take_set, ht]
    simp [numsV, List.map_set]
attribute [local irreducible] threes
set_option maxRecDepth 100000 in
set_option maxHeartbeats 2000000 in
theorem p_any (w : World) : Calls Try.prog 36 #[] w fun e w' => ∃ v, e = .returned v ∧ OwnI w.heap.size w' pL v ∧ Below w.heap.size w w' := by
  have HT0 : Hid (threes 0 = []) := show _ = _ by unfold threes; rfl
  have HTL : Hid (∀ k, (threes k).length = k) := show ∀ k, _ = _ from fun k => by unfold threes; simp
  go_enter Try.func36, Try.ntmps36
  go_wp2_with fail
  go_loopw [1, 2] (fun v i wr => ∃ k : Nat, k ≤ 65 ∧ i = .int .i64 (k : Int) ∧ OwnI w.heap.size wr (threes k) v ∧ Below w.heap.size w wr) (fun _ i _ => 65 - (intOf i).toNat)
  case atStart => exact ⟨0, by omega, rfl, by rw [HT0.out]; exact OwnI.nil _ _, Below.refl _ _⟩
  case round =>
    obtain ⟨k, hk, rfl, ho, hb⟩ := hrel
    have HO := Lib.hid ho
    have HB := Lib.hid hb
    clear ho hb
    by_cases hlt : k < 65
    · have q0 : (k : Int) < 65 := by omega
      go_wp2_with (at_builtin; refine wpList_append_num rfl (.tmp 7) (.tmp 8) rfl w.heap.size _ (threes k) 3 rfl HO.out rfl (by rw [HTL.out]; omega) HB.out.size ?_; intro v' w' ho' hb'; have HX2 := Lib.hid ho'; have HB2 := Lib.hid (HB.out.trans hb'); clear ho' hb')
      go_roundw
      case rel => exact ⟨k + 1, by omega, by go_num, by rw [← threes_succ]; exact HX2.out, HB2.out⟩
      case measure => simp [intOf]; omega
    · obtain rfl : k = 65 := by omega
      obtain ⟨g, cp, hv, hg, hgs, hcp, hcell, hfz⟩ := HO.out.form (by rw [HTL.out]; omega)
      subst hv
      have c1 := hcell 1 (by rw [HTL.out]; omega)
      have f1 := hfz 1
      rw [HTL.out] at HO hcp ⊢
      clear hcell hfz
      generalize (threes 65).getD 1 0 = u at c1
      go_wp2_with fail
      go_ret
      refine ⟨_, rfl, ?_, HB.out.setCell hg _⟩
      unfold pL
      exact HO.out.put 1 2
end Go.Proofs.Ytgfmjfpafpmghaa
