/-
  The reference's below.
-/
import Derived.Test.YtgfmjfpafpmghaaPoRef4
namespace Go.Proofs.Ytgfmjfpafpmghaa
open Go.RowKit Go.Proofs.ShaWords
theorem d4_ext (a b : List Nat) (h : ∀ i, a.getD i 0 = b.getD i 0) : d4 a = d4 b := by
  induction a generalizing b with
  | nil =>
    induction b with
    | nil => rfl
    | cons y r ih =>
      have h0 := h 0
      have ih := ih (fun i => by have := h (i + 1); simpa using this)
      have hy : y = 0 := h0.symm
      have hr : d4 r = 0 := ih.symm
      show 0 = y + 4 * d4 r
      omega
  | cons x r ih =>
    cases b with
    | nil =>
      have h0 := h 0
      have ih := ih [] (fun i => by have := h (i + 1); simpa using this)
      have hx : x = 0 := h0
      have hr : d4 r = 0 := ih
      show x + 4 * d4 r = 0
      omega
    | cons y s =>
      have h0 := h 0
      have ih := ih s (fun i => by have := h (i + 1); simpa using this)
      rw [List.getD_cons_zero, List.getD_cons_zero] at h0
      rw [d4, d4, ih, h0]
theorem d4_split (l : List Nat) (n : Nat) : d4 l = d4 (l.take n) + 4 ^ n * d4 (l.drop n) := by
  by_cases h : n ≤ l.length
  · have e := d4_append (l.take n) (l.drop n)
    rw [List.take_append_drop, List.length_take, Nat.min_eq_left h] at e
    exact e
  · rw [List.take_of_length_le (by omega), List.drop_of_length_le (by omega)]; simp [d4]
theorem getD_takeN (l : List Nat) (n i : Nat) : (l.take n).getD i 0 = if i < n then l.getD i 0 else 0 := by
  by_cases h : i < n
  · rw [if_pos h]; simp [List.getD, h]
  · rw [if_neg h]; simp [List.getD, List.getElem?_take, h]
theorem d4_take_lt (l : List Nat) (n : Nat) (h : ∀ i, l.getD i 0 < 4) : d4 (l.take n) < 4 ^ n := by
  have h1 := d4_lt (l.take n) (fun i => by rw [getD_takeN]; split; exact h i; omega)
  have h2 : 4 ^ (l.take n).length ≤ 4 ^ n := Nat.pow_le_pow_right (by omega) (by rw [List.length_take]; omega)
  omega
theorem d4_less (a b : List Nat) (k : Nat) (ha : ∀ i, a.getD i 0 < 4) (hs : ∀ i, k < i → a.getD i 0 = b.getD i 0) (hl : a.getD k 0 < b.getD k 0) : d4 a < d4 b := by
  rw [d4_split a (k + 1), d4_split b (k + 1), d4_take_succ, d4_take_succ]
  have e : d4 (a.drop (k + 1)) = d4 (b.drop (k + 1)) := d4_ext _ _ (fun i => by
    have := hs (k + 1 + i) (by omega)
    simpa [List.getD, List.getElem?_drop] using this)
  rw [e]
  have h1 := d4_take_lt a k ha
  obtain ⟨d, hd⟩ : ∃ d, b.getD k 0 = a.getD k 0 + 1 + d := ⟨b.getD k 0 - a.getD k 0 - 1, by omega⟩
  rw [hd, Nat.mul_add, Nat.mul_add, Nat.mul_one]
  omega
set_option maxRecDepth 100000 in
set_option maxHeartbeats 4000000 in
theorem below_any (l : List Nat) (m : Nat) (p : Option Addr) (cap : Nat) (w : World) (hm : l.length = m) (hl : m ≤ 1000) (hd : ∀ i, l.getD i 0 < 4) (hL : LiesI w p l) :
    Calls Try.prog 34 #[.slice p m cap] w fun e w' => e = .returned (.bool (decide (d4 l < P130))) ∧ Below w.heap.size w w' := by
  have HM := Lib.hid hm; clear hm
  have HL := Lib.hid hL; clear hL
  have HD := Lib.hid hd; clear hd
  obtain ⟨M, hM⟩ : ∃ M, M = max m 65 := ⟨_, rfl⟩
  have HMX := Lib.hid hM
  have hM1 : M ≤ 1000 := by omega
  have hM2 : 65 ≤ M := by omega
  have hM3 : m ≤ M := by omega
  clear hM
  go_enter Try.func34, Try.ntmps34
  go_wp2_with fail
  refine (p_any w).mono ?_
  rintro e w1 ⟨v, rfl, ho, hb⟩
  obtain ⟨pq, cq, hv, hcq, hlq⟩ := ho.lies
  rw [pL_length] at hv hcq
  subst hv
  have HQ := Lib.hid hlq
  have HB1 := Lib.hid hb
  clear ho hb hlq
  have mw : IntKind.i64.wrap ((M : Int) - 1) = (M : Int) - 1 := IntWalk.i64_in _ (by omega)
  go_wp2_with (refine wpList_max rfl (.tmp 7) (.const (.int .i64 65)) rfl m 65 M rfl rfl HMX.out ?_)
  clear mw
  go_loopw [4] (fun i wr => ∃ k : Nat, k ≤ M ∧ i = .int .i64 ((k : Int) - 1) ∧ (∀ j, k ≤ j → l.getD j 0 = pL.getD j 0) ∧ wr = w1) (fun i _ => (intOf i + 1).toNat)
  case atStart =>
    refine ⟨M, Nat.le_refl _, rfl, fun j hj => ?_, rfl⟩
    have h1 : l.getD j 0 = 0 := by simp [List.getD, List.getElem?_eq_none (show l.length ≤ j by rw [HM.out]; omega)]
    have h2 : pL.getD j 0 = 0 := by simp [List.getD, List.getElem?_eq_none (show pL.length ≤ j by rw [pL_length]; omega)]
    rw [h1, h2]
  case round =>
    obtain ⟨k, hk, rfl, hs, rfl⟩ := hrel
    by_cases h0 : k = 0
    · subst h0
      have hv : d4 l = P130 := by rw [← pL_val]; exact d4_ext _ _ (fun i => hs i (Nat.zero_le _))
      have HV : Hid (decide (d4 l < P130) = false) := show _ = _ by rw [hv]; decide
      clear hv hs
      go_wp2_with fail
      go_ret
      exact ⟨by rw [HV.out]; rfl, HB1.out⟩
    · obtain ⟨j, rfl⟩ : ∃ j, k = j + 1 := ⟨k - 1, by omega⟩
      have hLw := HL.out.below HB1.out
      have HD1 := Lib.hid (fun (w2 : World) (h : w2 = wr) => digit_any l m j p cap w2 HM.out (by omega) (by omega) (by rw [h]; exact hLw))
      have HD2 := Lib.hid (fun (w2 : World) (h : w2 = wr) => digit_any pL 65 j pq cq w2 pL_length (by omega) (by omega) (by rw [h]; exact HQ.out))
      have HS := Lib.hid hs
      have HLT := Lib.hid (d4_less l pL j HD.out (fun i hi => hs i (by omega)))
      have HGT := Lib.hid (d4_less pL l j pL_dig (fun i hi => (hs i (by omega)).symm))
      have HEQ : Hid (l.getD j 0 = pL.getD j 0 → ∀ i, j ≤ i → l.getD i 0 = pL.getD i 0) := show _ → _ from fun h i hi => by
        by_cases hij : i = j
        · rw [hij]; exact h
        · exact hs i (by omega)
      clear hs hLw
      have e1 : ((j + 1 : Nat) : Int) - 1 = (j : Int) := by omega
      have e2 : (j : Int) + 1 - 1 = (j : Int) := by omega
      generalize hx : l.getD j 0 = x at HD1 HLT HGT HEQ
      generalize hy : pL.getD j 0 = y at HD2 HLT HGT HEQ
      have j0 : 0 ≤ (j : Int) := by omega
      rw [e1]
      by_cases hxy : x = y
      · subst hxy
        go_wp2_with fail
        refine (HD1.out _ rfl).mono ?_
        rintro e w' ⟨rfl, rfl⟩
        go_wp2_with fail
        refine (HD2.out _ rfl).mono ?_
        rintro e w' ⟨rfl, rfl⟩
        go_wp2_with fail
        go_roundw
        case rel => exact ⟨j, by omega, by go_num, HEQ.out (by trivial), by trivial⟩
        case measure => simp [intOf]
      · have hne : ¬ (x : Int) = (y : Int) := by omega
        by_cases hlt : x < y
        · have q0 : (x : Int) < (y : Int) := by omega
          have HV : Hid (decide (d4 l < P130) = true) := show _ = _ by rw [← pL_val]; exact decide_eq_true (HLT.out hlt)
          go_wp2_with fail
          refine (HD1.out _ rfl).mono ?_
          rintro e w' ⟨rfl, rfl⟩
          go_wp2_with fail
          refine (HD2.out _ rfl).mono ?_
          rintro e w' ⟨rfl, rfl⟩
          go_wp2_with fail
          refine (HD1.out _ rfl).mono ?_
          rintro e w' ⟨rfl, rfl⟩
          go_wp2_with fail
          refine (HD2.out _ rfl).mono ?_
          rintro e w' ⟨rfl, rfl⟩
          go_wp2_with fail
          go_ret
          exact ⟨by rw [HV.out]; rfl, HB1.out⟩
        · have q0 : ¬ (x : Int) < (y : Int) := by omega
          have HV : Hid (decide (d4 l < P130) = false) := show _ = _ by rw [← pL_val]; exact decide_eq_false (by have := HGT.out (by omega); omega)
          go_wp2_with fail
          refine (HD1.out _ rfl).mono ?_
          rintro e w' ⟨rfl, rfl⟩
          go_wp2_with fail
          refine (HD2.out _ rfl).mono ?_
          rintro e w' ⟨rfl, rfl⟩
          go_wp2_with fail
          refine (HD1.out _ rfl).mono ?_
          rintro e w' ⟨rfl, rfl⟩
          go_wp2_with fail
          refine (HD2.out _ rfl).mono ?_
          rintro e w' ⟨rfl, rfl⟩
          go_wp2_with fail
          go_ret
          exact ⟨by rw [HV.out]; rfl, HB1.out⟩
end Go.Proofs.Ytgfmjfpafpmghaa
