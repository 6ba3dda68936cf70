/-
  RingApart, for any pair of subjects, slot and number: the law returns true, and what came in reads afterwards as it read before. Without any condition.
-/
import Derived.Test.YtoidjapenompiaaPkA
import Derived.Test.YtoidjapenompiaaPkZ
import Derived.Test.YtoidjapenompiaaPkB
/-
  RingApart's walk.
-/
namespace Go.Proofs.Ytoidjapenompiaa
open Go.RowKit Go.Proofs.ShaWords
abbrev noB : ByteArray := ⟨#[]⟩
theorem atK_one (T S : ByteArray) (k u : Nat) (f : Bool) (t s : ByteArray) : atK [⟨T, S, k, u, f⟩] t s = if T = t ∧ S = s then some 0 else none := by
  by_cases h : T = t ∧ S = s
  · rw [if_pos h]
    unfold atK
    simp [List.findIdx?_cons, HoldK.is, h]
  · rw [if_neg h]
    exact atK_is_none fun x hx => by
      rw [List.mem_singleton.1 hx]
      exact h
theorem holdK_one (T S : ByteArray) (k : Nat) (t s : ByteArray) : holdK [⟨T, S, k, 0, false⟩] t s = if T = t ∧ S = s then (⟨T, S, k, 0, false⟩, true) else (HoldK.zero, false) := by
  unfold holdK
  rw [atK_one]
  by_cases h : T = t ∧ S = s
  · rw [if_pos h, if_pos h]; rfl
  · rw [if_neg h, if_neg h]
theorem atK_two {T S O : ByteArray} (h : ¬ S = O) (a b : HoldK) (ha : a.t = T ∧ a.s = S) (hb : b.t = T ∧ b.s = O) : atK [a, b] T S = some 0 ∧ atK [a, b] T O = some 1 := by
  unfold atK
  refine ⟨?_, ?_⟩
  · simp [List.findIdx?_cons, HoldK.is, ha]
  · simp [List.findIdx?_cons, HoldK.is, ha, hb, h]
theorem makeK_first (T S : ByteArray) (k : Nat) (hk : 1 ≤ k ∧ k ≤ 64) : makeK [] T S (k : Int) = (0, [⟨T, S, k, 0, false⟩]) := by
  unfold makeK
  rw [if_neg (by omega)]
  rfl
theorem makeK_other (T S O : ByteArray) (k : Nat) (hk : k < 64) : makeK [⟨T, S, k, 0, false⟩] T O ((k : Int) + 1) = if S = O then (13, [⟨T, S, k, 0, false⟩]) else (0, [⟨T, S, k, 0, false⟩, ⟨T, O, k + 1, 0, false⟩]) := by
  unfold makeK
  rw [if_neg (by omega), atK_one]
  by_cases h : S = O
  · rw [if_pos ⟨rfl, h⟩, if_pos h]
  · rw [if_neg (fun e => h e.2), if_neg h]
    rfl
theorem useK_other {T S O : ByteArray} (h : ¬ S = O) (k : Nat) (n : Int) : ∃ u, useK [⟨T, S, k, 0, false⟩, ⟨T, O, k + 1, 0, false⟩] T O n = (if n < 1 then 1 else if n > 200 then 16 else 0, [⟨T, S, k, 0, false⟩, ⟨T, O, k + 1, u, false⟩]) := by
  unfold useK
  have h1 := (atK_two h ⟨T, S, k, 0, false⟩ ⟨T, O, k + 1, 0, false⟩ ⟨rfl, rfl⟩ ⟨rfl, rfl⟩).2
  by_cases h2 : n < 1
  · rw [if_pos h2, if_pos h2]; exact ⟨0, rfl⟩
  · rw [if_neg h2, if_neg h2, h1]
    by_cases h3 : n > 200
    · rw [if_pos h3]
      refine ⟨0, ?_⟩
      simp [getK, h3]
    · rw [if_neg h3]
      refine ⟨n.toNat, ?_⟩
      simp [getK, h3]
theorem shredK_other {T S O : ByteArray} (h : ¬ S = O) (k u : Nat) : shredK [⟨T, S, k, 0, false⟩, ⟨T, O, k + 1, u, false⟩] T O = (0, [⟨T, S, k, 0, false⟩, ⟨T, O, k + 1, u, true⟩]) := by
  unfold shredK
  rw [(atK_two h ⟨T, S, k, 0, false⟩ ⟨T, O, k + 1, u, false⟩ ⟨rfl, rfl⟩ ⟨rfl, rfl⟩).2]
  simp [getK]
theorem holdK_other {T S O : ByteArray} (h : ¬ S = O) (k u : Nat) : holdK [⟨T, S, k, 0, false⟩, ⟨T, O, k + 1, u, true⟩] T S = (⟨T, S, k, 0, false⟩, true) := by
  unfold holdK
  rw [(atK_two h ⟨T, S, k, 0, false⟩ ⟨T, O, k + 1, u, true⟩ ⟨rfl, rfl⟩ ⟨rfl, rfl⟩).1]
  rfl
theorem range_only : ∀ k, k < 65 → (List.range 65).filter (fun j => k == j) = [k] := by decide
theorem slots_live (T S O : ByteArray) (k u : Nat) (hk : k < 64) : slotsK [⟨T, S, k, 0, false⟩, ⟨T, O, k + 1, u, true⟩] false = [k] := by
  rw [← range_only k (by omega)]
  unfold slotsK
  congr 1
  funext j
  simp
theorem slots_dead (T S O : ByteArray) (k u : Nat) (hk : k < 64) : slotsK [⟨T, S, k, 0, false⟩, ⟨T, O, k + 1, u, true⟩] true = [k + 1] := by
  rw [← range_only (k + 1) (by omega)]
  unfold slotsK
  congr 1
  funext j
  simp
set_option maxRecDepth 100000 in
set_option maxHeartbeats 2000000 in
theorem krApart_any (T S O : ByteArray) (z n : Int) (w : World) (hT : T.size ≤ 140737488351232) (hS : S.size ≤ 140737488351232) (hO : O.size ≤ 140737488351232) (_hz : wrap64 z = z) (hn : wrap64 n = n) :
    Calls Try.prog 5 #[.agg #[.string T, .string S, .string O, .int .i64 z, .int .i64 n]] w fun e w' => e = .returned (.bool true) ∧ Below w.heap.size w w' := by
  have HSZ := Lib.hid (And.intro hT (And.intro hS hO))
  have HNW := Lib.hid hn
  clear hT hS hO hn
  go_enter Try.func5, Try.ntmps5
  go_wp2_with fail
  go_region
  go_wp2_with fail
  have hb0 : Below w.heap.size w (w.alloc (.cells #[.string T, .string S, .string O, .int .i64 z, .int .i64 n] 48)).drew := by
    have h := (Below.refl w.heap.size w).alloc (Nat.le_refl _) (.cells #[.string T, .string S, .string O, .int .i64 z, .int .i64 n] 48)
    exact ⟨h.os, h.tape, h.output, h.size, h.block⟩
  have HB0 := Lib.hid hb0
  clear hb0
  refine (pick_any z 63 _ (by omega) (by omega)).mono ?_
  rintro e w1 ⟨k', hk, rfl, rfl⟩
  go_wp2_with fail
  refine (krNewX _ w.heap.size HB0.out.size).mono ?_
  rintro e w1 ⟨r, rfl, hx, hb⟩
  have HX1 := Lib.hid hx; have HB1 := Lib.hid (HB0.out.trans (hb.mono HB0.out.size))
  clear hx hb HB0
  go_wp2_with fail
  obtain ⟨k, hkk⟩ : ∃ k : Nat, 1 + (k' : Int) = (k : Int) := ⟨k' + 1, by omega⟩
  rw [hkk]
  have HK : Hid ((1 ≤ k ∧ k < 64) ∧ True) := show _ ∧ _ from ⟨by omega, trivial⟩
  clear hkk hk
  refine (HX1.out.krMake NoP.part HB1.out.size T S (k : Int) (by have := HSZ.out; omega) (by have := HSZ.out; omega) (by simp)).mono ?_
  rintro e w2 ⟨rfl, hx, hb⟩
  have e2 := makeK_first T S k (by have := HK.out.1; omega)
  rw [e2] at hx
  have HX2 := Lib.hid hx; have HB2 := Lib.hid (HB1.out.trans hb)
  rw [e2]
  clear hx hb e2 HX1 HB1
  have q : T.size + S.size ≤ 9223372036854775807 := by have := HSZ.out; omega
  have HTS : Hid ((T ++ S).size ≤ 281474976710656) := show _ ≤ _ from by have := HSZ.out; rw [ByteArray.size_append]; omega
  have hf1 : ∃ x1 ok1, holdK [⟨T, S, k, 0, false⟩] (T ++ S) ⟨#[]⟩ = (x1, ok1) ∧ (ok1 = true → (S == ⟨#[]⟩) = true ∧ (T ++ S == T) = true) := by
    rw [holdK_one]
    by_cases h : T = T ++ S ∧ S = ⟨#[]⟩
    · rw [if_pos h]
      exact ⟨_, _, rfl, fun _ => ⟨by rw [h.2]; rfl, by rw [← h.1, bytes_beq]; exact decide_eq_true rfl⟩⟩
    · rw [if_neg h]
      exact ⟨_, _, rfl, fun e => by cases e⟩
  obtain ⟨x1, ok1, e1, hf1⟩ := hf1
  have hf2 : ∃ x2 ok2, holdK [⟨T, S, k, 0, false⟩] S T = (x2, ok2) ∧ (ok2 = true → (S == T) = true) := by
    rw [holdK_one]
    by_cases h : T = S ∧ S = T
    · rw [if_pos h]
      exact ⟨_, _, rfl, fun _ => by rw [h.2, bytes_beq]; exact decide_eq_true rfl⟩
    · rw [if_neg h]
      exact ⟨_, _, rfl, fun e => by cases e⟩
  obtain ⟨x2, ok2, e2, hf2⟩ := hf2
  have hf3 : ∃ x3, holdK [⟨T, S, k, 0, false⟩] T O = (x3, O == S) := by
    rw [holdK_one]
    by_cases h : S = O
    · rw [if_pos ⟨rfl, h⟩]
      exact ⟨_, by rw [bytes_beq, decide_eq_true h.symm]⟩
    · rw [if_neg (fun e => h e.2)]
      exact ⟨_, by rw [bytes_beq, decide_eq_false (fun e => h e.symm)]⟩
  obtain ⟨x3, e3⟩ := hf3
  have HF := Lib.hid (And.intro hf1 hf2)
  have HE1 := Lib.hid e1
  have HE2 := Lib.hid e2
  have HE3 := Lib.hid e3
  clear e1 e2 e3 hf1 hf2
  go_wp2_with fail
  refine (HX2.out.krHold (T ++ S) ⟨#[]⟩ HTS.out (by decide)).mono ?_
  rintro e w3 ⟨rfl, hb⟩
  rw [HE1.out]
  have hba : Below w3.heap.size w3 (w3.alloc (.cells #[.int .i64 (x1.slot : Int), .int .i64 (x1.uses : Int), .bool x1.shred] 43)) := (Below.refl _ _).alloc (Nat.le_refl _) _
  have hbb := hb.trans (hba.mono hb.size)
  have HX3 := Lib.hid (HX2.out.below (KrAt.part _ _) NoP.part hbb)
  have HB3 := Lib.hid (HB2.out.trans (hbb.mono HB2.out.size))
  clear hb hba hbb HX2 HB2
  go_wp2_with fail
  refine (HX3.out.krHold S T (by have := HSZ.out; omega) (by have := HSZ.out; omega)).mono ?_
  rintro e w4 ⟨rfl, hb⟩
  rw [HE2.out]
  have hba : Below w4.heap.size w4 (w4.alloc (.cells #[.int .i64 (x2.slot : Int), .int .i64 (x2.uses : Int), .bool x2.shred] 43)) := (Below.refl _ _).alloc (Nat.le_refl _) _
  have hbb := hb.trans (hba.mono hb.size)
  have HX4 := Lib.hid (HX3.out.below (KrAt.part _ _) NoP.part hbb)
  have HB4 := Lib.hid (HB3.out.trans (hbb.mono HB3.out.size))
  clear hb hba hbb HX3 HB3
  go_wp2_with fail
  refine (HX4.out.krHold T O (by have := HSZ.out; omega) (by have := HSZ.out; omega)).mono ?_
  rintro e w5 ⟨rfl, hb⟩
  rw [HE3.out]
  have hba : Below w5.heap.size w5 (w5.alloc (.cells #[.int .i64 (x3.slot : Int), .int .i64 (x3.uses : Int), .bool x3.shred] 43)) := (Below.refl _ _).alloc (Nat.le_refl _) _
  have hbb := hb.trans (hba.mono hb.size)
  have HX5 := Lib.hid (HX4.out.below (KrAt.part _ _) NoP.part hbb)
  have HB5 := Lib.hid (HB4.out.trans (hbb.mono HB4.out.size))
  clear hb hba hbb HX4 HB4 HE1 HE2 HE3
  have hsp : ∀ b1 b2 : Bool, ok1 = b1 → ok2 = b2 → (b1 = true → S.toList = [] ∧ (T ++ S).toList = T.toList ∧ O.toList.isEmpty = decide (S = O)) ∧ (b2 = true → (S.toList == T.toList) = true) ∧ (b1 = true → b2 = true → T.toList.isEmpty = true) := fun b1 b2 h1 h2 => by
    rw [← h1, ← h2]
    have h2 : ok2 = true → S = T := fun e => by
      have h := HF.out.2 e
      rwa [bytes_beq, decide_eq_true_eq] at h
    have h1 : ok1 = true → S = ⟨#[]⟩ ∧ T ++ S = T := fun e => by
      have h := HF.out.1 e
      rwa [bytes_beq, decide_eq_true_eq, bytes_beq, decide_eq_true_eq] at h
    have hn : ∀ x : ByteArray, x.toList = x.data.toList := ByteArray.toList_eq
    refine ⟨fun e => ?_, fun e => by rw [h2 e]; exact beq_self_eq_true _, fun e e' => ?_⟩
    · obtain ⟨g1, g2⟩ := h1 e
      refine ⟨by rw [hn, g1], by rw [g2], ?_⟩
      apply Bool.eq_iff_iff.2
      rw [decide_eq_true_eq, hn, g1]
      constructor
      · intro h
        obtain ⟨⟨o⟩⟩ := O
        simp at h
        rw [h]
      · intro h
        rw [← h]
        rfl
    · rw [← h2 e', hn, (h1 e).1]
      rfl
  have hkb : k < 64 := HK.out.1.2
  by_cases hSO : S = O
  · rw [show (O == S) = true by rw [bytes_beq, decide_eq_true hSO.symm]]
    have hos : (O.toList == S.toList) = true := by rw [hSO]; exact beq_self_eq_true _
    have HSO := Lib.hid hSO
    clear hSO
    cases ok1 <;> cases ok2
    all_goals
      obtain ⟨g1, g2, g3⟩ := hsp _ _ rfl rfl
      simp only [forall_const, reduceCtorEq, false_implies, decide_eq_true HSO.out] at g1 g2 g3
      clear hsp
      go_wp2_with fail
      refine (HX5.out.krMake NoP.part HB5.out.size T O _ (by have := HSZ.out; omega) (by have := HSZ.out; omega) (by simp)).mono ?_
      rintro e w6 ⟨rfl, hx, hb⟩
      rw [makeK_other T S O k HK.out.1.2, if_pos HSO.out]
      have HB6 := Lib.hid (HB5.out.trans hb)
      clear hx hb HX5 HB5
      go_wp2_with fail
      refine (krKnown_any _).mono ?_
      rintro e w9 ⟨rfl, hb⟩
      have HB9 := Lib.hid (HB6.out.trans (hb.mono HB6.out.size))
      clear hb HB6
      go_wp2_with fail
      go_ret
      exact ⟨rfl, HB9.out⟩
  · rw [show (O == S) = false by rw [bytes_beq, decide_eq_false (fun e => hSO e.symm)]]
    have hos : (O.toList == S.toList) = false := by
      rw [ByteArray.toList_eq, ByteArray.toList_eq]
      refine beq_false_of_ne fun e => hSO ?_
      obtain ⟨⟨o⟩⟩ := O
      obtain ⟨⟨s⟩⟩ := S
      exact (congrArg (fun x : List UInt8 => (⟨⟨x⟩⟩ : ByteArray)) e).symm
    have HSO := Lib.hid hSO
    clear hSO
    cases ok1 <;> cases ok2
    all_goals
      obtain ⟨g1, g2, g3⟩ := hsp _ _ rfl rfl
      simp only [forall_const, reduceCtorEq, false_implies, decide_eq_false HSO.out] at g1 g2 g3
      clear hsp
      go_wp2_with fail
      refine (HX5.out.krMake NoP.part HB5.out.size T O _ (by have := HSZ.out; omega) (by have := HSZ.out; omega) (by simp)).mono ?_
      rintro e w6 ⟨rfl, hx, hb⟩
      rw [makeK_other T S O k HK.out.1.2, if_neg HSO.out] at hx
      have HX6 := Lib.hid hx
      rw [makeK_other T S O k HK.out.1.2, if_neg HSO.out]
      have HB6 := Lib.hid (HB5.out.trans hb)
      clear hx hb HX5 HB5
      go_wp2_with fail
      clear g1 g2 g3 hos HF q
      refine (HX6.out.krUse NoP.part HB6.out.size T O n (by have := HSZ.out; omega) (by have := HSZ.out; omega) HNW.out).mono ?_
      rintro e w7 ⟨rfl, hx, hb⟩
      obtain ⟨u, hu⟩ := useK_other HSO.out k n
      rw [hu] at hx
      have HX7 := Lib.hid hx
      rw [hu]
      have HB7 := Lib.hid (HB6.out.trans hb)
      clear hx hb hu HX6 HB6
      go_wp2_with fail
      all_goals
        refine (HX7.out.krShred NoP.part HB7.out.size T O (by have := HSZ.out; omega) (by have := HSZ.out; omega)).mono ?_
        rintro e w8 ⟨rfl, hx, hb⟩
        rw [shredK_other HSO.out] at hx
        have HX8 := Lib.hid hx
        rw [shredK_other HSO.out]
        have HB8 := Lib.hid (HB7.out.trans hb)
        clear hx hb HX7 HB7
        go_wp2_with fail
        refine (HX8.out.krHold T S (by have := HSZ.out; omega) (by have := HSZ.out; omega)).mono ?_
        rintro e w9 ⟨rfl, hb⟩
        rw [holdK_other HSO.out]
        have hba : Below w9.heap.size w9 (w9.alloc (.cells #[.int .i64 (k : Int), .int .i64 0, .bool false] 43)) := (Below.refl _ _).alloc (Nat.le_refl _) _
        have hbb := hb.trans (hba.mono hb.size)
        have HX9 := Lib.hid (HX8.out.below (KrAt.part _ _) NoP.part hbb)
        have HB9 := Lib.hid (HB8.out.trans (hbb.mono HB8.out.size))
        clear hb hba hbb HX8 HB8
        go_wp2_with fail
        refine HX9.out.krLive.mono ?_
        rintro e w10 ⟨v, rfl, ho, hb⟩
        rw [slots_live T S O k u HK.out.1.2] at ho
        obtain ⟨p10, cap10, rfl, hl⟩ := ho.out
        have hba : Below w10.heap.size w10 (w10.alloc (.cells #[.int .i64 (k : Int)] 3)) := (Below.refl _ _).alloc (Nat.le_refl _) _
        have HL10 := Lib.hid (hl.below hba)
        have hbb := hb.trans (hba.mono hb.size)
        have HX10 := Lib.hid (HX9.out.below (KrAt.part _ _) NoP.part hbb)
        have HB10 := Lib.hid (HB9.out.trans (hbb.mono HB9.out.size))
        clear ho hb hl hba hbb HX9 HB9
        go_wp2_with fail
        refine (sameZ_any [(k : Int)] 1 p10 (some ⟨w10.heap.size, 0, none⟩) cap10 1 _ rfl (by omega) HL10.out (lits_lie w10 [(k : Int)])).mono ?_
        rintro e w11 ⟨rfl, hb⟩
        have HX11 := Lib.hid (HX10.out.below (KrAt.part _ _) NoP.part hb)
        have HB11 := Lib.hid (HB10.out.trans (hb.mono HB10.out.size))
        clear hb HX10 HB10 HL10
        go_wp2_with fail
        refine HX11.out.krDead.mono ?_
        rintro e w12 ⟨v, rfl, ho, hb⟩
        rw [slots_dead T S O k u HK.out.1.2] at ho
        obtain ⟨p12, cap12, rfl, hl⟩ := ho.out
        have hba : Below w12.heap.size w12 (w12.alloc (.cells #[.int .i64 ((k : Int) + 1)] 3)) := (Below.refl _ _).alloc (Nat.le_refl _) _
        have HL12 := Lib.hid (hl.below hba)
        have hbb := hb.trans (hba.mono hb.size)
        have HX12 := Lib.hid (HX11.out.below (KrAt.part _ _) NoP.part hbb)
        have HB12 := Lib.hid (HB11.out.trans (hbb.mono HB11.out.size))
        clear ho hb hl hba hbb HX11 HB11
        go_wp2_with fail
        refine (sameZ_any [(k : Int) + 1] 1 p12 (some ⟨w12.heap.size, 0, none⟩) cap12 1 _ rfl (by omega) (by have h := HL12.out; rw [show zs [k + 1] = [(k : Int) + 1] by simp [zs]] at h; exact h) (lits_lie w12 [(k : Int) + 1])).mono ?_
        rintro e w13 ⟨rfl, hb⟩
        have HB13 := Lib.hid (HB12.out.trans (hb.mono HB12.out.size))
        clear hb HX12 HB12 HL12
        go_wp2_with fail
        refine (krKnown_any _).mono ?_
        rintro e w14 ⟨rfl, hb⟩
        have HB14 := Lib.hid (HB13.out.trans (hb.mono HB13.out.size))
        clear hb HB13
        go_wp2_with fail
        go_ret
        exact ⟨by first | rfl | (show Ending.returned (.bool (!decide (n ≤ 200))) = _; rw [decide_eq_false (by omega)]; rfl), HB14.out⟩
end Go.Proofs.Ytoidjapenompiaa

/-
  RingApart, for any pair of subjects, slot and number: the law returns true, and what came in reads afterwards as it read before. Without any condition.
-/
namespace Go.Proofs.Ytoidjapenompiaa
open Go.ChangeShapes Go.WideShapes Go.ChangeAt Go.RowKit Go.Proofs.ShaWords

set_option maxRecDepth 100000 in
theorem ringApart_lifted (os : Os) (started : os.Started) (H : Type) (enc : TypeId × Value → H) :
    ReturnsInHanded {} Try.checked os 5 .any (Rows.ringApartSpec.pre6 enc Try.prog Try.f5 Rows.ringApartRow.domain false)
      (Rows.ringApartSpec.post enc Try.prog Try.f5 false true false false) := by
  refine returnsInHanded_of_change_sized (C := Try.checked) own started (by kernel_rfl) Try.func5
    (ChangeSpec.witness6 (enc := enc) (C := Try.checked) false ⟨#[], #[.agg #[.string ⟨#[]⟩, .string ⟨#[]⟩, .string ⟨#[]⟩, .int .i64 0, .int .i64 0]], []⟩ 8 (by kernel_rfl) (by kernel_rfl) (by kernel_rfl) (by kernel_rfl)) ?_
  intro W base args ds gs before hval0 hW _ hsz _
  have hW' := hW
  obtain ⟨p, q, hA0, hV, rfl, hfz, hnd⟩ := hW
  have hA : DataW.TrodAll enc Try.prog W 0 (fun _ => true) true Try.f5.params.toList args.toList ds p := hA0
  have hval : ∀ (j : Nat) t v, Try.f5.params[j]? = some t → args[j]? = some v → Value.okWide Try.prog W .any base t v := hval0
  have hsz2 : (DataW.weightsEach Try.prog (Try.f5.params.toList ++ Rows.ringApartSpec.plain.varTypes Try.prog) (ds ++ gs)).all (· ≤ reachBytes) = true := hsz
  rw [Try.params5] at hA hval hsz2
  obtain ⟨v0, vs0, d0, ds0, p0, q0, hargs, rfl, rfl, h0, r0⟩ := trodAll_cons hA
  obtain ⟨rfl, rfl, rfl⟩ := trodAll_nil r0
  obtain rfl : args = #[v0] := by cases args; simp_all
  obtain ⟨rfl, rfl⟩ := trodVars_none hV
  obtain ⟨cs0, rfl⟩ := okWide_pair12 (hval 0 48 v0 rfl rfl)
  have k0 := h0
  have lt0 : ∀ x ∈ p0, x.block < W.heap.size := by obtain ⟨m, hm⟩ := k0; exact DataW.trod_lt m _ _ _ hm
  obtain ⟨f0, hf0⟩ := h0
  obtain ⟨th0, hx0a, hx0b⟩ := open_pair12 hf0 (fun n hn => by have := List.all_eq_true.1 hsz2 n (DataW.weights_mem_each (j := 0) rfl rfl n hn); simpa using this)
  obtain rfl : cs0 = th0.cells.toArray := by rw [← hx0a]; rfl
  clear hA0 hval0
  refine (krApart_any th0.t th0.s th0.o th0.z th0.n W hx0b.ts hx0b.ss hx0b.os hx0b.zw hx0b.nw).mono fun e W' ⟨he, bel⟩ => ?_
  subst he
  exact ⟨_, rfl, _, _, _, [], _, [], hW', trodAll_mk1 (shut_bool Try.underlying4 _), (trodAll_cons_mk (Below.trod laidOut (by kernel_rfl) (of_decide_eq_true (by kernel_rfl)) k0 bel lt0) trodAll_mk0), rfl, bel.frame _, fun h => by cases h⟩

theorem ringApart_holds : Rows.RingApartSaid :=
  OpenClaim.holds_of_wide 5 Try.f5 rfl rfl rfl rfl rfl rfl rfl ⟨rfl, rfl, rfl, rfl, rfl⟩ rfl rfl rfl rfl rfl (by kernel_rfl) Try.func5 (by kernel_rfl)
    (of_decide_eq_true (by kernel_rfl)) (by unfold Func.isWrapper; first | (rw [if_pos (by decide +kernel)]; kernel_rfl) | (rw [if_neg (by decide +kernel)]; exact ⟨rfl, rfl⟩))
    (fun os started H enc _ => ringApart_lifted os started H enc)

#print axioms ringApart_holds
end Go.Proofs.Ytoidjapenompiaa
