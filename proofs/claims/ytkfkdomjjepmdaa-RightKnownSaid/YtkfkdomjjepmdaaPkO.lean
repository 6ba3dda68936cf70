/-
  What other texts lean on: RtNamesLaw, RtLessLaw, RtRulesLaw, RtGrantsLaw.
-/
import Derived.Test.YtkfkdomjjepmdaaPkA
import Derived.Test.YtkfkdomjjepmdaaPkN
import Derived.Deep.CutRange
import Derived.IntWalk
/-
  RightNames' walk (gen_rtnames.py).
-/
namespace Go.Proofs.Ytkfkdomjjepmdaa
open Go.RowKit Go.Proofs.ShaWords
theorem nameL_take {l : List UInt8} (h : nameL l = true) (k : Nat) (hk : k < l.length) : nameL (l.take k) = decide (0 < k) := by
  unfold nameL at *
  simp only [Bool.and_eq_true, decide_eq_true_eq] at h
  obtain ⟨h1, h2, h3⟩ := h
  rcases Nat.eq_zero_or_pos k with rfl | hk0
  · simp [headC]
  · rw [decide_eq_true hk0]
    simp only [Bool.and_eq_true, decide_eq_true_eq]
    refine ⟨?_, ?_, by rw [List.length_take]; omega⟩
    · rw [headC_get _ (by omega)] at h1
      rw [headC_get _ (by rw [List.length_take]; omega), List.getElem_take]
      exact h1
    · rw [List.all_eq_true] at *
      exact fun x hx => h2 x (List.mem_of_mem_take hx)
theorem nameL_both {l r : List UInt8} (h : nameL l = true) (h2 : nameL r = true) : nameL (l ++ r) = decide (l.length + r.length ≤ 24) := by
  unfold nameL at *
  simp only [Bool.and_eq_true, decide_eq_true_eq] at h h2
  obtain ⟨a1, a2, a3⟩ := h
  obtain ⟨b1, b2, b3⟩ := h2
  have e1 : headC (l ++ r) = true := by
    cases l with
    | nil => simp [headC] at a1
    | cons c l => exact a1
  rw [e1, List.all_append, a2, b2, List.length_append]
  simp
def mayC (k : Nat) (c : UInt8) : Bool := smallC c || (decide (0 < k) && nameC c)
theorem nameL_set {l : List UInt8} (h : nameL l = true) (k : Nat) (hk : k < l.length) (c : UInt8) : nameL (l.take k ++ [c] ++ l.drop (k + 1)) = mayC k c := by
  unfold nameL at *
  simp only [Bool.and_eq_true, decide_eq_true_eq] at h
  obtain ⟨h1, h2, h3⟩ := h
  have hlen : (l.take k ++ [c] ++ l.drop (k + 1)).length = l.length := by simp; omega
  rw [hlen, decide_eq_true h3, Bool.and_true]
  have hall : (l.take k ++ [c] ++ l.drop (k + 1)).all nameC = nameC c := by
    rw [List.all_append, List.all_append]
    have e1 : (l.take k).all nameC = true := List.all_eq_true.2 fun x hx => List.all_eq_true.1 h2 x (List.mem_of_mem_take hx)
    have e2 : (l.drop (k + 1)).all nameC = true := List.all_eq_true.2 fun x hx => List.all_eq_true.1 h2 x (List.mem_of_mem_drop hx)
    rw [e1, e2]
    simp
  rw [hall]
  unfold mayC
  rcases Nat.eq_zero_or_pos k with rfl | hk0
  · have : headC (l.take 0 ++ [c] ++ l.drop (0 + 1)) = smallC c := by simp [headC]
    rw [this]
    cases hs : smallC c
    · simp
    · simp [nameC, hs]
  · have : headC (l.take k ++ [c] ++ l.drop (k + 1)) = true := by
      rw [headC_get _ (by omega)] at h1
      rw [headC_get _ (by rw [hlen]; omega)]
      have : (l.take k ++ [c] ++ l.drop (k + 1))[0]'(by rw [hlen]; omega) = l[0] := by
        rw [List.getElem_append_left (by simp), List.getElem_append_left (by rw [List.length_take]; omega), List.getElem_take]
      rw [this]
      exact h1
    rw [this, decide_eq_true hk0]
    cases hs : smallC c
    · simp
    · simp [nameC, hs]
theorem nameS_len {s : ByteArray} (h : nameS s = true) : 1 ≤ s.size ∧ s.size ≤ 24 := by
  unfold nameS nameL at h
  simp only [Bool.and_eq_true, decide_eq_true_eq] at h
  rw [size_list] at h
  refine ⟨?_, h.2.2⟩
  rcases Nat.eq_zero_or_pos s.size with h0 | h0
  · have : s.data.toList = [] := List.length_eq_zero_iff.1 (by rw [size_list]; exact h0)
    rw [this] at h
    exact absurd h.1 (by simp [headC])
  · exact h0
theorem nameS_take {s : ByteArray} (h : nameS s = true) (k : Nat) (hk : k < s.size) : nameS (s.extract 0 k) = decide (0 < k) := by
  unfold nameS at *
  rw [Lib.extract_data, List.drop_zero, Nat.sub_zero]
  exact nameL_take h k (by rw [size_list]; exact hk)
theorem nameS_both {s t : ByteArray} (h : nameS s = true) (h2 : nameS t = true) : nameS (s ++ t) = decide (s.size + t.size ≤ 24) := by
  unfold nameS at *
  have e : (s ++ t).data.toList = s.data.toList ++ t.data.toList := by simp [ByteArray.data_append]
  rw [e, nameL_both h h2, size_list, size_list]
def putS (s : ByteArray) (k : Nat) (c : UInt8) : ByteArray := s.extract 0 k ++ ⟨#[c]⟩ ++ s.extract (k + 1) s.size
theorem nameS_set {s : ByteArray} (h : nameS s = true) (k : Nat) (hk : k < s.size) (c : UInt8) : nameS (putS s k c) = mayC k c := by
  unfold nameS putS at *
  have e : (s.extract 0 k ++ ⟨#[c]⟩ ++ s.extract (k + 1) s.size).data.toList = s.data.toList.take k ++ [c] ++ s.data.toList.drop (k + 1) := by
    have e2 : (s.extract (k + 1) s.size).data.toList = s.data.toList.drop (k + 1) := by
      rw [Lib.extract_data, List.take_of_length_le]
      rw [List.length_drop, size_list]; omega
    have e1 : (s.extract 0 k).data.toList = s.data.toList.take k := by rw [Lib.extract_data, List.drop_zero, Nat.sub_zero]
    rw [ByteArray.data_append, ByteArray.data_append, Array.toList_append, Array.toList_append, e1, e2]
  rw [e, nameL_set h k (by rw [size_list]; exact hk)]
theorem putS_size {s : ByteArray} {k : Nat} (hk : k < s.size) (c : UInt8) : (putS s k c).size = s.size := by
  unfold putS
  rw [ByteArray.size_append, ByteArray.size_append, ByteArray.size_extract, ByteArray.size_extract]
  show min k s.size - 0 + 1 + (min s.size s.size - (k + 1)) = s.size
  omega
section
variable {ρ : Operand → Value} {o : Oper} {x y : Operand}
theorem run_byte1 {c : UInt8} {g : Nat} {w : World} (ho : o.op = .convert 44 9 x) (hx : ρ x = .slice (some ⟨g, 0, none⟩) 1 1) (hg : w.heap[g]? = some (.cells #[.int .u8 (c.toNat : Int)] 5 (0, 0))) : (execOp ρ o).run Try.prog w = .ok (.value (.string ⟨#[c]⟩)) w := by
  have h := run_strB (w := w) (p := some ⟨g, 0, none⟩) (l := [c.toBitVec]) (Or.inr ⟨g, 0, rfl, fun j v hv => by
    rw [cell_of_row w g _ _ _ _ hg, Nat.zero_add]
    have hn : n8 c.toBitVec = (c.toNat : Int) := rfl
    simpa [bytesV, hn] using hv⟩) 1 1 rfl
  have e : strB [c.toBitVec] = ⟨#[c]⟩ := bytes_ext (by have := strB_list [c.toBitVec]; rw [Lib.toList_data] at this; rw [this]; rfl)
  rw [e] at h
  unfold execOp
  simp only [ho, hx, Sem.run_bind, h, Result.andThen_ok, Sem.run_pure]
theorem run_addS {a b : ByteArray} {ty : TypeId} (ho : o.op = .binOp .add 9 x y ty) (hx : ρ x = .string a) (hy : ρ y = .string b) (hs : a.size + b.size ≤ 1000000) (w : World) : (execOp ρ o).run Try.prog w = .ok (.value (.string (a ++ b))) w := by
  obtain ⟨dst, op, ty', pos, after, guard⟩ := o
  simp only at ho
  subst ho
  go_simp
  omega
theorem run_cutTo {s : ByteArray} {k : Nat} (hk : k ≤ s.size) (ho : o.op = .slice 9 x none (some y) none) (hx : ρ x = .string s) (hy : ρ y = .int .i64 (k : Int)) (w : World) : (execOp ρ o).run Try.prog w = .ok (.value (.string (s.extract 0 k))) w := by
  obtain ⟨dst, op, ty', pos, after, guard⟩ := o
  simp only at ho
  subst ho
  have q : (k : Int) ≤ (s.size : Int) := by omega
  go_simp
theorem run_cutFrom {s : ByteArray} {k : Nat} (hk : k ≤ s.size) (ho : o.op = .slice 9 x (some y) none none) (hx : ρ x = .string s) (hy : ρ y = .int .i64 (k : Int)) (w : World) : (execOp ρ o).run Try.prog w = .ok (.value (.string (s.extract k s.size))) w := by
  obtain ⟨dst, op, ty', pos, after, guard⟩ := o
  simp only at ho
  subst ho
  have q : (k : Int) ≤ (s.size : Int) := by omega
  go_simp
theorem run_inc {k : Nat} {ty : TypeId} (ho : o.op = .binOp .add 3 x y ty) (hx : ρ x = .int .i64 (k : Int)) (hy : ρ y = .int .i64 1) (hk : k < 1000000) (w : World) : (execOp ρ o).run Try.prog w = .ok (.value (.int .i64 ((k + 1 : Nat) : Int))) w := by
  obtain ⟨dst, op, ty', pos, after, guard⟩ := o
  simp only at ho
  subst ho
  have q0 : 0 ≤ (k : Int) := by omega
  have q1 : (k : Int) < 1000000 := by omega
  go_simp
  exact IntWalk.i64_in _ (by omega)
end
set_option maxRecDepth 100000 in
set_option maxHeartbeats 8000000 in
theorem rightNames_any (s t : ByteArray) (z : Int) (c : UInt8) (w : World) (hs : s.size ≤ 140737488351232) (ht : t.size ≤ 140737488351232) :
    Calls Try.prog 8 #[.string s, .string t, .int .i64 z, .int .u8 (c.toNat : Int)] w fun e w' => e = .returned (.bool true) ∧ Below w.heap.size w w' := by
  have HKN := Lib.hid works13_any
  have NS : Hid (∀ w, Calls Try.prog 11 #[.string s] w (ReturnsB (nameS s) w)) := show ∀ _, _ from fun w => rtName_any s w hs
  have NT : Hid (∀ w, Calls Try.prog 11 #[.string t] w (ReturnsB (nameS t) w)) := show ∀ _, _ from fun w => rtName_any t w ht
  have HSZ := Lib.hid (And.intro hs ht)
  clear hs ht
  obtain ⟨M, hM⟩ : ∃ M, M = max s.size t.size := ⟨_, rfl⟩
  have HM := Lib.hid hM
  clear hM
  by_cases hbig : M > 4096
  · have q : (M : Int) > 4096 := by omega
    go_enter Try.func8, Try.ntmps8
    go_wp2_with (show wpList _ _ _ (⟨_, .call { callee := .builtin .max, args := _, argTypes := _ }, _, _, _, _⟩ :: _) _ _; refine wpList_run (by rfl) (run_max2 rfl rfl rfl HM.out _) ?_)
    refine (HKN.out _).mono ?_
    rintro e w9 ⟨rfl, hb⟩
    have HB9 := Lib.hid hb
    clear hb
    go_wp2_with fail
    go_ret
    exact ⟨rfl, HB9.out⟩
  have q : ¬ (M : Int) > 4096 := by omega
  have hM4 : M ≤ 4096 := by omega
  clear hbig
  cases hn : nameS s
  · have HN := Lib.hid hn
    clear hn
    go_enter Try.func8, Try.ntmps8
    go_wp2_with (show wpList _ _ _ (⟨_, .call { callee := .builtin .max, args := _, argTypes := _ }, _, _, _, _⟩ :: _) _ _; refine wpList_run (by rfl) (run_max2 rfl rfl rfl HM.out _) ?_)
    refine (NS.out _).mono ?_
    rw [HN.out]
    rintro e w' ⟨rfl, rfl⟩
    go_wp2_with fail
    refine (HKN.out _).mono ?_
    rintro e w9 ⟨rfl, hb⟩
    have HB9 := Lib.hid hb
    clear hb
    go_wp2_with fail
    go_ret
    exact ⟨rfl, HB9.out⟩
  have HN := Lib.hid hn
  clear hn
  have hl1 := (nameS_len HN.out).1
  have hl2 := (nameS_len HN.out).2
  have q2 : ¬ (s.size : Int) < 1 := by omega
  have q3 : ¬ (s.size : Int) > 24 := by omega
  go_enter Try.func8, Try.ntmps8
  go_wp2_with (show wpList _ _ _ (⟨_, .call { callee := .builtin .max, args := _, argTypes := _ }, _, _, _, _⟩ :: _) _ _; refine wpList_run (by rfl) (run_max2 rfl rfl rfl HM.out _) ?_)
  refine (NS.out _).mono ?_
  rw [HN.out]
  rintro e w' ⟨rfl, rfl⟩
  go_wp2_with fail
  refine (pick_any z (s.size : Int) w (by omega) (by omega)).mono ?_
  rintro e w' ⟨k, hk, rfl, rfl⟩
  have hks : k < s.size := by omega
  clear hk
  have HTK := Lib.hid (nameS_take HN.out k hks)
  have HPT := Lib.hid (nameS_set HN.out k hks c)
  have HPZ := Lib.hid (putS_size hks c)
  have HKS := Lib.hid hks
  go_wp2_with fail
  refine (rtName_any (s.extract 0 k) w (by rw [ByteArray.size_extract]; omega)).mono ?_
  rintro e w' ⟨rfl, rfl⟩
  rw [HTK.out]
  go_upto_region 8 with (fail)
  generalize decide (0 < k) = kb
  go_cut [56] from 42 to 57 (fun s56 wx => s56 = .bool false ∧ w = wx)
  case first =>
    go_wp2_with fail
    cases ht : nameS t
    · have HT := Lib.hid ht
      clear ht
      refine (NT.out _).mono ?_
      rw [HT.out]
      rintro e w' ⟨rfl, rfl⟩
      go_wp2_with fail
      go_meet
      exact ⟨rfl, rfl⟩
    · have HT := Lib.hid ht
      clear ht
      have hl3 := (nameS_len HT.out).2
      have HBO := Lib.hid (nameS_both HN.out HT.out)
      refine (NT.out _).mono ?_
      rw [HT.out]
      rintro e w' ⟨rfl, rfl⟩
      by_cases hsum : s.size + t.size ≤ 24
      · have HV := Lib.hid (decide_eq_true hsum)
        have q4 : (s.size : Int) + (t.size : Int) ≤ 24 := by omega
        go_wp2_with fail
        refine (rtName_any (s ++ t) w (by rw [ByteArray.size_append]; omega)).mono ?_
        rw [HBO.out, HV.out]
        rintro e w' ⟨rfl, rfl⟩
        go_wp2_with fail
        go_meet
        exact ⟨rfl, rfl⟩
      · have HV := Lib.hid (decide_eq_false hsum)
        have q4 : ¬ (s.size : Int) + (t.size : Int) ≤ 24 := by omega
        go_wp2_with fail
        refine (rtName_any (s ++ t) w (by rw [ByteArray.size_append]; omega)).mono ?_
        rw [HBO.out, HV.out]
        rintro e w' ⟨rfl, rfl⟩
        go_wp2_with fail
        go_meet
        refine ⟨congrArg Value.bool ?_, rfl⟩
        simp
        omega
  case rest =>
  obtain ⟨rfl, rfl⟩ := hcut
  go_upto_region 10 with (fail)
  go_cut [9] from 57 to 63 (fun s9 wx => s9 = .bool (smallC c) ∧ w = wx)
  case first =>
    go_wp2_with fail
    all_goals
      go_meet
      refine ⟨congrArg Value.bool ?_, rfl⟩
      apply Bool.eq_iff_iff.2
      simp [smallC]
      try omega
  case rest =>
  obtain ⟨rfl, rfl⟩ := hcut
  go_upto_region 11 with (fail)
  go_cut [9, 10] from 63 to 84 (fun _ s10 wx => s10 = .bool (mayC k c) ∧ w = wx)
  case first =>
    cases hsm : smallC c
    · have HSM := Lib.hid hsm
      clear hsm
      by_cases hk0 : 0 < k
      · have hk1 : 0 < (k : Int) := by omega
        by_cases h48 : 48 ≤ (c.toNat : Int) <;> by_cases h57 : (c.toNat : Int) ≤ 57 <;> cases h45 : ((c.toNat : Int) == 45) <;> cases h46 : ((c.toNat : Int) == 46)
        all_goals
          have HV : Hid (mayC k c = ((decide (48 ≤ (c.toNat : Int)) && decide ((c.toNat : Int) ≤ 57)) || (((c.toNat : Int) == 45) || ((c.toNat : Int) == 46)))) := show _ = _ from by
            apply Bool.eq_iff_iff.2
            simp [mayC, nameC, HSM.out, hk0]
          have HW := HV.out
          rw [h45, h46] at HW
          first
            | rw [decide_eq_true h48, decide_eq_true h57] at HW
            | rw [decide_eq_true h48, decide_eq_false h57] at HW
            | rw [decide_eq_false h48, decide_eq_true h57] at HW
            | rw [decide_eq_false h48, decide_eq_false h57] at HW
          have HX := Lib.hid HW
          clear HW HV
          go_wp2_with fail
          go_meet
          exact ⟨by rw [HX.out]; rfl, rfl⟩
      · have hk1 : ¬ 0 < (k : Int) := by omega
        go_wp2_with fail
        go_meet
        refine ⟨congrArg Value.bool ?_, rfl⟩
        simp [mayC, HSM.out, hk0]
    · have HSM := Lib.hid hsm
      clear hsm
      go_wp2_with fail
      go_meet
      refine ⟨congrArg Value.bool ?_, rfl⟩
      simp [mayC, HSM.out]
  case rest =>
  obtain ⟨rfl, rfl⟩ := hcut
  go_upto_region 12 with (fail)
  refine region_phase (fun wr => Below w.heap.size w wr) (fun _ => True) 99 ((Below.refl _ _).drew) trivial [(0, .free), (1, .free), (2, .free), (3, .free), (7, .free), (8, .free), (9, .free), (10, .free), (13, .free), (4, .behind), (5, .behind), (6, .free), (11, .free), (12, .behind), (14, .free), (15, .free), (16, .behind), (17, .free), (18, .free)] (by kernel_rfl) (by kernel_rfl) (by kernel_rfl) (by kernel_rfl) (fun ops hops A hA => ?_)
  have hsz : A.tmps.size = 102 := by rw [hA]; rfl
  have base0 : A.eval (.tmp 0) = .string s := by rw [hA]; rfl
  have base2 : A.eval (.tmp 2) = .int .i64 (k : Int) := by rw [hA]; rfl
  have base3 : A.eval (.tmp 3) = .int .u8 (c.toNat : Int) := by rw [hA]; rfl
  have base10 : A.eval (.tmp 10) = .bool (mayC k c) := by rw [hA]; rfl
  have HAA := Lib.hid hA; clear hA
  obtain ⟨o0, po0, q0, d0, gd0⟩ : ∃ o, ops[0]? = some o ∧ o.op = .move (.tmp 0) ∧ o.dst = some 84 ∧ o.guard = none := ⟨_, by rw [hops]; rfl, rfl, rfl, rfl⟩
  obtain ⟨o1, po1, q1, d1, gd1⟩ : ∃ o, ops[1]? = some o ∧ o.op = .move (.tmp 2) ∧ o.dst = some 85 ∧ o.guard = none := ⟨_, by rw [hops]; rfl, rfl, rfl, rfl⟩
  obtain ⟨o2, po2, q2, d2, gd2⟩ : ∃ o, ops[2]? = some o ∧ o.op = .slice 9 (.tmp 84) none (some (.tmp 85)) none ∧ o.dst = some 86 ∧ o.guard = none := ⟨_, by rw [hops]; rfl, rfl, rfl, rfl⟩
  obtain ⟨o3, po3, q3, d3, gd3⟩ : ∃ o, ops[3]? = some o ∧ o.op = .move (.tmp 3) ∧ o.dst = some 87 ∧ o.guard = none := ⟨_, by rw [hops]; rfl, rfl, rfl, rfl⟩
  obtain ⟨o4, po4, q4, d4, gd4⟩ : ∃ o, ops[4]? = some o ∧ o.op = .buildSlice 44 1 #[(0, (.tmp 87))] ∧ o.dst = some 88 ∧ o.guard = none := ⟨_, by rw [hops]; rfl, rfl, rfl, rfl⟩
  obtain ⟨o5, po5, q5, d5, gd5⟩ : ∃ o, ops[5]? = some o ∧ o.op = .convert 44 9 (.tmp 88) ∧ o.dst = some 89 ∧ o.guard = none := ⟨_, by rw [hops]; rfl, rfl, rfl, rfl⟩
  obtain ⟨o6, po6, q6, d6, gd6⟩ : ∃ o, ops[6]? = some o ∧ o.op = .binOp .add 9 (.tmp 86) (.tmp 89) 9 ∧ o.dst = some 90 ∧ o.guard = none := ⟨_, by rw [hops]; rfl, rfl, rfl, rfl⟩
  obtain ⟨o7, po7, q7, d7, gd7⟩ : ∃ o, ops[7]? = some o ∧ o.op = .move (.tmp 0) ∧ o.dst = some 91 ∧ o.guard = none := ⟨_, by rw [hops]; rfl, rfl, rfl, rfl⟩
  obtain ⟨o8, po8, q8, d8, gd8⟩ : ∃ o, ops[8]? = some o ∧ o.op = .move (.tmp 2) ∧ o.dst = some 92 ∧ o.guard = none := ⟨_, by rw [hops]; rfl, rfl, rfl, rfl⟩
  obtain ⟨o9, po9, q9, d9, gd9⟩ : ∃ o, ops[9]? = some o ∧ o.op = .binOp .add 3 (.tmp 92) (.const (.int .i64 1)) 3 ∧ o.dst = some 93 ∧ o.guard = none := ⟨_, by rw [hops]; rfl, rfl, rfl, rfl⟩
  obtain ⟨o10, po10, q10, d10, gd10⟩ : ∃ o, ops[10]? = some o ∧ o.op = .slice 9 (.tmp 91) (some (.tmp 93)) none none ∧ o.dst = some 94 ∧ o.guard = none := ⟨_, by rw [hops]; rfl, rfl, rfl, rfl⟩
  obtain ⟨o11, po11, q11, d11, gd11⟩ : ∃ o, ops[11]? = some o ∧ o.op = .binOp .add 9 (.tmp 90) (.tmp 94) 9 ∧ o.dst = some 95 ∧ o.guard = none := ⟨_, by rw [hops]; rfl, rfl, rfl, rfl⟩
  obtain ⟨o12, po12, q12, d12, gd12⟩ : ∃ o, ops[12]? = some o ∧ o.op = .call { callee := .value (.func 11), args := #[.tmp 95], argTypes := #[9] } ∧ o.dst = some 96 ∧ o.guard = none := ⟨_, by rw [hops]; rfl, rfl, rfl, rfl⟩
  obtain ⟨o13, po13, q13, d13, gd13⟩ : ∃ o, ops[13]? = some o ∧ o.op = .move (.tmp 10) ∧ o.dst = some 97 ∧ o.guard = none := ⟨_, by rw [hops]; rfl, rfl, rfl, rfl⟩
  obtain ⟨o14, po14, q14, d14, gd14⟩ : ∃ o, ops[14]? = some o ∧ o.op = .binOp .eql 4 (.tmp 96) (.tmp 97) 4 ∧ o.dst = some 98 ∧ o.guard = none := ⟨_, by rw [hops]; rfl, rfl, rfl, rfl⟩
  obtain ⟨o15, po15, q15, d15, gd15⟩ : ∃ o, ops[15]? = some o ∧ o.op = .move (.tmp 98) ∧ o.dst = some 99 ∧ o.guard = none := ⟨_, by rw [hops]; rfl, rfl, rfl, rfl⟩
  obtain ⟨o16, po16, q16, d16, gd16⟩ : ∃ o, ops[16]? = some o ∧ o.op = .call { callee := .value (.func 10), args := #[], argTypes := #[] } ∧ o.dst = some 100 ∧ o.guard = some (15, true) := ⟨_, by rw [hops]; rfl, rfl, rfl, rfl⟩
  obtain ⟨o17, po17, q17, d17, gd17⟩ : ∃ o, ops[17]? = some o ∧ o.op = .pick (.tmp 99) (.tmp 100) (.const (.bool false)) ∧ o.dst = some 101 ∧ o.guard = none := ⟨_, by rw [hops]; rfl, rfl, rfl, rfl⟩
  obtain ⟨o18, po18, q18, d18, gd18⟩ : ∃ o, ops[18]? = some o ∧ o.op = .assign (.tmp 101) ∧ o.dst = some 8 ∧ o.guard = none := ⟨_, by rw [hops]; rfl, rfl, rfl, rfl⟩
  clear hops
  refine met_free po0 d0 (wanted_of gd0) (fun w' h' => run_move q0 base0 w') ?_
  refine met_free po1 d1 (wanted_of gd1) (fun w' h' => run_move q1 ((eval_other _ 84 2 _ (by decide)).trans base2) w') ?_
  refine met_free po2 d2 (wanted_of gd2) (fun w' h' => run_cutTo (by have := HKS.out; omega) q2 ((eval_other _ 85 84 _ (by decide)).trans (eval_same _ _ _ (by rw [hsz]; decide))) (eval_same _ _ _ (by simp only [put_size, hsz]; decide)) w') ?_
  refine met_free po3 d3 (wanted_of gd3) (fun w' h' => run_move q3 ((eval_other _ 86 3 _ (by decide)).trans ((eval_other _ 85 3 _ (by decide)).trans ((eval_other _ 84 3 _ (by decide)).trans base3))) w') ?_
  refine met_free po7 d7 (wanted_of gd7) (fun w' h' => run_move q7 ((eval_other _ 87 0 _ (by decide)).trans ((eval_other _ 86 0 _ (by decide)).trans ((eval_other _ 85 0 _ (by decide)).trans ((eval_other _ 84 0 _ (by decide)).trans base0)))) w') ?_
  refine met_free po8 d8 (wanted_of gd8) (fun w' h' => run_move q8 ((eval_other _ 91 2 _ (by decide)).trans ((eval_other _ 87 2 _ (by decide)).trans ((eval_other _ 86 2 _ (by decide)).trans ((eval_other _ 85 2 _ (by decide)).trans ((eval_other _ 84 2 _ (by decide)).trans base2))))) w') ?_
  refine met_free po9 d9 (wanted_of gd9) (fun w' h' => run_inc q9 (eval_same _ _ _ (by simp only [put_size, hsz]; decide)) rfl (by have := HKS.out; omega) w') ?_
  refine met_free po10 d10 (wanted_of gd10) (fun w' h' => run_cutFrom (by have := HKS.out; omega) q10 ((eval_other _ 93 91 _ (by decide)).trans ((eval_other _ 92 91 _ (by decide)).trans (eval_same _ _ _ (by simp only [put_size, hsz]; decide)))) (eval_same _ _ _ (by simp only [put_size, hsz]; decide)) w') ?_
  refine met_free po13 d13 (wanted_of gd13) (fun w' h' => run_move q13 ((eval_other _ 94 10 _ (by decide)).trans ((eval_other _ 93 10 _ (by decide)).trans ((eval_other _ 92 10 _ (by decide)).trans ((eval_other _ 91 10 _ (by decide)).trans ((eval_other _ 87 10 _ (by decide)).trans ((eval_other _ 86 10 _ (by decide)).trans ((eval_other _ 85 10 _ (by decide)).trans ((eval_other _ 84 10 _ (by decide)).trans base10)))))))) w') ?_
  refine met_op po4 d4 (wanted_of gd4) (run_build1 q4 ((eval_other _ 97 87 _ (by decide)).trans ((eval_other _ 94 87 _ (by decide)).trans ((eval_other _ 93 87 _ (by decide)).trans ((eval_other _ 92 87 _ (by decide)).trans ((eval_other _ 91 87 _ (by decide)).trans (eval_same _ _ _ (by simp only [put_size, hsz]; decide))))))) _) ((Below.refl _ _).drew.alloc (by simp) _) ?_
  obtain ⟨g9, hg9⟩ : ∃ g, g = w.drew.heap.size := ⟨_, rfl⟩
  have HN9 : Hid ((w.drew.alloc (.cells #[.int .u8 (c.toNat : Int)] 5)).heap[g9]? = some (.cells #[.int .u8 (c.toNat : Int)] 5 (0, 0))) := show _ = _ from heap_new_at hg9.symm
  have HBB : Hid (Below w.heap.size w (w.drew.alloc (.cells #[.int .u8 (c.toNat : Int)] 5))) := show Below _ _ _ from (Below.refl _ _).drew.alloc (by simp) _
  rw [← hg9]
  clear hg9
  generalize w.drew.alloc (.cells #[.int .u8 (c.toNat : Int)] 5) = w5 at HN9 HBB ⊢
  refine met_op po5 d5 (wanted_of gd5) (run_byte1 q5 (eval_same _ _ _ (by simp only [put_size, hsz]; decide)) HN9.out) HBB.out ?_
  refine met_free po6 d6 (wanted_of gd6) (fun w' h' => run_addS q6 ((eval_other _ 89 86 _ (by decide)).trans ((eval_other _ 88 86 _ (by decide)).trans ((eval_other _ 97 86 _ (by decide)).trans ((eval_other _ 94 86 _ (by decide)).trans ((eval_other _ 93 86 _ (by decide)).trans ((eval_other _ 92 86 _ (by decide)).trans ((eval_other _ 91 86 _ (by decide)).trans ((eval_other _ 87 86 _ (by decide)).trans (eval_same _ _ _ (by simp only [put_size, hsz]; decide)))))))))) (eval_same _ _ _ (by simp only [put_size, hsz]; decide)) (by rw [ByteArray.size_extract]; show _ + 1 ≤ _; have := HKS.out; omega) w') ?_
  refine met_free po11 d11 (wanted_of gd11) (fun w' h' => run_addS q11 (eval_same _ _ _ (by simp only [put_size, hsz]; decide)) ((eval_other _ 90 94 _ (by decide)).trans ((eval_other _ 89 94 _ (by decide)).trans ((eval_other _ 88 94 _ (by decide)).trans ((eval_other _ 97 94 _ (by decide)).trans (eval_same _ _ _ (by simp only [put_size, hsz]; decide)))))) (by have h := HPZ.out; unfold putS at h; rw [ByteArray.size_append] at h; omega) w') ?_
  refine m_enter po12 d12 (wanted_of gd12) (run_callf1 q12 rfl (eval_same _ _ _ (by simp only [put_size, hsz]; decide)) Try.func11 (by kernel_rfl) _) ((HPT.out ▸ quietG (rtName_any (putS s k c) _ (by rw [HPZ.out]; omega)) : Calls _ _ _ _ (ReturnsG (mayC k c) _))) ?_
  rintro e w12_1 ⟨rfl, hb⟩
  have HSw12_1 := Lib.hid ((HBB.out).trans (hb.mono (HBB.out).size))
  clear hb
  refine ⟨_, rfl, HSw12_1.out, ?_⟩
  refine met_free po14 d14 (wanted_of gd14) (fun w' h' => r_eqB q14 (eval_same _ _ _ (by simp only [put_size, hsz]; decide)) ((eval_other _ 96 97 _ (by decide)).trans ((eval_other _ 95 97 _ (by decide)).trans ((eval_other _ 90 97 _ (by decide)).trans ((eval_other _ 89 97 _ (by decide)).trans ((eval_other _ 88 97 _ (by decide)).trans (eval_same _ _ _ (by simp only [put_size, hsz]; decide))))))) w') ?_
  refine met_free po15 d15 (wanted_of gd15) (fun w' h' => run_move q15 (eval_same _ _ _ (by simp only [put_size, hsz]; decide)) w') ?_
  refine m_enter po16 d16 (wanted_guard gd16 po15 d15 (eval_same _ _ _ (by simp only [put_size, hsz]; decide))) (run_callf0 q16 rfl Try.func10 (by kernel_rfl) _) (HKN.out _) ?_
  rintro e w12_2 ⟨rfl, hb⟩
  have HSw12_2 := Lib.hid ((HSw12_1.out).trans (hb.mono (HSw12_1.out).size))
  clear hb
  refine ⟨_, rfl, HSw12_2.out, ?_⟩
  refine met_free po17 d17 (wanted_of gd17) (fun w' h' => run_pick_true q17 ((eval_other _ 100 99 _ (by decide)).trans (eval_same _ _ _ (by simp only [put_size, hsz]; decide))) (eval_same _ _ _ (by simp only [put_size, hsz]; decide)) w') ?_
  refine met_free po18 d18 (wanted_of gd18) (fun w' h' => run_assign q18 (eval_same _ _ _ (by simp only [put_size, hsz]; decide)) w') ?_
  show NoPanic _ .normal _ _
  refine NoPanic.normal ?_
  rw [HAA.out]
  go_frame
  clear HAA
  clear po0 q0 d0 gd0 po1 q1 d1 gd1 po2 q2 d2 gd2 po3 q3 d3 gd3 po4 q4 d4 gd4 po5 q5 d5 gd5 po6 q6 d6 gd6 po7 q7 d7 gd7 po8 q8 d8 gd8 po9 q9 d9 gd9 po10 q10 d10 gd10 po11 q11 d11 gd11 po12 q12 d12 gd12 po13 q13 d13 gd13 po14 q14 d14 gd14 po15 q15 d15 gd15 po16 q16 d16 gd16 po17 q17 d17 gd17 po18 q18 d18 gd18
  clear base0 base2 base3 base10 hsz
  go_wp2_with fail
  go_ret
  exact ⟨rfl, HSw12_2.out⟩
end Go.Proofs.Ytkfkdomjjepmdaa

/-
  RightLess' walk (gen_rtless.py).
-/
namespace Go.Proofs.Ytkfkdomjjepmdaa
open Go.RowKit
set_option maxRecDepth 100000 in
set_option maxHeartbeats 4000000 in
theorem rightLess_any (a b : GrantM) (r : Int) (s : ByteArray) (c : Int) (w : World) (hb : b.Ok) (hr : wrap64 r = r) :
    Calls Try.prog 5 #[.agg a.cells.toArray, .agg b.cells.toArray, .int .i64 r, .string s, .int .i64 c] w fun e w' => e = .returned (.bool true) ∧ Below w.heap.size w w' := by
  have HNW : Hid (∀ w, Calls Try.prog 19 #[.agg a.cells.toArray, .agg b.cells.toArray] w (ReturnsG (narrowM a b) w)) := show ∀ _, _ from fun w => narrow_any a b w hb.rw
  have HCA : Hid (∀ w, Calls Try.prog 15 #[.agg a.cells.toArray, .int .i64 r, .string s] w (ReturnsG (coversM a r s) w)) := show ∀ _, _ from fun w => covers_any a r s w hr
  have HCB : Hid (∀ w, Calls Try.prog 15 #[.agg b.cells.toArray, .int .i64 r, .string s] w (ReturnsG (coversM b r s) w)) := show ∀ _, _ from fun w => covers_any b r s w hr
  have HWA : Hid (∀ w, Calls Try.prog 17 #[.agg a.cells.toArray] w (ReturnsG (wholeM a) w)) := show ∀ _, _ from fun w => whole_any a w
  have HWB : Hid (∀ w, Calls Try.prog 17 #[.agg b.cells.toArray] w (ReturnsG (wholeM b) w)) := show ∀ _, _ from fun w => whole_any b w
  have HLA : Hid (∀ w, Calls Try.prog 27 #[.agg a.cells.toArray, .int .i64 c] w (ReturnsG (lastsM a c) w)) := show ∀ _, _ from fun w => lasts_any a c w
  have HLB : Hid (∀ w, Calls Try.prog 27 #[.agg b.cells.toArray, .int .i64 c] w (ReturnsG (lastsM b c) w)) := show ∀ _, _ from fun w => lasts_any b c w
  have HKN := Lib.hid works13_any
  have HPC := Lib.hid (fun h => narrow_covers (a := a) (b := b) h r s)
  have HPW := Lib.hid (narrow_whole (a := a) (b := b))
  have HPL := Lib.hid (fun h => narrow_lasts (a := a) (b := b) h c)
  clear hb hr
  generalize hca : a.cells.toArray = ca
  generalize hcb : b.cells.toArray = cb
  have HCAE := Lib.hid hca
  have HCBE := Lib.hid hcb
  clear hca hcb
  obtain ⟨M, hM⟩ : ∃ M, M = max (max a.pre.size b.pre.size) s.size := ⟨_, rfl⟩
  have HM := Lib.hid hM
  clear hM
  go_enter Try.func5, Try.ntmps5
  go_upto_region 1 with (fail)
  refine wp_gen (fun wr => Gr2 w.heap.size (w.heap.size + 1) a b w wr) (Gr2.boxes w HCAE.out HCBE.out) (fun w1 hg => ?_)
  have c1 := hg.one.c1
  have c2 := hg.two.c1
  have HG1 := Lib.hid hg
  clear hg
  by_cases hbig : M > 4096
  · have q : (M : Int) > 4096 := by omega
    go_wp2_with (first | (show wpList _ _ _ (⟨_, .call { callee := .builtin .max, args := _, argTypes := _ }, _, _, _, _⟩ :: _) _ _; refine wpList_run (by rfl) (run_max3 rfl rfl rfl rfl HM.out _) ?_))
    refine (HKN.out _).mono ?_
    rintro e w9 ⟨rfl, hb⟩
    have HB9 := Lib.hid (HG1.out.below.trans (hb.mono HG1.out.below.size))
    clear hb
    go_wp2_with fail
    go_ret
    exact ⟨rfl, HB9.out⟩
  have q : ¬ (M : Int) > 4096 := by omega
  clear hbig
  cases hn : narrowM a b
  · have HN := Lib.hid hn
    clear hn
    go_wp2_with (first | (show wpList _ _ _ (⟨_, .call { callee := .builtin .max, args := _, argTypes := _ }, _, _, _, _⟩ :: _) _ _; refine wpList_run (by rfl) (run_max3 rfl rfl rfl rfl HM.out _) ?_) | (show wpList _ _ _ (⟨_, .load 23 (.tmp 5), _, _, _, _⟩ :: _) _ _; refine wpList_run (by rfl) (run_loadBlk rfl rfl HG1.out.one (by kernel_rfl) (size_grant _)) ?_) | (show wpList _ _ _ (⟨_, .load 23 (.tmp 6), _, _, _, _⟩ :: _) _ _; refine wpList_run (by rfl) (run_loadBlk rfl rfl HG1.out.two (by kernel_rfl) (size_grant _)) ?_))
    refine (HNW.out _).mono ?_
    rw [HN.out]
    rintro e w2 ⟨rfl, hb⟩
    have HG2 := Lib.hid (HG1.out.step hb)
    clear hb
    go_wp2_with fail
    refine (HKN.out _).mono ?_
    rintro e w9 ⟨rfl, hb⟩
    have HB9 := Lib.hid (HG2.out.below.trans (hb.mono HG2.out.below.size))
    clear hb
    go_wp2_with fail
    go_ret
    exact ⟨rfl, HB9.out⟩
  have HN := Lib.hid hn
  clear hn
  have hpc := HPC.out HN.out
  have hpw := HPW.out HN.out
  have hpl := HPL.out HN.out
  cases hcb : coversM b r s <;> cases hwb : wholeM b <;> cases hlb : lastsM b c
  · have HVC := Lib.hid hcb
    have HVW := Lib.hid hwb
    have HVL := Lib.hid hlb
    clear hpc hpw hpl hcb hwb hlb
    go_wp2_with (first | (show wpList _ _ _ (⟨_, .call { callee := .builtin .max, args := _, argTypes := _ }, _, _, _, _⟩ :: _) _ _; refine wpList_run (by rfl) (run_max3 rfl rfl rfl rfl HM.out _) ?_) | (show wpList _ _ _ (⟨_, .load 23 (.tmp 5), _, _, _, _⟩ :: _) _ _; refine wpList_run (by rfl) (run_loadBlk rfl rfl HG1.out.one (by kernel_rfl) (size_grant _)) ?_) | (show wpList _ _ _ (⟨_, .load 23 (.tmp 6), _, _, _, _⟩ :: _) _ _; refine wpList_run (by rfl) (run_loadBlk rfl rfl HG1.out.two (by kernel_rfl) (size_grant _)) ?_))
    refine (HNW.out _).mono ?_
    rw [HN.out]
    rintro e w2 ⟨rfl, hb⟩
    have HG2 := Lib.hid (HG1.out.step hb)
    clear hb
    go_wp2_with (first | (show wpList _ _ _ (⟨_, .load 23 (.tmp 6), _, _, _, _⟩ :: _) _ _; refine wpList_run (by rfl) (run_loadBlk rfl rfl HG2.out.two (by kernel_rfl) (size_grant _)) ?_))
    refine (HCB.out _).mono ?_
    rw [HVC.out]
    rintro e w3 ⟨rfl, hb⟩
    have HG3 := Lib.hid (HG2.out.step hb)
    clear hb
    go_wp2_with (first | (show wpList _ _ _ (⟨_, .load 23 (.tmp 6), _, _, _, _⟩ :: _) _ _; refine wpList_run (by rfl) (run_loadBlk rfl rfl HG3.out.two (by kernel_rfl) (size_grant _)) ?_))
    refine (HWB.out _).mono ?_
    rw [HVW.out]
    rintro e w4 ⟨rfl, hb⟩
    have HG4 := Lib.hid (HG3.out.step hb)
    clear hb
    go_wp2_with (first | (show wpList _ _ _ (⟨_, .load 23 (.tmp 6), _, _, _, _⟩ :: _) _ _; refine wpList_run (by rfl) (run_loadBlk rfl rfl HG4.out.two (by kernel_rfl) (size_grant _)) ?_))
    refine (HLB.out _).mono ?_
    rw [HVL.out]
    rintro e w5 ⟨rfl, hb⟩
    have HG5 := Lib.hid (HG4.out.step hb)
    clear hb
    go_wp2_with fail
    refine (HKN.out _).mono ?_
    rintro e w9 ⟨rfl, hb⟩
    have HB9 := Lib.hid (HG5.out.below.trans (hb.mono HG5.out.below.size))
    clear hb
    go_wp2_with fail
    go_ret
    exact ⟨rfl, HB9.out⟩
  · have HVC := Lib.hid hcb
    have HVW := Lib.hid hwb
    have HVL := Lib.hid hlb
    have HUL := Lib.hid (hpl hlb)
    clear hpc hpw hpl hcb hwb hlb
    go_wp2_with (first | (show wpList _ _ _ (⟨_, .call { callee := .builtin .max, args := _, argTypes := _ }, _, _, _, _⟩ :: _) _ _; refine wpList_run (by rfl) (run_max3 rfl rfl rfl rfl HM.out _) ?_) | (show wpList _ _ _ (⟨_, .load 23 (.tmp 5), _, _, _, _⟩ :: _) _ _; refine wpList_run (by rfl) (run_loadBlk rfl rfl HG1.out.one (by kernel_rfl) (size_grant _)) ?_) | (show wpList _ _ _ (⟨_, .load 23 (.tmp 6), _, _, _, _⟩ :: _) _ _; refine wpList_run (by rfl) (run_loadBlk rfl rfl HG1.out.two (by kernel_rfl) (size_grant _)) ?_))
    refine (HNW.out _).mono ?_
    rw [HN.out]
    rintro e w2 ⟨rfl, hb⟩
    have HG2 := Lib.hid (HG1.out.step hb)
    clear hb
    go_wp2_with (first | (show wpList _ _ _ (⟨_, .load 23 (.tmp 6), _, _, _, _⟩ :: _) _ _; refine wpList_run (by rfl) (run_loadBlk rfl rfl HG2.out.two (by kernel_rfl) (size_grant _)) ?_))
    refine (HCB.out _).mono ?_
    rw [HVC.out]
    rintro e w3 ⟨rfl, hb⟩
    have HG3 := Lib.hid (HG2.out.step hb)
    clear hb
    go_wp2_with (first | (show wpList _ _ _ (⟨_, .load 23 (.tmp 6), _, _, _, _⟩ :: _) _ _; refine wpList_run (by rfl) (run_loadBlk rfl rfl HG3.out.two (by kernel_rfl) (size_grant _)) ?_))
    refine (HWB.out _).mono ?_
    rw [HVW.out]
    rintro e w4 ⟨rfl, hb⟩
    have HG4 := Lib.hid (HG3.out.step hb)
    clear hb
    go_wp2_with (first | (show wpList _ _ _ (⟨_, .load 23 (.tmp 6), _, _, _, _⟩ :: _) _ _; refine wpList_run (by rfl) (run_loadBlk rfl rfl HG4.out.two (by kernel_rfl) (size_grant _)) ?_))
    refine (HLB.out _).mono ?_
    rw [HVL.out]
    rintro e w5 ⟨rfl, hb⟩
    have HG5 := Lib.hid (HG4.out.step hb)
    clear hb
    go_wp2_with (first | (show wpList _ _ _ (⟨_, .load 23 (.tmp 5), _, _, _, _⟩ :: _) _ _; refine wpList_run (by rfl) (run_loadBlk rfl rfl HG5.out.one (by kernel_rfl) (size_grant _)) ?_))
    refine (HLA.out _).mono ?_
    rw [HUL.out]
    rintro e w6 ⟨rfl, hb⟩
    have HG6 := Lib.hid (HG5.out.step hb)
    clear hb
    go_wp2_with fail
    refine (HKN.out _).mono ?_
    rintro e w9 ⟨rfl, hb⟩
    have HB9 := Lib.hid (HG6.out.below.trans (hb.mono HG6.out.below.size))
    clear hb
    go_wp2_with fail
    go_ret
    exact ⟨rfl, HB9.out⟩
  · have HVC := Lib.hid hcb
    have HVW := Lib.hid hwb
    have HVL := Lib.hid hlb
    have HUW := Lib.hid (hpw hwb)
    clear hpc hpw hpl hcb hwb hlb
    go_wp2_with (first | (show wpList _ _ _ (⟨_, .call { callee := .builtin .max, args := _, argTypes := _ }, _, _, _, _⟩ :: _) _ _; refine wpList_run (by rfl) (run_max3 rfl rfl rfl rfl HM.out _) ?_) | (show wpList _ _ _ (⟨_, .load 23 (.tmp 5), _, _, _, _⟩ :: _) _ _; refine wpList_run (by rfl) (run_loadBlk rfl rfl HG1.out.one (by kernel_rfl) (size_grant _)) ?_) | (show wpList _ _ _ (⟨_, .load 23 (.tmp 6), _, _, _, _⟩ :: _) _ _; refine wpList_run (by rfl) (run_loadBlk rfl rfl HG1.out.two (by kernel_rfl) (size_grant _)) ?_))
    refine (HNW.out _).mono ?_
    rw [HN.out]
    rintro e w2 ⟨rfl, hb⟩
    have HG2 := Lib.hid (HG1.out.step hb)
    clear hb
    go_wp2_with (first | (show wpList _ _ _ (⟨_, .load 23 (.tmp 6), _, _, _, _⟩ :: _) _ _; refine wpList_run (by rfl) (run_loadBlk rfl rfl HG2.out.two (by kernel_rfl) (size_grant _)) ?_))
    refine (HCB.out _).mono ?_
    rw [HVC.out]
    rintro e w3 ⟨rfl, hb⟩
    have HG3 := Lib.hid (HG2.out.step hb)
    clear hb
    go_wp2_with (first | (show wpList _ _ _ (⟨_, .load 23 (.tmp 6), _, _, _, _⟩ :: _) _ _; refine wpList_run (by rfl) (run_loadBlk rfl rfl HG3.out.two (by kernel_rfl) (size_grant _)) ?_))
    refine (HWB.out _).mono ?_
    rw [HVW.out]
    rintro e w4 ⟨rfl, hb⟩
    have HG4 := Lib.hid (HG3.out.step hb)
    clear hb
    go_wp2_with (first | (show wpList _ _ _ (⟨_, .load 23 (.tmp 5), _, _, _, _⟩ :: _) _ _; refine wpList_run (by rfl) (run_loadBlk rfl rfl HG4.out.one (by kernel_rfl) (size_grant _)) ?_))
    refine (HWA.out _).mono ?_
    rw [HUW.out]
    rintro e w5 ⟨rfl, hb⟩
    have HG5 := Lib.hid (HG4.out.step hb)
    clear hb
    go_wp2_with (first | (show wpList _ _ _ (⟨_, .load 23 (.tmp 6), _, _, _, _⟩ :: _) _ _; refine wpList_run (by rfl) (run_loadBlk rfl rfl HG5.out.two (by kernel_rfl) (size_grant _)) ?_))
    refine (HLB.out _).mono ?_
    rw [HVL.out]
    rintro e w6 ⟨rfl, hb⟩
    have HG6 := Lib.hid (HG5.out.step hb)
    clear hb
    go_wp2_with fail
    refine (HKN.out _).mono ?_
    rintro e w9 ⟨rfl, hb⟩
    have HB9 := Lib.hid (HG6.out.below.trans (hb.mono HG6.out.below.size))
    clear hb
    go_wp2_with fail
    go_ret
    exact ⟨rfl, HB9.out⟩
  · have HVC := Lib.hid hcb
    have HVW := Lib.hid hwb
    have HVL := Lib.hid hlb
    have HUW := Lib.hid (hpw hwb)
    have HUL := Lib.hid (hpl hlb)
    clear hpc hpw hpl hcb hwb hlb
    go_wp2_with (first | (show wpList _ _ _ (⟨_, .call { callee := .builtin .max, args := _, argTypes := _ }, _, _, _, _⟩ :: _) _ _; refine wpList_run (by rfl) (run_max3 rfl rfl rfl rfl HM.out _) ?_) | (show wpList _ _ _ (⟨_, .load 23 (.tmp 5), _, _, _, _⟩ :: _) _ _; refine wpList_run (by rfl) (run_loadBlk rfl rfl HG1.out.one (by kernel_rfl) (size_grant _)) ?_) | (show wpList _ _ _ (⟨_, .load 23 (.tmp 6), _, _, _, _⟩ :: _) _ _; refine wpList_run (by rfl) (run_loadBlk rfl rfl HG1.out.two (by kernel_rfl) (size_grant _)) ?_))
    refine (HNW.out _).mono ?_
    rw [HN.out]
    rintro e w2 ⟨rfl, hb⟩
    have HG2 := Lib.hid (HG1.out.step hb)
    clear hb
    go_wp2_with (first | (show wpList _ _ _ (⟨_, .load 23 (.tmp 6), _, _, _, _⟩ :: _) _ _; refine wpList_run (by rfl) (run_loadBlk rfl rfl HG2.out.two (by kernel_rfl) (size_grant _)) ?_))
    refine (HCB.out _).mono ?_
    rw [HVC.out]
    rintro e w3 ⟨rfl, hb⟩
    have HG3 := Lib.hid (HG2.out.step hb)
    clear hb
    go_wp2_with (first | (show wpList _ _ _ (⟨_, .load 23 (.tmp 6), _, _, _, _⟩ :: _) _ _; refine wpList_run (by rfl) (run_loadBlk rfl rfl HG3.out.two (by kernel_rfl) (size_grant _)) ?_))
    refine (HWB.out _).mono ?_
    rw [HVW.out]
    rintro e w4 ⟨rfl, hb⟩
    have HG4 := Lib.hid (HG3.out.step hb)
    clear hb
    go_wp2_with (first | (show wpList _ _ _ (⟨_, .load 23 (.tmp 5), _, _, _, _⟩ :: _) _ _; refine wpList_run (by rfl) (run_loadBlk rfl rfl HG4.out.one (by kernel_rfl) (size_grant _)) ?_))
    refine (HWA.out _).mono ?_
    rw [HUW.out]
    rintro e w5 ⟨rfl, hb⟩
    have HG5 := Lib.hid (HG4.out.step hb)
    clear hb
    go_wp2_with (first | (show wpList _ _ _ (⟨_, .load 23 (.tmp 6), _, _, _, _⟩ :: _) _ _; refine wpList_run (by rfl) (run_loadBlk rfl rfl HG5.out.two (by kernel_rfl) (size_grant _)) ?_))
    refine (HLB.out _).mono ?_
    rw [HVL.out]
    rintro e w6 ⟨rfl, hb⟩
    have HG6 := Lib.hid (HG5.out.step hb)
    clear hb
    go_wp2_with (first | (show wpList _ _ _ (⟨_, .load 23 (.tmp 5), _, _, _, _⟩ :: _) _ _; refine wpList_run (by rfl) (run_loadBlk rfl rfl HG6.out.one (by kernel_rfl) (size_grant _)) ?_))
    refine (HLA.out _).mono ?_
    rw [HUL.out]
    rintro e w7 ⟨rfl, hb⟩
    have HG7 := Lib.hid (HG6.out.step hb)
    clear hb
    go_wp2_with fail
    refine (HKN.out _).mono ?_
    rintro e w9 ⟨rfl, hb⟩
    have HB9 := Lib.hid (HG7.out.below.trans (hb.mono HG7.out.below.size))
    clear hb
    go_wp2_with fail
    go_ret
    exact ⟨rfl, HB9.out⟩
  · have HVC := Lib.hid hcb
    have HVW := Lib.hid hwb
    have HVL := Lib.hid hlb
    have HUC := Lib.hid (hpc hcb)
    clear hpc hpw hpl hcb hwb hlb
    go_wp2_with (first | (show wpList _ _ _ (⟨_, .call { callee := .builtin .max, args := _, argTypes := _ }, _, _, _, _⟩ :: _) _ _; refine wpList_run (by rfl) (run_max3 rfl rfl rfl rfl HM.out _) ?_) | (show wpList _ _ _ (⟨_, .load 23 (.tmp 5), _, _, _, _⟩ :: _) _ _; refine wpList_run (by rfl) (run_loadBlk rfl rfl HG1.out.one (by kernel_rfl) (size_grant _)) ?_) | (show wpList _ _ _ (⟨_, .load 23 (.tmp 6), _, _, _, _⟩ :: _) _ _; refine wpList_run (by rfl) (run_loadBlk rfl rfl HG1.out.two (by kernel_rfl) (size_grant _)) ?_))
    refine (HNW.out _).mono ?_
    rw [HN.out]
    rintro e w2 ⟨rfl, hb⟩
    have HG2 := Lib.hid (HG1.out.step hb)
    clear hb
    go_wp2_with (first | (show wpList _ _ _ (⟨_, .load 23 (.tmp 6), _, _, _, _⟩ :: _) _ _; refine wpList_run (by rfl) (run_loadBlk rfl rfl HG2.out.two (by kernel_rfl) (size_grant _)) ?_))
    refine (HCB.out _).mono ?_
    rw [HVC.out]
    rintro e w3 ⟨rfl, hb⟩
    have HG3 := Lib.hid (HG2.out.step hb)
    clear hb
    go_wp2_with (first | (show wpList _ _ _ (⟨_, .load 23 (.tmp 5), _, _, _, _⟩ :: _) _ _; refine wpList_run (by rfl) (run_loadBlk rfl rfl HG3.out.one (by kernel_rfl) (size_grant _)) ?_))
    refine (HCA.out _).mono ?_
    rw [HUC.out]
    rintro e w4 ⟨rfl, hb⟩
    have HG4 := Lib.hid (HG3.out.step hb)
    clear hb
    go_wp2_with (first | (show wpList _ _ _ (⟨_, .load 23 (.tmp 6), _, _, _, _⟩ :: _) _ _; refine wpList_run (by rfl) (run_loadBlk rfl rfl HG4.out.two (by kernel_rfl) (size_grant _)) ?_))
    refine (HWB.out _).mono ?_
    rw [HVW.out]
    rintro e w5 ⟨rfl, hb⟩
    have HG5 := Lib.hid (HG4.out.step hb)
    clear hb
    go_wp2_with (first | (show wpList _ _ _ (⟨_, .load 23 (.tmp 6), _, _, _, _⟩ :: _) _ _; refine wpList_run (by rfl) (run_loadBlk rfl rfl HG5.out.two (by kernel_rfl) (size_grant _)) ?_))
    refine (HLB.out _).mono ?_
    rw [HVL.out]
    rintro e w6 ⟨rfl, hb⟩
    have HG6 := Lib.hid (HG5.out.step hb)
    clear hb
    go_wp2_with fail
    refine (HKN.out _).mono ?_
    rintro e w9 ⟨rfl, hb⟩
    have HB9 := Lib.hid (HG6.out.below.trans (hb.mono HG6.out.below.size))
    clear hb
    go_wp2_with fail
    go_ret
    exact ⟨rfl, HB9.out⟩
  · have HVC := Lib.hid hcb
    have HVW := Lib.hid hwb
    have HVL := Lib.hid hlb
    have HUC := Lib.hid (hpc hcb)
    have HUL := Lib.hid (hpl hlb)
    clear hpc hpw hpl hcb hwb hlb
    go_wp2_with (first | (show wpList _ _ _ (⟨_, .call { callee := .builtin .max, args := _, argTypes := _ }, _, _, _, _⟩ :: _) _ _; refine wpList_run (by rfl) (run_max3 rfl rfl rfl rfl HM.out _) ?_) | (show wpList _ _ _ (⟨_, .load 23 (.tmp 5), _, _, _, _⟩ :: _) _ _; refine wpList_run (by rfl) (run_loadBlk rfl rfl HG1.out.one (by kernel_rfl) (size_grant _)) ?_) | (show wpList _ _ _ (⟨_, .load 23 (.tmp 6), _, _, _, _⟩ :: _) _ _; refine wpList_run (by rfl) (run_loadBlk rfl rfl HG1.out.two (by kernel_rfl) (size_grant _)) ?_))
    refine (HNW.out _).mono ?_
    rw [HN.out]
    rintro e w2 ⟨rfl, hb⟩
    have HG2 := Lib.hid (HG1.out.step hb)
    clear hb
    go_wp2_with (first | (show wpList _ _ _ (⟨_, .load 23 (.tmp 6), _, _, _, _⟩ :: _) _ _; refine wpList_run (by rfl) (run_loadBlk rfl rfl HG2.out.two (by kernel_rfl) (size_grant _)) ?_))
    refine (HCB.out _).mono ?_
    rw [HVC.out]
    rintro e w3 ⟨rfl, hb⟩
    have HG3 := Lib.hid (HG2.out.step hb)
    clear hb
    go_wp2_with (first | (show wpList _ _ _ (⟨_, .load 23 (.tmp 5), _, _, _, _⟩ :: _) _ _; refine wpList_run (by rfl) (run_loadBlk rfl rfl HG3.out.one (by kernel_rfl) (size_grant _)) ?_))
    refine (HCA.out _).mono ?_
    rw [HUC.out]
    rintro e w4 ⟨rfl, hb⟩
    have HG4 := Lib.hid (HG3.out.step hb)
    clear hb
    go_wp2_with (first | (show wpList _ _ _ (⟨_, .load 23 (.tmp 6), _, _, _, _⟩ :: _) _ _; refine wpList_run (by rfl) (run_loadBlk rfl rfl HG4.out.two (by kernel_rfl) (size_grant _)) ?_))
    refine (HWB.out _).mono ?_
    rw [HVW.out]
    rintro e w5 ⟨rfl, hb⟩
    have HG5 := Lib.hid (HG4.out.step hb)
    clear hb
    go_wp2_with (first | (show wpList _ _ _ (⟨_, .load 23 (.tmp 6), _, _, _, _⟩ :: _) _ _; refine wpList_run (by rfl) (run_loadBlk rfl rfl HG5.out.two (by kernel_rfl) (size_grant _)) ?_))
    refine (HLB.out _).mono ?_
    rw [HVL.out]
    rintro e w6 ⟨rfl, hb⟩
    have HG6 := Lib.hid (HG5.out.step hb)
    clear hb
    go_wp2_with (first | (show wpList _ _ _ (⟨_, .load 23 (.tmp 5), _, _, _, _⟩ :: _) _ _; refine wpList_run (by rfl) (run_loadBlk rfl rfl HG6.out.one (by kernel_rfl) (size_grant _)) ?_))
    refine (HLA.out _).mono ?_
    rw [HUL.out]
    rintro e w7 ⟨rfl, hb⟩
    have HG7 := Lib.hid (HG6.out.step hb)
    clear hb
    go_wp2_with fail
    refine (HKN.out _).mono ?_
    rintro e w9 ⟨rfl, hb⟩
    have HB9 := Lib.hid (HG7.out.below.trans (hb.mono HG7.out.below.size))
    clear hb
    go_wp2_with fail
    go_ret
    exact ⟨rfl, HB9.out⟩
  · have HVC := Lib.hid hcb
    have HVW := Lib.hid hwb
    have HVL := Lib.hid hlb
    have HUC := Lib.hid (hpc hcb)
    have HUW := Lib.hid (hpw hwb)
    clear hpc hpw hpl hcb hwb hlb
    go_wp2_with (first | (show wpList _ _ _ (⟨_, .call { callee := .builtin .max, args := _, argTypes := _ }, _, _, _, _⟩ :: _) _ _; refine wpList_run (by rfl) (run_max3 rfl rfl rfl rfl HM.out _) ?_) | (show wpList _ _ _ (⟨_, .load 23 (.tmp 5), _, _, _, _⟩ :: _) _ _; refine wpList_run (by rfl) (run_loadBlk rfl rfl HG1.out.one (by kernel_rfl) (size_grant _)) ?_) | (show wpList _ _ _ (⟨_, .load 23 (.tmp 6), _, _, _, _⟩ :: _) _ _; refine wpList_run (by rfl) (run_loadBlk rfl rfl HG1.out.two (by kernel_rfl) (size_grant _)) ?_))
    refine (HNW.out _).mono ?_
    rw [HN.out]
    rintro e w2 ⟨rfl, hb⟩
    have HG2 := Lib.hid (HG1.out.step hb)
    clear hb
    go_wp2_with (first | (show wpList _ _ _ (⟨_, .load 23 (.tmp 6), _, _, _, _⟩ :: _) _ _; refine wpList_run (by rfl) (run_loadBlk rfl rfl HG2.out.two (by kernel_rfl) (size_grant _)) ?_))
    refine (HCB.out _).mono ?_
    rw [HVC.out]
    rintro e w3 ⟨rfl, hb⟩
    have HG3 := Lib.hid (HG2.out.step hb)
    clear hb
    go_wp2_with (first | (show wpList _ _ _ (⟨_, .load 23 (.tmp 5), _, _, _, _⟩ :: _) _ _; refine wpList_run (by rfl) (run_loadBlk rfl rfl HG3.out.one (by kernel_rfl) (size_grant _)) ?_))
    refine (HCA.out _).mono ?_
    rw [HUC.out]
    rintro e w4 ⟨rfl, hb⟩
    have HG4 := Lib.hid (HG3.out.step hb)
    clear hb
    go_wp2_with (first | (show wpList _ _ _ (⟨_, .load 23 (.tmp 6), _, _, _, _⟩ :: _) _ _; refine wpList_run (by rfl) (run_loadBlk rfl rfl HG4.out.two (by kernel_rfl) (size_grant _)) ?_))
    refine (HWB.out _).mono ?_
    rw [HVW.out]
    rintro e w5 ⟨rfl, hb⟩
    have HG5 := Lib.hid (HG4.out.step hb)
    clear hb
    go_wp2_with (first | (show wpList _ _ _ (⟨_, .load 23 (.tmp 5), _, _, _, _⟩ :: _) _ _; refine wpList_run (by rfl) (run_loadBlk rfl rfl HG5.out.one (by kernel_rfl) (size_grant _)) ?_))
    refine (HWA.out _).mono ?_
    rw [HUW.out]
    rintro e w6 ⟨rfl, hb⟩
    have HG6 := Lib.hid (HG5.out.step hb)
    clear hb
    go_wp2_with (first | (show wpList _ _ _ (⟨_, .load 23 (.tmp 6), _, _, _, _⟩ :: _) _ _; refine wpList_run (by rfl) (run_loadBlk rfl rfl HG6.out.two (by kernel_rfl) (size_grant _)) ?_))
    refine (HLB.out _).mono ?_
    rw [HVL.out]
    rintro e w7 ⟨rfl, hb⟩
    have HG7 := Lib.hid (HG6.out.step hb)
    clear hb
    go_wp2_with fail
    refine (HKN.out _).mono ?_
    rintro e w9 ⟨rfl, hb⟩
    have HB9 := Lib.hid (HG7.out.below.trans (hb.mono HG7.out.below.size))
    clear hb
    go_wp2_with fail
    go_ret
    exact ⟨rfl, HB9.out⟩
  · have HVC := Lib.hid hcb
    have HVW := Lib.hid hwb
    have HVL := Lib.hid hlb
    have HUC := Lib.hid (hpc hcb)
    have HUW := Lib.hid (hpw hwb)
    have HUL := Lib.hid (hpl hlb)
    clear hpc hpw hpl hcb hwb hlb
    go_wp2_with (first | (show wpList _ _ _ (⟨_, .call { callee := .builtin .max, args := _, argTypes := _ }, _, _, _, _⟩ :: _) _ _; refine wpList_run (by rfl) (run_max3 rfl rfl rfl rfl HM.out _) ?_) | (show wpList _ _ _ (⟨_, .load 23 (.tmp 5), _, _, _, _⟩ :: _) _ _; refine wpList_run (by rfl) (run_loadBlk rfl rfl HG1.out.one (by kernel_rfl) (size_grant _)) ?_) | (show wpList _ _ _ (⟨_, .load 23 (.tmp 6), _, _, _, _⟩ :: _) _ _; refine wpList_run (by rfl) (run_loadBlk rfl rfl HG1.out.two (by kernel_rfl) (size_grant _)) ?_))
    refine (HNW.out _).mono ?_
    rw [HN.out]
    rintro e w2 ⟨rfl, hb⟩
    have HG2 := Lib.hid (HG1.out.step hb)
    clear hb
    go_wp2_with (first | (show wpList _ _ _ (⟨_, .load 23 (.tmp 6), _, _, _, _⟩ :: _) _ _; refine wpList_run (by rfl) (run_loadBlk rfl rfl HG2.out.two (by kernel_rfl) (size_grant _)) ?_))
    refine (HCB.out _).mono ?_
    rw [HVC.out]
    rintro e w3 ⟨rfl, hb⟩
    have HG3 := Lib.hid (HG2.out.step hb)
    clear hb
    go_wp2_with (first | (show wpList _ _ _ (⟨_, .load 23 (.tmp 5), _, _, _, _⟩ :: _) _ _; refine wpList_run (by rfl) (run_loadBlk rfl rfl HG3.out.one (by kernel_rfl) (size_grant _)) ?_))
    refine (HCA.out _).mono ?_
    rw [HUC.out]
    rintro e w4 ⟨rfl, hb⟩
    have HG4 := Lib.hid (HG3.out.step hb)
    clear hb
    go_wp2_with (first | (show wpList _ _ _ (⟨_, .load 23 (.tmp 6), _, _, _, _⟩ :: _) _ _; refine wpList_run (by rfl) (run_loadBlk rfl rfl HG4.out.two (by kernel_rfl) (size_grant _)) ?_))
    refine (HWB.out _).mono ?_
    rw [HVW.out]
    rintro e w5 ⟨rfl, hb⟩
    have HG5 := Lib.hid (HG4.out.step hb)
    clear hb
    go_wp2_with (first | (show wpList _ _ _ (⟨_, .load 23 (.tmp 5), _, _, _, _⟩ :: _) _ _; refine wpList_run (by rfl) (run_loadBlk rfl rfl HG5.out.one (by kernel_rfl) (size_grant _)) ?_))
    refine (HWA.out _).mono ?_
    rw [HUW.out]
    rintro e w6 ⟨rfl, hb⟩
    have HG6 := Lib.hid (HG5.out.step hb)
    clear hb
    go_wp2_with (first | (show wpList _ _ _ (⟨_, .load 23 (.tmp 6), _, _, _, _⟩ :: _) _ _; refine wpList_run (by rfl) (run_loadBlk rfl rfl HG6.out.two (by kernel_rfl) (size_grant _)) ?_))
    refine (HLB.out _).mono ?_
    rw [HVL.out]
    rintro e w7 ⟨rfl, hb⟩
    have HG7 := Lib.hid (HG6.out.step hb)
    clear hb
    go_wp2_with (first | (show wpList _ _ _ (⟨_, .load 23 (.tmp 5), _, _, _, _⟩ :: _) _ _; refine wpList_run (by rfl) (run_loadBlk rfl rfl HG7.out.one (by kernel_rfl) (size_grant _)) ?_))
    refine (HLA.out _).mono ?_
    rw [HUL.out]
    rintro e w8 ⟨rfl, hb⟩
    have HG8 := Lib.hid (HG7.out.step hb)
    clear hb
    go_wp2_with fail
    refine (HKN.out _).mono ?_
    rintro e w9 ⟨rfl, hb⟩
    have HB9 := Lib.hid (HG8.out.below.trans (hb.mono HG8.out.below.size))
    clear hb
    go_wp2_with fail
    go_ret
    exact ⟨rfl, HB9.out⟩
end Go.Proofs.Ytkfkdomjjepmdaa

/-
  RightRules' walk.
-/
namespace Go.Proofs.Ytkfkdomjjepmdaa
open Go.RowKit Go.Proofs.ShaWords
set_option maxRecDepth 100000 in
set_option maxHeartbeats 8000000 in
theorem rightRules_any (l : List RuleM) (n cap : Nat) (p : Option Addr) (r : Int) (s : ByteArray) (w : World) (hln : l.length = n) (hL : RulesAt w p l) (hok : ∀ x ∈ l, x.Ok) (hr : wrap64 r = r) (hs : s.size ≤ 140737488351232) :
    Calls Try.prog 4 #[.slice p n cap, .int .i64 r, .string s] w fun e w' => e = .returned (.bool true) ∧ Below w.heap.size w w' := by
  have HKN := Lib.hid works13_any
  have HL := Lib.hid hL
  have HN := Lib.hid hln
  have HOK := Lib.hid hok
  have HR := Lib.hid hr
  have HS := Lib.hid hs
  clear hL hln hok hr hs
  by_cases hbig : n > 200 ∨ s.size > 4096
  · rcases hbig with q | q
    · have q1 : (n : Int) > 200 := by omega
      go_enter Try.func4, Try.ntmps4
      go_wp2_with fail
      refine (HKN.out _).mono ?_
      rintro e w9 ⟨rfl, hb⟩
      have HB9 := Lib.hid hb
      clear hb
      go_wp2_with fail
      go_ret
      exact ⟨rfl, HB9.out⟩
    · have q1 : (s.size : Int) > 4096 := by omega
      by_cases h2 : n > 200
      · have q2 : (n : Int) > 200 := by omega
        go_enter Try.func4, Try.ntmps4
        go_wp2_with fail
        refine (HKN.out _).mono ?_
        rintro e w9 ⟨rfl, hb⟩
        have HB9 := Lib.hid hb
        clear hb
        go_wp2_with fail
        go_ret
        exact ⟨rfl, HB9.out⟩
      · have q2 : ¬ (n : Int) > 200 := by omega
        go_enter Try.func4, Try.ntmps4
        go_wp2_with fail
        refine (HKN.out _).mono ?_
        rintro e w9 ⟨rfl, hb⟩
        have HB9 := Lib.hid hb
        clear hb
        go_wp2_with fail
        go_ret
        exact ⟨rfl, HB9.out⟩
  have q1 : ¬ (n : Int) > 200 := by omega
  have q2 : ¬ (s.size : Int) > 4096 := by omega
  have hn200 : n ≤ 200 := by omega
  clear hbig
  go_enter Try.func4, Try.ntmps4
  go_wp2_with fail
  go_loopw [7] (fun i wr => ∃ k : Nat, k ≤ n ∧ i = .int .i64 k ∧ w = wr) (fun i _ => n - (intOf i).toNat)
  case atStart => exact ⟨0, Nat.zero_le _, rfl, rfl⟩
  case round =>
    obtain ⟨k, hk, rfl, rfl⟩ := hrel
    by_cases hlt : k < n
    · have hlt' : k < l.length := by rw [HN.out]; exact hlt
      rcases HL.out.at' with h0 | ⟨b, off, rfl, hrr⟩
      · exfalso; rw [h0] at hlt'; simp at hlt'
      have hrk := hrr k hlt'
      generalize l[k] = x at hrk
      obtain ⟨xp, xr⟩ := x
      simp only [RuleM.cells] at hrk
      obtain ⟨c0, c1⟩ := rule_cells hrk
      clear hrk hrr hlt'
      have HKL := Lib.hid hlt
      by_cases hg : xp.size > 4096
      · have q3 : (xp.size : Int) > 4096 := by omega
        go_wp2_with (show wpList _ _ _ (⟨_, .indexAddr _ _ _, _, _, _, _⟩ :: _) _ _; refine wpList_run (by rfl) (ruleT.run_ix rfl rfl rfl HKL.out _) ?_)
        refine (HKN.out _).mono ?_
        rintro e w9 ⟨rfl, hb⟩
        have HB9 := Lib.hid hb
        clear hb
        go_wp2_with fail
        go_ret
        exact ⟨rfl, HB9.out⟩
      · have q3 : ¬ (xp.size : Int) > 4096 := by omega
        go_wp2_with (show wpList _ _ _ (⟨_, .indexAddr _ _ _, _, _, _, _⟩ :: _) _ _; refine wpList_run (by rfl) (ruleT.run_ix rfl rfl rfl HKL.out _) ?_)
        go_roundw
        case rel => exact ⟨k + 1, by omega, by go_num, by trivial⟩
        case measure => simp [intOf]; omega
    · go_wp2_with fail
      refine (lentRules_any l n p cap w HN.out (by omega) HL.out).mono ?_
      rintro e w1 ⟨v, rfl, ho, hb⟩
      obtain ⟨q, c, rfl, hc1, -, hq, -⟩ := ho.lies RuleM.len
      obtain ⟨m, hm⟩ : ∃ m, (l ++ marksRules 5).length = m := ⟨_, rfl⟩
      have hm2 : m = n + 5 := by rw [← hm, List.length_append, marksRules_length, HN.out]
      rw [hm] at hc1
      rw [hm]
      have hcn : (n : Int) ≤ (c : Int) := by omega
      have hm3 : m ≤ n + 5 ∧ n + 5 ≤ m := ⟨by omega, by omega⟩
      have HM := Lib.hid hm3
      have HQ := Lib.hid hq
      have HIN : Hid (RulesAt w1 q l) := show RowOf _ _ _ _ _ from by
        have h := hq.take l.length
        rwa [List.take_left] at h
      have HB := Lib.hid hb
      have HC := Lib.hid hc1
      clear hm hm2 hm3 hq hb ho
      go_wp2_with fail
      refine (checkRules_any l n _ _ _ HN.out (by omega) HIN.out HOK.out).mono ?_
      rintro e w2 ⟨rfl, hb2⟩
      have HB2 := Lib.hid (HB.out.trans (hb2.mono HB.out.size))
      have HI2 := Lib.hid (HIN.out.below hb2)
      have HQ2 := Lib.hid (HQ.out.below hb2)
      clear hb2
      go_wp2_with fail
      refine (refCheckRules_any l n _ _ _ HN.out (by omega) (HL.out.below HB2.out) HOK.out).mono ?_
      rintro e w3 ⟨rfl, hb3⟩
      have HB3 := Lib.hid (HB2.out.trans (hb3.mono HB2.out.size))
      have HI3 := Lib.hid (HI2.out.below hb3)
      have HQ3 := Lib.hid (HQ2.out.below hb3)
      clear hb3
      go_wp2_with fail
      refine (allowed_any l n _ _ r s _ HN.out (by omega) HI3.out HOK.out HR.out).mono ?_
      rintro e w4 ⟨rfl, hb4⟩
      have HB4 := Lib.hid (HB3.out.trans (hb4.mono HB3.out.size))
      have HQ4 := Lib.hid (HQ3.out.below hb4)
      clear hb4
      go_wp2_with fail
      refine (refAllowed_any l n _ _ r s _ HN.out (by omega) (HL.out.below HB4.out) HOK.out HS.out).mono ?_
      rintro e w5 ⟨rfl, hb5⟩
      have HB5 := Lib.hid (HB4.out.trans (hb5.mono HB4.out.size))
      have HQ5 := Lib.hid (HQ4.out.below hb5)
      clear hb5
      go_wp2_with fail
      refine (keptRules_any l n m _ _ c cap _ HN.out HM.out.1 HM.out.2 (by omega) HC.out HQ5.out (HL.out.below HB5.out)).mono ?_
      rintro e w6 ⟨rfl, hb6⟩
      have HB6 := Lib.hid (HB5.out.trans (hb6.mono HB5.out.size))
      clear hb6
      go_wp2_with fail
      refine (HKN.out _).mono ?_
      rintro e w9 ⟨rfl, hb⟩
      have HB9 := Lib.hid (HB6.out.trans (hb.mono HB6.out.size))
      clear hb
      go_wp2_with fail
      go_ret
      exact ⟨rfl, HB9.out⟩
end Go.Proofs.Ytkfkdomjjepmdaa

/-
  RightGrants' walk (gen_rtgrants.py).
-/
namespace Go.Proofs.Ytkfkdomjjepmdaa
open Go.RowKit
set_option maxRecDepth 100000 in
set_option maxHeartbeats 8000000 in
theorem rightGrants_any (a b : GrantM) (r : Int) (s : ByteArray) (w : World) (ha : a.Ok) (hb : b.Ok) (hr : wrap64 r = r) (hs : s.size ≤ 140737488351232) :
    Calls Try.prog 3 #[.agg a.cells.toArray, .agg b.cells.toArray, .int .i64 r, .string s] w fun e w' => e = .returned (.bool true) ∧ Below w.heap.size w w' := by
  have NM : Hid (∀ w, Calls Try.prog 11 #[.string s] w (ReturnsB (nameS s) w)) := show ∀ _, _ from fun w => rtName_any s w hs
  have RNM : Hid (∀ w, Calls Try.prog 12 #[.string s] w (ReturnsB (nameS s) w)) := show ∀ _, _ from fun w => refName_any s w hs
  have NMP : Hid (∀ w, Calls Try.prog 11 #[.string a.pre] w (ReturnsB (nameS a.pre) w)) := show ∀ _, _ from fun w => rtName_any a.pre w ha.ps
  have RNMP : Hid (∀ w, Calls Try.prog 12 #[.string a.pre] w (ReturnsB (nameS a.pre) w)) := show ∀ _, _ from fun w => refName_any a.pre w ha.ps
  have CHK : Hid (∀ w, Calls Try.prog 13 #[.agg a.cells.toArray] w (ReturnsZ (checkM a) w)) := show ∀ _, _ from fun w => check_any a w ha.ps
  have RCHK : Hid (∀ w, Calls Try.prog 14 #[.agg a.cells.toArray] w (ReturnsZ (checkM a) w)) := show ∀ _, _ from fun w => refCheck_any a w ha.ps
  have COV : Hid (∀ w, Calls Try.prog 15 #[.agg a.cells.toArray, .int .i64 r, .string s] w (ReturnsG (coversM a r s) w)) := show ∀ _, _ from fun w => covers_any a r s w hr
  have RCOV : Hid (∀ w, Calls Try.prog 16 #[.agg a.cells.toArray, .int .i64 r, .string s] w (ReturnsG (coversM a r s) w)) := show ∀ _, _ from fun w => refCovers_any a r s w ha.rw hs
  have WH : Hid (∀ w, Calls Try.prog 17 #[.agg a.cells.toArray] w (ReturnsG (wholeM a) w)) := show ∀ _, _ from fun w => whole_any a w
  have RWH : Hid (∀ w, Calls Try.prog 18 #[.agg a.cells.toArray] w (ReturnsG (wholeM a) w)) := show ∀ _, _ from fun w => refWhole_any a w
  have NAB : Hid (∀ w, Calls Try.prog 19 #[.agg a.cells.toArray, .agg b.cells.toArray] w (ReturnsG (narrowM a b) w)) := show ∀ _, _ from fun w => narrow_any a b w hb.rw
  have RNAB : Hid (∀ w, Calls Try.prog 20 #[.agg a.cells.toArray, .agg b.cells.toArray] w (ReturnsG (narrowM a b) w)) := show ∀ _, _ from fun w => refNarrow_any a b w ha.rw hb.ps
  have NBA : Hid (∀ w, Calls Try.prog 19 #[.agg b.cells.toArray, .agg a.cells.toArray] w (ReturnsG (narrowM b a) w)) := show ∀ _, _ from fun w => narrow_any b a w ha.rw
  have RNBA : Hid (∀ w, Calls Try.prog 20 #[.agg b.cells.toArray, .agg a.cells.toArray] w (ReturnsG (narrowM b a) w)) := show ∀ _, _ from fun w => refNarrow_any b a w hb.rw ha.ps
  have NAA : Hid (∀ w, Calls Try.prog 19 #[.agg a.cells.toArray, .agg a.cells.toArray] w (ReturnsG (narrowM a a) w)) := show ∀ _, _ from fun w => narrow_any a a w ha.rw
  have RNAA : Hid (∀ w, Calls Try.prog 20 #[.agg a.cells.toArray, .agg a.cells.toArray] w (ReturnsG (narrowM a a) w)) := show ∀ _, _ from fun w => refNarrow_any a a w ha.rw ha.ps
  have HKN := Lib.hid works13_any
  clear ha hb hr hs
  generalize hca : a.cells.toArray = ca
  generalize hcb : b.cells.toArray = cb
  have HCAE := Lib.hid hca
  have HCBE := Lib.hid hcb
  clear hca hcb
  obtain ⟨M, hM⟩ : ∃ M, M = max (max a.pre.size b.pre.size) s.size := ⟨_, rfl⟩
  have HM := Lib.hid hM
  clear hM
  go_enter Try.func3, Try.ntmps3
  go_upto_region 1 with (fail)
  refine wp_gen (fun wr => Gr2 w.heap.size (w.heap.size + 1) a b w wr) (Gr2.boxes w HCAE.out HCBE.out) (fun w1 hg => ?_)
  have c1 := hg.one.c1
  have c2 := hg.two.c1
  have HG1 := Lib.hid hg
  clear hg
  by_cases hbig : M > 4096
  · have q : (M : Int) > 4096 := by omega
    go_wp2_with (show wpList _ _ _ (⟨_, .call { callee := .builtin .max, args := _, argTypes := _ }, _, _, _, _⟩ :: _) _ _; refine wpList_run (by rfl) (run_max3 rfl rfl rfl rfl HM.out _) ?_)
    refine (HKN.out _).mono ?_
    rintro e w9 ⟨rfl, hb⟩
    have HB9 := Lib.hid (HG1.out.below.trans (hb.mono HG1.out.below.size))
    clear hb
    go_wp2_with fail
    go_ret
    exact ⟨rfl, HB9.out⟩
  have q : ¬ (M : Int) > 4096 := by omega
  clear hbig
  go_upto_region 3 with (show wpList _ _ _ (⟨_, .call { callee := .builtin .max, args := _, argTypes := _ }, _, _, _, _⟩ :: _) _ _; refine wpList_run (by rfl) (run_max3 rfl rfl rfl rfl HM.out _) ?_)
  clear c1 c2 q
  refine region_phase (fun wr => Gr2 w.heap.size (w.heap.size + 1) a b w wr) (fun _ => True) 99 (HG1.out.step (Below.refl _ _).drew) trivial [(0, .free), (2, .free), (1, .behind), (3, .behind), (4, .free), (5, .free), (6, .free), (7, .free), (9, .free), (10, .free), (8, .behind), (11, .behind), (12, .free), (13, .free), (14, .free), (15, .free), (17, .free), (16, .behind), (18, .behind), (19, .free), (20, .free)] (by kernel_rfl) (by kernel_rfl) (by kernel_rfl) (by kernel_rfl) (fun ops hops A hA => ?_)
  have hsz : A.tmps.size = 85 := by rw [hA]; rfl
  have base2 : A.eval (.tmp 2) = .int .i64 r := by rw [hA]; rfl
  have base3 : A.eval (.tmp 3) = .string s := by rw [hA]; rfl
  have base4 : A.eval (.tmp 4) = .pointer (some ⟨w.heap.size, 0, none⟩) := by rw [hA]; rfl
  have base5 : A.eval (.tmp 5) = .pointer (some ⟨w.heap.size + 1, 0, none⟩) := by rw [hA]; rfl
  have HAA := Lib.hid hA; clear hA
  obtain ⟨o0, po0, q0, d0, gd0⟩ : ∃ o, ops[0]? = some o ∧ o.op = .move (.tmp 3) ∧ o.dst = some 20 ∧ o.guard = none := ⟨_, by rw [hops]; rfl, rfl, rfl, rfl⟩
  obtain ⟨o1, po1, q1, d1, gd1⟩ : ∃ o, ops[1]? = some o ∧ o.op = .call { callee := .value (.func 11), args := #[.tmp 20], argTypes := #[9] } ∧ o.dst = some 21 ∧ o.guard = none := ⟨_, by rw [hops]; rfl, rfl, rfl, rfl⟩
  obtain ⟨o2, po2, q2, d2, gd2⟩ : ∃ o, ops[2]? = some o ∧ o.op = .move (.tmp 3) ∧ o.dst = some 22 ∧ o.guard = none := ⟨_, by rw [hops]; rfl, rfl, rfl, rfl⟩
  obtain ⟨o3, po3, q3, d3, gd3⟩ : ∃ o, ops[3]? = some o ∧ o.op = .call { callee := .value (.func 12), args := #[.tmp 22], argTypes := #[9] } ∧ o.dst = some 23 ∧ o.guard = none := ⟨_, by rw [hops]; rfl, rfl, rfl, rfl⟩
  obtain ⟨o4, po4, q4, d4, gd4⟩ : ∃ o, ops[4]? = some o ∧ o.op = .binOp .neq 4 (.tmp 21) (.tmp 23) 4 ∧ o.dst = some 24 ∧ o.guard = none := ⟨_, by rw [hops]; rfl, rfl, rfl, rfl⟩
  obtain ⟨o5, po5, q5, d5, gd5⟩ : ∃ o, ops[5]? = some o ∧ o.op = .move (.tmp 24) ∧ o.dst = some 25 ∧ o.guard = none := ⟨_, by rw [hops]; rfl, rfl, rfl, rfl⟩
  obtain ⟨o6, po6, q6, d6, gd6⟩ : ∃ o, ops[6]? = some o ∧ o.op = .fieldAddr 23 (.tmp 4) 1 ∧ o.dst = some 26 ∧ o.guard = some (5, false) := ⟨_, by rw [hops]; rfl, rfl, rfl, rfl⟩
  obtain ⟨o7, po7, q7, d7, gd7⟩ : ∃ o, ops[7]? = some o ∧ o.op = .load 9 (.tmp 26) ∧ o.dst = some 27 ∧ o.guard = some (5, false) := ⟨_, by rw [hops]; rfl, rfl, rfl, rfl⟩
  obtain ⟨o8, po8, q8, d8, gd8⟩ : ∃ o, ops[8]? = some o ∧ o.op = .call { callee := .value (.func 11), args := #[.tmp 27], argTypes := #[9] } ∧ o.dst = some 28 ∧ o.guard = some (5, false) := ⟨_, by rw [hops]; rfl, rfl, rfl, rfl⟩
  obtain ⟨o9, po9, q9, d9, gd9⟩ : ∃ o, ops[9]? = some o ∧ o.op = .fieldAddr 23 (.tmp 4) 1 ∧ o.dst = some 29 ∧ o.guard = some (5, false) := ⟨_, by rw [hops]; rfl, rfl, rfl, rfl⟩
  obtain ⟨o10, po10, q10, d10, gd10⟩ : ∃ o, ops[10]? = some o ∧ o.op = .load 9 (.tmp 29) ∧ o.dst = some 30 ∧ o.guard = some (5, false) := ⟨_, by rw [hops]; rfl, rfl, rfl, rfl⟩
  obtain ⟨o11, po11, q11, d11, gd11⟩ : ∃ o, ops[11]? = some o ∧ o.op = .call { callee := .value (.func 12), args := #[.tmp 30], argTypes := #[9] } ∧ o.dst = some 31 ∧ o.guard = some (5, false) := ⟨_, by rw [hops]; rfl, rfl, rfl, rfl⟩
  obtain ⟨o12, po12, q12, d12, gd12⟩ : ∃ o, ops[12]? = some o ∧ o.op = .binOp .neq 4 (.tmp 28) (.tmp 31) 4 ∧ o.dst = some 32 ∧ o.guard = some (5, false) := ⟨_, by rw [hops]; rfl, rfl, rfl, rfl⟩
  obtain ⟨o13, po13, q13, d13, gd13⟩ : ∃ o, ops[13]? = some o ∧ o.op = .pick (.tmp 25) (.const (.bool true)) (.tmp 32) ∧ o.dst = some 33 ∧ o.guard = none := ⟨_, by rw [hops]; rfl, rfl, rfl, rfl⟩
  obtain ⟨o14, po14, q14, d14, gd14⟩ : ∃ o, ops[14]? = some o ∧ o.op = .move (.tmp 33) ∧ o.dst = some 34 ∧ o.guard = none := ⟨_, by rw [hops]; rfl, rfl, rfl, rfl⟩
  obtain ⟨o15, po15, q15, d15, gd15⟩ : ∃ o, ops[15]? = some o ∧ o.op = .load 23 (.tmp 4) ∧ o.dst = some 35 ∧ o.guard = some (14, false) := ⟨_, by rw [hops]; rfl, rfl, rfl, rfl⟩
  obtain ⟨o16, po16, q16, d16, gd16⟩ : ∃ o, ops[16]? = some o ∧ o.op = .call { callee := .value (.func 13), args := #[.tmp 35], argTypes := #[23] } ∧ o.dst = some 36 ∧ o.guard = some (14, false) := ⟨_, by rw [hops]; rfl, rfl, rfl, rfl⟩
  obtain ⟨o17, po17, q17, d17, gd17⟩ : ∃ o, ops[17]? = some o ∧ o.op = .load 23 (.tmp 4) ∧ o.dst = some 37 ∧ o.guard = some (14, false) := ⟨_, by rw [hops]; rfl, rfl, rfl, rfl⟩
  obtain ⟨o18, po18, q18, d18, gd18⟩ : ∃ o, ops[18]? = some o ∧ o.op = .call { callee := .value (.func 14), args := #[.tmp 37], argTypes := #[23] } ∧ o.dst = some 38 ∧ o.guard = some (14, false) := ⟨_, by rw [hops]; rfl, rfl, rfl, rfl⟩
  obtain ⟨o19, po19, q19, d19, gd19⟩ : ∃ o, ops[19]? = some o ∧ o.op = .binOp .neq 26 (.tmp 36) (.tmp 38) 26 ∧ o.dst = some 39 ∧ o.guard = some (14, false) := ⟨_, by rw [hops]; rfl, rfl, rfl, rfl⟩
  obtain ⟨o20, po20, q20, d20, gd20⟩ : ∃ o, ops[20]? = some o ∧ o.op = .pick (.tmp 34) (.const (.bool true)) (.tmp 39) ∧ o.dst = some 40 ∧ o.guard = none := ⟨_, by rw [hops]; rfl, rfl, rfl, rfl⟩
  clear hops
  refine met_free po0 d0 (wanted_of gd0) (fun w' h' => run_move q0 base3 w') ?_
  refine met_free po2 d2 (wanted_of gd2) (fun w' h' => run_move q2 ((eval_other _ 20 3 _ (by decide)).trans base3) w') ?_
  refine m_enter po1 d1 (wanted_of gd1) (run_callf1 q1 rfl ((eval_other _ 22 20 _ (by decide)).trans (eval_same _ _ _ (by rw [hsz]; decide))) Try.func11 (by kernel_rfl) _) (quietG (NM.out _)) ?_
  rintro e w3_1 ⟨rfl, hb⟩
  have HSw3_1 := Lib.hid ((HG1.out.step (Below.refl _ _).drew).step hb)
  clear hb
  refine ⟨_, rfl, HSw3_1.out, ?_⟩
  refine m_enter po3 d3 (wanted_of gd3) (run_callf1 q3 rfl ((eval_other _ 21 22 _ (by decide)).trans (eval_same _ _ _ (by simp only [put_size, hsz]; decide))) Try.func12 (by kernel_rfl) _) (quietG (RNM.out _)) ?_
  rintro e w3_2 ⟨rfl, hb⟩
  have HSw3_2 := Lib.hid ((HSw3_1.out).step hb)
  clear hb
  refine ⟨_, rfl, HSw3_2.out, ?_⟩
  refine met_free po4 d4 (wanted_of gd4) (fun w' h' => r_neB q4 ((eval_other _ 23 21 _ (by decide)).trans (eval_same _ _ _ (by simp only [put_size, hsz]; decide))) (eval_same _ _ _ (by simp only [put_size, hsz]; decide)) w') ?_
  refine met_free po5 d5 (wanted_of gd5) (fun w' h' => run_move q5 (eval_same _ _ _ (by simp only [put_size, hsz]; decide)) w') ?_
  refine met_free po6 d6 (w_false gd6 po5 d5 (eval_same _ _ _ (by simp only [put_size, hsz]; decide))) (fun w' h' => run_fieldT (off := 1) q6 (fun _ => by kernel_rfl) ((eval_other _ 25 4 _ (by decide)).trans ((eval_other _ 24 4 _ (by decide)).trans ((eval_other _ 23 4 _ (by decide)).trans ((eval_other _ 21 4 _ (by decide)).trans ((eval_other _ 22 4 _ (by decide)).trans ((eval_other _ 20 4 _ (by decide)).trans base4)))))) w') ?_
  refine met_free po7 d7 (w_false gd7 po5 d5 ((eval_other _ 26 25 _ (by decide)).trans (eval_same _ _ _ (by simp only [put_size, hsz]; decide)))) (fun w' h' => run_loadStr q7 (eval_same _ _ _ (by simp only [put_size, hsz]; decide)) h'.one.c1) ?_
  refine met_free po9 d9 (w_false gd9 po5 d5 ((eval_other _ 27 25 _ (by decide)).trans ((eval_other _ 26 25 _ (by decide)).trans (eval_same _ _ _ (by simp only [put_size, hsz]; decide))))) (fun w' h' => run_fieldT (off := 1) q9 (fun _ => by kernel_rfl) ((eval_other _ 27 4 _ (by decide)).trans ((eval_other _ 26 4 _ (by decide)).trans ((eval_other _ 25 4 _ (by decide)).trans ((eval_other _ 24 4 _ (by decide)).trans ((eval_other _ 23 4 _ (by decide)).trans ((eval_other _ 21 4 _ (by decide)).trans ((eval_other _ 22 4 _ (by decide)).trans ((eval_other _ 20 4 _ (by decide)).trans base4)))))))) w') ?_
  refine met_free po10 d10 (w_false gd10 po5 d5 ((eval_other _ 29 25 _ (by decide)).trans ((eval_other _ 27 25 _ (by decide)).trans ((eval_other _ 26 25 _ (by decide)).trans (eval_same _ _ _ (by simp only [put_size, hsz]; decide)))))) (fun w' h' => run_loadStr q10 (eval_same _ _ _ (by simp only [put_size, hsz]; decide)) h'.one.c1) ?_
  refine m_enter po8 d8 (w_false gd8 po5 d5 ((eval_other _ 30 25 _ (by decide)).trans ((eval_other _ 29 25 _ (by decide)).trans ((eval_other _ 27 25 _ (by decide)).trans ((eval_other _ 26 25 _ (by decide)).trans (eval_same _ _ _ (by simp only [put_size, hsz]; decide))))))) (run_callf1 q8 rfl ((eval_other _ 30 27 _ (by decide)).trans ((eval_other _ 29 27 _ (by decide)).trans (eval_same _ _ _ (by simp only [put_size, hsz]; decide)))) Try.func11 (by kernel_rfl) _) (quietG (NMP.out _)) ?_
  rintro e w3_3 ⟨rfl, hb⟩
  have HSw3_3 := Lib.hid ((HSw3_2.out).step hb)
  clear hb
  refine ⟨_, rfl, HSw3_3.out, ?_⟩
  refine m_enter po11 d11 (w_false gd11 po5 d5 ((eval_other _ 28 25 _ (by decide)).trans ((eval_other _ 30 25 _ (by decide)).trans ((eval_other _ 29 25 _ (by decide)).trans ((eval_other _ 27 25 _ (by decide)).trans ((eval_other _ 26 25 _ (by decide)).trans (eval_same _ _ _ (by simp only [put_size, hsz]; decide)))))))) (run_callf1 q11 rfl ((eval_other _ 28 30 _ (by decide)).trans (eval_same _ _ _ (by simp only [put_size, hsz]; decide))) Try.func12 (by kernel_rfl) _) (quietG (RNMP.out _)) ?_
  rintro e w3_4 ⟨rfl, hb⟩
  have HSw3_4 := Lib.hid ((HSw3_3.out).step hb)
  clear hb
  refine ⟨_, rfl, HSw3_4.out, ?_⟩
  refine met_free po12 d12 (w_false gd12 po5 d5 ((eval_other _ 31 25 _ (by decide)).trans ((eval_other _ 28 25 _ (by decide)).trans ((eval_other _ 30 25 _ (by decide)).trans ((eval_other _ 29 25 _ (by decide)).trans ((eval_other _ 27 25 _ (by decide)).trans ((eval_other _ 26 25 _ (by decide)).trans (eval_same _ _ _ (by simp only [put_size, hsz]; decide))))))))) (fun w' h' => r_neB q12 ((eval_other _ 31 28 _ (by decide)).trans (eval_same _ _ _ (by simp only [put_size, hsz]; decide))) (eval_same _ _ _ (by simp only [put_size, hsz]; decide)) w') ?_
  refine met_free po13 d13 (wanted_of gd13) (fun w' h' => r_pickF q13 ((eval_other _ 32 25 _ (by decide)).trans ((eval_other _ 31 25 _ (by decide)).trans ((eval_other _ 28 25 _ (by decide)).trans ((eval_other _ 30 25 _ (by decide)).trans ((eval_other _ 29 25 _ (by decide)).trans ((eval_other _ 27 25 _ (by decide)).trans ((eval_other _ 26 25 _ (by decide)).trans (eval_same _ _ _ (by simp only [put_size, hsz]; decide))))))))) (eval_same _ _ _ (by simp only [put_size, hsz]; decide)) w') ?_
  refine met_free po14 d14 (wanted_of gd14) (fun w' h' => run_move q14 (eval_same _ _ _ (by simp only [put_size, hsz]; decide)) w') ?_
  refine met_free po15 d15 (w_false gd15 po14 d14 (eval_same _ _ _ (by simp only [put_size, hsz]; decide))) (fun w' h' => run_loadBlk q15 ((eval_other _ 34 4 _ (by decide)).trans ((eval_other _ 33 4 _ (by decide)).trans ((eval_other _ 32 4 _ (by decide)).trans ((eval_other _ 31 4 _ (by decide)).trans ((eval_other _ 28 4 _ (by decide)).trans ((eval_other _ 30 4 _ (by decide)).trans ((eval_other _ 29 4 _ (by decide)).trans ((eval_other _ 27 4 _ (by decide)).trans ((eval_other _ 26 4 _ (by decide)).trans ((eval_other _ 25 4 _ (by decide)).trans ((eval_other _ 24 4 _ (by decide)).trans ((eval_other _ 23 4 _ (by decide)).trans ((eval_other _ 21 4 _ (by decide)).trans ((eval_other _ 22 4 _ (by decide)).trans ((eval_other _ 20 4 _ (by decide)).trans base4))))))))))))))) h'.one (by kernel_rfl) (size_grant _)) ?_
  refine met_free po17 d17 (w_false gd17 po14 d14 ((eval_other _ 35 34 _ (by decide)).trans (eval_same _ _ _ (by simp only [put_size, hsz]; decide)))) (fun w' h' => run_loadBlk q17 ((eval_other _ 35 4 _ (by decide)).trans ((eval_other _ 34 4 _ (by decide)).trans ((eval_other _ 33 4 _ (by decide)).trans ((eval_other _ 32 4 _ (by decide)).trans ((eval_other _ 31 4 _ (by decide)).trans ((eval_other _ 28 4 _ (by decide)).trans ((eval_other _ 30 4 _ (by decide)).trans ((eval_other _ 29 4 _ (by decide)).trans ((eval_other _ 27 4 _ (by decide)).trans ((eval_other _ 26 4 _ (by decide)).trans ((eval_other _ 25 4 _ (by decide)).trans ((eval_other _ 24 4 _ (by decide)).trans ((eval_other _ 23 4 _ (by decide)).trans ((eval_other _ 21 4 _ (by decide)).trans ((eval_other _ 22 4 _ (by decide)).trans ((eval_other _ 20 4 _ (by decide)).trans base4)))))))))))))))) h'.one (by kernel_rfl) (size_grant _)) ?_
  refine m_enter po16 d16 (w_false gd16 po14 d14 ((eval_other _ 37 34 _ (by decide)).trans ((eval_other _ 35 34 _ (by decide)).trans (eval_same _ _ _ (by simp only [put_size, hsz]; decide))))) (run_callf1 q16 rfl ((eval_other _ 37 35 _ (by decide)).trans (eval_same _ _ _ (by simp only [put_size, hsz]; decide))) Try.func13 (by kernel_rfl) _) (CHK.out _) ?_
  rintro e w3_5 ⟨rfl, hb⟩
  have HSw3_5 := Lib.hid ((HSw3_4.out).step hb)
  clear hb
  refine ⟨_, rfl, HSw3_5.out, ?_⟩
  refine m_enter po18 d18 (w_false gd18 po14 d14 ((eval_other _ 36 34 _ (by decide)).trans ((eval_other _ 37 34 _ (by decide)).trans ((eval_other _ 35 34 _ (by decide)).trans (eval_same _ _ _ (by simp only [put_size, hsz]; decide)))))) (run_callf1 q18 rfl ((eval_other _ 36 37 _ (by decide)).trans (eval_same _ _ _ (by simp only [put_size, hsz]; decide))) Try.func14 (by kernel_rfl) _) (RCHK.out _) ?_
  rintro e w3_6 ⟨rfl, hb⟩
  have HSw3_6 := Lib.hid ((HSw3_5.out).step hb)
  clear hb
  refine ⟨_, rfl, HSw3_6.out, ?_⟩
  refine met_free po19 d19 (w_false gd19 po14 d14 ((eval_other _ 38 34 _ (by decide)).trans ((eval_other _ 36 34 _ (by decide)).trans ((eval_other _ 37 34 _ (by decide)).trans ((eval_other _ 35 34 _ (by decide)).trans (eval_same _ _ _ (by simp only [put_size, hsz]; decide))))))) (fun w' h' => r_neE q19 ((eval_other _ 38 36 _ (by decide)).trans (eval_same _ _ _ (by simp only [put_size, hsz]; decide))) (eval_same _ _ _ (by simp only [put_size, hsz]; decide)) w') ?_
  refine met_free po20 d20 (wanted_of gd20) (fun w' h' => r_pickF q20 ((eval_other _ 39 34 _ (by decide)).trans ((eval_other _ 38 34 _ (by decide)).trans ((eval_other _ 36 34 _ (by decide)).trans ((eval_other _ 37 34 _ (by decide)).trans ((eval_other _ 35 34 _ (by decide)).trans (eval_same _ _ _ (by simp only [put_size, hsz]; decide))))))) (eval_same _ _ _ (by simp only [put_size, hsz]; decide)) w') ?_
  show NoPanic _ .normal _ _
  refine NoPanic.normal ?_
  rw [HAA.out]
  go_frame
  clear HAA
  clear po0 q0 d0 gd0 po1 q1 d1 gd1 po2 q2 d2 gd2 po3 q3 d3 gd3 po4 q4 d4 gd4 po5 q5 d5 gd5 po6 q6 d6 gd6 po7 q7 d7 gd7 po8 q8 d8 gd8 po9 q9 d9 gd9 po10 q10 d10 gd10 po11 q11 d11 gd11 po12 q12 d12 gd12 po13 q13 d13 gd13 po14 q14 d14 gd14 po15 q15 d15 gd15 po16 q16 d16 gd16 po17 q17 d17 gd17 po18 q18 d18 gd18 po19 q19 d19 gd19 po20 q20 d20 gd20
  clear base2 base3 base4 base5 hsz
  go_upto_region 5 with (fail)
  refine region_phase (fun wr => Gr2 w.heap.size (w.heap.size + 1) a b w wr) (fun _ => True) 99 (HSw3_6.out.step (Below.refl _ _).drew) trivial [(0, .free), (1, .free), (2, .free), (4, .free), (5, .free), (6, .free), (3, .behind), (7, .behind), (8, .free), (9, .free), (10, .free), (12, .free), (11, .behind), (13, .behind), (14, .free), (15, .free)] (by kernel_rfl) (by kernel_rfl) (by kernel_rfl) (by kernel_rfl) (fun ops hops A hA => ?_)
  have hsz : A.tmps.size = 85 := by rw [hA]; rfl
  have base2 : A.eval (.tmp 2) = .int .i64 r := by rw [hA]; rfl
  have base3 : A.eval (.tmp 3) = .string s := by rw [hA]; rfl
  have base4 : A.eval (.tmp 4) = .pointer (some ⟨w.heap.size, 0, none⟩) := by rw [hA]; rfl
  have base5 : A.eval (.tmp 5) = .pointer (some ⟨w.heap.size + 1, 0, none⟩) := by rw [hA]; rfl
  have HAA := Lib.hid hA; clear hA
  obtain ⟨o0, po0, q0, d0, gd0⟩ : ∃ o, ops[0]? = some o ∧ o.op = .load 23 (.tmp 4) ∧ o.dst = some 41 ∧ o.guard = none := ⟨_, by rw [hops]; rfl, rfl, rfl, rfl⟩
  obtain ⟨o1, po1, q1, d1, gd1⟩ : ∃ o, ops[1]? = some o ∧ o.op = .move (.tmp 2) ∧ o.dst = some 42 ∧ o.guard = none := ⟨_, by rw [hops]; rfl, rfl, rfl, rfl⟩
  obtain ⟨o2, po2, q2, d2, gd2⟩ : ∃ o, ops[2]? = some o ∧ o.op = .move (.tmp 3) ∧ o.dst = some 43 ∧ o.guard = none := ⟨_, by rw [hops]; rfl, rfl, rfl, rfl⟩
  obtain ⟨o3, po3, q3, d3, gd3⟩ : ∃ o, ops[3]? = some o ∧ o.op = .call { callee := .value (.func 15), args := #[.tmp 41, .tmp 42, .tmp 43], argTypes := #[23, 3, 9] } ∧ o.dst = some 44 ∧ o.guard = none := ⟨_, by rw [hops]; rfl, rfl, rfl, rfl⟩
  obtain ⟨o4, po4, q4, d4, gd4⟩ : ∃ o, ops[4]? = some o ∧ o.op = .load 23 (.tmp 4) ∧ o.dst = some 45 ∧ o.guard = none := ⟨_, by rw [hops]; rfl, rfl, rfl, rfl⟩
  obtain ⟨o5, po5, q5, d5, gd5⟩ : ∃ o, ops[5]? = some o ∧ o.op = .move (.tmp 2) ∧ o.dst = some 46 ∧ o.guard = none := ⟨_, by rw [hops]; rfl, rfl, rfl, rfl⟩
  obtain ⟨o6, po6, q6, d6, gd6⟩ : ∃ o, ops[6]? = some o ∧ o.op = .move (.tmp 3) ∧ o.dst = some 47 ∧ o.guard = none := ⟨_, by rw [hops]; rfl, rfl, rfl, rfl⟩
  obtain ⟨o7, po7, q7, d7, gd7⟩ : ∃ o, ops[7]? = some o ∧ o.op = .call { callee := .value (.func 16), args := #[.tmp 45, .tmp 46, .tmp 47], argTypes := #[23, 3, 9] } ∧ o.dst = some 48 ∧ o.guard = none := ⟨_, by rw [hops]; rfl, rfl, rfl, rfl⟩
  obtain ⟨o8, po8, q8, d8, gd8⟩ : ∃ o, ops[8]? = some o ∧ o.op = .binOp .neq 4 (.tmp 44) (.tmp 48) 4 ∧ o.dst = some 49 ∧ o.guard = none := ⟨_, by rw [hops]; rfl, rfl, rfl, rfl⟩
  obtain ⟨o9, po9, q9, d9, gd9⟩ : ∃ o, ops[9]? = some o ∧ o.op = .move (.tmp 49) ∧ o.dst = some 50 ∧ o.guard = none := ⟨_, by rw [hops]; rfl, rfl, rfl, rfl⟩
  obtain ⟨o10, po10, q10, d10, gd10⟩ : ∃ o, ops[10]? = some o ∧ o.op = .load 23 (.tmp 4) ∧ o.dst = some 51 ∧ o.guard = some (9, false) := ⟨_, by rw [hops]; rfl, rfl, rfl, rfl⟩
  obtain ⟨o11, po11, q11, d11, gd11⟩ : ∃ o, ops[11]? = some o ∧ o.op = .call { callee := .value (.func 17), args := #[.tmp 51], argTypes := #[23] } ∧ o.dst = some 52 ∧ o.guard = some (9, false) := ⟨_, by rw [hops]; rfl, rfl, rfl, rfl⟩
  obtain ⟨o12, po12, q12, d12, gd12⟩ : ∃ o, ops[12]? = some o ∧ o.op = .load 23 (.tmp 4) ∧ o.dst = some 53 ∧ o.guard = some (9, false) := ⟨_, by rw [hops]; rfl, rfl, rfl, rfl⟩
  obtain ⟨o13, po13, q13, d13, gd13⟩ : ∃ o, ops[13]? = some o ∧ o.op = .call { callee := .value (.func 18), args := #[.tmp 53], argTypes := #[23] } ∧ o.dst = some 54 ∧ o.guard = some (9, false) := ⟨_, by rw [hops]; rfl, rfl, rfl, rfl⟩
  obtain ⟨o14, po14, q14, d14, gd14⟩ : ∃ o, ops[14]? = some o ∧ o.op = .binOp .neq 4 (.tmp 52) (.tmp 54) 4 ∧ o.dst = some 55 ∧ o.guard = some (9, false) := ⟨_, by rw [hops]; rfl, rfl, rfl, rfl⟩
  obtain ⟨o15, po15, q15, d15, gd15⟩ : ∃ o, ops[15]? = some o ∧ o.op = .pick (.tmp 50) (.const (.bool true)) (.tmp 55) ∧ o.dst = some 56 ∧ o.guard = none := ⟨_, by rw [hops]; rfl, rfl, rfl, rfl⟩
  clear hops
  refine met_free po0 d0 (wanted_of gd0) (fun w' h' => run_loadBlk q0 base4 h'.one (by kernel_rfl) (size_grant _)) ?_
  refine met_free po1 d1 (wanted_of gd1) (fun w' h' => run_move q1 ((eval_other _ 41 2 _ (by decide)).trans base2) w') ?_
  refine met_free po2 d2 (wanted_of gd2) (fun w' h' => run_move q2 ((eval_other _ 42 3 _ (by decide)).trans ((eval_other _ 41 3 _ (by decide)).trans base3)) w') ?_
  refine met_free po4 d4 (wanted_of gd4) (fun w' h' => run_loadBlk q4 ((eval_other _ 43 4 _ (by decide)).trans ((eval_other _ 42 4 _ (by decide)).trans ((eval_other _ 41 4 _ (by decide)).trans base4))) h'.one (by kernel_rfl) (size_grant _)) ?_
  refine met_free po5 d5 (wanted_of gd5) (fun w' h' => run_move q5 ((eval_other _ 45 2 _ (by decide)).trans ((eval_other _ 43 2 _ (by decide)).trans ((eval_other _ 42 2 _ (by decide)).trans ((eval_other _ 41 2 _ (by decide)).trans base2)))) w') ?_
  refine met_free po6 d6 (wanted_of gd6) (fun w' h' => run_move q6 ((eval_other _ 46 3 _ (by decide)).trans ((eval_other _ 45 3 _ (by decide)).trans ((eval_other _ 43 3 _ (by decide)).trans ((eval_other _ 42 3 _ (by decide)).trans ((eval_other _ 41 3 _ (by decide)).trans base3))))) w') ?_
  refine m_enter po3 d3 (wanted_of gd3) (run_callf3 q3 rfl ((eval_other _ 47 41 _ (by decide)).trans ((eval_other _ 46 41 _ (by decide)).trans ((eval_other _ 45 41 _ (by decide)).trans ((eval_other _ 43 41 _ (by decide)).trans ((eval_other _ 42 41 _ (by decide)).trans (eval_same _ _ _ (by rw [hsz]; decide))))))) ((eval_other _ 47 42 _ (by decide)).trans ((eval_other _ 46 42 _ (by decide)).trans ((eval_other _ 45 42 _ (by decide)).trans ((eval_other _ 43 42 _ (by decide)).trans (eval_same _ _ _ (by simp only [put_size, hsz]; decide)))))) ((eval_other _ 47 43 _ (by decide)).trans ((eval_other _ 46 43 _ (by decide)).trans ((eval_other _ 45 43 _ (by decide)).trans (eval_same _ _ _ (by simp only [put_size, hsz]; decide))))) Try.func15 (by kernel_rfl) _) (COV.out _) ?_
  rintro e w5_1 ⟨rfl, hb⟩
  have HSw5_1 := Lib.hid ((HSw3_6.out.step (Below.refl _ _).drew).step hb)
  clear hb
  refine ⟨_, rfl, HSw5_1.out, ?_⟩
  refine m_enter po7 d7 (wanted_of gd7) (run_callf3 q7 rfl ((eval_other _ 44 45 _ (by decide)).trans ((eval_other _ 47 45 _ (by decide)).trans ((eval_other _ 46 45 _ (by decide)).trans (eval_same _ _ _ (by simp only [put_size, hsz]; decide))))) ((eval_other _ 44 46 _ (by decide)).trans ((eval_other _ 47 46 _ (by decide)).trans (eval_same _ _ _ (by simp only [put_size, hsz]; decide)))) ((eval_other _ 44 47 _ (by decide)).trans (eval_same _ _ _ (by simp only [put_size, hsz]; decide))) Try.func16 (by kernel_rfl) _) (RCOV.out _) ?_
  rintro e w5_2 ⟨rfl, hb⟩
  have HSw5_2 := Lib.hid ((HSw5_1.out).step hb)
  clear hb
  refine ⟨_, rfl, HSw5_2.out, ?_⟩
  refine met_free po8 d8 (wanted_of gd8) (fun w' h' => r_neB q8 ((eval_other _ 48 44 _ (by decide)).trans (eval_same _ _ _ (by simp only [put_size, hsz]; decide))) (eval_same _ _ _ (by simp only [put_size, hsz]; decide)) w') ?_
  refine met_free po9 d9 (wanted_of gd9) (fun w' h' => run_move q9 (eval_same _ _ _ (by simp only [put_size, hsz]; decide)) w') ?_
  refine met_free po10 d10 (w_false gd10 po9 d9 (eval_same _ _ _ (by simp only [put_size, hsz]; decide))) (fun w' h' => run_loadBlk q10 ((eval_other _ 50 4 _ (by decide)).trans ((eval_other _ 49 4 _ (by decide)).trans ((eval_other _ 48 4 _ (by decide)).trans ((eval_other _ 44 4 _ (by decide)).trans ((eval_other _ 47 4 _ (by decide)).trans ((eval_other _ 46 4 _ (by decide)).trans ((eval_other _ 45 4 _ (by decide)).trans ((eval_other _ 43 4 _ (by decide)).trans ((eval_other _ 42 4 _ (by decide)).trans ((eval_other _ 41 4 _ (by decide)).trans base4)))))))))) h'.one (by kernel_rfl) (size_grant _)) ?_
  refine met_free po12 d12 (w_false gd12 po9 d9 ((eval_other _ 51 50 _ (by decide)).trans (eval_same _ _ _ (by simp only [put_size, hsz]; decide)))) (fun w' h' => run_loadBlk q12 ((eval_other _ 51 4 _ (by decide)).trans ((eval_other _ 50 4 _ (by decide)).trans ((eval_other _ 49 4 _ (by decide)).trans ((eval_other _ 48 4 _ (by decide)).trans ((eval_other _ 44 4 _ (by decide)).trans ((eval_other _ 47 4 _ (by decide)).trans ((eval_other _ 46 4 _ (by decide)).trans ((eval_other _ 45 4 _ (by decide)).trans ((eval_other _ 43 4 _ (by decide)).trans ((eval_other _ 42 4 _ (by decide)).trans ((eval_other _ 41 4 _ (by decide)).trans base4))))))))))) h'.one (by kernel_rfl) (size_grant _)) ?_
  refine m_enter po11 d11 (w_false gd11 po9 d9 ((eval_other _ 53 50 _ (by decide)).trans ((eval_other _ 51 50 _ (by decide)).trans (eval_same _ _ _ (by simp only [put_size, hsz]; decide))))) (run_callf1 q11 rfl ((eval_other _ 53 51 _ (by decide)).trans (eval_same _ _ _ (by simp only [put_size, hsz]; decide))) Try.func17 (by kernel_rfl) _) (WH.out _) ?_
  rintro e w5_3 ⟨rfl, hb⟩
  have HSw5_3 := Lib.hid ((HSw5_2.out).step hb)
  clear hb
  refine ⟨_, rfl, HSw5_3.out, ?_⟩
  refine m_enter po13 d13 (w_false gd13 po9 d9 ((eval_other _ 52 50 _ (by decide)).trans ((eval_other _ 53 50 _ (by decide)).trans ((eval_other _ 51 50 _ (by decide)).trans (eval_same _ _ _ (by simp only [put_size, hsz]; decide)))))) (run_callf1 q13 rfl ((eval_other _ 52 53 _ (by decide)).trans (eval_same _ _ _ (by simp only [put_size, hsz]; decide))) Try.func18 (by kernel_rfl) _) (RWH.out _) ?_
  rintro e w5_4 ⟨rfl, hb⟩
  have HSw5_4 := Lib.hid ((HSw5_3.out).step hb)
  clear hb
  refine ⟨_, rfl, HSw5_4.out, ?_⟩
  refine met_free po14 d14 (w_false gd14 po9 d9 ((eval_other _ 54 50 _ (by decide)).trans ((eval_other _ 52 50 _ (by decide)).trans ((eval_other _ 53 50 _ (by decide)).trans ((eval_other _ 51 50 _ (by decide)).trans (eval_same _ _ _ (by simp only [put_size, hsz]; decide))))))) (fun w' h' => r_neB q14 ((eval_other _ 54 52 _ (by decide)).trans (eval_same _ _ _ (by simp only [put_size, hsz]; decide))) (eval_same _ _ _ (by simp only [put_size, hsz]; decide)) w') ?_
  refine met_free po15 d15 (wanted_of gd15) (fun w' h' => r_pickF q15 ((eval_other _ 55 50 _ (by decide)).trans ((eval_other _ 54 50 _ (by decide)).trans ((eval_other _ 52 50 _ (by decide)).trans ((eval_other _ 53 50 _ (by decide)).trans ((eval_other _ 51 50 _ (by decide)).trans (eval_same _ _ _ (by simp only [put_size, hsz]; decide))))))) (eval_same _ _ _ (by simp only [put_size, hsz]; decide)) w') ?_
  show NoPanic _ .normal _ _
  refine NoPanic.normal ?_
  rw [HAA.out]
  go_frame
  clear HAA
  clear po0 q0 d0 gd0 po1 q1 d1 gd1 po2 q2 d2 gd2 po3 q3 d3 gd3 po4 q4 d4 gd4 po5 q5 d5 gd5 po6 q6 d6 gd6 po7 q7 d7 gd7 po8 q8 d8 gd8 po9 q9 d9 gd9 po10 q10 d10 gd10 po11 q11 d11 gd11 po12 q12 d12 gd12 po13 q13 d13 gd13 po14 q14 d14 gd14 po15 q15 d15 gd15
  clear base2 base3 base4 base5 hsz
  go_upto_region 7 with (fail)
  refine region_phase (fun wr => Gr2 w.heap.size (w.heap.size + 1) a b w wr) (fun _ => True) 99 (HSw5_4.out.step (Below.refl _ _).drew) trivial [(0, .free), (1, .free), (3, .free), (4, .free), (2, .behind), (5, .behind), (6, .free), (7, .free), (8, .free), (9, .free), (11, .free), (12, .free), (10, .behind), (13, .behind), (14, .free), (15, .free), (16, .free), (17, .free), (18, .free), (20, .free), (21, .free), (19, .behind), (22, .behind), (23, .free), (24, .free), (25, .free), (26, .behind), (27, .free), (28, .free)] (by kernel_rfl) (by kernel_rfl) (by kernel_rfl) (by kernel_rfl) (fun ops hops A hA => ?_)
  have hsz : A.tmps.size = 85 := by rw [hA]; rfl
  have base2 : A.eval (.tmp 2) = .int .i64 r := by rw [hA]; rfl
  have base3 : A.eval (.tmp 3) = .string s := by rw [hA]; rfl
  have base4 : A.eval (.tmp 4) = .pointer (some ⟨w.heap.size, 0, none⟩) := by rw [hA]; rfl
  have base5 : A.eval (.tmp 5) = .pointer (some ⟨w.heap.size + 1, 0, none⟩) := by rw [hA]; rfl
  have HAA := Lib.hid hA; clear hA
  obtain ⟨o0, po0, q0, d0, gd0⟩ : ∃ o, ops[0]? = some o ∧ o.op = .load 23 (.tmp 4) ∧ o.dst = some 57 ∧ o.guard = none := ⟨_, by rw [hops]; rfl, rfl, rfl, rfl⟩
  obtain ⟨o1, po1, q1, d1, gd1⟩ : ∃ o, ops[1]? = some o ∧ o.op = .load 23 (.tmp 5) ∧ o.dst = some 58 ∧ o.guard = none := ⟨_, by rw [hops]; rfl, rfl, rfl, rfl⟩
  obtain ⟨o2, po2, q2, d2, gd2⟩ : ∃ o, ops[2]? = some o ∧ o.op = .call { callee := .value (.func 19), args := #[.tmp 57, .tmp 58], argTypes := #[23, 23] } ∧ o.dst = some 59 ∧ o.guard = none := ⟨_, by rw [hops]; rfl, rfl, rfl, rfl⟩
  obtain ⟨o3, po3, q3, d3, gd3⟩ : ∃ o, ops[3]? = some o ∧ o.op = .load 23 (.tmp 4) ∧ o.dst = some 60 ∧ o.guard = none := ⟨_, by rw [hops]; rfl, rfl, rfl, rfl⟩
  obtain ⟨o4, po4, q4, d4, gd4⟩ : ∃ o, ops[4]? = some o ∧ o.op = .load 23 (.tmp 5) ∧ o.dst = some 61 ∧ o.guard = none := ⟨_, by rw [hops]; rfl, rfl, rfl, rfl⟩
  obtain ⟨o5, po5, q5, d5, gd5⟩ : ∃ o, ops[5]? = some o ∧ o.op = .call { callee := .value (.func 20), args := #[.tmp 60, .tmp 61], argTypes := #[23, 23] } ∧ o.dst = some 62 ∧ o.guard = none := ⟨_, by rw [hops]; rfl, rfl, rfl, rfl⟩
  obtain ⟨o6, po6, q6, d6, gd6⟩ : ∃ o, ops[6]? = some o ∧ o.op = .binOp .eql 4 (.tmp 59) (.tmp 62) 4 ∧ o.dst = some 63 ∧ o.guard = none := ⟨_, by rw [hops]; rfl, rfl, rfl, rfl⟩
  obtain ⟨o7, po7, q7, d7, gd7⟩ : ∃ o, ops[7]? = some o ∧ o.op = .move (.tmp 63) ∧ o.dst = some 64 ∧ o.guard = none := ⟨_, by rw [hops]; rfl, rfl, rfl, rfl⟩
  obtain ⟨o8, po8, q8, d8, gd8⟩ : ∃ o, ops[8]? = some o ∧ o.op = .load 23 (.tmp 5) ∧ o.dst = some 65 ∧ o.guard = some (7, true) := ⟨_, by rw [hops]; rfl, rfl, rfl, rfl⟩
  obtain ⟨o9, po9, q9, d9, gd9⟩ : ∃ o, ops[9]? = some o ∧ o.op = .load 23 (.tmp 4) ∧ o.dst = some 66 ∧ o.guard = some (7, true) := ⟨_, by rw [hops]; rfl, rfl, rfl, rfl⟩
  obtain ⟨o10, po10, q10, d10, gd10⟩ : ∃ o, ops[10]? = some o ∧ o.op = .call { callee := .value (.func 19), args := #[.tmp 65, .tmp 66], argTypes := #[23, 23] } ∧ o.dst = some 67 ∧ o.guard = some (7, true) := ⟨_, by rw [hops]; rfl, rfl, rfl, rfl⟩
  obtain ⟨o11, po11, q11, d11, gd11⟩ : ∃ o, ops[11]? = some o ∧ o.op = .load 23 (.tmp 5) ∧ o.dst = some 68 ∧ o.guard = some (7, true) := ⟨_, by rw [hops]; rfl, rfl, rfl, rfl⟩
  obtain ⟨o12, po12, q12, d12, gd12⟩ : ∃ o, ops[12]? = some o ∧ o.op = .load 23 (.tmp 4) ∧ o.dst = some 69 ∧ o.guard = some (7, true) := ⟨_, by rw [hops]; rfl, rfl, rfl, rfl⟩
  obtain ⟨o13, po13, q13, d13, gd13⟩ : ∃ o, ops[13]? = some o ∧ o.op = .call { callee := .value (.func 20), args := #[.tmp 68, .tmp 69], argTypes := #[23, 23] } ∧ o.dst = some 70 ∧ o.guard = some (7, true) := ⟨_, by rw [hops]; rfl, rfl, rfl, rfl⟩
  obtain ⟨o14, po14, q14, d14, gd14⟩ : ∃ o, ops[14]? = some o ∧ o.op = .binOp .eql 4 (.tmp 67) (.tmp 70) 4 ∧ o.dst = some 71 ∧ o.guard = some (7, true) := ⟨_, by rw [hops]; rfl, rfl, rfl, rfl⟩
  obtain ⟨o15, po15, q15, d15, gd15⟩ : ∃ o, ops[15]? = some o ∧ o.op = .pick (.tmp 64) (.tmp 71) (.const (.bool false)) ∧ o.dst = some 72 ∧ o.guard = none := ⟨_, by rw [hops]; rfl, rfl, rfl, rfl⟩
  obtain ⟨o16, po16, q16, d16, gd16⟩ : ∃ o, ops[16]? = some o ∧ o.op = .move (.tmp 72) ∧ o.dst = some 73 ∧ o.guard = none := ⟨_, by rw [hops]; rfl, rfl, rfl, rfl⟩
  obtain ⟨o17, po17, q17, d17, gd17⟩ : ∃ o, ops[17]? = some o ∧ o.op = .load 23 (.tmp 4) ∧ o.dst = some 74 ∧ o.guard = some (16, true) := ⟨_, by rw [hops]; rfl, rfl, rfl, rfl⟩
  obtain ⟨o18, po18, q18, d18, gd18⟩ : ∃ o, ops[18]? = some o ∧ o.op = .load 23 (.tmp 4) ∧ o.dst = some 75 ∧ o.guard = some (16, true) := ⟨_, by rw [hops]; rfl, rfl, rfl, rfl⟩
  obtain ⟨o19, po19, q19, d19, gd19⟩ : ∃ o, ops[19]? = some o ∧ o.op = .call { callee := .value (.func 19), args := #[.tmp 74, .tmp 75], argTypes := #[23, 23] } ∧ o.dst = some 76 ∧ o.guard = some (16, true) := ⟨_, by rw [hops]; rfl, rfl, rfl, rfl⟩
  obtain ⟨o20, po20, q20, d20, gd20⟩ : ∃ o, ops[20]? = some o ∧ o.op = .load 23 (.tmp 4) ∧ o.dst = some 77 ∧ o.guard = some (16, true) := ⟨_, by rw [hops]; rfl, rfl, rfl, rfl⟩
  obtain ⟨o21, po21, q21, d21, gd21⟩ : ∃ o, ops[21]? = some o ∧ o.op = .load 23 (.tmp 4) ∧ o.dst = some 78 ∧ o.guard = some (16, true) := ⟨_, by rw [hops]; rfl, rfl, rfl, rfl⟩
  obtain ⟨o22, po22, q22, d22, gd22⟩ : ∃ o, ops[22]? = some o ∧ o.op = .call { callee := .value (.func 20), args := #[.tmp 77, .tmp 78], argTypes := #[23, 23] } ∧ o.dst = some 79 ∧ o.guard = some (16, true) := ⟨_, by rw [hops]; rfl, rfl, rfl, rfl⟩
  obtain ⟨o23, po23, q23, d23, gd23⟩ : ∃ o, ops[23]? = some o ∧ o.op = .binOp .eql 4 (.tmp 76) (.tmp 79) 4 ∧ o.dst = some 80 ∧ o.guard = some (16, true) := ⟨_, by rw [hops]; rfl, rfl, rfl, rfl⟩
  obtain ⟨o24, po24, q24, d24, gd24⟩ : ∃ o, ops[24]? = some o ∧ o.op = .pick (.tmp 73) (.tmp 80) (.const (.bool false)) ∧ o.dst = some 81 ∧ o.guard = none := ⟨_, by rw [hops]; rfl, rfl, rfl, rfl⟩
  obtain ⟨o25, po25, q25, d25, gd25⟩ : ∃ o, ops[25]? = some o ∧ o.op = .move (.tmp 81) ∧ o.dst = some 82 ∧ o.guard = none := ⟨_, by rw [hops]; rfl, rfl, rfl, rfl⟩
  obtain ⟨o26, po26, q26, d26, gd26⟩ : ∃ o, ops[26]? = some o ∧ o.op = .call { callee := .value (.func 10), args := #[], argTypes := #[] } ∧ o.dst = some 83 ∧ o.guard = some (25, true) := ⟨_, by rw [hops]; rfl, rfl, rfl, rfl⟩
  obtain ⟨o27, po27, q27, d27, gd27⟩ : ∃ o, ops[27]? = some o ∧ o.op = .pick (.tmp 82) (.tmp 83) (.const (.bool false)) ∧ o.dst = some 84 ∧ o.guard = none := ⟨_, by rw [hops]; rfl, rfl, rfl, rfl⟩
  obtain ⟨o28, po28, q28, d28, gd28⟩ : ∃ o, ops[28]? = some o ∧ o.op = .assign (.tmp 84) ∧ o.dst = some 8 ∧ o.guard = none := ⟨_, by rw [hops]; rfl, rfl, rfl, rfl⟩
  clear hops
  refine met_free po0 d0 (wanted_of gd0) (fun w' h' => run_loadBlk q0 base4 h'.one (by kernel_rfl) (size_grant _)) ?_
  refine met_free po1 d1 (wanted_of gd1) (fun w' h' => run_loadBlk q1 ((eval_other _ 57 5 _ (by decide)).trans base5) h'.two (by kernel_rfl) (size_grant _)) ?_
  refine met_free po3 d3 (wanted_of gd3) (fun w' h' => run_loadBlk q3 ((eval_other _ 58 4 _ (by decide)).trans ((eval_other _ 57 4 _ (by decide)).trans base4)) h'.one (by kernel_rfl) (size_grant _)) ?_
  refine met_free po4 d4 (wanted_of gd4) (fun w' h' => run_loadBlk q4 ((eval_other _ 60 5 _ (by decide)).trans ((eval_other _ 58 5 _ (by decide)).trans ((eval_other _ 57 5 _ (by decide)).trans base5))) h'.two (by kernel_rfl) (size_grant _)) ?_
  refine m_enter po2 d2 (wanted_of gd2) (run_callf2 q2 rfl ((eval_other _ 61 57 _ (by decide)).trans ((eval_other _ 60 57 _ (by decide)).trans ((eval_other _ 58 57 _ (by decide)).trans (eval_same _ _ _ (by rw [hsz]; decide))))) ((eval_other _ 61 58 _ (by decide)).trans ((eval_other _ 60 58 _ (by decide)).trans (eval_same _ _ _ (by simp only [put_size, hsz]; decide)))) Try.func19 (by kernel_rfl) _) (NAB.out _) ?_
  rintro e w7_1 ⟨rfl, hb⟩
  have HSw7_1 := Lib.hid ((HSw5_4.out.step (Below.refl _ _).drew).step hb)
  clear hb
  refine ⟨_, rfl, HSw7_1.out, ?_⟩
  refine m_enter po5 d5 (wanted_of gd5) (run_callf2 q5 rfl ((eval_other _ 59 60 _ (by decide)).trans ((eval_other _ 61 60 _ (by decide)).trans (eval_same _ _ _ (by simp only [put_size, hsz]; decide)))) ((eval_other _ 59 61 _ (by decide)).trans (eval_same _ _ _ (by simp only [put_size, hsz]; decide))) Try.func20 (by kernel_rfl) _) (RNAB.out _) ?_
  rintro e w7_2 ⟨rfl, hb⟩
  have HSw7_2 := Lib.hid ((HSw7_1.out).step hb)
  clear hb
  refine ⟨_, rfl, HSw7_2.out, ?_⟩
  refine met_free po6 d6 (wanted_of gd6) (fun w' h' => r_eqB q6 ((eval_other _ 62 59 _ (by decide)).trans (eval_same _ _ _ (by simp only [put_size, hsz]; decide))) (eval_same _ _ _ (by simp only [put_size, hsz]; decide)) w') ?_
  refine met_free po7 d7 (wanted_of gd7) (fun w' h' => run_move q7 (eval_same _ _ _ (by simp only [put_size, hsz]; decide)) w') ?_
  refine met_free po8 d8 (wanted_guard gd8 po7 d7 (eval_same _ _ _ (by simp only [put_size, hsz]; decide))) (fun w' h' => run_loadBlk q8 ((eval_other _ 64 5 _ (by decide)).trans ((eval_other _ 63 5 _ (by decide)).trans ((eval_other _ 62 5 _ (by decide)).trans ((eval_other _ 59 5 _ (by decide)).trans ((eval_other _ 61 5 _ (by decide)).trans ((eval_other _ 60 5 _ (by decide)).trans ((eval_other _ 58 5 _ (by decide)).trans ((eval_other _ 57 5 _ (by decide)).trans base5)))))))) h'.two (by kernel_rfl) (size_grant _)) ?_
  refine met_free po9 d9 (wanted_guard gd9 po7 d7 ((eval_other _ 65 64 _ (by decide)).trans (eval_same _ _ _ (by simp only [put_size, hsz]; decide)))) (fun w' h' => run_loadBlk q9 ((eval_other _ 65 4 _ (by decide)).trans ((eval_other _ 64 4 _ (by decide)).trans ((eval_other _ 63 4 _ (by decide)).trans ((eval_other _ 62 4 _ (by decide)).trans ((eval_other _ 59 4 _ (by decide)).trans ((eval_other _ 61 4 _ (by decide)).trans ((eval_other _ 60 4 _ (by decide)).trans ((eval_other _ 58 4 _ (by decide)).trans ((eval_other _ 57 4 _ (by decide)).trans base4))))))))) h'.one (by kernel_rfl) (size_grant _)) ?_
  refine met_free po11 d11 (wanted_guard gd11 po7 d7 ((eval_other _ 66 64 _ (by decide)).trans ((eval_other _ 65 64 _ (by decide)).trans (eval_same _ _ _ (by simp only [put_size, hsz]; decide))))) (fun w' h' => run_loadBlk q11 ((eval_other _ 66 5 _ (by decide)).trans ((eval_other _ 65 5 _ (by decide)).trans ((eval_other _ 64 5 _ (by decide)).trans ((eval_other _ 63 5 _ (by decide)).trans ((eval_other _ 62 5 _ (by decide)).trans ((eval_other _ 59 5 _ (by decide)).trans ((eval_other _ 61 5 _ (by decide)).trans ((eval_other _ 60 5 _ (by decide)).trans ((eval_other _ 58 5 _ (by decide)).trans ((eval_other _ 57 5 _ (by decide)).trans base5)))))))))) h'.two (by kernel_rfl) (size_grant _)) ?_
  refine met_free po12 d12 (wanted_guard gd12 po7 d7 ((eval_other _ 68 64 _ (by decide)).trans ((eval_other _ 66 64 _ (by decide)).trans ((eval_other _ 65 64 _ (by decide)).trans (eval_same _ _ _ (by simp only [put_size, hsz]; decide)))))) (fun w' h' => run_loadBlk q12 ((eval_other _ 68 4 _ (by decide)).trans ((eval_other _ 66 4 _ (by decide)).trans ((eval_other _ 65 4 _ (by decide)).trans ((eval_other _ 64 4 _ (by decide)).trans ((eval_other _ 63 4 _ (by decide)).trans ((eval_other _ 62 4 _ (by decide)).trans ((eval_other _ 59 4 _ (by decide)).trans ((eval_other _ 61 4 _ (by decide)).trans ((eval_other _ 60 4 _ (by decide)).trans ((eval_other _ 58 4 _ (by decide)).trans ((eval_other _ 57 4 _ (by decide)).trans base4))))))))))) h'.one (by kernel_rfl) (size_grant _)) ?_
  refine m_enter po10 d10 (wanted_guard gd10 po7 d7 ((eval_other _ 69 64 _ (by decide)).trans ((eval_other _ 68 64 _ (by decide)).trans ((eval_other _ 66 64 _ (by decide)).trans ((eval_other _ 65 64 _ (by decide)).trans (eval_same _ _ _ (by simp only [put_size, hsz]; decide))))))) (run_callf2 q10 rfl ((eval_other _ 69 65 _ (by decide)).trans ((eval_other _ 68 65 _ (by decide)).trans ((eval_other _ 66 65 _ (by decide)).trans (eval_same _ _ _ (by simp only [put_size, hsz]; decide))))) ((eval_other _ 69 66 _ (by decide)).trans ((eval_other _ 68 66 _ (by decide)).trans (eval_same _ _ _ (by simp only [put_size, hsz]; decide)))) Try.func19 (by kernel_rfl) _) (NBA.out _) ?_
  rintro e w7_3 ⟨rfl, hb⟩
  have HSw7_3 := Lib.hid ((HSw7_2.out).step hb)
  clear hb
  refine ⟨_, rfl, HSw7_3.out, ?_⟩
  refine m_enter po13 d13 (wanted_guard gd13 po7 d7 ((eval_other _ 67 64 _ (by decide)).trans ((eval_other _ 69 64 _ (by decide)).trans ((eval_other _ 68 64 _ (by decide)).trans ((eval_other _ 66 64 _ (by decide)).trans ((eval_other _ 65 64 _ (by decide)).trans (eval_same _ _ _ (by simp only [put_size, hsz]; decide)))))))) (run_callf2 q13 rfl ((eval_other _ 67 68 _ (by decide)).trans ((eval_other _ 69 68 _ (by decide)).trans (eval_same _ _ _ (by simp only [put_size, hsz]; decide)))) ((eval_other _ 67 69 _ (by decide)).trans (eval_same _ _ _ (by simp only [put_size, hsz]; decide))) Try.func20 (by kernel_rfl) _) (RNBA.out _) ?_
  rintro e w7_4 ⟨rfl, hb⟩
  have HSw7_4 := Lib.hid ((HSw7_3.out).step hb)
  clear hb
  refine ⟨_, rfl, HSw7_4.out, ?_⟩
  refine met_free po14 d14 (wanted_guard gd14 po7 d7 ((eval_other _ 70 64 _ (by decide)).trans ((eval_other _ 67 64 _ (by decide)).trans ((eval_other _ 69 64 _ (by decide)).trans ((eval_other _ 68 64 _ (by decide)).trans ((eval_other _ 66 64 _ (by decide)).trans ((eval_other _ 65 64 _ (by decide)).trans (eval_same _ _ _ (by simp only [put_size, hsz]; decide))))))))) (fun w' h' => r_eqB q14 ((eval_other _ 70 67 _ (by decide)).trans (eval_same _ _ _ (by simp only [put_size, hsz]; decide))) (eval_same _ _ _ (by simp only [put_size, hsz]; decide)) w') ?_
  refine met_free po15 d15 (wanted_of gd15) (fun w' h' => run_pick_true q15 ((eval_other _ 71 64 _ (by decide)).trans ((eval_other _ 70 64 _ (by decide)).trans ((eval_other _ 67 64 _ (by decide)).trans ((eval_other _ 69 64 _ (by decide)).trans ((eval_other _ 68 64 _ (by decide)).trans ((eval_other _ 66 64 _ (by decide)).trans ((eval_other _ 65 64 _ (by decide)).trans (eval_same _ _ _ (by simp only [put_size, hsz]; decide))))))))) (eval_same _ _ _ (by simp only [put_size, hsz]; decide)) w') ?_
  refine met_free po16 d16 (wanted_of gd16) (fun w' h' => run_move q16 (eval_same _ _ _ (by simp only [put_size, hsz]; decide)) w') ?_
  refine met_free po17 d17 (wanted_guard gd17 po16 d16 (eval_same _ _ _ (by simp only [put_size, hsz]; decide))) (fun w' h' => run_loadBlk q17 ((eval_other _ 73 4 _ (by decide)).trans ((eval_other _ 72 4 _ (by decide)).trans ((eval_other _ 71 4 _ (by decide)).trans ((eval_other _ 70 4 _ (by decide)).trans ((eval_other _ 67 4 _ (by decide)).trans ((eval_other _ 69 4 _ (by decide)).trans ((eval_other _ 68 4 _ (by decide)).trans ((eval_other _ 66 4 _ (by decide)).trans ((eval_other _ 65 4 _ (by decide)).trans ((eval_other _ 64 4 _ (by decide)).trans ((eval_other _ 63 4 _ (by decide)).trans ((eval_other _ 62 4 _ (by decide)).trans ((eval_other _ 59 4 _ (by decide)).trans ((eval_other _ 61 4 _ (by decide)).trans ((eval_other _ 60 4 _ (by decide)).trans ((eval_other _ 58 4 _ (by decide)).trans ((eval_other _ 57 4 _ (by decide)).trans base4))))))))))))))))) h'.one (by kernel_rfl) (size_grant _)) ?_
  refine met_free po18 d18 (wanted_guard gd18 po16 d16 ((eval_other _ 74 73 _ (by decide)).trans (eval_same _ _ _ (by simp only [put_size, hsz]; decide)))) (fun w' h' => run_loadBlk q18 ((eval_other _ 74 4 _ (by decide)).trans ((eval_other _ 73 4 _ (by decide)).trans ((eval_other _ 72 4 _ (by decide)).trans ((eval_other _ 71 4 _ (by decide)).trans ((eval_other _ 70 4 _ (by decide)).trans ((eval_other _ 67 4 _ (by decide)).trans ((eval_other _ 69 4 _ (by decide)).trans ((eval_other _ 68 4 _ (by decide)).trans ((eval_other _ 66 4 _ (by decide)).trans ((eval_other _ 65 4 _ (by decide)).trans ((eval_other _ 64 4 _ (by decide)).trans ((eval_other _ 63 4 _ (by decide)).trans ((eval_other _ 62 4 _ (by decide)).trans ((eval_other _ 59 4 _ (by decide)).trans ((eval_other _ 61 4 _ (by decide)).trans ((eval_other _ 60 4 _ (by decide)).trans ((eval_other _ 58 4 _ (by decide)).trans ((eval_other _ 57 4 _ (by decide)).trans base4)))))))))))))))))) h'.one (by kernel_rfl) (size_grant _)) ?_
  refine met_free po20 d20 (wanted_guard gd20 po16 d16 ((eval_other _ 75 73 _ (by decide)).trans ((eval_other _ 74 73 _ (by decide)).trans (eval_same _ _ _ (by simp only [put_size, hsz]; decide))))) (fun w' h' => run_loadBlk q20 ((eval_other _ 75 4 _ (by decide)).trans ((eval_other _ 74 4 _ (by decide)).trans ((eval_other _ 73 4 _ (by decide)).trans ((eval_other _ 72 4 _ (by decide)).trans ((eval_other _ 71 4 _ (by decide)).trans ((eval_other _ 70 4 _ (by decide)).trans ((eval_other _ 67 4 _ (by decide)).trans ((eval_other _ 69 4 _ (by decide)).trans ((eval_other _ 68 4 _ (by decide)).trans ((eval_other _ 66 4 _ (by decide)).trans ((eval_other _ 65 4 _ (by decide)).trans ((eval_other _ 64 4 _ (by decide)).trans ((eval_other _ 63 4 _ (by decide)).trans ((eval_other _ 62 4 _ (by decide)).trans ((eval_other _ 59 4 _ (by decide)).trans ((eval_other _ 61 4 _ (by decide)).trans ((eval_other _ 60 4 _ (by decide)).trans ((eval_other _ 58 4 _ (by decide)).trans ((eval_other _ 57 4 _ (by decide)).trans base4))))))))))))))))))) h'.one (by kernel_rfl) (size_grant _)) ?_
  refine met_free po21 d21 (wanted_guard gd21 po16 d16 ((eval_other _ 77 73 _ (by decide)).trans ((eval_other _ 75 73 _ (by decide)).trans ((eval_other _ 74 73 _ (by decide)).trans (eval_same _ _ _ (by simp only [put_size, hsz]; decide)))))) (fun w' h' => run_loadBlk q21 ((eval_other _ 77 4 _ (by decide)).trans ((eval_other _ 75 4 _ (by decide)).trans ((eval_other _ 74 4 _ (by decide)).trans ((eval_other _ 73 4 _ (by decide)).trans ((eval_other _ 72 4 _ (by decide)).trans ((eval_other _ 71 4 _ (by decide)).trans ((eval_other _ 70 4 _ (by decide)).trans ((eval_other _ 67 4 _ (by decide)).trans ((eval_other _ 69 4 _ (by decide)).trans ((eval_other _ 68 4 _ (by decide)).trans ((eval_other _ 66 4 _ (by decide)).trans ((eval_other _ 65 4 _ (by decide)).trans ((eval_other _ 64 4 _ (by decide)).trans ((eval_other _ 63 4 _ (by decide)).trans ((eval_other _ 62 4 _ (by decide)).trans ((eval_other _ 59 4 _ (by decide)).trans ((eval_other _ 61 4 _ (by decide)).trans ((eval_other _ 60 4 _ (by decide)).trans ((eval_other _ 58 4 _ (by decide)).trans ((eval_other _ 57 4 _ (by decide)).trans base4)))))))))))))))))))) h'.one (by kernel_rfl) (size_grant _)) ?_
  refine m_enter po19 d19 (wanted_guard gd19 po16 d16 ((eval_other _ 78 73 _ (by decide)).trans ((eval_other _ 77 73 _ (by decide)).trans ((eval_other _ 75 73 _ (by decide)).trans ((eval_other _ 74 73 _ (by decide)).trans (eval_same _ _ _ (by simp only [put_size, hsz]; decide))))))) (run_callf2 q19 rfl ((eval_other _ 78 74 _ (by decide)).trans ((eval_other _ 77 74 _ (by decide)).trans ((eval_other _ 75 74 _ (by decide)).trans (eval_same _ _ _ (by simp only [put_size, hsz]; decide))))) ((eval_other _ 78 75 _ (by decide)).trans ((eval_other _ 77 75 _ (by decide)).trans (eval_same _ _ _ (by simp only [put_size, hsz]; decide)))) Try.func19 (by kernel_rfl) _) (NAA.out _) ?_
  rintro e w7_5 ⟨rfl, hb⟩
  have HSw7_5 := Lib.hid ((HSw7_4.out).step hb)
  clear hb
  refine ⟨_, rfl, HSw7_5.out, ?_⟩
  refine m_enter po22 d22 (wanted_guard gd22 po16 d16 ((eval_other _ 76 73 _ (by decide)).trans ((eval_other _ 78 73 _ (by decide)).trans ((eval_other _ 77 73 _ (by decide)).trans ((eval_other _ 75 73 _ (by decide)).trans ((eval_other _ 74 73 _ (by decide)).trans (eval_same _ _ _ (by simp only [put_size, hsz]; decide)))))))) (run_callf2 q22 rfl ((eval_other _ 76 77 _ (by decide)).trans ((eval_other _ 78 77 _ (by decide)).trans (eval_same _ _ _ (by simp only [put_size, hsz]; decide)))) ((eval_other _ 76 78 _ (by decide)).trans (eval_same _ _ _ (by simp only [put_size, hsz]; decide))) Try.func20 (by kernel_rfl) _) (RNAA.out _) ?_
  rintro e w7_6 ⟨rfl, hb⟩
  have HSw7_6 := Lib.hid ((HSw7_5.out).step hb)
  clear hb
  refine ⟨_, rfl, HSw7_6.out, ?_⟩
  refine met_free po23 d23 (wanted_guard gd23 po16 d16 ((eval_other _ 79 73 _ (by decide)).trans ((eval_other _ 76 73 _ (by decide)).trans ((eval_other _ 78 73 _ (by decide)).trans ((eval_other _ 77 73 _ (by decide)).trans ((eval_other _ 75 73 _ (by decide)).trans ((eval_other _ 74 73 _ (by decide)).trans (eval_same _ _ _ (by simp only [put_size, hsz]; decide))))))))) (fun w' h' => r_eqB q23 ((eval_other _ 79 76 _ (by decide)).trans (eval_same _ _ _ (by simp only [put_size, hsz]; decide))) (eval_same _ _ _ (by simp only [put_size, hsz]; decide)) w') ?_
  refine met_free po24 d24 (wanted_of gd24) (fun w' h' => run_pick_true q24 ((eval_other _ 80 73 _ (by decide)).trans ((eval_other _ 79 73 _ (by decide)).trans ((eval_other _ 76 73 _ (by decide)).trans ((eval_other _ 78 73 _ (by decide)).trans ((eval_other _ 77 73 _ (by decide)).trans ((eval_other _ 75 73 _ (by decide)).trans ((eval_other _ 74 73 _ (by decide)).trans (eval_same _ _ _ (by simp only [put_size, hsz]; decide))))))))) (eval_same _ _ _ (by simp only [put_size, hsz]; decide)) w') ?_
  refine met_free po25 d25 (wanted_of gd25) (fun w' h' => run_move q25 (eval_same _ _ _ (by simp only [put_size, hsz]; decide)) w') ?_
  refine m_enter po26 d26 (wanted_guard gd26 po25 d25 (eval_same _ _ _ (by simp only [put_size, hsz]; decide))) (run_callf0 q26 rfl Try.func10 (by kernel_rfl) _) (HKN.out _) ?_
  rintro e w7_7 ⟨rfl, hb⟩
  have HSw7_7 := Lib.hid ((HSw7_6.out).step hb)
  clear hb
  refine ⟨_, rfl, HSw7_7.out, ?_⟩
  refine met_free po27 d27 (wanted_of gd27) (fun w' h' => run_pick_true q27 ((eval_other _ 83 82 _ (by decide)).trans (eval_same _ _ _ (by simp only [put_size, hsz]; decide))) (eval_same _ _ _ (by simp only [put_size, hsz]; decide)) w') ?_
  refine met_free po28 d28 (wanted_of gd28) (fun w' h' => run_assign q28 (eval_same _ _ _ (by simp only [put_size, hsz]; decide)) w') ?_
  show NoPanic _ .normal _ _
  refine NoPanic.normal ?_
  rw [HAA.out]
  go_frame
  clear HAA
  clear po0 q0 d0 gd0 po1 q1 d1 gd1 po2 q2 d2 gd2 po3 q3 d3 gd3 po4 q4 d4 gd4 po5 q5 d5 gd5 po6 q6 d6 gd6 po7 q7 d7 gd7 po8 q8 d8 gd8 po9 q9 d9 gd9 po10 q10 d10 gd10 po11 q11 d11 gd11 po12 q12 d12 gd12 po13 q13 d13 gd13 po14 q14 d14 gd14 po15 q15 d15 gd15 po16 q16 d16 gd16 po17 q17 d17 gd17 po18 q18 d18 gd18 po19 q19 d19 gd19 po20 q20 d20 gd20 po21 q21 d21 gd21 po22 q22 d22 gd22 po23 q23 d23 gd23 po24 q24 d24 gd24 po25 q25 d25 gd25 po26 q26 d26 gd26 po27 q27 d27 gd27 po28 q28 d28 gd28
  clear base2 base3 base4 base5 hsz
  go_wp2_with fail
  go_ret
  exact ⟨rfl, HSw7_7.out.below⟩
end Go.Proofs.Ytkfkdomjjepmdaa
