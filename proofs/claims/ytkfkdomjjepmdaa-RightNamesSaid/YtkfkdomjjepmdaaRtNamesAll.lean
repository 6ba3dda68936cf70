/-
  RightNames, for any two texts, any place and any byte: the law returns true, and what came in reads afterwards as it read before. Without any condition.
-/
import Derived.Test.YtkfkdomjjepmdaaPkA
import Derived.Test.YtkfkdomjjepmdaaPkN
import Derived.Deep.CutRange
import Derived.IntWalk
/-
  RightNames' walk (gen_rtnames.py).
-/
namespace Go.Proofs.Ytkfkdomjjepmdaa
open Go.RowKit Go.Proofs.ShaWords
theorem nameL_take {l : List UInt8} (h : nameL l = true) (k : Nat) (hk : k < l.length) : nameL (l.take k) = decide (0 < k) := by
  unfold nameL at *
  simp only [Bool.and_eq_true, decide_eq_true_eq] at h
  obtain ⟨h1, h2, h3⟩ := h
  rcases Nat.eq_zero_or_pos k with rfl | hk0
  · simp [headC]
  · rw [decide_eq_true hk0]
    simp only [Bool.and_eq_true, decide_eq_true_eq]
    refine ⟨?_, ?_, by rw [List.length_take]; omega⟩
    · rw [headC_get _ (by omega)] at h1
      rw [headC_get _ (by rw [List.length_take]; omega), List.getElem_take]
      exact h1
    · rw [List.all_eq_true] at *
      exact fun x hx => h2 x (List.mem_of_mem_take hx)
theorem nameL_both {l r : List UInt8} (h : nameL l = true) (h2 : nameL r = true) : nameL (l ++ r) = decide (l.length + r.length ≤ 24) := by
  unfold nameL at *
  simp only [Bool.and_eq_true, decide_eq_true_eq] at h h2
  obtain ⟨a1, a2, a3⟩ := h
  obtain ⟨b1, b2, b3⟩ := h2
  have e1 : headC (l ++ r) = true := by
    cases l with
    | nil => simp [headC] at a1
    | cons c l => exact a1
  rw [e1, List.all_append, a2, b2, List.length_append]
  simp
def mayC (k : Nat) (c : UInt8) : Bool := smallC c || (decide (0 < k) && nameC c)
theorem nameL_set {l : List UInt8} (h : nameL l = true) (k : Nat) (hk : k < l.length) (c : UInt8) : nameL (l.take k ++ [c] ++ l.drop (k + 1)) = mayC k c := by
  unfold nameL at *
  simp only [Bool.and_eq_true, decide_eq_true_eq] at h
  obtain ⟨h1, h2, h3⟩ := h
  have hlen : (l.take k ++ [c] ++ l.drop (k + 1)).length = l.length := by simp; omega
  rw [hlen, decide_eq_true h3, Bool.and_true]
  have hall : (l.take k ++ [c] ++ l.drop (k + 1)).all nameC = nameC c := by
    rw [List.all_append, List.all_append]
    have e1 : (l.take k).all nameC = true := List.all_eq_true.2 fun x hx => List.all_eq_true.1 h2 x (List.mem_of_mem_take hx)
    have e2 : (l.drop (k + 1)).all nameC = true := List.all_eq_true.2 fun x hx => List.all_eq_true.1 h2 x (List.mem_of_mem_drop hx)
    rw [e1, e2]
    simp
  rw [hall]
  unfold mayC
  rcases Nat.eq_zero_or_pos k with rfl | hk0
  · have : headC (l.take 0 ++ [c] ++ l.drop (0 + 1)) = smallC c := by simp [headC]
    rw [this]
    cases hs : smallC c
    · simp
    · simp [nameC, hs]
  · have : headC (l.take k ++ [c] ++ l.drop (k + 1)) = true := by
      rw [headC_get _ (by omega)] at h1
      rw [headC_get _ (by rw [hlen]; omega)]
      have : (l.take k ++ [c] ++ l.drop (k + 1))[0]'(by rw [hlen]; omega) = l[0] := by
        rw [List.getElem_append_left (by simp), List.getElem_append_left (by rw [List.length_take]; omega), List.getElem_take]
      rw [this]
      exact h1
    rw [this, decide_eq_true hk0]
    cases hs : smallC c
    · simp
    · simp [nameC, hs]
theorem nameS_len {s : ByteArray} (h : nameS s = true) : 1 ≤ s.size ∧ s.size ≤ 24 := by
  unfold nameS nameL at h
  simp only [Bool.and_eq_true, decide_eq_true_eq] at h
  rw [size_list] at h
  refine ⟨?_, h.2.2⟩
  rcases Nat.eq_zero_or_pos s.size with h0 | h0
  · have : s.data.toList = [] := List.length_eq_zero_iff.1 (by rw [size_list]; exact h0)
    rw [this] at h
    exact absurd h.1 (by simp [headC])
  · exact h0
theorem nameS_take {s : ByteArray} (h : nameS s = true) (k : Nat) (hk : k < s.size) : nameS (s.extract 0 k) = decide (0 < k) := by
  unfold nameS at *
  rw [Lib.extract_data, List.drop_zero, Nat.sub_zero]
  exact nameL_take h k (by rw [size_list]; exact hk)
theorem nameS_both {s t : ByteArray} (h : nameS s = true) (h2 : nameS t = true) : nameS (s ++ t) = decide (s.size + t.size ≤ 24) := by
  unfold nameS at *
  have e : (s ++ t).data.toList = s.data.toList ++ t.data.toList := by simp [ByteArray.data_append]
  rw [e, nameL_both h h2, size_list, size_list]
def putS (s : ByteArray) (k : Nat) (c : UInt8) : ByteArray := s.extract 0 k ++ ⟨#[c]⟩ ++ s.extract (k + 1) s.size
theorem nameS_set {s : ByteArray} (h : nameS s = true) (k : Nat) (hk : k < s.size) (c : UInt8) : nameS (putS s k c) = mayC k c := by
  unfold nameS putS at *
  have e : (s.extract 0 k ++ ⟨#[c]⟩ ++ s.extract (k + 1) s.size).data.toList = s.data.toList.take k ++ [c] ++ s.data.toList.drop (k + 1) := by
    have e2 : (s.extract (k + 1) s.size).data.toList = s.data.toList.drop (k + 1) := by
      rw [Lib.extract_data, List.take_of_length_le]
      rw [List.length_drop, size_list]; omega
    have e1 : (s.extract 0 k).data.toList = s.data.toList.take k := by rw [Lib.extract_data, List.drop_zero, Nat.sub_zero]
    rw [ByteArray.data_append, ByteArray.data_append, Array.toList_append, Array.toList_append, e1, e2]
  rw [e, nameL_set h k (by rw [size_list]; exact hk)]
theorem putS_size {s : ByteArray} {k : Nat} (hk : k < s.size) (c : UInt8) : (putS s k c).size = s.size := by
  unfold putS
  rw [ByteArray.size_append, ByteArray.size_append, ByteArray.size_extract, ByteArray.size_extract]
  show min k s.size - 0 + 1 + (min s.size s.size - (k + 1)) = s.size
  omega
section
variable {ρ : Operand → Value} {o : Oper} {x y : Operand}
theorem run_byte1 {c : UInt8} {g : Nat} {w : World} (ho : o.op = .convert 44 9 x) (hx : ρ x = .slice (some ⟨g, 0, none⟩) 1 1) (hg : w.heap[g]? = some (.cells #[.int .u8 (c.toNat : Int)] 5 (0, 0))) : (execOp ρ o).run Try.prog w = .ok (.value (.string ⟨#[c]⟩)) w := by
  have h := run_strB (w := w) (p := some ⟨g, 0, none⟩) (l := [c.toBitVec]) (Or.inr ⟨g, 0, rfl, fun j v hv => by
    rw [cell_of_row w g _ _ _ _ hg, Nat.zero_add]
    have hn : n8 c.toBitVec = (c.toNat : Int) := rfl
    simpa [bytesV, hn] using hv⟩) 1 1 rfl
  have e : strB [c.toBitVec] = ⟨#[c]⟩ := bytes_ext (by have := strB_list [c.toBitVec]; rw [Lib.toList_data] at this; rw [this]; rfl)
  rw [e] at h
  unfold execOp
  simp only [ho, hx, Sem.run_bind, h, Result.andThen_ok, Sem.run_pure]
theorem run_addS {a b : ByteArray} {ty : TypeId} (ho : o.op = .binOp .add 9 x y ty) (hx : ρ x = .string a) (hy : ρ y = .string b) (hs : a.size + b.size ≤ 1000000) (w : World) : (execOp ρ o).run Try.prog w = .ok (.value (.string (a ++ b))) w := by
  obtain ⟨dst, op, ty', pos, after, guard⟩ := o
  simp only at ho
  subst ho
  go_simp
  omega
theorem run_cutTo {s : ByteArray} {k : Nat} (hk : k ≤ s.size) (ho : o.op = .slice 9 x none (some y) none) (hx : ρ x = .string s) (hy : ρ y = .int .i64 (k : Int)) (w : World) : (execOp ρ o).run Try.prog w = .ok (.value (.string (s.extract 0 k))) w := by
  obtain ⟨dst, op, ty', pos, after, guard⟩ := o
  simp only at ho
  subst ho
  have q : (k : Int) ≤ (s.size : Int) := by omega
  go_simp
theorem run_cutFrom {s : ByteArray} {k : Nat} (hk : k ≤ s.size) (ho : o.op = .slice 9 x (some y) none none) (hx : ρ x = .string s) (hy : ρ y = .int .i64 (k : Int)) (w : World) : (execOp ρ o).run Try.prog w = .ok (.value (.string (s.extract k s.size))) w := by
  obtain ⟨dst, op, ty', pos, after, guard⟩ := o
  simp only at ho
  subst ho
  have q : (k : Int) ≤ (s.size : Int) := by omega
  go_simp
theorem run_inc {k : Nat} {ty : TypeId} (ho : o.op = .binOp .add 3 x y ty) (hx : ρ x = .int .i64 (k : Int)) (hy : ρ y = .int .i64 1) (hk : k < 1000000) (w : World) : (execOp ρ o).run Try.prog w = .ok (.value (.int .i64 ((k + 1 : Nat) : Int))) w := by
  obtain ⟨dst, op, ty', pos, after, guard⟩ := o
  simp only at ho
  subst ho
  have q0 : 0 ≤ (k : Int) := by omega
  have q1 : (k : Int) < 1000000 := by omega
  go_simp
  exact IntWalk.i64_in _ (by omega)
end
set_option maxRecDepth 100000 in
set_option maxHeartbeats 8000000 in
theorem rightNames_any (s t : ByteArray) (z : Int) (c : UInt8) (w : World) (hs : s.size ≤ 140737488351232) (ht : t.size ≤ 140737488351232) :
    Calls Try.prog 8 #[.string s, .string t, .int .i64 z, .int .u8 (c.toNat : Int)] w fun e w' => e = .returned (.bool true) ∧ Below w.heap.size w w' := by
  have HKN := Lib.hid works13_any
  have NS : Hid (∀ w, Calls Try.prog 11 #[.string s] w (ReturnsB (nameS s) w)) := show ∀ _, _ from fun w => rtName_any s w hs
  have NT : Hid (∀ w, Calls Try.prog 11 #[.string t] w (ReturnsB (nameS t) w)) := show ∀ _, _ from fun w => rtName_any t w ht
  have HSZ := Lib.hid (And.intro hs ht)
  clear hs ht
  obtain ⟨M, hM⟩ : ∃ M, M = max s.size t.size := ⟨_, rfl⟩
  have HM := Lib.hid hM
  clear hM
  by_cases hbig : M > 4096
  · have q : (M : Int) > 4096 := by omega
    go_enter Try.func8, Try.ntmps8
    go_wp2_with (show wpList _ _ _ (⟨_, .call { callee := .builtin .max, args := _, argTypes := _ }, _, _, _, _⟩ :: _) _ _; refine wpList_run (by rfl) (run_max2 rfl rfl rfl HM.out _) ?_)
    refine (HKN.out _).mono ?_
    rintro e w9 ⟨rfl, hb⟩
    have HB9 := Lib.hid hb
    clear hb
    go_wp2_with fail
    go_ret
    exact ⟨rfl, HB9.out⟩
  have q : ¬ (M : Int) > 4096 := by omega
  have hM4 : M ≤ 4096 := by omega
  clear hbig
  cases hn : nameS s
  · have HN := Lib.hid hn
    clear hn
    go_enter Try.func8, Try.ntmps8
    go_wp2_with (show wpList _ _ _ (⟨_, .call { callee := .builtin .max, args := _, argTypes := _ }, _, _, _, _⟩ :: _) _ _; refine wpList_run (by rfl) (run_max2 rfl rfl rfl HM.out _) ?_)
    refine (NS.out _).mono ?_
    rw [HN.out]
    rintro e w' ⟨rfl, rfl⟩
    go_wp2_with fail
    refine (HKN.out _).mono ?_
    rintro e w9 ⟨rfl, hb⟩
    have HB9 := Lib.hid hb
    clear hb
    go_wp2_with fail
    go_ret
    exact ⟨rfl, HB9.out⟩
  have HN := Lib.hid hn
  clear hn
  have hl1 := (nameS_len HN.out).1
  have hl2 := (nameS_len HN.out).2
  have q2 : ¬ (s.size : Int) < 1 := by omega
  have q3 : ¬ (s.size : Int) > 24 := by omega
  go_enter Try.func8, Try.ntmps8
  go_wp2_with (show wpList _ _ _ (⟨_, .call { callee := .builtin .max, args := _, argTypes := _ }, _, _, _, _⟩ :: _) _ _; refine wpList_run (by rfl) (run_max2 rfl rfl rfl HM.out _) ?_)
  refine (NS.out _).mono ?_
  rw [HN.out]
  rintro e w' ⟨rfl, rfl⟩
  go_wp2_with fail
  refine (pick_any z (s.size : Int) w (by omega) (by omega)).mono ?_
  rintro e w' ⟨k, hk, rfl, rfl⟩
  have hks : k < s.size := by omega
  clear hk
  have HTK := Lib.hid (nameS_take HN.out k hks)
  have HPT := Lib.hid (nameS_set HN.out k hks c)
  have HPZ := Lib.hid (putS_size hks c)
  have HKS := Lib.hid hks
  go_wp2_with fail
  refine (rtName_any (s.extract 0 k) w (by rw [ByteArray.size_extract]; omega)).mono ?_
  rintro e w' ⟨rfl, rfl⟩
  rw [HTK.out]
  go_upto_region 8 with (fail)
  generalize decide (0 < k) = kb
  go_cut [56] from 42 to 57 (fun s56 wx => s56 = .bool false ∧ w = wx)
  case first =>
    go_wp2_with fail
    cases ht : nameS t
    · have HT := Lib.hid ht
      clear ht
      refine (NT.out _).mono ?_
      rw [HT.out]
      rintro e w' ⟨rfl, rfl⟩
      go_wp2_with fail
      go_meet
      exact ⟨rfl, rfl⟩
    · have HT := Lib.hid ht
      clear ht
      have hl3 := (nameS_len HT.out).2
      have HBO := Lib.hid (nameS_both HN.out HT.out)
      refine (NT.out _).mono ?_
      rw [HT.out]
      rintro e w' ⟨rfl, rfl⟩
      by_cases hsum : s.size + t.size ≤ 24
      · have HV := Lib.hid (decide_eq_true hsum)
        have q4 : (s.size : Int) + (t.size : Int) ≤ 24 := by omega
        go_wp2_with fail
        refine (rtName_any (s ++ t) w (by rw [ByteArray.size_append]; omega)).mono ?_
        rw [HBO.out, HV.out]
        rintro e w' ⟨rfl, rfl⟩
        go_wp2_with fail
        go_meet
        exact ⟨rfl, rfl⟩
      · have HV := Lib.hid (decide_eq_false hsum)
        have q4 : ¬ (s.size : Int) + (t.size : Int) ≤ 24 := by omega
        go_wp2_with fail
        refine (rtName_any (s ++ t) w (by rw [ByteArray.size_append]; omega)).mono ?_
        rw [HBO.out, HV.out]
        rintro e w' ⟨rfl, rfl⟩
        go_wp2_with fail
        go_meet
        refine ⟨congrArg Value.bool ?_, rfl⟩
        simp
        omega
  case rest =>
  obtain ⟨rfl, rfl⟩ := hcut
  go_upto_region 10 with (fail)
  go_cut [9] from 57 to 63 (fun s9 wx => s9 = .bool (smallC c) ∧ w = wx)
  case first =>
    go_wp2_with fail
    all_goals
      go_meet
      refine ⟨congrArg Value.bool ?_, rfl⟩
      apply Bool.eq_iff_iff.2
      simp [smallC]
      try omega
  case rest =>
  obtain ⟨rfl, rfl⟩ := hcut
  go_upto_region 11 with (fail)
  go_cut [9, 10] from 63 to 84 (fun _ s10 wx => s10 = .bool (mayC k c) ∧ w = wx)
  case first =>
    cases hsm : smallC c
    · have HSM := Lib.hid hsm
      clear hsm
      by_cases hk0 : 0 < k
      · have hk1 : 0 < (k : Int) := by omega
        by_cases h48 : 48 ≤ (c.toNat : Int) <;> by_cases h57 : (c.toNat : Int) ≤ 57 <;> cases h45 : ((c.toNat : Int) == 45) <;> cases h46 : ((c.toNat : Int) == 46)
        all_goals
          have HV : Hid (mayC k c = ((decide (48 ≤ (c.toNat : Int)) && decide ((c.toNat : Int) ≤ 57)) || (((c.toNat : Int) == 45) || ((c.toNat : Int) == 46)))) := show _ = _ from by
            apply Bool.eq_iff_iff.2
            simp [mayC, nameC, HSM.out, hk0]
          have HW := HV.out
          rw [h45, h46] at HW
          first
            | rw [decide_eq_true h48, decide_eq_true h57] at HW
            | rw [decide_eq_true h48, decide_eq_false h57] at HW
            | rw [decide_eq_false h48, decide_eq_true h57] at HW
            | rw [decide_eq_false h48, decide_eq_false h57] at HW
          have HX := Lib.hid HW
          clear HW HV
          go_wp2_with fail
          go_meet
          exact ⟨by rw [HX.out]; rfl, rfl⟩
      · have hk1 : ¬ 0 < (k : Int) := by omega
        go_wp2_with fail
        go_meet
        refine ⟨congrArg Value.bool ?_, rfl⟩
        simp [mayC, HSM.out, hk0]
    · have HSM := Lib.hid hsm
      clear hsm
      go_wp2_with fail
      go_meet
      refine ⟨congrArg Value.bool ?_, rfl⟩
      simp [mayC, HSM.out]
  case rest =>
  obtain ⟨rfl, rfl⟩ := hcut
  go_upto_region 12 with (fail)
  refine region_phase (fun wr => Below w.heap.size w wr) (fun _ => True) 99 ((Below.refl _ _).drew) trivial [(0, .free), (1, .free), (2, .free), (3, .free), (7, .free), (8, .free), (9, .free), (10, .free), (13, .free), (4, .behind), (5, .behind), (6, .free), (11, .free), (12, .behind), (14, .free), (15, .free), (16, .behind), (17, .free), (18, .free)] (by kernel_rfl) (by kernel_rfl) (by kernel_rfl) (by kernel_rfl) (fun ops hops A hA => ?_)
  have hsz : A.tmps.size = 102 := by rw [hA]; rfl
  have base0 : A.eval (.tmp 0) = .string s := by rw [hA]; rfl
  have base2 : A.eval (.tmp 2) = .int .i64 (k : Int) := by rw [hA]; rfl
  have base3 : A.eval (.tmp 3) = .int .u8 (c.toNat : Int) := by rw [hA]; rfl
  have base10 : A.eval (.tmp 10) = .bool (mayC k c) := by rw [hA]; rfl
  have HAA := Lib.hid hA; clear hA
  obtain ⟨o0, po0, q0, d0, gd0⟩ : ∃ o, ops[0]? = some o ∧ o.op = .move (.tmp 0) ∧ o.dst = some 84 ∧ o.guard = none := ⟨_, by rw [hops]; rfl, rfl, rfl, rfl⟩
  obtain ⟨o1, po1, q1, d1, gd1⟩ : ∃ o, ops[1]? = some o ∧ o.op = .move (.tmp 2) ∧ o.dst = some 85 ∧ o.guard = none := ⟨_, by rw [hops]; rfl, rfl, rfl, rfl⟩
  obtain ⟨o2, po2, q2, d2, gd2⟩ : ∃ o, ops[2]? = some o ∧ o.op = .slice 9 (.tmp 84) none (some (.tmp 85)) none ∧ o.dst = some 86 ∧ o.guard = none := ⟨_, by rw [hops]; rfl, rfl, rfl, rfl⟩
  obtain ⟨o3, po3, q3, d3, gd3⟩ : ∃ o, ops[3]? = some o ∧ o.op = .move (.tmp 3) ∧ o.dst = some 87 ∧ o.guard = none := ⟨_, by rw [hops]; rfl, rfl, rfl, rfl⟩
  obtain ⟨o4, po4, q4, d4, gd4⟩ : ∃ o, ops[4]? = some o ∧ o.op = .buildSlice 44 1 #[(0, (.tmp 87))] ∧ o.dst = some 88 ∧ o.guard = none := ⟨_, by rw [hops]; rfl, rfl, rfl, rfl⟩
  obtain ⟨o5, po5, q5, d5, gd5⟩ : ∃ o, ops[5]? = some o ∧ o.op = .convert 44 9 (.tmp 88) ∧ o.dst = some 89 ∧ o.guard = none := ⟨_, by rw [hops]; rfl, rfl, rfl, rfl⟩
  obtain ⟨o6, po6, q6, d6, gd6⟩ : ∃ o, ops[6]? = some o ∧ o.op = .binOp .add 9 (.tmp 86) (.tmp 89) 9 ∧ o.dst = some 90 ∧ o.guard = none := ⟨_, by rw [hops]; rfl, rfl, rfl, rfl⟩
  obtain ⟨o7, po7, q7, d7, gd7⟩ : ∃ o, ops[7]? = some o ∧ o.op = .move (.tmp 0) ∧ o.dst = some 91 ∧ o.guard = none := ⟨_, by rw [hops]; rfl, rfl, rfl, rfl⟩
  obtain ⟨o8, po8, q8, d8, gd8⟩ : ∃ o, ops[8]? = some o ∧ o.op = .move (.tmp 2) ∧ o.dst = some 92 ∧ o.guard = none := ⟨_, by rw [hops]; rfl, rfl, rfl, rfl⟩
  obtain ⟨o9, po9, q9, d9, gd9⟩ : ∃ o, ops[9]? = some o ∧ o.op = .binOp .add 3 (.tmp 92) (.const (.int .i64 1)) 3 ∧ o.dst = some 93 ∧ o.guard = none := ⟨_, by rw [hops]; rfl, rfl, rfl, rfl⟩
  obtain ⟨o10, po10, q10, d10, gd10⟩ : ∃ o, ops[10]? = some o ∧ o.op = .slice 9 (.tmp 91) (some (.tmp 93)) none none ∧ o.dst = some 94 ∧ o.guard = none := ⟨_, by rw [hops]; rfl, rfl, rfl, rfl⟩
  obtain ⟨o11, po11, q11, d11, gd11⟩ : ∃ o, ops[11]? = some o ∧ o.op = .binOp .add 9 (.tmp 90) (.tmp 94) 9 ∧ o.dst = some 95 ∧ o.guard = none := ⟨_, by rw [hops]; rfl, rfl, rfl, rfl⟩
  obtain ⟨o12, po12, q12, d12, gd12⟩ : ∃ o, ops[12]? = some o ∧ o.op = .call { callee := .value (.func 11), args := #[.tmp 95], argTypes := #[9] } ∧ o.dst = some 96 ∧ o.guard = none := ⟨_, by rw [hops]; rfl, rfl, rfl, rfl⟩
  obtain ⟨o13, po13, q13, d13, gd13⟩ : ∃ o, ops[13]? = some o ∧ o.op = .move (.tmp 10) ∧ o.dst = some 97 ∧ o.guard = none := ⟨_, by rw [hops]; rfl, rfl, rfl, rfl⟩
  obtain ⟨o14, po14, q14, d14, gd14⟩ : ∃ o, ops[14]? = some o ∧ o.op = .binOp .eql 4 (.tmp 96) (.tmp 97) 4 ∧ o.dst = some 98 ∧ o.guard = none := ⟨_, by rw [hops]; rfl, rfl, rfl, rfl⟩
  obtain ⟨o15, po15, q15, d15, gd15⟩ : ∃ o, ops[15]? = some o ∧ o.op = .move (.tmp 98) ∧ o.dst = some 99 ∧ o.guard = none := ⟨_, by rw [hops]; rfl, rfl, rfl, rfl⟩
  obtain ⟨o16, po16, q16, d16, gd16⟩ : ∃ o, ops[16]? = some o ∧ o.op = .call { callee := .value (.func 10), args := #[], argTypes := #[] } ∧ o.dst = some 100 ∧ o.guard = some (15, true) := ⟨_, by rw [hops]; rfl, rfl, rfl, rfl⟩
  obtain ⟨o17, po17, q17, d17, gd17⟩ : ∃ o, ops[17]? = some o ∧ o.op = .pick (.tmp 99) (.tmp 100) (.const (.bool false)) ∧ o.dst = some 101 ∧ o.guard = none := ⟨_, by rw [hops]; rfl, rfl, rfl, rfl⟩
  obtain ⟨o18, po18, q18, d18, gd18⟩ : ∃ o, ops[18]? = some o ∧ o.op = .assign (.tmp 101) ∧ o.dst = some 8 ∧ o.guard = none := ⟨_, by rw [hops]; rfl, rfl, rfl, rfl⟩
  clear hops
  refine met_free po0 d0 (wanted_of gd0) (fun w' h' => run_move q0 base0 w') ?_
  refine met_free po1 d1 (wanted_of gd1) (fun w' h' => run_move q1 ((eval_other _ 84 2 _ (by decide)).trans base2) w') ?_
  refine met_free po2 d2 (wanted_of gd2) (fun w' h' => run_cutTo (by have := HKS.out; omega) q2 ((eval_other _ 85 84 _ (by decide)).trans (eval_same _ _ _ (by rw [hsz]; decide))) (eval_same _ _ _ (by simp only [put_size, hsz]; decide)) w') ?_
  refine met_free po3 d3 (wanted_of gd3) (fun w' h' => run_move q3 ((eval_other _ 86 3 _ (by decide)).trans ((eval_other _ 85 3 _ (by decide)).trans ((eval_other _ 84 3 _ (by decide)).trans base3))) w') ?_
  refine met_free po7 d7 (wanted_of gd7) (fun w' h' => run_move q7 ((eval_other _ 87 0 _ (by decide)).trans ((eval_other _ 86 0 _ (by decide)).trans ((eval_other _ 85 0 _ (by decide)).trans ((eval_other _ 84 0 _ (by decide)).trans base0)))) w') ?_
  refine met_free po8 d8 (wanted_of gd8) (fun w' h' => run_move q8 ((eval_other _ 91 2 _ (by decide)).trans ((eval_other _ 87 2 _ (by decide)).trans ((eval_other _ 86 2 _ (by decide)).trans ((eval_other _ 85 2 _ (by decide)).trans ((eval_other _ 84 2 _ (by decide)).trans base2))))) w') ?_
  refine met_free po9 d9 (wanted_of gd9) (fun w' h' => run_inc q9 (eval_same _ _ _ (by simp only [put_size, hsz]; decide)) rfl (by have := HKS.out; omega) w') ?_
  refine met_free po10 d10 (wanted_of gd10) (fun w' h' => run_cutFrom (by have := HKS.out; omega) q10 ((eval_other _ 93 91 _ (by decide)).trans ((eval_other _ 92 91 _ (by decide)).trans (eval_same _ _ _ (by simp only [put_size, hsz]; decide)))) (eval_same _ _ _ (by simp only [put_size, hsz]; decide)) w') ?_
  refine met_free po13 d13 (wanted_of gd13) (fun w' h' => run_move q13 ((eval_other _ 94 10 _ (by decide)).trans ((eval_other _ 93 10 _ (by decide)).trans ((eval_other _ 92 10 _ (by decide)).trans ((eval_other _ 91 10 _ (by decide)).trans ((eval_other _ 87 10 _ (by decide)).trans ((eval_other _ 86 10 _ (by decide)).trans ((eval_other _ 85 10 _ (by decide)).trans ((eval_other _ 84 10 _ (by decide)).trans base10)))))))) w') ?_
  refine met_op po4 d4 (wanted_of gd4) (run_build1 q4 ((eval_other _ 97 87 _ (by decide)).trans ((eval_other _ 94 87 _ (by decide)).trans ((eval_other _ 93 87 _ (by decide)).trans ((eval_other _ 92 87 _ (by decide)).trans ((eval_other _ 91 87 _ (by decide)).trans (eval_same _ _ _ (by simp only [put_size, hsz]; decide))))))) _) ((Below.refl _ _).drew.alloc (by simp) _) ?_
  obtain ⟨g9, hg9⟩ : ∃ g, g = w.drew.heap.size := ⟨_, rfl⟩
  have HN9 : Hid ((w.drew.alloc (.cells #[.int .u8 (c.toNat : Int)] 5)).heap[g9]? = some (.cells #[.int .u8 (c.toNat : Int)] 5 (0, 0))) := show _ = _ from heap_new_at hg9.symm
  have HBB : Hid (Below w.heap.size w (w.drew.alloc (.cells #[.int .u8 (c.toNat : Int)] 5))) := show Below _ _ _ from (Below.refl _ _).drew.alloc (by simp) _
  rw [← hg9]
  clear hg9
  generalize w.drew.alloc (.cells #[.int .u8 (c.toNat : Int)] 5) = w5 at HN9 HBB ⊢
  refine met_op po5 d5 (wanted_of gd5) (run_byte1 q5 (eval_same _ _ _ (by simp only [put_size, hsz]; decide)) HN9.out) HBB.out ?_
  refine met_free po6 d6 (wanted_of gd6) (fun w' h' => run_addS q6 ((eval_other _ 89 86 _ (by decide)).trans ((eval_other _ 88 86 _ (by decide)).trans ((eval_other _ 97 86 _ (by decide)).trans ((eval_other _ 94 86 _ (by decide)).trans ((eval_other _ 93 86 _ (by decide)).trans ((eval_other _ 92 86 _ (by decide)).trans ((eval_other _ 91 86 _ (by decide)).trans ((eval_other _ 87 86 _ (by decide)).trans (eval_same _ _ _ (by simp only [put_size, hsz]; decide)))))))))) (eval_same _ _ _ (by simp only [put_size, hsz]; decide)) (by rw [ByteArray.size_extract]; show _ + 1 ≤ _; have := HKS.out; omega) w') ?_
  refine met_free po11 d11 (wanted_of gd11) (fun w' h' => run_addS q11 (eval_same _ _ _ (by simp only [put_size, hsz]; decide)) ((eval_other _ 90 94 _ (by decide)).trans ((eval_other _ 89 94 _ (by decide)).trans ((eval_other _ 88 94 _ (by decide)).trans ((eval_other _ 97 94 _ (by decide)).trans (eval_same _ _ _ (by simp only [put_size, hsz]; decide)))))) (by have h := HPZ.out; unfold putS at h; rw [ByteArray.size_append] at h; omega) w') ?_
  refine m_enter po12 d12 (wanted_of gd12) (run_callf1 q12 rfl (eval_same _ _ _ (by simp only [put_size, hsz]; decide)) Try.func11 (by kernel_rfl) _) ((HPT.out ▸ quietG (rtName_any (putS s k c) _ (by rw [HPZ.out]; omega)) : Calls _ _ _ _ (ReturnsG (mayC k c) _))) ?_
  rintro e w12_1 ⟨rfl, hb⟩
  have HSw12_1 := Lib.hid ((HBB.out).trans (hb.mono (HBB.out).size))
  clear hb
  refine ⟨_, rfl, HSw12_1.out, ?_⟩
  refine met_free po14 d14 (wanted_of gd14) (fun w' h' => r_eqB q14 (eval_same _ _ _ (by simp only [put_size, hsz]; decide)) ((eval_other _ 96 97 _ (by decide)).trans ((eval_other _ 95 97 _ (by decide)).trans ((eval_other _ 90 97 _ (by decide)).trans ((eval_other _ 89 97 _ (by decide)).trans ((eval_other _ 88 97 _ (by decide)).trans (eval_same _ _ _ (by simp only [put_size, hsz]; decide))))))) w') ?_
  refine met_free po15 d15 (wanted_of gd15) (fun w' h' => run_move q15 (eval_same _ _ _ (by simp only [put_size, hsz]; decide)) w') ?_
  refine m_enter po16 d16 (wanted_guard gd16 po15 d15 (eval_same _ _ _ (by simp only [put_size, hsz]; decide))) (run_callf0 q16 rfl Try.func10 (by kernel_rfl) _) (HKN.out _) ?_
  rintro e w12_2 ⟨rfl, hb⟩
  have HSw12_2 := Lib.hid ((HSw12_1.out).trans (hb.mono (HSw12_1.out).size))
  clear hb
  refine ⟨_, rfl, HSw12_2.out, ?_⟩
  refine met_free po17 d17 (wanted_of gd17) (fun w' h' => run_pick_true q17 ((eval_other _ 100 99 _ (by decide)).trans (eval_same _ _ _ (by simp only [put_size, hsz]; decide))) (eval_same _ _ _ (by simp only [put_size, hsz]; decide)) w') ?_
  refine met_free po18 d18 (wanted_of gd18) (fun w' h' => run_assign q18 (eval_same _ _ _ (by simp only [put_size, hsz]; decide)) w') ?_
  show NoPanic _ .normal _ _
  refine NoPanic.normal ?_
  rw [HAA.out]
  go_frame
  clear HAA
  clear po0 q0 d0 gd0 po1 q1 d1 gd1 po2 q2 d2 gd2 po3 q3 d3 gd3 po4 q4 d4 gd4 po5 q5 d5 gd5 po6 q6 d6 gd6 po7 q7 d7 gd7 po8 q8 d8 gd8 po9 q9 d9 gd9 po10 q10 d10 gd10 po11 q11 d11 gd11 po12 q12 d12 gd12 po13 q13 d13 gd13 po14 q14 d14 gd14 po15 q15 d15 gd15 po16 q16 d16 gd16 po17 q17 d17 gd17 po18 q18 d18 gd18
  clear base0 base2 base3 base10 hsz
  go_wp2_with fail
  go_ret
  exact ⟨rfl, HSw12_2.out⟩
end Go.Proofs.Ytkfkdomjjepmdaa

/-
  RightNames, for any two texts, any place and any byte: the law returns true, and what came in reads afterwards as it read before. Without any condition.
-/
namespace Go.Proofs.Ytkfkdomjjepmdaa
open Go.ChangeShapes Go.WideShapes Go.ChangeAt Go.RowKit Go.Proofs.ShaWords

set_option maxRecDepth 100000 in
theorem rightNames_lifted (os : Os) (started : os.Started) (H : Type) (enc : TypeId × Value → H) :
    ReturnsInHanded {} Try.checked os 8 .any (Rows.rightNamesSpec.pre6 enc Try.prog Try.f8 Rows.rightNamesRow.domain false)
      (Rows.rightNamesSpec.post enc Try.prog Try.f8 false true false false) := by
  refine returnsInHanded_of_change_sized (C := Try.checked) own started (by kernel_rfl) Try.func8
    (ChangeSpec.witness6 (enc := enc) (C := Try.checked) false ⟨#[], #[.string ⟨#[]⟩, .string ⟨#[]⟩, .int .i64 0, .int .u8 0], []⟩ 8 (by kernel_rfl) (by kernel_rfl) (by kernel_rfl) (by kernel_rfl)) ?_
  intro W base args ds gs before hval0 hW _ hsz _
  have hW' := hW
  obtain ⟨p, q, hA0, hV, rfl, hfz, hnd⟩ := hW
  have hA : DataW.TrodAll enc Try.prog W 0 (fun _ => true) true Try.f8.params.toList args.toList ds p := hA0
  have hval : ∀ (j : Nat) t v, Try.f8.params[j]? = some t → args[j]? = some v → Value.okWide Try.prog W .any base t v := hval0
  have hsz2 : (DataW.weightsEach Try.prog (Try.f8.params.toList ++ Rows.rightNamesSpec.plain.varTypes Try.prog) (ds ++ gs)).all (· ≤ reachBytes) = true := hsz
  rw [Try.params8] at hA hval hsz2
  obtain ⟨v0, vs0, d0, ds0, p0, q0, hargs, rfl, rfl, h0, r0⟩ := trodAll_cons hA
  obtain ⟨v1, vs1, d1, ds1, p1, q1, rfl, rfl, rfl, h1, r1⟩ := trodAll_cons r0
  obtain ⟨v2, vs2, d2, ds2, p2, q2, rfl, rfl, rfl, h2, r2⟩ := trodAll_cons r1
  obtain ⟨v3, vs3, d3, ds3, p3, q3, rfl, rfl, rfl, h3, r3⟩ := trodAll_cons r2
  obtain ⟨rfl, rfl, rfl⟩ := trodAll_nil r3
  obtain rfl : args = #[v0, v1, v2, v3] := by cases args; simp_all
  obtain ⟨rfl, rfl⟩ := trodVars_none hV
  obtain ⟨sv0, rfl⟩ := okWide_string Try.underlying9 (hval 0 9 v0 rfl rfl)
  have k0 := h0
  have lt0 : ∀ x ∈ p0, x.block < W.heap.size := by obtain ⟨m, hm⟩ := k0; exact DataW.trod_lt m _ _ _ hm
  obtain ⟨f0, hf0⟩ := h0
  obtain ⟨s0, hx0a, hx0b⟩ := open_strF hf0 (fun n hn => by have := List.all_eq_true.1 hsz2 n (DataW.weights_mem_each (j := 0) rfl rfl n hn); simpa using this)
  obtain rfl : s0 = sv0 := by simpa [Value.cells] using hx0a.symm
  obtain ⟨sv1, rfl⟩ := okWide_string Try.underlying9 (hval 1 9 v1 rfl rfl)
  have k1 := h1
  have lt1 : ∀ x ∈ p1, x.block < W.heap.size := by obtain ⟨m, hm⟩ := k1; exact DataW.trod_lt m _ _ _ hm
  obtain ⟨f1, hf1⟩ := h1
  obtain ⟨s1, hx1a, hx1b⟩ := open_strF hf1 (fun n hn => by have := List.all_eq_true.1 hsz2 n (DataW.weights_mem_each (j := 1) rfl rfl n hn); simpa using this)
  obtain rfl : s1 = sv1 := by simpa [Value.cells] using hx1a.symm
  obtain ⟨z2, rfl, rfl, rfl, wz2⟩ := open_int Try.underlying3 (hval 2 3 v2 rfl rfl) h2
  obtain ⟨z3, rfl, rfl, rfl, wz3⟩ := open_int Try.underlying5 (hval 3 5 v3 rfl rfl) h3
  clear hA0 hval0
  obtain ⟨c3, rfl⟩ := u8_of wz3
  refine (rightNames_any s0 s1 z2 c3 W hx0b hx1b).mono fun e W' ⟨he, bel⟩ => ?_
  subst he
  exact ⟨_, rfl, _, _, _, [], _, [], hW', trodAll_mk1 (shut_bool Try.underlying4 _), (trodAll_cons_mk (Below.trod laidOut (by kernel_rfl) (of_decide_eq_true (by kernel_rfl)) k0 bel lt0) (trodAll_cons_mk (Below.trod laidOut (by kernel_rfl) (of_decide_eq_true (by kernel_rfl)) k1 bel lt1) (trodAll_cons_mk (shut_int Try.underlying3 wz2) (trodAll_cons_mk (shut_int Try.underlying5 wz3) trodAll_mk0)))), rfl, bel.frame _, fun h => by cases h⟩

theorem rightNames_holds : Rows.RightNamesSaid :=
  OpenClaim.holds_of_wide 8 Try.f8 rfl rfl rfl rfl rfl rfl rfl ⟨rfl, rfl, rfl, rfl, rfl⟩ rfl rfl rfl rfl rfl (by kernel_rfl) Try.func8 (by kernel_rfl)
    (of_decide_eq_true (by kernel_rfl)) (by unfold Func.isWrapper; first | (rw [if_pos (by decide +kernel)]; kernel_rfl) | (rw [if_neg (by decide +kernel)]; exact ⟨rfl, rfl⟩))
    (fun os started H enc _ => rightNames_lifted os started H enc)

#print axioms rightNames_holds
end Go.Proofs.Ytkfkdomjjepmdaa
