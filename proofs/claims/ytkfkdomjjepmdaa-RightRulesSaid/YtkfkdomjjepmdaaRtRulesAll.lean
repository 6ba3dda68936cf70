/-
  RightRules, for any rules, any rights and any stream: the law returns true, and what came in reads afterwards as it read before. Without any condition.
-/
import Derived.Test.YtkfkdomjjepmdaaPkA
import Derived.Test.YtkfkdomjjepmdaaPkN
/-
  RightRules' walk.
-/
namespace Go.Proofs.Ytkfkdomjjepmdaa
open Go.RowKit Go.Proofs.ShaWords
set_option maxRecDepth 100000 in
set_option maxHeartbeats 8000000 in
theorem rightRules_any (l : List RuleM) (n cap : Nat) (p : Option Addr) (r : Int) (s : ByteArray) (w : World) (hln : l.length = n) (hL : RulesAt w p l) (hok : ∀ x ∈ l, x.Ok) (hr : wrap64 r = r) (hs : s.size ≤ 140737488351232) :
    Calls Try.prog 4 #[.slice p n cap, .int .i64 r, .string s] w fun e w' => e = .returned (.bool true) ∧ Below w.heap.size w w' := by
  have HKN := Lib.hid works13_any
  have HL := Lib.hid hL
  have HN := Lib.hid hln
  have HOK := Lib.hid hok
  have HR := Lib.hid hr
  have HS := Lib.hid hs
  clear hL hln hok hr hs
  by_cases hbig : n > 200 ∨ s.size > 4096
  · rcases hbig with q | q
    · have q1 : (n : Int) > 200 := by omega
      go_enter Try.func4, Try.ntmps4
      go_wp2_with fail
      refine (HKN.out _).mono ?_
      rintro e w9 ⟨rfl, hb⟩
      have HB9 := Lib.hid hb
      clear hb
      go_wp2_with fail
      go_ret
      exact ⟨rfl, HB9.out⟩
    · have q1 : (s.size : Int) > 4096 := by omega
      by_cases h2 : n > 200
      · have q2 : (n : Int) > 200 := by omega
        go_enter Try.func4, Try.ntmps4
        go_wp2_with fail
        refine (HKN.out _).mono ?_
        rintro e w9 ⟨rfl, hb⟩
        have HB9 := Lib.hid hb
        clear hb
        go_wp2_with fail
        go_ret
        exact ⟨rfl, HB9.out⟩
      · have q2 : ¬ (n : Int) > 200 := by omega
        go_enter Try.func4, Try.ntmps4
        go_wp2_with fail
        refine (HKN.out _).mono ?_
        rintro e w9 ⟨rfl, hb⟩
        have HB9 := Lib.hid hb
        clear hb
        go_wp2_with fail
        go_ret
        exact ⟨rfl, HB9.out⟩
  have q1 : ¬ (n : Int) > 200 := by omega
  have q2 : ¬ (s.size : Int) > 4096 := by omega
  have hn200 : n ≤ 200 := by omega
  clear hbig
  go_enter Try.func4, Try.ntmps4
  go_wp2_with fail
  go_loopw [7] (fun i wr => ∃ k : Nat, k ≤ n ∧ i = .int .i64 k ∧ w = wr) (fun i _ => n - (intOf i).toNat)
  case atStart => exact ⟨0, Nat.zero_le _, rfl, rfl⟩
  case round =>
    obtain ⟨k, hk, rfl, rfl⟩ := hrel
    by_cases hlt : k < n
    · have hlt' : k < l.length := by rw [HN.out]; exact hlt
      rcases HL.out.at' with h0 | ⟨b, off, rfl, hrr⟩
      · exfalso; rw [h0] at hlt'; simp at hlt'
      have hrk := hrr k hlt'
      generalize l[k] = x at hrk
      obtain ⟨xp, xr⟩ := x
      simp only [RuleM.cells] at hrk
      obtain ⟨c0, c1⟩ := rule_cells hrk
      clear hrk hrr hlt'
      have HKL := Lib.hid hlt
      by_cases hg : xp.size > 4096
      · have q3 : (xp.size : Int) > 4096 := by omega
        go_wp2_with (show wpList _ _ _ (⟨_, .indexAddr _ _ _, _, _, _, _⟩ :: _) _ _; refine wpList_run (by rfl) (ruleT.run_ix rfl rfl rfl HKL.out _) ?_)
        refine (HKN.out _).mono ?_
        rintro e w9 ⟨rfl, hb⟩
        have HB9 := Lib.hid hb
        clear hb
        go_wp2_with fail
        go_ret
        exact ⟨rfl, HB9.out⟩
      · have q3 : ¬ (xp.size : Int) > 4096 := by omega
        go_wp2_with (show wpList _ _ _ (⟨_, .indexAddr _ _ _, _, _, _, _⟩ :: _) _ _; refine wpList_run (by rfl) (ruleT.run_ix rfl rfl rfl HKL.out _) ?_)
        go_roundw
        case rel => exact ⟨k + 1, by omega, by go_num, by trivial⟩
        case measure => simp [intOf]; omega
    · go_wp2_with fail
      refine (lentRules_any l n p cap w HN.out (by omega) HL.out).mono ?_
      rintro e w1 ⟨v, rfl, ho, hb⟩
      obtain ⟨q, c, rfl, hc1, -, hq, -⟩ := ho.lies RuleM.len
      obtain ⟨m, hm⟩ : ∃ m, (l ++ marksRules 5).length = m := ⟨_, rfl⟩
      have hm2 : m = n + 5 := by rw [← hm, List.length_append, marksRules_length, HN.out]
      rw [hm] at hc1
      rw [hm]
      have hcn : (n : Int) ≤ (c : Int) := by omega
      have hm3 : m ≤ n + 5 ∧ n + 5 ≤ m := ⟨by omega, by omega⟩
      have HM := Lib.hid hm3
      have HQ := Lib.hid hq
      have HIN : Hid (RulesAt w1 q l) := show RowOf _ _ _ _ _ from by
        have h := hq.take l.length
        rwa [List.take_left] at h
      have HB := Lib.hid hb
      have HC := Lib.hid hc1
      clear hm hm2 hm3 hq hb ho
      go_wp2_with fail
      refine (checkRules_any l n _ _ _ HN.out (by omega) HIN.out HOK.out).mono ?_
      rintro e w2 ⟨rfl, hb2⟩
      have HB2 := Lib.hid (HB.out.trans (hb2.mono HB.out.size))
      have HI2 := Lib.hid (HIN.out.below hb2)
      have HQ2 := Lib.hid (HQ.out.below hb2)
      clear hb2
      go_wp2_with fail
      refine (refCheckRules_any l n _ _ _ HN.out (by omega) (HL.out.below HB2.out) HOK.out).mono ?_
      rintro e w3 ⟨rfl, hb3⟩
      have HB3 := Lib.hid (HB2.out.trans (hb3.mono HB2.out.size))
      have HI3 := Lib.hid (HI2.out.below hb3)
      have HQ3 := Lib.hid (HQ2.out.below hb3)
      clear hb3
      go_wp2_with fail
      refine (allowed_any l n _ _ r s _ HN.out (by omega) HI3.out HOK.out HR.out).mono ?_
      rintro e w4 ⟨rfl, hb4⟩
      have HB4 := Lib.hid (HB3.out.trans (hb4.mono HB3.out.size))
      have HQ4 := Lib.hid (HQ3.out.below hb4)
      clear hb4
      go_wp2_with fail
      refine (refAllowed_any l n _ _ r s _ HN.out (by omega) (HL.out.below HB4.out) HOK.out HS.out).mono ?_
      rintro e w5 ⟨rfl, hb5⟩
      have HB5 := Lib.hid (HB4.out.trans (hb5.mono HB4.out.size))
      have HQ5 := Lib.hid (HQ4.out.below hb5)
      clear hb5
      go_wp2_with fail
      refine (keptRules_any l n m _ _ c cap _ HN.out HM.out.1 HM.out.2 (by omega) HC.out HQ5.out (HL.out.below HB5.out)).mono ?_
      rintro e w6 ⟨rfl, hb6⟩
      have HB6 := Lib.hid (HB5.out.trans (hb6.mono HB5.out.size))
      clear hb6
      go_wp2_with fail
      refine (HKN.out _).mono ?_
      rintro e w9 ⟨rfl, hb⟩
      have HB9 := Lib.hid (HB6.out.trans (hb.mono HB6.out.size))
      clear hb
      go_wp2_with fail
      go_ret
      exact ⟨rfl, HB9.out⟩
end Go.Proofs.Ytkfkdomjjepmdaa

/-
  RightRules, for any rules, any rights and any stream: the law returns true, and what came in reads afterwards as it read before. Without any condition.
-/
namespace Go.Proofs.Ytkfkdomjjepmdaa
open Go.ChangeShapes Go.WideShapes Go.ChangeAt Go.RowKit Go.Proofs.ShaWords

set_option maxRecDepth 100000 in
theorem rightRules_lifted (os : Os) (started : os.Started) (H : Type) (enc : TypeId × Value → H) :
    ReturnsInHanded {} Try.checked os 4 .any (Rows.rightRulesSpec.pre6 enc Try.prog Try.f4 Rows.rightRulesRow.domain false)
      (Rows.rightRulesSpec.post enc Try.prog Try.f4 false true false false) := by
  refine returnsInHanded_of_change_sized (C := Try.checked) own started (by kernel_rfl) Try.func4
    (ChangeSpec.witness6 (enc := enc) (C := Try.checked) false ⟨#[], #[.slice none 0 0, .int .i64 0, .string ⟨#[]⟩], []⟩ 8 (by kernel_rfl) (by kernel_rfl) (by kernel_rfl) (by kernel_rfl)) ?_
  intro W base args ds gs before hval0 hW _ hsz _
  have hW' := hW
  obtain ⟨p, q, hA0, hV, rfl, hfz, hnd⟩ := hW
  have hA : DataW.TrodAll enc Try.prog W 0 (fun _ => true) true Try.f4.params.toList args.toList ds p := hA0
  have hval : ∀ (j : Nat) t v, Try.f4.params[j]? = some t → args[j]? = some v → Value.okWide Try.prog W .any base t v := hval0
  have hsz2 : (DataW.weightsEach Try.prog (Try.f4.params.toList ++ Rows.rightRulesSpec.plain.varTypes Try.prog) (ds ++ gs)).all (· ≤ reachBytes) = true := hsz
  rw [Try.params4] at hA hval hsz2
  obtain ⟨v0, vs0, d0, ds0, p0, q0, hargs, rfl, rfl, h0, r0⟩ := trodAll_cons hA
  obtain ⟨v1, vs1, d1, ds1, p1, q1, rfl, rfl, rfl, h1, r1⟩ := trodAll_cons r0
  obtain ⟨v2, vs2, d2, ds2, p2, q2, rfl, rfl, rfl, h2, r2⟩ := trodAll_cons r1
  obtain ⟨rfl, rfl, rfl⟩ := trodAll_nil r2
  obtain rfl : args = #[v0, v1, v2] := by cases args; simp_all
  obtain ⟨rfl, rfl⟩ := trodVars_none hV
  obtain ⟨a0, len0, cap0, rfl⟩ := okWide_slice Try.underlying32 (hval 0 32 v0 rfl rfl)
  have k0 := h0
  have lt0 : ∀ x ∈ p0, x.block < W.heap.size := by obtain ⟨m, hm⟩ := k0; exact DataW.trod_lt m _ _ _ hm
  obtain ⟨f0, hf0⟩ := h0
  obtain ⟨ps0, hx0a, hx0b, hx0c, hx0d, hx0e⟩ := open_rules hf0 (fun n hn => by have := List.all_eq_true.1 hsz2 n (DataW.weights_mem_each (j := 0) rfl rfl n hn); simpa using this)
  obtain ⟨z1, rfl, rfl, rfl, wz1⟩ := open_int Try.underlying3 (hval 1 3 v1 rfl rfl) h1
  obtain ⟨sv2, rfl⟩ := okWide_string Try.underlying9 (hval 2 9 v2 rfl rfl)
  have k2 := h2
  have lt2 : ∀ x ∈ p2, x.block < W.heap.size := by obtain ⟨m, hm⟩ := k2; exact DataW.trod_lt m _ _ _ hm
  obtain ⟨f2, hf2⟩ := h2
  obtain ⟨s2, hx2a, hx2b⟩ := open_strF hf2 (fun n hn => by have := List.all_eq_true.1 hsz2 n (DataW.weights_mem_each (j := 2) rfl rfl n hn); simpa using this)
  obtain rfl : s2 = sv2 := by simpa [Value.cells] using hx2a.symm
  clear hA0 hval0
  refine (rightRules_any ps0 len0 cap0 a0 z1 s2 W hx0a hx0d hx0e (wrap_wfK wz1) hx2b).mono fun e W' ⟨he, bel⟩ => ?_
  subst he
  exact ⟨_, rfl, _, _, _, [], _, [], hW', trodAll_mk1 (shut_bool Try.underlying4 _), (trodAll_cons_mk (Below.trod laidOut (by kernel_rfl) (of_decide_eq_true (by kernel_rfl)) k0 bel lt0) (trodAll_cons_mk (shut_int Try.underlying3 wz1) (trodAll_cons_mk (Below.trod laidOut (by kernel_rfl) (of_decide_eq_true (by kernel_rfl)) k2 bel lt2) trodAll_mk0))), rfl, bel.frame _, fun h => by cases h⟩

theorem rightRules_holds : Rows.RightRulesSaid :=
  OpenClaim.holds_of_wide 4 Try.f4 rfl rfl rfl rfl rfl rfl rfl ⟨rfl, rfl, rfl, rfl, rfl⟩ rfl rfl rfl rfl rfl (by kernel_rfl) Try.func4 (by kernel_rfl)
    (of_decide_eq_true (by kernel_rfl)) (by unfold Func.isWrapper; first | (rw [if_pos (by decide +kernel)]; kernel_rfl) | (rw [if_neg (by decide +kernel)]; exact ⟨rfl, rfl⟩))
    (fun os started H enc _ => rightRules_lifted os started H enc)

#print axioms rightRules_holds
end Go.Proofs.Ytkfkdomjjepmdaa
