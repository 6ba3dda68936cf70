/-
  The walk of the law ShaAsked: at any two slices of at most 2^13 bytes it returns true, and nothing that was there changes; longer ones come to works.
-/
import Derived.Test.YtgjpfpfbiobkfaaDoorWorks
namespace Go.Proofs.YtgjpfpfbiobkfaaDoor
open Go.RowKit Go.Proofs.ShaWords

theorem sumOf_length (h : HS) : (sumOf h).length = 32 := digestOf_length _
theorem shaOf_length (bs : List (BitVec 8)) : (shaOf bs).length = 32 := sumOf_length _

set_option maxRecDepth 100000 in
set_option maxHeartbeats 1000000 in
theorem asked_main (xs bs : List (BitVec 8)) (pa pb : Option Addr) (ca cb : Nat) (w : World) (hla : xs.length ≤ 8192) (hlb : bs.length ≤ 8192) (hLa : Lies w pa xs) (hLb : Lies w pb bs)
    (hca : xs.length ≤ ca) (hcam : ca ≤ 140737488351232) (hcb : bs.length ≤ cb) (hcbm : cb ≤ 140737488351232) (hk : Consts w) (hs : Starts w) :
    Calls Tryd.prog 6 #[.slice pa xs.length ca, .slice pb bs.length cb] w fun e w' => e = .returned (.bool true) ∧ Below w.heap.size w w' := by
  have hs1 := hk.size
  have HK := Lib.hid hk; clear hk
  have HS := Lib.hid hs; clear hs
  have HLA := Lib.hid hLa; clear hLa
  have HLB := Lib.hid hLb; clear hLb
  go_enter Tryd.func6, Tryd.ntmps6
  go_wp2_with fail
  refine (new_any w HS.out).mono ?_
  rintro e w1 ⟨rfl, ha1, hb1⟩
  have sz1 := ha1.size
  have HA1 := Lib.hid ha1; clear ha1
  have HB1 := Lib.hid hb1; clear hb1
  go_wp2_with fail
  refine (write_any w.heap.size newHS xs pa ca w1 HA1.out (HLA.out.reads HB1.out _ (Nat.le_refl _)) hca hcam (by show 0 + xs.length < _; omega) (HK.out.below HB1.out hs1) (by omega)).mono ?_
  rintro e w2 ⟨rfl, ha2, hg2⟩
  have sz2 := ha2.size
  have HA2 := Lib.hid ha2
  have HB2 := Lib.hid (HB1.out.grown hg2 (by omega) (fun k hk => by have := Option.some.inj hk; omega))
  clear ha2 hg2 HA1 HB1
  have hn1 : (writeOf newHS xs).n = xs.length := by rw [writeOf_n]; show 0 + xs.length = _; omega
  go_wp2_with fail
  refine (sum_any w.heap.size (writeOf newHS xs) w2 HA2.out (HK.out.below HB2.out hs1) (by rw [hn1]; omega)).mono ?_
  rw [show sumOf (writeOf newHS xs) = shaOf xs from rfl]
  rintro e w3 ⟨rfl, hb3⟩
  have HA3 := Lib.hid (HA2.out.keep hb3)
  have HB3 := Lib.hid (HB2.out.trans (hb3.mono (by omega)))
  have sz3 := HA3.out.size
  clear hb3 HA2 HB2
  have hdl := shaOf_length xs
  have HI := Lib.hid ((show (Tryd.prog.info? 26).map (·.size) = some 32 by kernel_rfl).trans (congrArg some (bytesV_size _ 32 hdl).symm))
  have HOLD := Lib.hid (show (bytesV (List.replicate 32 0#8)).toArray.size = (bytesV (shaOf xs)).toArray.size by rw [bytesV_size _ 32 hdl]; rfl)
  have HONE := Lib.hid (bytesV_one (shaOf xs))
  have HN1 := Lib.hid hn1
  clear hdl hn1
  go_wp2_with (refine wpList_store_new rfl 26 (.tmp 6) (.tmp 22) rfl w3.heap.size rfl (bytesV (shaOf xs)).toArray rfl rfl HI.out (by rw [← noughts32]; exact HOLD.out) HONE.out ?_; intro w4 h4 b4; have HT4 := Lib.hid (range_bytesV h4); have HA4 := Lib.hid (HA3.out.keep b4); have HB4 := Lib.hid (HB3.out.trans (b4.mono (by omega))); have sz4 := (Array.getElem?_eq_some_iff.1 h4).1; clear h4 b4)
  clear HI HOLD HONE HA3 HB3
  refine (write_any w.heap.size (writeOf newHS xs) bs pb cb w4 HA4.out (HLB.out.reads HB4.out _ (Nat.le_refl _)) hcb hcbm (by rw [HN1.out]; omega) (HK.out.below HB4.out hs1) (by omega)).mono ?_
  rintro e w5 ⟨rfl, ha5, hg5⟩
  generalize w3.heap.size = T at HT4 sz3 sz4 ⊢
  have HA5 := Lib.hid ha5
  have HB5 := Lib.hid (HB4.out.grown hg5 (by omega) (fun k hk => by have := Option.some.inj hk; omega))
  have HT5 := Lib.hid (Reads.grown HT4.out hg5 (by omega))
  have sz5 := Nat.lt_of_lt_of_le sz4 hg5.size
  clear ha5 hg5 HA4 HB4 HT4
  go_wp2_with fail
  refine (new_any w5 (HS.out.below HB5.out (by omega))).mono ?_
  rintro e w6 ⟨rfl, ha6, hb6⟩
  have HA6 := Lib.hid ha6
  have HA6a := Lib.hid (HA5.out.keep hb6)
  have HB6 := Lib.hid (HB5.out.trans (hb6.mono (by omega)))
  have HT6 := Lib.hid (range_keep HT5.out hb6)
  have sz6 := ha6.size
  clear ha6 hb6 HA5 HB5 HT5
  generalize w5.heap.size = B2 at HA6 sz5 sz6 ⊢
  go_wp2_with fail
  refine (write_any B2 newHS xs pa ca w6 HA6.out (HLA.out.reads HB6.out _ (by omega)) hca hcam (by show 0 + xs.length < _; omega) (HK.out.below HB6.out hs1) (by omega)).mono ?_
  rintro e w7 ⟨rfl, ha7, hg7⟩
  have HA7 := Lib.hid ha7
  have HB7 := Lib.hid (HB6.out.grown hg7 (by omega) (fun k hk => by have := Option.some.inj hk; omega))
  have HA7a := Lib.hid (show HashAt w7 w.heap.size _ from ⟨(hg7.block _ HA6a.out.size (fun e => by have := Option.some.inj e; omega)).trans HA6a.out.1, HA6a.out.2⟩)
  have HT7 := Lib.hid (Reads.grown HT6.out hg7 (by omega))
  have sz7 := ha7.size
  clear ha7 hg7 HA6 HB6 HT6 HA6a
  go_wp2_with fail
  refine (write_any B2 (writeOf newHS xs) bs pb cb w7 HA7.out (HLB.out.reads HB7.out _ (by omega)) hcb hcbm (by rw [HN1.out]; omega) (HK.out.below HB7.out hs1) (by omega)).mono ?_
  rintro e w8 ⟨rfl, ha8, hg8⟩
  have HA8b := Lib.hid ha8
  have HB8 := Lib.hid (HB7.out.grown hg8 (by omega) (fun k hk => by have := Option.some.inj hk; omega))
  have HA8 := Lib.hid (show HashAt w8 w.heap.size _ from ⟨(hg8.block _ HA7a.out.size (fun e => by have := Option.some.inj e; omega)).trans HA7a.out.1, HA7a.out.2⟩)
  have HT := Lib.hid (Reads.grown HT7.out hg8 (by omega))
  have sz8 := ha8.size
  have hn2 : (writeOf (writeOf newHS xs) bs).n < 549755813888 := by rw [writeOf_n, HN1.out]; omega
  have hz8 : w.heap.size ≤ w8.drew.heap.size := by show w.heap.size ≤ w8.heap.size; omega
  clear ha8 hg8 HA7 HB7 HT7 HA7a
  generalize writeOf (writeOf newHS xs) bs = H2 at HA8 HA8b hn2
  go_wp2_with fail
  refine region_sched [(0, true), (1, true), (2, false), (3, true), (4, true), (5, true), (7, true), (6, false), (8, false), (9, true), (10, true), (11, true), (12, false), (13, true), (14, true)] (by kernel_rfl) (by kernel_rfl) (by kernel_rfl) (by kernel_rfl) (fun ops hops A hA => ?_)
  have hsz : A.tmps.size = 47 := by rw [hA]; rfl
  have base0 : A.eval (.tmp 0) = .slice pa xs.length ca := by rw [hA]; rfl
  have base5 : A.eval (.tmp 5) = .pointer (some ⟨w.heap.size, 0, none⟩) := by rw [hA]; rfl
  have base6 : A.eval (.tmp 6) = .pointer (some ⟨T, 0, none⟩) := by rw [hA]; rfl
  have base7 : A.eval (.tmp 7) = .pointer (some ⟨B2, 0, none⟩) := by rw [hA]; rfl
  have HAA := Lib.hid hA; clear hA
  obtain ⟨o0, po0, q0, d0, g0⟩ : ∃ o, ops[0]? = some o ∧ o.op = .load 26 (.tmp 6) ∧ o.dst = some 33 ∧ o.guard = none := ⟨_, by rw [hops]; rfl, rfl, rfl, rfl⟩
  obtain ⟨o1, po1, q1, d1, g1⟩ : ∃ o, ops[1]? = some o ∧ o.op = .move (.tmp 0) ∧ o.dst = some 34 ∧ o.guard = none := ⟨_, by rw [hops]; rfl, rfl, rfl, rfl⟩
  obtain ⟨o2, po2, q2, d2, g2⟩ : ∃ o, ops[2]? = some o ∧ o.op = .call { callee := .value (.func 10), args := #[.tmp 34], argTypes := #[22] } ∧ o.dst = some 35 ∧ o.guard = none := ⟨_, by rw [hops]; rfl, rfl, rfl, rfl⟩
  obtain ⟨o3, po3, q3, d3, g3⟩ : ∃ o, ops[3]? = some o ∧ o.op = .binOp .eql 26 (.tmp 33) (.tmp 35) 26 ∧ o.dst = some 36 ∧ o.guard = none := ⟨_, by rw [hops]; rfl, rfl, rfl, rfl⟩
  obtain ⟨o4, po4, q4, d4, g4⟩ : ∃ o, ops[4]? = some o ∧ o.op = .move (.tmp 36) ∧ o.dst = some 37 ∧ o.guard = none := ⟨_, by rw [hops]; rfl, rfl, rfl, rfl⟩
  obtain ⟨o5, po5, q5, d5, g5⟩ : ∃ o, ops[5]? = some o ∧ o.op = .move (.tmp 5) ∧ o.dst = some 38 ∧ o.guard = some (4, true) := ⟨_, by rw [hops]; rfl, rfl, rfl, rfl⟩
  obtain ⟨o6, po6, q6, d6, g6⟩ : ∃ o, ops[6]? = some o ∧ o.op = .call { callee := .value (.func 16), args := #[.tmp 38], argTypes := #[31] } ∧ o.dst = some 39 ∧ o.guard = some (4, true) := ⟨_, by rw [hops]; rfl, rfl, rfl, rfl⟩
  obtain ⟨o7, po7, q7, d7, g7⟩ : ∃ o, ops[7]? = some o ∧ o.op = .move (.tmp 7) ∧ o.dst = some 40 ∧ o.guard = some (4, true) := ⟨_, by rw [hops]; rfl, rfl, rfl, rfl⟩
  obtain ⟨o8, po8, q8, d8, g8⟩ : ∃ o, ops[8]? = some o ∧ o.op = .call { callee := .value (.func 16), args := #[.tmp 40], argTypes := #[31] } ∧ o.dst = some 41 ∧ o.guard = some (4, true) := ⟨_, by rw [hops]; rfl, rfl, rfl, rfl⟩
  obtain ⟨o9, po9, q9, d9, g9⟩ : ∃ o, ops[9]? = some o ∧ o.op = .binOp .eql 26 (.tmp 39) (.tmp 41) 26 ∧ o.dst = some 42 ∧ o.guard = some (4, true) := ⟨_, by rw [hops]; rfl, rfl, rfl, rfl⟩
  obtain ⟨o10, po10, q10, d10, g10⟩ : ∃ o, ops[10]? = some o ∧ o.op = .pick (.tmp 37) (.tmp 42) (.const (.bool false)) ∧ o.dst = some 43 ∧ o.guard = none := ⟨_, by rw [hops]; rfl, rfl, rfl, rfl⟩
  obtain ⟨o11, po11, q11, d11, g11⟩ : ∃ o, ops[11]? = some o ∧ o.op = .move (.tmp 43) ∧ o.dst = some 44 ∧ o.guard = none := ⟨_, by rw [hops]; rfl, rfl, rfl, rfl⟩
  obtain ⟨o12, po12, q12, d12, g12⟩ : ∃ o, ops[12]? = some o ∧ o.op = .call { callee := .value (.func 8), args := #[], argTypes := #[] } ∧ o.dst = some 45 ∧ o.guard = some (11, true) := ⟨_, by rw [hops]; rfl, rfl, rfl, rfl⟩
  obtain ⟨o13, po13, q13, d13, g13⟩ : ∃ o, ops[13]? = some o ∧ o.op = .pick (.tmp 44) (.tmp 45) (.const (.bool false)) ∧ o.dst = some 46 ∧ o.guard = none := ⟨_, by rw [hops]; rfl, rfl, rfl, rfl⟩
  obtain ⟨o14, po14, q14, d14, g14⟩ : ∃ o, ops[14]? = some o ∧ o.op = .assign (.tmp 46) ∧ o.dst = some 4 ∧ o.guard = none := ⟨_, by rw [hops]; rfl, rfl, rfl, rfl⟩
  clear hops
  refine step_pure po0 d0 (wanted_of g0) (fun w' hw' => run_load_sum q0 base6 (shaOf_length xs) (range_keep (w := w8.drew) HT.out hw')) ?_
  refine step_pure po1 d1 (wanted_of g1) (fun w' _ => run_move q1 ((eval_other _ 33 0 _ (by decide)).trans base0) w') ?_
  refine step_call po2 d2 (wanted_of g2) (run_call10 q2 rfl (eval_same _ _ _ (by simp only [put_size, hsz]; decide)) _) (shaSum_any xs pa ca w8.drew (HLA.out.below (HB8.out.drew)) hca hcam (by omega) (HK.out.below HB8.out.drew hs1) (HS.out.below HB8.out.drew (by omega))) (fun w' hR => hR) ?_
  intro w9 hb9
  refine step_pure po3 d3 (wanted_of g3) (fun w' _ => run_eql_sum q3 (shaOf_length xs) ((eval_other _ 35 33 _ (by decide)).trans ((eval_other _ 34 33 _ (by decide)).trans (eval_same _ _ _ (by rw [hsz]; decide)))) (eval_same _ _ _ (by simp only [put_size, hsz]; decide)) w') ?_
  refine step_pure po4 d4 (wanted_of g4) (fun w' _ => run_move q4 (eval_same _ _ _ (by simp only [put_size, hsz]; decide)) w') ?_
  refine step_pure po5 d5 (wanted_guard g5 po4 d4 (eval_same _ _ _ (by simp only [put_size, hsz]; decide))) (fun w' _ => run_move q5 ((eval_other _ 37 5 _ (by decide)).trans ((eval_other _ 36 5 _ (by decide)).trans ((eval_other _ 35 5 _ (by decide)).trans ((eval_other _ 34 5 _ (by decide)).trans ((eval_other _ 33 5 _ (by decide)).trans base5))))) w') ?_
  refine step_pure po7 d7 (wanted_guard g7 po4 d4 ((eval_other _ 38 37 _ (by decide)).trans (eval_same _ _ _ (by simp only [put_size, hsz]; decide)))) (fun w' _ => run_move q7 ((eval_other _ 38 7 _ (by decide)).trans ((eval_other _ 37 7 _ (by decide)).trans ((eval_other _ 36 7 _ (by decide)).trans ((eval_other _ 35 7 _ (by decide)).trans ((eval_other _ 34 7 _ (by decide)).trans ((eval_other _ 33 7 _ (by decide)).trans base7)))))) w') ?_
  refine step_call po6 d6 (wanted_guard g6 po4 d4 ((eval_other _ 40 37 _ (by decide)).trans ((eval_other _ 38 37 _ (by decide)).trans (eval_same _ _ _ (by simp only [put_size, hsz]; decide))))) (run_call16 q6 rfl ((eval_other _ 40 38 _ (by decide)).trans (eval_same _ _ _ (by simp only [put_size, hsz]; decide))) _) (sum_any w.heap.size H2 w9 (HashAt.keep (w := w8.drew) HA8.out hb9) (HK.out.below (HB8.out.drew.trans (hb9.mono hz8)) hs1) hn2) (fun w' hR => hb9.trans (hR.mono hb9.size)) ?_
  intro w10 hb10
  replace hb10 := hb9.trans (hb10.mono hb9.size)
  refine step_call po8 d8 (wanted_guard g8 po4 d4 ((eval_other _ 39 37 _ (by decide)).trans ((eval_other _ 40 37 _ (by decide)).trans ((eval_other _ 38 37 _ (by decide)).trans (eval_same _ _ _ (by simp only [put_size, hsz]; decide)))))) (run_call16 q8 rfl ((eval_other _ 39 40 _ (by decide)).trans (eval_same _ _ _ (by simp only [put_size, hsz]; decide))) _) (sum_any B2 H2 w10 (HashAt.keep (w := w8.drew) HA8b.out hb10) (HK.out.below (HB8.out.drew.trans (hb10.mono hz8)) hs1) hn2) (fun w' hR => hb10.trans (hR.mono hb10.size)) ?_
  intro w11 hb11
  replace hb11 := hb10.trans (hb11.mono hb10.size)
  refine step_pure po9 d9 (wanted_guard g9 po4 d4 ((eval_other _ 41 37 _ (by decide)).trans ((eval_other _ 39 37 _ (by decide)).trans ((eval_other _ 40 37 _ (by decide)).trans ((eval_other _ 38 37 _ (by decide)).trans (eval_same _ _ _ (by simp only [put_size, hsz]; decide))))))) (fun w' _ => run_eql_sum q9 (sumOf_length H2) ((eval_other _ 41 39 _ (by decide)).trans (eval_same _ _ _ (by simp only [put_size, hsz]; decide))) (eval_same _ _ _ (by simp only [put_size, hsz]; decide)) w') ?_
  refine step_pure po10 d10 (wanted_of g10) (fun w' _ => run_pick_true q10 ((eval_other _ 42 37 _ (by decide)).trans ((eval_other _ 41 37 _ (by decide)).trans ((eval_other _ 39 37 _ (by decide)).trans ((eval_other _ 40 37 _ (by decide)).trans ((eval_other _ 38 37 _ (by decide)).trans (eval_same _ _ _ (by simp only [put_size, hsz]; decide))))))) (eval_same _ _ _ (by simp only [put_size, hsz]; decide)) w') ?_
  refine step_pure po11 d11 (wanted_of g11) (fun w' _ => run_move q11 (eval_same _ _ _ (by simp only [put_size, hsz]; decide)) w') ?_
  refine step_call po12 d12 (wanted_guard g12 po11 d11 (eval_same _ _ _ (by simp only [put_size, hsz]; decide))) (run_call8 q12 rfl _) (works_any w11 (HK.out.below (HB8.out.drew.trans (hb11.mono hz8)) hs1) (HS.out.below (HB8.out.drew.trans (hb11.mono hz8)) (by omega))) (fun w' hR => hb11.trans (hR.mono hb11.size)) ?_
  intro w12 hb12
  replace hb12 := hb11.trans (hb12.mono hb11.size)
  refine step_pure po13 d13 (wanted_of g13) (fun w' _ => run_pick_true q13 ((eval_other _ 45 44 _ (by decide)).trans (eval_same _ _ _ (by simp only [put_size, hsz]; decide))) (eval_same _ _ _ (by simp only [put_size, hsz]; decide)) w') ?_
  refine step_pure po14 d14 (wanted_of g14) (fun w' _ => run_assign q14 (eval_same _ _ _ (by simp only [put_size, hsz]; decide)) w') ?_
  have HFIN := Lib.hid (HB8.out.drew.trans (hb12.mono hz8))
  show NoPanic _ .normal _ _
  refine NoPanic.normal ?_
  rw [HAA.out]
  go_frame
  go_wp2_with fail
  go_ret
  exact ⟨rfl, HFIN.out⟩

set_option maxRecDepth 100000 in
set_option maxHeartbeats 400000 in
theorem asked_long (la lb : Nat) (pa pb : Option Addr) (ca cb : Nat) (w : World) (h : 8192 < la ∨ 8192 < lb) (hla : la ≤ 140737488351232) (hlb : lb ≤ 140737488351232) (hk : Consts w) (hs : Starts w) :
    Calls Tryd.prog 6 #[.slice pa la ca, .slice pb lb cb] w fun e w' => e = .returned (.bool true) ∧ Below w.heap.size w w' := by
  have HK := Lib.hid hk; clear hk
  have HS := Lib.hid hs; clear hs
  by_cases h1 : 8192 < la
  · clear h
    go_enter Tryd.func6, Tryd.ntmps6
    go_wp2_with fail
    refine (works_any w HK.out HS.out).mono ?_
    rintro e w' ⟨rfl, hb⟩
    have HB := Lib.hid hb; clear hb
    go_wp2_with fail
    go_ret
    exact ⟨rfl, HB.out⟩
  · have h2 : 8192 < lb := by omega
    clear h
    go_enter Tryd.func6, Tryd.ntmps6
    go_wp2_with fail
    refine (works_any w HK.out HS.out).mono ?_
    rintro e w' ⟨rfl, hb⟩
    have HB := Lib.hid hb; clear hb
    go_wp2_with fail
    go_ret
    exact ⟨rfl, HB.out⟩
end Go.Proofs.YtgjpfpfbiobkfaaDoor
