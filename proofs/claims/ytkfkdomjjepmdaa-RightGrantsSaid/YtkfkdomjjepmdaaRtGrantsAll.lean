/-
  RightGrants, for any two grants, any rights and any stream: the law returns true, and what came in reads afterwards as it read before. Without any condition.
-/
import Derived.Test.YtkfkdomjjepmdaaPkA
import Derived.Test.YtkfkdomjjepmdaaPkN
/-
  RightLess' walk (gen_rtless.py).
-/
namespace Go.Proofs.Ytkfkdomjjepmdaa
open Go.RowKit
set_option maxRecDepth 100000 in
set_option maxHeartbeats 4000000 in
theorem rightLess_any (a b : GrantM) (r : Int) (s : ByteArray) (c : Int) (w : World) (hb : b.Ok) (hr : wrap64 r = r) :
    Calls Try.prog 5 #[.agg a.cells.toArray, .agg b.cells.toArray, .int .i64 r, .string s, .int .i64 c] w fun e w' => e = .returned (.bool true) ∧ Below w.heap.size w w' := by
  have HNW : Hid (∀ w, Calls Try.prog 19 #[.agg a.cells.toArray, .agg b.cells.toArray] w (ReturnsG (narrowM a b) w)) := show ∀ _, _ from fun w => narrow_any a b w hb.rw
  have HCA : Hid (∀ w, Calls Try.prog 15 #[.agg a.cells.toArray, .int .i64 r, .string s] w (ReturnsG (coversM a r s) w)) := show ∀ _, _ from fun w => covers_any a r s w hr
  have HCB : Hid (∀ w, Calls Try.prog 15 #[.agg b.cells.toArray, .int .i64 r, .string s] w (ReturnsG (coversM b r s) w)) := show ∀ _, _ from fun w => covers_any b r s w hr
  have HWA : Hid (∀ w, Calls Try.prog 17 #[.agg a.cells.toArray] w (ReturnsG (wholeM a) w)) := show ∀ _, _ from fun w => whole_any a w
  have HWB : Hid (∀ w, Calls Try.prog 17 #[.agg b.cells.toArray] w (ReturnsG (wholeM b) w)) := show ∀ _, _ from fun w => whole_any b w
  have HLA : Hid (∀ w, Calls Try.prog 27 #[.agg a.cells.toArray, .int .i64 c] w (ReturnsG (lastsM a c) w)) := show ∀ _, _ from fun w => lasts_any a c w
  have HLB : Hid (∀ w, Calls Try.prog 27 #[.agg b.cells.toArray, .int .i64 c] w (ReturnsG (lastsM b c) w)) := show ∀ _, _ from fun w => lasts_any b c w
  have HKN := Lib.hid works13_any
  have HPC := Lib.hid (fun h => narrow_covers (a := a) (b := b) h r s)
  have HPW := Lib.hid (narrow_whole (a := a) (b := b))
  have HPL := Lib.hid (fun h => narrow_lasts (a := a) (b := b) h c)
  clear hb hr
  generalize hca : a.cells.toArray = ca
  generalize hcb : b.cells.toArray = cb
  have HCAE := Lib.hid hca
  have HCBE := Lib.hid hcb
  clear hca hcb
  obtain ⟨M, hM⟩ : ∃ M, M = max (max a.pre.size b.pre.size) s.size := ⟨_, rfl⟩
  have HM := Lib.hid hM
  clear hM
  go_enter Try.func5, Try.ntmps5
  go_upto_region 1 with (fail)
  refine wp_gen (fun wr => Gr2 w.heap.size (w.heap.size + 1) a b w wr) (Gr2.boxes w HCAE.out HCBE.out) (fun w1 hg => ?_)
  have c1 := hg.one.c1
  have c2 := hg.two.c1
  have HG1 := Lib.hid hg
  clear hg
  by_cases hbig : M > 4096
  · have q : (M : Int) > 4096 := by omega
    go_wp2_with (first | (show wpList _ _ _ (⟨_, .call { callee := .builtin .max, args := _, argTypes := _ }, _, _, _, _⟩ :: _) _ _; refine wpList_run (by rfl) (run_max3 rfl rfl rfl rfl HM.out _) ?_))
    refine (HKN.out _).mono ?_
    rintro e w9 ⟨rfl, hb⟩
    have HB9 := Lib.hid (HG1.out.below.trans (hb.mono HG1.out.below.size))
    clear hb
    go_wp2_with fail
    go_ret
    exact ⟨rfl, HB9.out⟩
  have q : ¬ (M : Int) > 4096 := by omega
  clear hbig
  cases hn : narrowM a b
  · have HN := Lib.hid hn
    clear hn
    go_wp2_with (first | (show wpList _ _ _ (⟨_, .call { callee := .builtin .max, args := _, argTypes := _ }, _, _, _, _⟩ :: _) _ _; refine wpList_run (by rfl) (run_max3 rfl rfl rfl rfl HM.out _) ?_) | (show wpList _ _ _ (⟨_, .load 23 (.tmp 5), _, _, _, _⟩ :: _) _ _; refine wpList_run (by rfl) (run_loadBlk rfl rfl HG1.out.one (by kernel_rfl) (size_grant _)) ?_) | (show wpList _ _ _ (⟨_, .load 23 (.tmp 6), _, _, _, _⟩ :: _) _ _; refine wpList_run (by rfl) (run_loadBlk rfl rfl HG1.out.two (by kernel_rfl) (size_grant _)) ?_))
    refine (HNW.out _).mono ?_
    rw [HN.out]
    rintro e w2 ⟨rfl, hb⟩
    have HG2 := Lib.hid (HG1.out.step hb)
    clear hb
    go_wp2_with fail
    refine (HKN.out _).mono ?_
    rintro e w9 ⟨rfl, hb⟩
    have HB9 := Lib.hid (HG2.out.below.trans (hb.mono HG2.out.below.size))
    clear hb
    go_wp2_with fail
    go_ret
    exact ⟨rfl, HB9.out⟩
  have HN := Lib.hid hn
  clear hn
  have hpc := HPC.out HN.out
  have hpw := HPW.out HN.out
  have hpl := HPL.out HN.out
  cases hcb : coversM b r s <;> cases hwb : wholeM b <;> cases hlb : lastsM b c
  · have HVC := Lib.hid hcb
    have HVW := Lib.hid hwb
    have HVL := Lib.hid hlb
    clear hpc hpw hpl hcb hwb hlb
    go_wp2_with (first | (show wpList _ _ _ (⟨_, .call { callee := .builtin .max, args := _, argTypes := _ }, _, _, _, _⟩ :: _) _ _; refine wpList_run (by rfl) (run_max3 rfl rfl rfl rfl HM.out _) ?_) | (show wpList _ _ _ (⟨_, .load 23 (.tmp 5), _, _, _, _⟩ :: _) _ _; refine wpList_run (by rfl) (run_loadBlk rfl rfl HG1.out.one (by kernel_rfl) (size_grant _)) ?_) | (show wpList _ _ _ (⟨_, .load 23 (.tmp 6), _, _, _, _⟩ :: _) _ _; refine wpList_run (by rfl) (run_loadBlk rfl rfl HG1.out.two (by kernel_rfl) (size_grant _)) ?_))
    refine (HNW.out _).mono ?_
    rw [HN.out]
    rintro e w2 ⟨rfl, hb⟩
    have HG2 := Lib.hid (HG1.out.step hb)
    clear hb
    go_wp2_with (first | (show wpList _ _ _ (⟨_, .load 23 (.tmp 6), _, _, _, _⟩ :: _) _ _; refine wpList_run (by rfl) (run_loadBlk rfl rfl HG2.out.two (by kernel_rfl) (size_grant _)) ?_))
    refine (HCB.out _).mono ?_
    rw [HVC.out]
    rintro e w3 ⟨rfl, hb⟩
    have HG3 := Lib.hid (HG2.out.step hb)
    clear hb
    go_wp2_with (first | (show wpList _ _ _ (⟨_, .load 23 (.tmp 6), _, _, _, _⟩ :: _) _ _; refine wpList_run (by rfl) (run_loadBlk rfl rfl HG3.out.two (by kernel_rfl) (size_grant _)) ?_))
    refine (HWB.out _).mono ?_
    rw [HVW.out]
    rintro e w4 ⟨rfl, hb⟩
    have HG4 := Lib.hid (HG3.out.step hb)
    clear hb
    go_wp2_with (first | (show wpList _ _ _ (⟨_, .load 23 (.tmp 6), _, _, _, _⟩ :: _) _ _; refine wpList_run (by rfl) (run_loadBlk rfl rfl HG4.out.two (by kernel_rfl) (size_grant _)) ?_))
    refine (HLB.out _).mono ?_
    rw [HVL.out]
    rintro e w5 ⟨rfl, hb⟩
    have HG5 := Lib.hid (HG4.out.step hb)
    clear hb
    go_wp2_with fail
    refine (HKN.out _).mono ?_
    rintro e w9 ⟨rfl, hb⟩
    have HB9 := Lib.hid (HG5.out.below.trans (hb.mono HG5.out.below.size))
    clear hb
    go_wp2_with fail
    go_ret
    exact ⟨rfl, HB9.out⟩
  · have HVC := Lib.hid hcb
    have HVW := Lib.hid hwb
    have HVL := Lib.hid hlb
    have HUL := Lib.hid (hpl hlb)
    clear hpc hpw hpl hcb hwb hlb
    go_wp2_with (first | (show wpList _ _ _ (⟨_, .call { callee := .builtin .max, args := _, argTypes := _ }, _, _, _, _⟩ :: _) _ _; refine wpList_run (by rfl) (run_max3 rfl rfl rfl rfl HM.out _) ?_) | (show wpList _ _ _ (⟨_, .load 23 (.tmp 5), _, _, _, _⟩ :: _) _ _; refine wpList_run (by rfl) (run_loadBlk rfl rfl HG1.out.one (by kernel_rfl) (size_grant _)) ?_) | (show wpList _ _ _ (⟨_, .load 23 (.tmp 6), _, _, _, _⟩ :: _) _ _; refine wpList_run (by rfl) (run_loadBlk rfl rfl HG1.out.two (by kernel_rfl) (size_grant _)) ?_))
    refine (HNW.out _).mono ?_
    rw [HN.out]
    rintro e w2 ⟨rfl, hb⟩
    have HG2 := Lib.hid (HG1.out.step hb)
    clear hb
    go_wp2_with (first | (show wpList _ _ _ (⟨_, .load 23 (.tmp 6), _, _, _, _⟩ :: _) _ _; refine wpList_run (by rfl) (run_loadBlk rfl rfl HG2.out.two (by kernel_rfl) (size_grant _)) ?_))
    refine (HCB.out _).mono ?_
    rw [HVC.out]
    rintro e w3 ⟨rfl, hb⟩
    have HG3 := Lib.hid (HG2.out.step hb)
    clear hb
    go_wp2_with (first | (show wpList _ _ _ (⟨_, .load 23 (.tmp 6), _, _, _, _⟩ :: _) _ _; refine wpList_run (by rfl) (run_loadBlk rfl rfl HG3.out.two (by kernel_rfl) (size_grant _)) ?_))
    refine (HWB.out _).mono ?_
    rw [HVW.out]
    rintro e w4 ⟨rfl, hb⟩
    have HG4 := Lib.hid (HG3.out.step hb)
    clear hb
    go_wp2_with (first | (show wpList _ _ _ (⟨_, .load 23 (.tmp 6), _, _, _, _⟩ :: _) _ _; refine wpList_run (by rfl) (run_loadBlk rfl rfl HG4.out.two (by kernel_rfl) (size_grant _)) ?_))
    refine (HLB.out _).mono ?_
    rw [HVL.out]
    rintro e w5 ⟨rfl, hb⟩
    have HG5 := Lib.hid (HG4.out.step hb)
    clear hb
    go_wp2_with (first | (show wpList _ _ _ (⟨_, .load 23 (.tmp 5), _, _, _, _⟩ :: _) _ _; refine wpList_run (by rfl) (run_loadBlk rfl rfl HG5.out.one (by kernel_rfl) (size_grant _)) ?_))
    refine (HLA.out _).mono ?_
    rw [HUL.out]
    rintro e w6 ⟨rfl, hb⟩
    have HG6 := Lib.hid (HG5.out.step hb)
    clear hb
    go_wp2_with fail
    refine (HKN.out _).mono ?_
    rintro e w9 ⟨rfl, hb⟩
    have HB9 := Lib.hid (HG6.out.below.trans (hb.mono HG6.out.below.size))
    clear hb
    go_wp2_with fail
    go_ret
    exact ⟨rfl, HB9.out⟩
  · have HVC := Lib.hid hcb
    have HVW := Lib.hid hwb
    have HVL := Lib.hid hlb
    have HUW := Lib.hid (hpw hwb)
    clear hpc hpw hpl hcb hwb hlb
    go_wp2_with (first | (show wpList _ _ _ (⟨_, .call { callee := .builtin .max, args := _, argTypes := _ }, _, _, _, _⟩ :: _) _ _; refine wpList_run (by rfl) (run_max3 rfl rfl rfl rfl HM.out _) ?_) | (show wpList _ _ _ (⟨_, .load 23 (.tmp 5), _, _, _, _⟩ :: _) _ _; refine wpList_run (by rfl) (run_loadBlk rfl rfl HG1.out.one (by kernel_rfl) (size_grant _)) ?_) | (show wpList _ _ _ (⟨_, .load 23 (.tmp 6), _, _, _, _⟩ :: _) _ _; refine wpList_run (by rfl) (run_loadBlk rfl rfl HG1.out.two (by kernel_rfl) (size_grant _)) ?_))
    refine (HNW.out _).mono ?_
    rw [HN.out]
    rintro e w2 ⟨rfl, hb⟩
    have HG2 := Lib.hid (HG1.out.step hb)
    clear hb
    go_wp2_with (first | (show wpList _ _ _ (⟨_, .load 23 (.tmp 6), _, _, _, _⟩ :: _) _ _; refine wpList_run (by rfl) (run_loadBlk rfl rfl HG2.out.two (by kernel_rfl) (size_grant _)) ?_))
    refine (HCB.out _).mono ?_
    rw [HVC.out]
    rintro e w3 ⟨rfl, hb⟩
    have HG3 := Lib.hid (HG2.out.step hb)
    clear hb
    go_wp2_with (first | (show wpList _ _ _ (⟨_, .load 23 (.tmp 6), _, _, _, _⟩ :: _) _ _; refine wpList_run (by rfl) (run_loadBlk rfl rfl HG3.out.two (by kernel_rfl) (size_grant _)) ?_))
    refine (HWB.out _).mono ?_
    rw [HVW.out]
    rintro e w4 ⟨rfl, hb⟩
    have HG4 := Lib.hid (HG3.out.step hb)
    clear hb
    go_wp2_with (first | (show wpList _ _ _ (⟨_, .load 23 (.tmp 5), _, _, _, _⟩ :: _) _ _; refine wpList_run (by rfl) (run_loadBlk rfl rfl HG4.out.one (by kernel_rfl) (size_grant _)) ?_))
    refine (HWA.out _).mono ?_
    rw [HUW.out]
    rintro e w5 ⟨rfl, hb⟩
    have HG5 := Lib.hid (HG4.out.step hb)
    clear hb
    go_wp2_with (first | (show wpList _ _ _ (⟨_, .load 23 (.tmp 6), _, _, _, _⟩ :: _) _ _; refine wpList_run (by rfl) (run_loadBlk rfl rfl HG5.out.two (by kernel_rfl) (size_grant _)) ?_))
    refine (HLB.out _).mono ?_
    rw [HVL.out]
    rintro e w6 ⟨rfl, hb⟩
    have HG6 := Lib.hid (HG5.out.step hb)
    clear hb
    go_wp2_with fail
    refine (HKN.out _).mono ?_
    rintro e w9 ⟨rfl, hb⟩
    have HB9 := Lib.hid (HG6.out.below.trans (hb.mono HG6.out.below.size))
    clear hb
    go_wp2_with fail
    go_ret
    exact ⟨rfl, HB9.out⟩
  · have HVC := Lib.hid hcb
    have HVW := Lib.hid hwb
    have HVL := Lib.hid hlb
    have HUW := Lib.hid (hpw hwb)
    have HUL := Lib.hid (hpl hlb)
    clear hpc hpw hpl hcb hwb hlb
    go_wp2_with (first | (show wpList _ _ _ (⟨_, .call { callee := .builtin .max, args := _, argTypes := _ }, _, _, _, _⟩ :: _) _ _; refine wpList_run (by rfl) (run_max3 rfl rfl rfl rfl HM.out _) ?_) | (show wpList _ _ _ (⟨_, .load 23 (.tmp 5), _, _, _, _⟩ :: _) _ _; refine wpList_run (by rfl) (run_loadBlk rfl rfl HG1.out.one (by kernel_rfl) (size_grant _)) ?_) | (show wpList _ _ _ (⟨_, .load 23 (.tmp 6), _, _, _, _⟩ :: _) _ _; refine wpList_run (by rfl) (run_loadBlk rfl rfl HG1.out.two (by kernel_rfl) (size_grant _)) ?_))
    refine (HNW.out _).mono ?_
    rw [HN.out]
    rintro e w2 ⟨rfl, hb⟩
    have HG2 := Lib.hid (HG1.out.step hb)
    clear hb
    go_wp2_with (first | (show wpList _ _ _ (⟨_, .load 23 (.tmp 6), _, _, _, _⟩ :: _) _ _; refine wpList_run (by rfl) (run_loadBlk rfl rfl HG2.out.two (by kernel_rfl) (size_grant _)) ?_))
    refine (HCB.out _).mono ?_
    rw [HVC.out]
    rintro e w3 ⟨rfl, hb⟩
    have HG3 := Lib.hid (HG2.out.step hb)
    clear hb
    go_wp2_with (first | (show wpList _ _ _ (⟨_, .load 23 (.tmp 6), _, _, _, _⟩ :: _) _ _; refine wpList_run (by rfl) (run_loadBlk rfl rfl HG3.out.two (by kernel_rfl) (size_grant _)) ?_))
    refine (HWB.out _).mono ?_
    rw [HVW.out]
    rintro e w4 ⟨rfl, hb⟩
    have HG4 := Lib.hid (HG3.out.step hb)
    clear hb
    go_wp2_with (first | (show wpList _ _ _ (⟨_, .load 23 (.tmp 5), _, _, _, _⟩ :: _) _ _; refine wpList_run (by rfl) (run_loadBlk rfl rfl HG4.out.one (by kernel_rfl) (size_grant _)) ?_))
    refine (HWA.out _).mono ?_
    rw [HUW.out]
    rintro e w5 ⟨rfl, hb⟩
    have HG5 := Lib.hid (HG4.out.step hb)
    clear hb
    go_wp2_with (first | (show wpList _ _ _ (⟨_, .load 23 (.tmp 6), _, _, _, _⟩ :: _) _ _; refine wpList_run (by rfl) (run_loadBlk rfl rfl HG5.out.two (by kernel_rfl) (size_grant _)) ?_))
    refine (HLB.out _).mono ?_
    rw [HVL.out]
    rintro e w6 ⟨rfl, hb⟩
    have HG6 := Lib.hid (HG5.out.step hb)
    clear hb
    go_wp2_with (first | (show wpList _ _ _ (⟨_, .load 23 (.tmp 5), _, _, _, _⟩ :: _) _ _; refine wpList_run (by rfl) (run_loadBlk rfl rfl HG6.out.one (by kernel_rfl) (size_grant _)) ?_))
    refine (HLA.out _).mono ?_
    rw [HUL.out]
    rintro e w7 ⟨rfl, hb⟩
    have HG7 := Lib.hid (HG6.out.step hb)
    clear hb
    go_wp2_with fail
    refine (HKN.out _).mono ?_
    rintro e w9 ⟨rfl, hb⟩
    have HB9 := Lib.hid (HG7.out.below.trans (hb.mono HG7.out.below.size))
    clear hb
    go_wp2_with fail
    go_ret
    exact ⟨rfl, HB9.out⟩
  · have HVC := Lib.hid hcb
    have HVW := Lib.hid hwb
    have HVL := Lib.hid hlb
    have HUC := Lib.hid (hpc hcb)
    clear hpc hpw hpl hcb hwb hlb
    go_wp2_with (first | (show wpList _ _ _ (⟨_, .call { callee := .builtin .max, args := _, argTypes := _ }, _, _, _, _⟩ :: _) _ _; refine wpList_run (by rfl) (run_max3 rfl rfl rfl rfl HM.out _) ?_) | (show wpList _ _ _ (⟨_, .load 23 (.tmp 5), _, _, _, _⟩ :: _) _ _; refine wpList_run (by rfl) (run_loadBlk rfl rfl HG1.out.one (by kernel_rfl) (size_grant _)) ?_) | (show wpList _ _ _ (⟨_, .load 23 (.tmp 6), _, _, _, _⟩ :: _) _ _; refine wpList_run (by rfl) (run_loadBlk rfl rfl HG1.out.two (by kernel_rfl) (size_grant _)) ?_))
    refine (HNW.out _).mono ?_
    rw [HN.out]
    rintro e w2 ⟨rfl, hb⟩
    have HG2 := Lib.hid (HG1.out.step hb)
    clear hb
    go_wp2_with (first | (show wpList _ _ _ (⟨_, .load 23 (.tmp 6), _, _, _, _⟩ :: _) _ _; refine wpList_run (by rfl) (run_loadBlk rfl rfl HG2.out.two (by kernel_rfl) (size_grant _)) ?_))
    refine (HCB.out _).mono ?_
    rw [HVC.out]
    rintro e w3 ⟨rfl, hb⟩
    have HG3 := Lib.hid (HG2.out.step hb)
    clear hb
    go_wp2_with (first | (show wpList _ _ _ (⟨_, .load 23 (.tmp 5), _, _, _, _⟩ :: _) _ _; refine wpList_run (by rfl) (run_loadBlk rfl rfl HG3.out.one (by kernel_rfl) (size_grant _)) ?_))
    refine (HCA.out _).mono ?_
    rw [HUC.out]
    rintro e w4 ⟨rfl, hb⟩
    have HG4 := Lib.hid (HG3.out.step hb)
    clear hb
    go_wp2_with (first | (show wpList _ _ _ (⟨_, .load 23 (.tmp 6), _, _, _, _⟩ :: _) _ _; refine wpList_run (by rfl) (run_loadBlk rfl rfl HG4.out.two (by kernel_rfl) (size_grant _)) ?_))
    refine (HWB.out _).mono ?_
    rw [HVW.out]
    rintro e w5 ⟨rfl, hb⟩
    have HG5 := Lib.hid (HG4.out.step hb)
    clear hb
    go_wp2_with (first | (show wpList _ _ _ (⟨_, .load 23 (.tmp 6), _, _, _, _⟩ :: _) _ _; refine wpList_run (by rfl) (run_loadBlk rfl rfl HG5.out.two (by kernel_rfl) (size_grant _)) ?_))
    refine (HLB.out _).mono ?_
    rw [HVL.out]
    rintro e w6 ⟨rfl, hb⟩
    have HG6 := Lib.hid (HG5.out.step hb)
    clear hb
    go_wp2_with fail
    refine (HKN.out _).mono ?_
    rintro e w9 ⟨rfl, hb⟩
    have HB9 := Lib.hid (HG6.out.below.trans (hb.mono HG6.out.below.size))
    clear hb
    go_wp2_with fail
    go_ret
    exact ⟨rfl, HB9.out⟩
  · have HVC := Lib.hid hcb
    have HVW := Lib.hid hwb
    have HVL := Lib.hid hlb
    have HUC := Lib.hid (hpc hcb)
    have HUL := Lib.hid (hpl hlb)
    clear hpc hpw hpl hcb hwb hlb
    go_wp2_with (first | (show wpList _ _ _ (⟨_, .call { callee := .builtin .max, args := _, argTypes := _ }, _, _, _, _⟩ :: _) _ _; refine wpList_run (by rfl) (run_max3 rfl rfl rfl rfl HM.out _) ?_) | (show wpList _ _ _ (⟨_, .load 23 (.tmp 5), _, _, _, _⟩ :: _) _ _; refine wpList_run (by rfl) (run_loadBlk rfl rfl HG1.out.one (by kernel_rfl) (size_grant _)) ?_) | (show wpList _ _ _ (⟨_, .load 23 (.tmp 6), _, _, _, _⟩ :: _) _ _; refine wpList_run (by rfl) (run_loadBlk rfl rfl HG1.out.two (by kernel_rfl) (size_grant _)) ?_))
    refine (HNW.out _).mono ?_
    rw [HN.out]
    rintro e w2 ⟨rfl, hb⟩
    have HG2 := Lib.hid (HG1.out.step hb)
    clear hb
    go_wp2_with (first | (show wpList _ _ _ (⟨_, .load 23 (.tmp 6), _, _, _, _⟩ :: _) _ _; refine wpList_run (by rfl) (run_loadBlk rfl rfl HG2.out.two (by kernel_rfl) (size_grant _)) ?_))
    refine (HCB.out _).mono ?_
    rw [HVC.out]
    rintro e w3 ⟨rfl, hb⟩
    have HG3 := Lib.hid (HG2.out.step hb)
    clear hb
    go_wp2_with (first | (show wpList _ _ _ (⟨_, .load 23 (.tmp 5), _, _, _, _⟩ :: _) _ _; refine wpList_run (by rfl) (run_loadBlk rfl rfl HG3.out.one (by kernel_rfl) (size_grant _)) ?_))
    refine (HCA.out _).mono ?_
    rw [HUC.out]
    rintro e w4 ⟨rfl, hb⟩
    have HG4 := Lib.hid (HG3.out.step hb)
    clear hb
    go_wp2_with (first | (show wpList _ _ _ (⟨_, .load 23 (.tmp 6), _, _, _, _⟩ :: _) _ _; refine wpList_run (by rfl) (run_loadBlk rfl rfl HG4.out.two (by kernel_rfl) (size_grant _)) ?_))
    refine (HWB.out _).mono ?_
    rw [HVW.out]
    rintro e w5 ⟨rfl, hb⟩
    have HG5 := Lib.hid (HG4.out.step hb)
    clear hb
    go_wp2_with (first | (show wpList _ _ _ (⟨_, .load 23 (.tmp 6), _, _, _, _⟩ :: _) _ _; refine wpList_run (by rfl) (run_loadBlk rfl rfl HG5.out.two (by kernel_rfl) (size_grant _)) ?_))
    refine (HLB.out _).mono ?_
    rw [HVL.out]
    rintro e w6 ⟨rfl, hb⟩
    have HG6 := Lib.hid (HG5.out.step hb)
    clear hb
    go_wp2_with (first | (show wpList _ _ _ (⟨_, .load 23 (.tmp 5), _, _, _, _⟩ :: _) _ _; refine wpList_run (by rfl) (run_loadBlk rfl rfl HG6.out.one (by kernel_rfl) (size_grant _)) ?_))
    refine (HLA.out _).mono ?_
    rw [HUL.out]
    rintro e w7 ⟨rfl, hb⟩
    have HG7 := Lib.hid (HG6.out.step hb)
    clear hb
    go_wp2_with fail
    refine (HKN.out _).mono ?_
    rintro e w9 ⟨rfl, hb⟩
    have HB9 := Lib.hid (HG7.out.below.trans (hb.mono HG7.out.below.size))
    clear hb
    go_wp2_with fail
    go_ret
    exact ⟨rfl, HB9.out⟩
  · have HVC := Lib.hid hcb
    have HVW := Lib.hid hwb
    have HVL := Lib.hid hlb
    have HUC := Lib.hid (hpc hcb)
    have HUW := Lib.hid (hpw hwb)
    clear hpc hpw hpl hcb hwb hlb
    go_wp2_with (first | (show wpList _ _ _ (⟨_, .call { callee := .builtin .max, args := _, argTypes := _ }, _, _, _, _⟩ :: _) _ _; refine wpList_run (by rfl) (run_max3 rfl rfl rfl rfl HM.out _) ?_) | (show wpList _ _ _ (⟨_, .load 23 (.tmp 5), _, _, _, _⟩ :: _) _ _; refine wpList_run (by rfl) (run_loadBlk rfl rfl HG1.out.one (by kernel_rfl) (size_grant _)) ?_) | (show wpList _ _ _ (⟨_, .load 23 (.tmp 6), _, _, _, _⟩ :: _) _ _; refine wpList_run (by rfl) (run_loadBlk rfl rfl HG1.out.two (by kernel_rfl) (size_grant _)) ?_))
    refine (HNW.out _).mono ?_
    rw [HN.out]
    rintro e w2 ⟨rfl, hb⟩
    have HG2 := Lib.hid (HG1.out.step hb)
    clear hb
    go_wp2_with (first | (show wpList _ _ _ (⟨_, .load 23 (.tmp 6), _, _, _, _⟩ :: _) _ _; refine wpList_run (by rfl) (run_loadBlk rfl rfl HG2.out.two (by kernel_rfl) (size_grant _)) ?_))
    refine (HCB.out _).mono ?_
    rw [HVC.out]
    rintro e w3 ⟨rfl, hb⟩
    have HG3 := Lib.hid (HG2.out.step hb)
    clear hb
    go_wp2_with (first | (show wpList _ _ _ (⟨_, .load 23 (.tmp 5), _, _, _, _⟩ :: _) _ _; refine wpList_run (by rfl) (run_loadBlk rfl rfl HG3.out.one (by kernel_rfl) (size_grant _)) ?_))
    refine (HCA.out _).mono ?_
    rw [HUC.out]
    rintro e w4 ⟨rfl, hb⟩
    have HG4 := Lib.hid (HG3.out.step hb)
    clear hb
    go_wp2_with (first | (show wpList _ _ _ (⟨_, .load 23 (.tmp 6), _, _, _, _⟩ :: _) _ _; refine wpList_run (by rfl) (run_loadBlk rfl rfl HG4.out.two (by kernel_rfl) (size_grant _)) ?_))
    refine (HWB.out _).mono ?_
    rw [HVW.out]
    rintro e w5 ⟨rfl, hb⟩
    have HG5 := Lib.hid (HG4.out.step hb)
    clear hb
    go_wp2_with (first | (show wpList _ _ _ (⟨_, .load 23 (.tmp 5), _, _, _, _⟩ :: _) _ _; refine wpList_run (by rfl) (run_loadBlk rfl rfl HG5.out.one (by kernel_rfl) (size_grant _)) ?_))
    refine (HWA.out _).mono ?_
    rw [HUW.out]
    rintro e w6 ⟨rfl, hb⟩
    have HG6 := Lib.hid (HG5.out.step hb)
    clear hb
    go_wp2_with (first | (show wpList _ _ _ (⟨_, .load 23 (.tmp 6), _, _, _, _⟩ :: _) _ _; refine wpList_run (by rfl) (run_loadBlk rfl rfl HG6.out.two (by kernel_rfl) (size_grant _)) ?_))
    refine (HLB.out _).mono ?_
    rw [HVL.out]
    rintro e w7 ⟨rfl, hb⟩
    have HG7 := Lib.hid (HG6.out.step hb)
    clear hb
    go_wp2_with fail
    refine (HKN.out _).mono ?_
    rintro e w9 ⟨rfl, hb⟩
    have HB9 := Lib.hid (HG7.out.below.trans (hb.mono HG7.out.below.size))
    clear hb
    go_wp2_with fail
    go_ret
    exact ⟨rfl, HB9.out⟩
  · have HVC := Lib.hid hcb
    have HVW := Lib.hid hwb
    have HVL := Lib.hid hlb
    have HUC := Lib.hid (hpc hcb)
    have HUW := Lib.hid (hpw hwb)
    have HUL := Lib.hid (hpl hlb)
    clear hpc hpw hpl hcb hwb hlb
    go_wp2_with (first | (show wpList _ _ _ (⟨_, .call { callee := .builtin .max, args := _, argTypes := _ }, _, _, _, _⟩ :: _) _ _; refine wpList_run (by rfl) (run_max3 rfl rfl rfl rfl HM.out _) ?_) | (show wpList _ _ _ (⟨_, .load 23 (.tmp 5), _, _, _, _⟩ :: _) _ _; refine wpList_run (by rfl) (run_loadBlk rfl rfl HG1.out.one (by kernel_rfl) (size_grant _)) ?_) | (show wpList _ _ _ (⟨_, .load 23 (.tmp 6), _, _, _, _⟩ :: _) _ _; refine wpList_run (by rfl) (run_loadBlk rfl rfl HG1.out.two (by kernel_rfl) (size_grant _)) ?_))
    refine (HNW.out _).mono ?_
    rw [HN.out]
    rintro e w2 ⟨rfl, hb⟩
    have HG2 := Lib.hid (HG1.out.step hb)
    clear hb
    go_wp2_with (first | (show wpList _ _ _ (⟨_, .load 23 (.tmp 6), _, _, _, _⟩ :: _) _ _; refine wpList_run (by rfl) (run_loadBlk rfl rfl HG2.out.two (by kernel_rfl) (size_grant _)) ?_))
    refine (HCB.out _).mono ?_
    rw [HVC.out]
    rintro e w3 ⟨rfl, hb⟩
    have HG3 := Lib.hid (HG2.out.step hb)
    clear hb
    go_wp2_with (first | (show wpList _ _ _ (⟨_, .load 23 (.tmp 5), _, _, _, _⟩ :: _) _ _; refine wpList_run (by rfl) (run_loadBlk rfl rfl HG3.out.one (by kernel_rfl) (size_grant _)) ?_))
    refine (HCA.out _).mono ?_
    rw [HUC.out]
    rintro e w4 ⟨rfl, hb⟩
    have HG4 := Lib.hid (HG3.out.step hb)
    clear hb
    go_wp2_with (first | (show wpList _ _ _ (⟨_, .load 23 (.tmp 6), _, _, _, _⟩ :: _) _ _; refine wpList_run (by rfl) (run_loadBlk rfl rfl HG4.out.two (by kernel_rfl) (size_grant _)) ?_))
    refine (HWB.out _).mono ?_
    rw [HVW.out]
    rintro e w5 ⟨rfl, hb⟩
    have HG5 := Lib.hid (HG4.out.step hb)
    clear hb
    go_wp2_with (first | (show wpList _ _ _ (⟨_, .load 23 (.tmp 5), _, _, _, _⟩ :: _) _ _; refine wpList_run (by rfl) (run_loadBlk rfl rfl HG5.out.one (by kernel_rfl) (size_grant _)) ?_))
    refine (HWA.out _).mono ?_
    rw [HUW.out]
    rintro e w6 ⟨rfl, hb⟩
    have HG6 := Lib.hid (HG5.out.step hb)
    clear hb
    go_wp2_with (first | (show wpList _ _ _ (⟨_, .load 23 (.tmp 6), _, _, _, _⟩ :: _) _ _; refine wpList_run (by rfl) (run_loadBlk rfl rfl HG6.out.two (by kernel_rfl) (size_grant _)) ?_))
    refine (HLB.out _).mono ?_
    rw [HVL.out]
    rintro e w7 ⟨rfl, hb⟩
    have HG7 := Lib.hid (HG6.out.step hb)
    clear hb
    go_wp2_with (first | (show wpList _ _ _ (⟨_, .load 23 (.tmp 5), _, _, _, _⟩ :: _) _ _; refine wpList_run (by rfl) (run_loadBlk rfl rfl HG7.out.one (by kernel_rfl) (size_grant _)) ?_))
    refine (HLA.out _).mono ?_
    rw [HUL.out]
    rintro e w8 ⟨rfl, hb⟩
    have HG8 := Lib.hid (HG7.out.step hb)
    clear hb
    go_wp2_with fail
    refine (HKN.out _).mono ?_
    rintro e w9 ⟨rfl, hb⟩
    have HB9 := Lib.hid (HG8.out.below.trans (hb.mono HG8.out.below.size))
    clear hb
    go_wp2_with fail
    go_ret
    exact ⟨rfl, HB9.out⟩
end Go.Proofs.Ytkfkdomjjepmdaa

/-
  RightGrants' walk (gen_rtgrants.py).
-/
namespace Go.Proofs.Ytkfkdomjjepmdaa
open Go.RowKit
set_option maxRecDepth 100000 in
set_option maxHeartbeats 8000000 in
theorem rightGrants_any (a b : GrantM) (r : Int) (s : ByteArray) (w : World) (ha : a.Ok) (hb : b.Ok) (hr : wrap64 r = r) (hs : s.size ≤ 140737488351232) :
    Calls Try.prog 3 #[.agg a.cells.toArray, .agg b.cells.toArray, .int .i64 r, .string s] w fun e w' => e = .returned (.bool true) ∧ Below w.heap.size w w' := by
  have NM : Hid (∀ w, Calls Try.prog 11 #[.string s] w (ReturnsB (nameS s) w)) := show ∀ _, _ from fun w => rtName_any s w hs
  have RNM : Hid (∀ w, Calls Try.prog 12 #[.string s] w (ReturnsB (nameS s) w)) := show ∀ _, _ from fun w => refName_any s w hs
  have NMP : Hid (∀ w, Calls Try.prog 11 #[.string a.pre] w (ReturnsB (nameS a.pre) w)) := show ∀ _, _ from fun w => rtName_any a.pre w ha.ps
  have RNMP : Hid (∀ w, Calls Try.prog 12 #[.string a.pre] w (ReturnsB (nameS a.pre) w)) := show ∀ _, _ from fun w => refName_any a.pre w ha.ps
  have CHK : Hid (∀ w, Calls Try.prog 13 #[.agg a.cells.toArray] w (ReturnsZ (checkM a) w)) := show ∀ _, _ from fun w => check_any a w ha.ps
  have RCHK : Hid (∀ w, Calls Try.prog 14 #[.agg a.cells.toArray] w (ReturnsZ (checkM a) w)) := show ∀ _, _ from fun w => refCheck_any a w ha.ps
  have COV : Hid (∀ w, Calls Try.prog 15 #[.agg a.cells.toArray, .int .i64 r, .string s] w (ReturnsG (coversM a r s) w)) := show ∀ _, _ from fun w => covers_any a r s w hr
  have RCOV : Hid (∀ w, Calls Try.prog 16 #[.agg a.cells.toArray, .int .i64 r, .string s] w (ReturnsG (coversM a r s) w)) := show ∀ _, _ from fun w => refCovers_any a r s w ha.rw hs
  have WH : Hid (∀ w, Calls Try.prog 17 #[.agg a.cells.toArray] w (ReturnsG (wholeM a) w)) := show ∀ _, _ from fun w => whole_any a w
  have RWH : Hid (∀ w, Calls Try.prog 18 #[.agg a.cells.toArray] w (ReturnsG (wholeM a) w)) := show ∀ _, _ from fun w => refWhole_any a w
  have NAB : Hid (∀ w, Calls Try.prog 19 #[.agg a.cells.toArray, .agg b.cells.toArray] w (ReturnsG (narrowM a b) w)) := show ∀ _, _ from fun w => narrow_any a b w hb.rw
  have RNAB : Hid (∀ w, Calls Try.prog 20 #[.agg a.cells.toArray, .agg b.cells.toArray] w (ReturnsG (narrowM a b) w)) := show ∀ _, _ from fun w => refNarrow_any a b w ha.rw hb.ps
  have NBA : Hid (∀ w, Calls Try.prog 19 #[.agg b.cells.toArray, .agg a.cells.toArray] w (ReturnsG (narrowM b a) w)) := show ∀ _, _ from fun w => narrow_any b a w ha.rw
  have RNBA : Hid (∀ w, Calls Try.prog 20 #[.agg b.cells.toArray, .agg a.cells.toArray] w (ReturnsG (narrowM b a) w)) := show ∀ _, _ from fun w => refNarrow_any b a w hb.rw ha.ps
  have NAA : Hid (∀ w, Calls Try.prog 19 #[.agg a.cells.toArray, .agg a.cells.toArray] w (ReturnsG (narrowM a a) w)) := show ∀ _, _ from fun w => narrow_any a a w ha.rw
  have RNAA : Hid (∀ w, Calls Try.prog 20 #[.agg a.cells.toArray, .agg a.cells.toArray] w (ReturnsG (narrowM a a) w)) := show ∀ _, _ from fun w => refNarrow_any a a w ha.rw ha.ps
  have HKN := Lib.hid works13_any
  clear ha hb hr hs
  generalize hca : a.cells.toArray = ca
  generalize hcb : b.cells.toArray = cb
  have HCAE := Lib.hid hca
  have HCBE := Lib.hid hcb
  clear hca hcb
  obtain ⟨M, hM⟩ : ∃ M, M = max (max a.pre.size b.pre.size) s.size := ⟨_, rfl⟩
  have HM := Lib.hid hM
  clear hM
  go_enter Try.func3, Try.ntmps3
  go_upto_region 1 with (fail)
  refine wp_gen (fun wr => Gr2 w.heap.size (w.heap.size + 1) a b w wr) (Gr2.boxes w HCAE.out HCBE.out) (fun w1 hg => ?_)
  have c1 := hg.one.c1
  have c2 := hg.two.c1
  have HG1 := Lib.hid hg
  clear hg
  by_cases hbig : M > 4096
  · have q : (M : Int) > 4096 := by omega
    go_wp2_with (show wpList _ _ _ (⟨_, .call { callee := .builtin .max, args := _, argTypes := _ }, _, _, _, _⟩ :: _) _ _; refine wpList_run (by rfl) (run_max3 rfl rfl rfl rfl HM.out _) ?_)
    refine (HKN.out _).mono ?_
    rintro e w9 ⟨rfl, hb⟩
    have HB9 := Lib.hid (HG1.out.below.trans (hb.mono HG1.out.below.size))
    clear hb
    go_wp2_with fail
    go_ret
    exact ⟨rfl, HB9.out⟩
  have q : ¬ (M : Int) > 4096 := by omega
  clear hbig
  go_upto_region 3 with (show wpList _ _ _ (⟨_, .call { callee := .builtin .max, args := _, argTypes := _ }, _, _, _, _⟩ :: _) _ _; refine wpList_run (by rfl) (run_max3 rfl rfl rfl rfl HM.out _) ?_)
  clear c1 c2 q
  refine region_phase (fun wr => Gr2 w.heap.size (w.heap.size + 1) a b w wr) (fun _ => True) 99 (HG1.out.step (Below.refl _ _).drew) trivial [(0, .free), (2, .free), (1, .behind), (3, .behind), (4, .free), (5, .free), (6, .free), (7, .free), (9, .free), (10, .free), (8, .behind), (11, .behind), (12, .free), (13, .free), (14, .free), (15, .free), (17, .free), (16, .behind), (18, .behind), (19, .free), (20, .free)] (by kernel_rfl) (by kernel_rfl) (by kernel_rfl) (by kernel_rfl) (fun ops hops A hA => ?_)
  have hsz : A.tmps.size = 85 := by rw [hA]; rfl
  have base2 : A.eval (.tmp 2) = .int .i64 r := by rw [hA]; rfl
  have base3 : A.eval (.tmp 3) = .string s := by rw [hA]; rfl
  have base4 : A.eval (.tmp 4) = .pointer (some ⟨w.heap.size, 0, none⟩) := by rw [hA]; rfl
  have base5 : A.eval (.tmp 5) = .pointer (some ⟨w.heap.size + 1, 0, none⟩) := by rw [hA]; rfl
  have HAA := Lib.hid hA; clear hA
  obtain ⟨o0, po0, q0, d0, gd0⟩ : ∃ o, ops[0]? = some o ∧ o.op = .move (.tmp 3) ∧ o.dst = some 20 ∧ o.guard = none := ⟨_, by rw [hops]; rfl, rfl, rfl, rfl⟩
  obtain ⟨o1, po1, q1, d1, gd1⟩ : ∃ o, ops[1]? = some o ∧ o.op = .call { callee := .value (.func 11), args := #[.tmp 20], argTypes := #[9] } ∧ o.dst = some 21 ∧ o.guard = none := ⟨_, by rw [hops]; rfl, rfl, rfl, rfl⟩
  obtain ⟨o2, po2, q2, d2, gd2⟩ : ∃ o, ops[2]? = some o ∧ o.op = .move (.tmp 3) ∧ o.dst = some 22 ∧ o.guard = none := ⟨_, by rw [hops]; rfl, rfl, rfl, rfl⟩
  obtain ⟨o3, po3, q3, d3, gd3⟩ : ∃ o, ops[3]? = some o ∧ o.op = .call { callee := .value (.func 12), args := #[.tmp 22], argTypes := #[9] } ∧ o.dst = some 23 ∧ o.guard = none := ⟨_, by rw [hops]; rfl, rfl, rfl, rfl⟩
  obtain ⟨o4, po4, q4, d4, gd4⟩ : ∃ o, ops[4]? = some o ∧ o.op = .binOp .neq 4 (.tmp 21) (.tmp 23) 4 ∧ o.dst = some 24 ∧ o.guard = none := ⟨_, by rw [hops]; rfl, rfl, rfl, rfl⟩
  obtain ⟨o5, po5, q5, d5, gd5⟩ : ∃ o, ops[5]? = some o ∧ o.op = .move (.tmp 24) ∧ o.dst = some 25 ∧ o.guard = none := ⟨_, by rw [hops]; rfl, rfl, rfl, rfl⟩
  obtain ⟨o6, po6, q6, d6, gd6⟩ : ∃ o, ops[6]? = some o ∧ o.op = .fieldAddr 23 (.tmp 4) 1 ∧ o.dst = some 26 ∧ o.guard = some (5, false) := ⟨_, by rw [hops]; rfl, rfl, rfl, rfl⟩
  obtain ⟨o7, po7, q7, d7, gd7⟩ : ∃ o, ops[7]? = some o ∧ o.op = .load 9 (.tmp 26) ∧ o.dst = some 27 ∧ o.guard = some (5, false) := ⟨_, by rw [hops]; rfl, rfl, rfl, rfl⟩
  obtain ⟨o8, po8, q8, d8, gd8⟩ : ∃ o, ops[8]? = some o ∧ o.op = .call { callee := .value (.func 11), args := #[.tmp 27], argTypes := #[9] } ∧ o.dst = some 28 ∧ o.guard = some (5, false) := ⟨_, by rw [hops]; rfl, rfl, rfl, rfl⟩
  obtain ⟨o9, po9, q9, d9, gd9⟩ : ∃ o, ops[9]? = some o ∧ o.op = .fieldAddr 23 (.tmp 4) 1 ∧ o.dst = some 29 ∧ o.guard = some (5, false) := ⟨_, by rw [hops]; rfl, rfl, rfl, rfl⟩
  obtain ⟨o10, po10, q10, d10, gd10⟩ : ∃ o, ops[10]? = some o ∧ o.op = .load 9 (.tmp 29) ∧ o.dst = some 30 ∧ o.guard = some (5, false) := ⟨_, by rw [hops]; rfl, rfl, rfl, rfl⟩
  obtain ⟨o11, po11, q11, d11, gd11⟩ : ∃ o, ops[11]? = some o ∧ o.op = .call { callee := .value (.func 12), args := #[.tmp 30], argTypes := #[9] } ∧ o.dst = some 31 ∧ o.guard = some (5, false) := ⟨_, by rw [hops]; rfl, rfl, rfl, rfl⟩
  obtain ⟨o12, po12, q12, d12, gd12⟩ : ∃ o, ops[12]? = some o ∧ o.op = .binOp .neq 4 (.tmp 28) (.tmp 31) 4 ∧ o.dst = some 32 ∧ o.guard = some (5, false) := ⟨_, by rw [hops]; rfl, rfl, rfl, rfl⟩
  obtain ⟨o13, po13, q13, d13, gd13⟩ : ∃ o, ops[13]? = some o ∧ o.op = .pick (.tmp 25) (.const (.bool true)) (.tmp 32) ∧ o.dst = some 33 ∧ o.guard = none := ⟨_, by rw [hops]; rfl, rfl, rfl, rfl⟩
  obtain ⟨o14, po14, q14, d14, gd14⟩ : ∃ o, ops[14]? = some o ∧ o.op = .move (.tmp 33) ∧ o.dst = some 34 ∧ o.guard = none := ⟨_, by rw [hops]; rfl, rfl, rfl, rfl⟩
  obtain ⟨o15, po15, q15, d15, gd15⟩ : ∃ o, ops[15]? = some o ∧ o.op = .load 23 (.tmp 4) ∧ o.dst = some 35 ∧ o.guard = some (14, false) := ⟨_, by rw [hops]; rfl, rfl, rfl, rfl⟩
  obtain ⟨o16, po16, q16, d16, gd16⟩ : ∃ o, ops[16]? = some o ∧ o.op = .call { callee := .value (.func 13), args := #[.tmp 35], argTypes := #[23] } ∧ o.dst = some 36 ∧ o.guard = some (14, false) := ⟨_, by rw [hops]; rfl, rfl, rfl, rfl⟩
  obtain ⟨o17, po17, q17, d17, gd17⟩ : ∃ o, ops[17]? = some o ∧ o.op = .load 23 (.tmp 4) ∧ o.dst = some 37 ∧ o.guard = some (14, false) := ⟨_, by rw [hops]; rfl, rfl, rfl, rfl⟩
  obtain ⟨o18, po18, q18, d18, gd18⟩ : ∃ o, ops[18]? = some o ∧ o.op = .call { callee := .value (.func 14), args := #[.tmp 37], argTypes := #[23] } ∧ o.dst = some 38 ∧ o.guard = some (14, false) := ⟨_, by rw [hops]; rfl, rfl, rfl, rfl⟩
  obtain ⟨o19, po19, q19, d19, gd19⟩ : ∃ o, ops[19]? = some o ∧ o.op = .binOp .neq 26 (.tmp 36) (.tmp 38) 26 ∧ o.dst = some 39 ∧ o.guard = some (14, false) := ⟨_, by rw [hops]; rfl, rfl, rfl, rfl⟩
  obtain ⟨o20, po20, q20, d20, gd20⟩ : ∃ o, ops[20]? = some o ∧ o.op = .pick (.tmp 34) (.const (.bool true)) (.tmp 39) ∧ o.dst = some 40 ∧ o.guard = none := ⟨_, by rw [hops]; rfl, rfl, rfl, rfl⟩
  clear hops
  refine met_free po0 d0 (wanted_of gd0) (fun w' h' => run_move q0 base3 w') ?_
  refine met_free po2 d2 (wanted_of gd2) (fun w' h' => run_move q2 ((eval_other _ 20 3 _ (by decide)).trans base3) w') ?_
  refine m_enter po1 d1 (wanted_of gd1) (run_callf1 q1 rfl ((eval_other _ 22 20 _ (by decide)).trans (eval_same _ _ _ (by rw [hsz]; decide))) Try.func11 (by kernel_rfl) _) (quietG (NM.out _)) ?_
  rintro e w3_1 ⟨rfl, hb⟩
  have HSw3_1 := Lib.hid ((HG1.out.step (Below.refl _ _).drew).step hb)
  clear hb
  refine ⟨_, rfl, HSw3_1.out, ?_⟩
  refine m_enter po3 d3 (wanted_of gd3) (run_callf1 q3 rfl ((eval_other _ 21 22 _ (by decide)).trans (eval_same _ _ _ (by simp only [put_size, hsz]; decide))) Try.func12 (by kernel_rfl) _) (quietG (RNM.out _)) ?_
  rintro e w3_2 ⟨rfl, hb⟩
  have HSw3_2 := Lib.hid ((HSw3_1.out).step hb)
  clear hb
  refine ⟨_, rfl, HSw3_2.out, ?_⟩
  refine met_free po4 d4 (wanted_of gd4) (fun w' h' => r_neB q4 ((eval_other _ 23 21 _ (by decide)).trans (eval_same _ _ _ (by simp only [put_size, hsz]; decide))) (eval_same _ _ _ (by simp only [put_size, hsz]; decide)) w') ?_
  refine met_free po5 d5 (wanted_of gd5) (fun w' h' => run_move q5 (eval_same _ _ _ (by simp only [put_size, hsz]; decide)) w') ?_
  refine met_free po6 d6 (w_false gd6 po5 d5 (eval_same _ _ _ (by simp only [put_size, hsz]; decide))) (fun w' h' => run_fieldT (off := 1) q6 (fun _ => by kernel_rfl) ((eval_other _ 25 4 _ (by decide)).trans ((eval_other _ 24 4 _ (by decide)).trans ((eval_other _ 23 4 _ (by decide)).trans ((eval_other _ 21 4 _ (by decide)).trans ((eval_other _ 22 4 _ (by decide)).trans ((eval_other _ 20 4 _ (by decide)).trans base4)))))) w') ?_
  refine met_free po7 d7 (w_false gd7 po5 d5 ((eval_other _ 26 25 _ (by decide)).trans (eval_same _ _ _ (by simp only [put_size, hsz]; decide)))) (fun w' h' => run_loadStr q7 (eval_same _ _ _ (by simp only [put_size, hsz]; decide)) h'.one.c1) ?_
  refine met_free po9 d9 (w_false gd9 po5 d5 ((eval_other _ 27 25 _ (by decide)).trans ((eval_other _ 26 25 _ (by decide)).trans (eval_same _ _ _ (by simp only [put_size, hsz]; decide))))) (fun w' h' => run_fieldT (off := 1) q9 (fun _ => by kernel_rfl) ((eval_other _ 27 4 _ (by decide)).trans ((eval_other _ 26 4 _ (by decide)).trans ((eval_other _ 25 4 _ (by decide)).trans ((eval_other _ 24 4 _ (by decide)).trans ((eval_other _ 23 4 _ (by decide)).trans ((eval_other _ 21 4 _ (by decide)).trans ((eval_other _ 22 4 _ (by decide)).trans ((eval_other _ 20 4 _ (by decide)).trans base4)))))))) w') ?_
  refine met_free po10 d10 (w_false gd10 po5 d5 ((eval_other _ 29 25 _ (by decide)).trans ((eval_other _ 27 25 _ (by decide)).trans ((eval_other _ 26 25 _ (by decide)).trans (eval_same _ _ _ (by simp only [put_size, hsz]; decide)))))) (fun w' h' => run_loadStr q10 (eval_same _ _ _ (by simp only [put_size, hsz]; decide)) h'.one.c1) ?_
  refine m_enter po8 d8 (w_false gd8 po5 d5 ((eval_other _ 30 25 _ (by decide)).trans ((eval_other _ 29 25 _ (by decide)).trans ((eval_other _ 27 25 _ (by decide)).trans ((eval_other _ 26 25 _ (by decide)).trans (eval_same _ _ _ (by simp only [put_size, hsz]; decide))))))) (run_callf1 q8 rfl ((eval_other _ 30 27 _ (by decide)).trans ((eval_other _ 29 27 _ (by decide)).trans (eval_same _ _ _ (by simp only [put_size, hsz]; decide)))) Try.func11 (by kernel_rfl) _) (quietG (NMP.out _)) ?_
  rintro e w3_3 ⟨rfl, hb⟩
  have HSw3_3 := Lib.hid ((HSw3_2.out).step hb)
  clear hb
  refine ⟨_, rfl, HSw3_3.out, ?_⟩
  refine m_enter po11 d11 (w_false gd11 po5 d5 ((eval_other _ 28 25 _ (by decide)).trans ((eval_other _ 30 25 _ (by decide)).trans ((eval_other _ 29 25 _ (by decide)).trans ((eval_other _ 27 25 _ (by decide)).trans ((eval_other _ 26 25 _ (by decide)).trans (eval_same _ _ _ (by simp only [put_size, hsz]; decide)))))))) (run_callf1 q11 rfl ((eval_other _ 28 30 _ (by decide)).trans (eval_same _ _ _ (by simp only [put_size, hsz]; decide))) Try.func12 (by kernel_rfl) _) (quietG (RNMP.out _)) ?_
  rintro e w3_4 ⟨rfl, hb⟩
  have HSw3_4 := Lib.hid ((HSw3_3.out).step hb)
  clear hb
  refine ⟨_, rfl, HSw3_4.out, ?_⟩
  refine met_free po12 d12 (w_false gd12 po5 d5 ((eval_other _ 31 25 _ (by decide)).trans ((eval_other _ 28 25 _ (by decide)).trans ((eval_other _ 30 25 _ (by decide)).trans ((eval_other _ 29 25 _ (by decide)).trans ((eval_other _ 27 25 _ (by decide)).trans ((eval_other _ 26 25 _ (by decide)).trans (eval_same _ _ _ (by simp only [put_size, hsz]; decide))))))))) (fun w' h' => r_neB q12 ((eval_other _ 31 28 _ (by decide)).trans (eval_same _ _ _ (by simp only [put_size, hsz]; decide))) (eval_same _ _ _ (by simp only [put_size, hsz]; decide)) w') ?_
  refine met_free po13 d13 (wanted_of gd13) (fun w' h' => r_pickF q13 ((eval_other _ 32 25 _ (by decide)).trans ((eval_other _ 31 25 _ (by decide)).trans ((eval_other _ 28 25 _ (by decide)).trans ((eval_other _ 30 25 _ (by decide)).trans ((eval_other _ 29 25 _ (by decide)).trans ((eval_other _ 27 25 _ (by decide)).trans ((eval_other _ 26 25 _ (by decide)).trans (eval_same _ _ _ (by simp only [put_size, hsz]; decide))))))))) (eval_same _ _ _ (by simp only [put_size, hsz]; decide)) w') ?_
  refine met_free po14 d14 (wanted_of gd14) (fun w' h' => run_move q14 (eval_same _ _ _ (by simp only [put_size, hsz]; decide)) w') ?_
  refine met_free po15 d15 (w_false gd15 po14 d14 (eval_same _ _ _ (by simp only [put_size, hsz]; decide))) (fun w' h' => run_loadBlk q15 ((eval_other _ 34 4 _ (by decide)).trans ((eval_other _ 33 4 _ (by decide)).trans ((eval_other _ 32 4 _ (by decide)).trans ((eval_other _ 31 4 _ (by decide)).trans ((eval_other _ 28 4 _ (by decide)).trans ((eval_other _ 30 4 _ (by decide)).trans ((eval_other _ 29 4 _ (by decide)).trans ((eval_other _ 27 4 _ (by decide)).trans ((eval_other _ 26 4 _ (by decide)).trans ((eval_other _ 25 4 _ (by decide)).trans ((eval_other _ 24 4 _ (by decide)).trans ((eval_other _ 23 4 _ (by decide)).trans ((eval_other _ 21 4 _ (by decide)).trans ((eval_other _ 22 4 _ (by decide)).trans ((eval_other _ 20 4 _ (by decide)).trans base4))))))))))))))) h'.one (by kernel_rfl) (size_grant _)) ?_
  refine met_free po17 d17 (w_false gd17 po14 d14 ((eval_other _ 35 34 _ (by decide)).trans (eval_same _ _ _ (by simp only [put_size, hsz]; decide)))) (fun w' h' => run_loadBlk q17 ((eval_other _ 35 4 _ (by decide)).trans ((eval_other _ 34 4 _ (by decide)).trans ((eval_other _ 33 4 _ (by decide)).trans ((eval_other _ 32 4 _ (by decide)).trans ((eval_other _ 31 4 _ (by decide)).trans ((eval_other _ 28 4 _ (by decide)).trans ((eval_other _ 30 4 _ (by decide)).trans ((eval_other _ 29 4 _ (by decide)).trans ((eval_other _ 27 4 _ (by decide)).trans ((eval_other _ 26 4 _ (by decide)).trans ((eval_other _ 25 4 _ (by decide)).trans ((eval_other _ 24 4 _ (by decide)).trans ((eval_other _ 23 4 _ (by decide)).trans ((eval_other _ 21 4 _ (by decide)).trans ((eval_other _ 22 4 _ (by decide)).trans ((eval_other _ 20 4 _ (by decide)).trans base4)))))))))))))))) h'.one (by kernel_rfl) (size_grant _)) ?_
  refine m_enter po16 d16 (w_false gd16 po14 d14 ((eval_other _ 37 34 _ (by decide)).trans ((eval_other _ 35 34 _ (by decide)).trans (eval_same _ _ _ (by simp only [put_size, hsz]; decide))))) (run_callf1 q16 rfl ((eval_other _ 37 35 _ (by decide)).trans (eval_same _ _ _ (by simp only [put_size, hsz]; decide))) Try.func13 (by kernel_rfl) _) (CHK.out _) ?_
  rintro e w3_5 ⟨rfl, hb⟩
  have HSw3_5 := Lib.hid ((HSw3_4.out).step hb)
  clear hb
  refine ⟨_, rfl, HSw3_5.out, ?_⟩
  refine m_enter po18 d18 (w_false gd18 po14 d14 ((eval_other _ 36 34 _ (by decide)).trans ((eval_other _ 37 34 _ (by decide)).trans ((eval_other _ 35 34 _ (by decide)).trans (eval_same _ _ _ (by simp only [put_size, hsz]; decide)))))) (run_callf1 q18 rfl ((eval_other _ 36 37 _ (by decide)).trans (eval_same _ _ _ (by simp only [put_size, hsz]; decide))) Try.func14 (by kernel_rfl) _) (RCHK.out _) ?_
  rintro e w3_6 ⟨rfl, hb⟩
  have HSw3_6 := Lib.hid ((HSw3_5.out).step hb)
  clear hb
  refine ⟨_, rfl, HSw3_6.out, ?_⟩
  refine met_free po19 d19 (w_false gd19 po14 d14 ((eval_other _ 38 34 _ (by decide)).trans ((eval_other _ 36 34 _ (by decide)).trans ((eval_other _ 37 34 _ (by decide)).trans ((eval_other _ 35 34 _ (by decide)).trans (eval_same _ _ _ (by simp only [put_size, hsz]; decide))))))) (fun w' h' => r_neE q19 ((eval_other _ 38 36 _ (by decide)).trans (eval_same _ _ _ (by simp only [put_size, hsz]; decide))) (eval_same _ _ _ (by simp only [put_size, hsz]; decide)) w') ?_
  refine met_free po20 d20 (wanted_of gd20) (fun w' h' => r_pickF q20 ((eval_other _ 39 34 _ (by decide)).trans ((eval_other _ 38 34 _ (by decide)).trans ((eval_other _ 36 34 _ (by decide)).trans ((eval_other _ 37 34 _ (by decide)).trans ((eval_other _ 35 34 _ (by decide)).trans (eval_same _ _ _ (by simp only [put_size, hsz]; decide))))))) (eval_same _ _ _ (by simp only [put_size, hsz]; decide)) w') ?_
  show NoPanic _ .normal _ _
  refine NoPanic.normal ?_
  rw [HAA.out]
  go_frame
  clear HAA
  clear po0 q0 d0 gd0 po1 q1 d1 gd1 po2 q2 d2 gd2 po3 q3 d3 gd3 po4 q4 d4 gd4 po5 q5 d5 gd5 po6 q6 d6 gd6 po7 q7 d7 gd7 po8 q8 d8 gd8 po9 q9 d9 gd9 po10 q10 d10 gd10 po11 q11 d11 gd11 po12 q12 d12 gd12 po13 q13 d13 gd13 po14 q14 d14 gd14 po15 q15 d15 gd15 po16 q16 d16 gd16 po17 q17 d17 gd17 po18 q18 d18 gd18 po19 q19 d19 gd19 po20 q20 d20 gd20
  clear base2 base3 base4 base5 hsz
  go_upto_region 5 with (fail)
  refine region_phase (fun wr => Gr2 w.heap.size (w.heap.size + 1) a b w wr) (fun _ => True) 99 (HSw3_6.out.step (Below.refl _ _).drew) trivial [(0, .free), (1, .free), (2, .free), (4, .free), (5, .free), (6, .free), (3, .behind), (7, .behind), (8, .free), (9, .free), (10, .free), (12, .free), (11, .behind), (13, .behind), (14, .free), (15, .free)] (by kernel_rfl) (by kernel_rfl) (by kernel_rfl) (by kernel_rfl) (fun ops hops A hA => ?_)
  have hsz : A.tmps.size = 85 := by rw [hA]; rfl
  have base2 : A.eval (.tmp 2) = .int .i64 r := by rw [hA]; rfl
  have base3 : A.eval (.tmp 3) = .string s := by rw [hA]; rfl
  have base4 : A.eval (.tmp 4) = .pointer (some ⟨w.heap.size, 0, none⟩) := by rw [hA]; rfl
  have base5 : A.eval (.tmp 5) = .pointer (some ⟨w.heap.size + 1, 0, none⟩) := by rw [hA]; rfl
  have HAA := Lib.hid hA; clear hA
  obtain ⟨o0, po0, q0, d0, gd0⟩ : ∃ o, ops[0]? = some o ∧ o.op = .load 23 (.tmp 4) ∧ o.dst = some 41 ∧ o.guard = none := ⟨_, by rw [hops]; rfl, rfl, rfl, rfl⟩
  obtain ⟨o1, po1, q1, d1, gd1⟩ : ∃ o, ops[1]? = some o ∧ o.op = .move (.tmp 2) ∧ o.dst = some 42 ∧ o.guard = none := ⟨_, by rw [hops]; rfl, rfl, rfl, rfl⟩
  obtain ⟨o2, po2, q2, d2, gd2⟩ : ∃ o, ops[2]? = some o ∧ o.op = .move (.tmp 3) ∧ o.dst = some 43 ∧ o.guard = none := ⟨_, by rw [hops]; rfl, rfl, rfl, rfl⟩
  obtain ⟨o3, po3, q3, d3, gd3⟩ : ∃ o, ops[3]? = some o ∧ o.op = .call { callee := .value (.func 15), args := #[.tmp 41, .tmp 42, .tmp 43], argTypes := #[23, 3, 9] } ∧ o.dst = some 44 ∧ o.guard = none := ⟨_, by rw [hops]; rfl, rfl, rfl, rfl⟩
  obtain ⟨o4, po4, q4, d4, gd4⟩ : ∃ o, ops[4]? = some o ∧ o.op = .load 23 (.tmp 4) ∧ o.dst = some 45 ∧ o.guard = none := ⟨_, by rw [hops]; rfl, rfl, rfl, rfl⟩
  obtain ⟨o5, po5, q5, d5, gd5⟩ : ∃ o, ops[5]? = some o ∧ o.op = .move (.tmp 2) ∧ o.dst = some 46 ∧ o.guard = none := ⟨_, by rw [hops]; rfl, rfl, rfl, rfl⟩
  obtain ⟨o6, po6, q6, d6, gd6⟩ : ∃ o, ops[6]? = some o ∧ o.op = .move (.tmp 3) ∧ o.dst = some 47 ∧ o.guard = none := ⟨_, by rw [hops]; rfl, rfl, rfl, rfl⟩
  obtain ⟨o7, po7, q7, d7, gd7⟩ : ∃ o, ops[7]? = some o ∧ o.op = .call { callee := .value (.func 16), args := #[.tmp 45, .tmp 46, .tmp 47], argTypes := #[23, 3, 9] } ∧ o.dst = some 48 ∧ o.guard = none := ⟨_, by rw [hops]; rfl, rfl, rfl, rfl⟩
  obtain ⟨o8, po8, q8, d8, gd8⟩ : ∃ o, ops[8]? = some o ∧ o.op = .binOp .neq 4 (.tmp 44) (.tmp 48) 4 ∧ o.dst = some 49 ∧ o.guard = none := ⟨_, by rw [hops]; rfl, rfl, rfl, rfl⟩
  obtain ⟨o9, po9, q9, d9, gd9⟩ : ∃ o, ops[9]? = some o ∧ o.op = .move (.tmp 49) ∧ o.dst = some 50 ∧ o.guard = none := ⟨_, by rw [hops]; rfl, rfl, rfl, rfl⟩
  obtain ⟨o10, po10, q10, d10, gd10⟩ : ∃ o, ops[10]? = some o ∧ o.op = .load 23 (.tmp 4) ∧ o.dst = some 51 ∧ o.guard = some (9, false) := ⟨_, by rw [hops]; rfl, rfl, rfl, rfl⟩
  obtain ⟨o11, po11, q11, d11, gd11⟩ : ∃ o, ops[11]? = some o ∧ o.op = .call { callee := .value (.func 17), args := #[.tmp 51], argTypes := #[23] } ∧ o.dst = some 52 ∧ o.guard = some (9, false) := ⟨_, by rw [hops]; rfl, rfl, rfl, rfl⟩
  obtain ⟨o12, po12, q12, d12, gd12⟩ : ∃ o, ops[12]? = some o ∧ o.op = .load 23 (.tmp 4) ∧ o.dst = some 53 ∧ o.guard = some (9, false) := ⟨_, by rw [hops]; rfl, rfl, rfl, rfl⟩
  obtain ⟨o13, po13, q13, d13, gd13⟩ : ∃ o, ops[13]? = some o ∧ o.op = .call { callee := .value (.func 18), args := #[.tmp 53], argTypes := #[23] } ∧ o.dst = some 54 ∧ o.guard = some (9, false) := ⟨_, by rw [hops]; rfl, rfl, rfl, rfl⟩
  obtain ⟨o14, po14, q14, d14, gd14⟩ : ∃ o, ops[14]? = some o ∧ o.op = .binOp .neq 4 (.tmp 52) (.tmp 54) 4 ∧ o.dst = some 55 ∧ o.guard = some (9, false) := ⟨_, by rw [hops]; rfl, rfl, rfl, rfl⟩
  obtain ⟨o15, po15, q15, d15, gd15⟩ : ∃ o, ops[15]? = some o ∧ o.op = .pick (.tmp 50) (.const (.bool true)) (.tmp 55) ∧ o.dst = some 56 ∧ o.guard = none := ⟨_, by rw [hops]; rfl, rfl, rfl, rfl⟩
  clear hops
  refine met_free po0 d0 (wanted_of gd0) (fun w' h' => run_loadBlk q0 base4 h'.one (by kernel_rfl) (size_grant _)) ?_
  refine met_free po1 d1 (wanted_of gd1) (fun w' h' => run_move q1 ((eval_other _ 41 2 _ (by decide)).trans base2) w') ?_
  refine met_free po2 d2 (wanted_of gd2) (fun w' h' => run_move q2 ((eval_other _ 42 3 _ (by decide)).trans ((eval_other _ 41 3 _ (by decide)).trans base3)) w') ?_
  refine met_free po4 d4 (wanted_of gd4) (fun w' h' => run_loadBlk q4 ((eval_other _ 43 4 _ (by decide)).trans ((eval_other _ 42 4 _ (by decide)).trans ((eval_other _ 41 4 _ (by decide)).trans base4))) h'.one (by kernel_rfl) (size_grant _)) ?_
  refine met_free po5 d5 (wanted_of gd5) (fun w' h' => run_move q5 ((eval_other _ 45 2 _ (by decide)).trans ((eval_other _ 43 2 _ (by decide)).trans ((eval_other _ 42 2 _ (by decide)).trans ((eval_other _ 41 2 _ (by decide)).trans base2)))) w') ?_
  refine met_free po6 d6 (wanted_of gd6) (fun w' h' => run_move q6 ((eval_other _ 46 3 _ (by decide)).trans ((eval_other _ 45 3 _ (by decide)).trans ((eval_other _ 43 3 _ (by decide)).trans ((eval_other _ 42 3 _ (by decide)).trans ((eval_other _ 41 3 _ (by decide)).trans base3))))) w') ?_
  refine m_enter po3 d3 (wanted_of gd3) (run_callf3 q3 rfl ((eval_other _ 47 41 _ (by decide)).trans ((eval_other _ 46 41 _ (by decide)).trans ((eval_other _ 45 41 _ (by decide)).trans ((eval_other _ 43 41 _ (by decide)).trans ((eval_other _ 42 41 _ (by decide)).trans (eval_same _ _ _ (by rw [hsz]; decide))))))) ((eval_other _ 47 42 _ (by decide)).trans ((eval_other _ 46 42 _ (by decide)).trans ((eval_other _ 45 42 _ (by decide)).trans ((eval_other _ 43 42 _ (by decide)).trans (eval_same _ _ _ (by simp only [put_size, hsz]; decide)))))) ((eval_other _ 47 43 _ (by decide)).trans ((eval_other _ 46 43 _ (by decide)).trans ((eval_other _ 45 43 _ (by decide)).trans (eval_same _ _ _ (by simp only [put_size, hsz]; decide))))) Try.func15 (by kernel_rfl) _) (COV.out _) ?_
  rintro e w5_1 ⟨rfl, hb⟩
  have HSw5_1 := Lib.hid ((HSw3_6.out.step (Below.refl _ _).drew).step hb)
  clear hb
  refine ⟨_, rfl, HSw5_1.out, ?_⟩
  refine m_enter po7 d7 (wanted_of gd7) (run_callf3 q7 rfl ((eval_other _ 44 45 _ (by decide)).trans ((eval_other _ 47 45 _ (by decide)).trans ((eval_other _ 46 45 _ (by decide)).trans (eval_same _ _ _ (by simp only [put_size, hsz]; decide))))) ((eval_other _ 44 46 _ (by decide)).trans ((eval_other _ 47 46 _ (by decide)).trans (eval_same _ _ _ (by simp only [put_size, hsz]; decide)))) ((eval_other _ 44 47 _ (by decide)).trans (eval_same _ _ _ (by simp only [put_size, hsz]; decide))) Try.func16 (by kernel_rfl) _) (RCOV.out _) ?_
  rintro e w5_2 ⟨rfl, hb⟩
  have HSw5_2 := Lib.hid ((HSw5_1.out).step hb)
  clear hb
  refine ⟨_, rfl, HSw5_2.out, ?_⟩
  refine met_free po8 d8 (wanted_of gd8) (fun w' h' => r_neB q8 ((eval_other _ 48 44 _ (by decide)).trans (eval_same _ _ _ (by simp only [put_size, hsz]; decide))) (eval_same _ _ _ (by simp only [put_size, hsz]; decide)) w') ?_
  refine met_free po9 d9 (wanted_of gd9) (fun w' h' => run_move q9 (eval_same _ _ _ (by simp only [put_size, hsz]; decide)) w') ?_
  refine met_free po10 d10 (w_false gd10 po9 d9 (eval_same _ _ _ (by simp only [put_size, hsz]; decide))) (fun w' h' => run_loadBlk q10 ((eval_other _ 50 4 _ (by decide)).trans ((eval_other _ 49 4 _ (by decide)).trans ((eval_other _ 48 4 _ (by decide)).trans ((eval_other _ 44 4 _ (by decide)).trans ((eval_other _ 47 4 _ (by decide)).trans ((eval_other _ 46 4 _ (by decide)).trans ((eval_other _ 45 4 _ (by decide)).trans ((eval_other _ 43 4 _ (by decide)).trans ((eval_other _ 42 4 _ (by decide)).trans ((eval_other _ 41 4 _ (by decide)).trans base4)))))))))) h'.one (by kernel_rfl) (size_grant _)) ?_
  refine met_free po12 d12 (w_false gd12 po9 d9 ((eval_other _ 51 50 _ (by decide)).trans (eval_same _ _ _ (by simp only [put_size, hsz]; decide)))) (fun w' h' => run_loadBlk q12 ((eval_other _ 51 4 _ (by decide)).trans ((eval_other _ 50 4 _ (by decide)).trans ((eval_other _ 49 4 _ (by decide)).trans ((eval_other _ 48 4 _ (by decide)).trans ((eval_other _ 44 4 _ (by decide)).trans ((eval_other _ 47 4 _ (by decide)).trans ((eval_other _ 46 4 _ (by decide)).trans ((eval_other _ 45 4 _ (by decide)).trans ((eval_other _ 43 4 _ (by decide)).trans ((eval_other _ 42 4 _ (by decide)).trans ((eval_other _ 41 4 _ (by decide)).trans base4))))))))))) h'.one (by kernel_rfl) (size_grant _)) ?_
  refine m_enter po11 d11 (w_false gd11 po9 d9 ((eval_other _ 53 50 _ (by decide)).trans ((eval_other _ 51 50 _ (by decide)).trans (eval_same _ _ _ (by simp only [put_size, hsz]; decide))))) (run_callf1 q11 rfl ((eval_other _ 53 51 _ (by decide)).trans (eval_same _ _ _ (by simp only [put_size, hsz]; decide))) Try.func17 (by kernel_rfl) _) (WH.out _) ?_
  rintro e w5_3 ⟨rfl, hb⟩
  have HSw5_3 := Lib.hid ((HSw5_2.out).step hb)
  clear hb
  refine ⟨_, rfl, HSw5_3.out, ?_⟩
  refine m_enter po13 d13 (w_false gd13 po9 d9 ((eval_other _ 52 50 _ (by decide)).trans ((eval_other _ 53 50 _ (by decide)).trans ((eval_other _ 51 50 _ (by decide)).trans (eval_same _ _ _ (by simp only [put_size, hsz]; decide)))))) (run_callf1 q13 rfl ((eval_other _ 52 53 _ (by decide)).trans (eval_same _ _ _ (by simp only [put_size, hsz]; decide))) Try.func18 (by kernel_rfl) _) (RWH.out _) ?_
  rintro e w5_4 ⟨rfl, hb⟩
  have HSw5_4 := Lib.hid ((HSw5_3.out).step hb)
  clear hb
  refine ⟨_, rfl, HSw5_4.out, ?_⟩
  refine met_free po14 d14 (w_false gd14 po9 d9 ((eval_other _ 54 50 _ (by decide)).trans ((eval_other _ 52 50 _ (by decide)).trans ((eval_other _ 53 50 _ (by decide)).trans ((eval_other _ 51 50 _ (by decide)).trans (eval_same _ _ _ (by simp only [put_size, hsz]; decide))))))) (fun w' h' => r_neB q14 ((eval_other _ 54 52 _ (by decide)).trans (eval_same _ _ _ (by simp only [put_size, hsz]; decide))) (eval_same _ _ _ (by simp only [put_size, hsz]; decide)) w') ?_
  refine met_free po15 d15 (wanted_of gd15) (fun w' h' => r_pickF q15 ((eval_other _ 55 50 _ (by decide)).trans ((eval_other _ 54 50 _ (by decide)).trans ((eval_other _ 52 50 _ (by decide)).trans ((eval_other _ 53 50 _ (by decide)).trans ((eval_other _ 51 50 _ (by decide)).trans (eval_same _ _ _ (by simp only [put_size, hsz]; decide))))))) (eval_same _ _ _ (by simp only [put_size, hsz]; decide)) w') ?_
  show NoPanic _ .normal _ _
  refine NoPanic.normal ?_
  rw [HAA.out]
  go_frame
  clear HAA
  clear po0 q0 d0 gd0 po1 q1 d1 gd1 po2 q2 d2 gd2 po3 q3 d3 gd3 po4 q4 d4 gd4 po5 q5 d5 gd5 po6 q6 d6 gd6 po7 q7 d7 gd7 po8 q8 d8 gd8 po9 q9 d9 gd9 po10 q10 d10 gd10 po11 q11 d11 gd11 po12 q12 d12 gd12 po13 q13 d13 gd13 po14 q14 d14 gd14 po15 q15 d15 gd15
  clear base2 base3 base4 base5 hsz
  go_upto_region 7 with (fail)
  refine region_phase (fun wr => Gr2 w.heap.size (w.heap.size + 1) a b w wr) (fun _ => True) 99 (HSw5_4.out.step (Below.refl _ _).drew) trivial [(0, .free), (1, .free), (3, .free), (4, .free), (2, .behind), (5, .behind), (6, .free), (7, .free), (8, .free), (9, .free), (11, .free), (12, .free), (10, .behind), (13, .behind), (14, .free), (15, .free), (16, .free), (17, .free), (18, .free), (20, .free), (21, .free), (19, .behind), (22, .behind), (23, .free), (24, .free), (25, .free), (26, .behind), (27, .free), (28, .free)] (by kernel_rfl) (by kernel_rfl) (by kernel_rfl) (by kernel_rfl) (fun ops hops A hA => ?_)
  have hsz : A.tmps.size = 85 := by rw [hA]; rfl
  have base2 : A.eval (.tmp 2) = .int .i64 r := by rw [hA]; rfl
  have base3 : A.eval (.tmp 3) = .string s := by rw [hA]; rfl
  have base4 : A.eval (.tmp 4) = .pointer (some ⟨w.heap.size, 0, none⟩) := by rw [hA]; rfl
  have base5 : A.eval (.tmp 5) = .pointer (some ⟨w.heap.size + 1, 0, none⟩) := by rw [hA]; rfl
  have HAA := Lib.hid hA; clear hA
  obtain ⟨o0, po0, q0, d0, gd0⟩ : ∃ o, ops[0]? = some o ∧ o.op = .load 23 (.tmp 4) ∧ o.dst = some 57 ∧ o.guard = none := ⟨_, by rw [hops]; rfl, rfl, rfl, rfl⟩
  obtain ⟨o1, po1, q1, d1, gd1⟩ : ∃ o, ops[1]? = some o ∧ o.op = .load 23 (.tmp 5) ∧ o.dst = some 58 ∧ o.guard = none := ⟨_, by rw [hops]; rfl, rfl, rfl, rfl⟩
  obtain ⟨o2, po2, q2, d2, gd2⟩ : ∃ o, ops[2]? = some o ∧ o.op = .call { callee := .value (.func 19), args := #[.tmp 57, .tmp 58], argTypes := #[23, 23] } ∧ o.dst = some 59 ∧ o.guard = none := ⟨_, by rw [hops]; rfl, rfl, rfl, rfl⟩
  obtain ⟨o3, po3, q3, d3, gd3⟩ : ∃ o, ops[3]? = some o ∧ o.op = .load 23 (.tmp 4) ∧ o.dst = some 60 ∧ o.guard = none := ⟨_, by rw [hops]; rfl, rfl, rfl, rfl⟩
  obtain ⟨o4, po4, q4, d4, gd4⟩ : ∃ o, ops[4]? = some o ∧ o.op = .load 23 (.tmp 5) ∧ o.dst = some 61 ∧ o.guard = none := ⟨_, by rw [hops]; rfl, rfl, rfl, rfl⟩
  obtain ⟨o5, po5, q5, d5, gd5⟩ : ∃ o, ops[5]? = some o ∧ o.op = .call { callee := .value (.func 20), args := #[.tmp 60, .tmp 61], argTypes := #[23, 23] } ∧ o.dst = some 62 ∧ o.guard = none := ⟨_, by rw [hops]; rfl, rfl, rfl, rfl⟩
  obtain ⟨o6, po6, q6, d6, gd6⟩ : ∃ o, ops[6]? = some o ∧ o.op = .binOp .eql 4 (.tmp 59) (.tmp 62) 4 ∧ o.dst = some 63 ∧ o.guard = none := ⟨_, by rw [hops]; rfl, rfl, rfl, rfl⟩
  obtain ⟨o7, po7, q7, d7, gd7⟩ : ∃ o, ops[7]? = some o ∧ o.op = .move (.tmp 63) ∧ o.dst = some 64 ∧ o.guard = none := ⟨_, by rw [hops]; rfl, rfl, rfl, rfl⟩
  obtain ⟨o8, po8, q8, d8, gd8⟩ : ∃ o, ops[8]? = some o ∧ o.op = .load 23 (.tmp 5) ∧ o.dst = some 65 ∧ o.guard = some (7, true) := ⟨_, by rw [hops]; rfl, rfl, rfl, rfl⟩
  obtain ⟨o9, po9, q9, d9, gd9⟩ : ∃ o, ops[9]? = some o ∧ o.op = .load 23 (.tmp 4) ∧ o.dst = some 66 ∧ o.guard = some (7, true) := ⟨_, by rw [hops]; rfl, rfl, rfl, rfl⟩
  obtain ⟨o10, po10, q10, d10, gd10⟩ : ∃ o, ops[10]? = some o ∧ o.op = .call { callee := .value (.func 19), args := #[.tmp 65, .tmp 66], argTypes := #[23, 23] } ∧ o.dst = some 67 ∧ o.guard = some (7, true) := ⟨_, by rw [hops]; rfl, rfl, rfl, rfl⟩
  obtain ⟨o11, po11, q11, d11, gd11⟩ : ∃ o, ops[11]? = some o ∧ o.op = .load 23 (.tmp 5) ∧ o.dst = some 68 ∧ o.guard = some (7, true) := ⟨_, by rw [hops]; rfl, rfl, rfl, rfl⟩
  obtain ⟨o12, po12, q12, d12, gd12⟩ : ∃ o, ops[12]? = some o ∧ o.op = .load 23 (.tmp 4) ∧ o.dst = some 69 ∧ o.guard = some (7, true) := ⟨_, by rw [hops]; rfl, rfl, rfl, rfl⟩
  obtain ⟨o13, po13, q13, d13, gd13⟩ : ∃ o, ops[13]? = some o ∧ o.op = .call { callee := .value (.func 20), args := #[.tmp 68, .tmp 69], argTypes := #[23, 23] } ∧ o.dst = some 70 ∧ o.guard = some (7, true) := ⟨_, by rw [hops]; rfl, rfl, rfl, rfl⟩
  obtain ⟨o14, po14, q14, d14, gd14⟩ : ∃ o, ops[14]? = some o ∧ o.op = .binOp .eql 4 (.tmp 67) (.tmp 70) 4 ∧ o.dst = some 71 ∧ o.guard = some (7, true) := ⟨_, by rw [hops]; rfl, rfl, rfl, rfl⟩
  obtain ⟨o15, po15, q15, d15, gd15⟩ : ∃ o, ops[15]? = some o ∧ o.op = .pick (.tmp 64) (.tmp 71) (.const (.bool false)) ∧ o.dst = some 72 ∧ o.guard = none := ⟨_, by rw [hops]; rfl, rfl, rfl, rfl⟩
  obtain ⟨o16, po16, q16, d16, gd16⟩ : ∃ o, ops[16]? = some o ∧ o.op = .move (.tmp 72) ∧ o.dst = some 73 ∧ o.guard = none := ⟨_, by rw [hops]; rfl, rfl, rfl, rfl⟩
  obtain ⟨o17, po17, q17, d17, gd17⟩ : ∃ o, ops[17]? = some o ∧ o.op = .load 23 (.tmp 4) ∧ o.dst = some 74 ∧ o.guard = some (16, true) := ⟨_, by rw [hops]; rfl, rfl, rfl, rfl⟩
  obtain ⟨o18, po18, q18, d18, gd18⟩ : ∃ o, ops[18]? = some o ∧ o.op = .load 23 (.tmp 4) ∧ o.dst = some 75 ∧ o.guard = some (16, true) := ⟨_, by rw [hops]; rfl, rfl, rfl, rfl⟩
  obtain ⟨o19, po19, q19, d19, gd19⟩ : ∃ o, ops[19]? = some o ∧ o.op = .call { callee := .value (.func 19), args := #[.tmp 74, .tmp 75], argTypes := #[23, 23] } ∧ o.dst = some 76 ∧ o.guard = some (16, true) := ⟨_, by rw [hops]; rfl, rfl, rfl, rfl⟩
  obtain ⟨o20, po20, q20, d20, gd20⟩ : ∃ o, ops[20]? = some o ∧ o.op = .load 23 (.tmp 4) ∧ o.dst = some 77 ∧ o.guard = some (16, true) := ⟨_, by rw [hops]; rfl, rfl, rfl, rfl⟩
  obtain ⟨o21, po21, q21, d21, gd21⟩ : ∃ o, ops[21]? = some o ∧ o.op = .load 23 (.tmp 4) ∧ o.dst = some 78 ∧ o.guard = some (16, true) := ⟨_, by rw [hops]; rfl, rfl, rfl, rfl⟩
  obtain ⟨o22, po22, q22, d22, gd22⟩ : ∃ o, ops[22]? = some o ∧ o.op = .call { callee := .value (.func 20), args := #[.tmp 77, .tmp 78], argTypes := #[23, 23] } ∧ o.dst = some 79 ∧ o.guard = some (16, true) := ⟨_, by rw [hops]; rfl, rfl, rfl, rfl⟩
  obtain ⟨o23, po23, q23, d23, gd23⟩ : ∃ o, ops[23]? = some o ∧ o.op = .binOp .eql 4 (.tmp 76) (.tmp 79) 4 ∧ o.dst = some 80 ∧ o.guard = some (16, true) := ⟨_, by rw [hops]; rfl, rfl, rfl, rfl⟩
  obtain ⟨o24, po24, q24, d24, gd24⟩ : ∃ o, ops[24]? = some o ∧ o.op = .pick (.tmp 73) (.tmp 80) (.const (.bool false)) ∧ o.dst = some 81 ∧ o.guard = none := ⟨_, by rw [hops]; rfl, rfl, rfl, rfl⟩
  obtain ⟨o25, po25, q25, d25, gd25⟩ : ∃ o, ops[25]? = some o ∧ o.op = .move (.tmp 81) ∧ o.dst = some 82 ∧ o.guard = none := ⟨_, by rw [hops]; rfl, rfl, rfl, rfl⟩
  obtain ⟨o26, po26, q26, d26, gd26⟩ : ∃ o, ops[26]? = some o ∧ o.op = .call { callee := .value (.func 10), args := #[], argTypes := #[] } ∧ o.dst = some 83 ∧ o.guard = some (25, true) := ⟨_, by rw [hops]; rfl, rfl, rfl, rfl⟩
  obtain ⟨o27, po27, q27, d27, gd27⟩ : ∃ o, ops[27]? = some o ∧ o.op = .pick (.tmp 82) (.tmp 83) (.const (.bool false)) ∧ o.dst = some 84 ∧ o.guard = none := ⟨_, by rw [hops]; rfl, rfl, rfl, rfl⟩
  obtain ⟨o28, po28, q28, d28, gd28⟩ : ∃ o, ops[28]? = some o ∧ o.op = .assign (.tmp 84) ∧ o.dst = some 8 ∧ o.guard = none := ⟨_, by rw [hops]; rfl, rfl, rfl, rfl⟩
  clear hops
  refine met_free po0 d0 (wanted_of gd0) (fun w' h' => run_loadBlk q0 base4 h'.one (by kernel_rfl) (size_grant _)) ?_
  refine met_free po1 d1 (wanted_of gd1) (fun w' h' => run_loadBlk q1 ((eval_other _ 57 5 _ (by decide)).trans base5) h'.two (by kernel_rfl) (size_grant _)) ?_
  refine met_free po3 d3 (wanted_of gd3) (fun w' h' => run_loadBlk q3 ((eval_other _ 58 4 _ (by decide)).trans ((eval_other _ 57 4 _ (by decide)).trans base4)) h'.one (by kernel_rfl) (size_grant _)) ?_
  refine met_free po4 d4 (wanted_of gd4) (fun w' h' => run_loadBlk q4 ((eval_other _ 60 5 _ (by decide)).trans ((eval_other _ 58 5 _ (by decide)).trans ((eval_other _ 57 5 _ (by decide)).trans base5))) h'.two (by kernel_rfl) (size_grant _)) ?_
  refine m_enter po2 d2 (wanted_of gd2) (run_callf2 q2 rfl ((eval_other _ 61 57 _ (by decide)).trans ((eval_other _ 60 57 _ (by decide)).trans ((eval_other _ 58 57 _ (by decide)).trans (eval_same _ _ _ (by rw [hsz]; decide))))) ((eval_other _ 61 58 _ (by decide)).trans ((eval_other _ 60 58 _ (by decide)).trans (eval_same _ _ _ (by simp only [put_size, hsz]; decide)))) Try.func19 (by kernel_rfl) _) (NAB.out _) ?_
  rintro e w7_1 ⟨rfl, hb⟩
  have HSw7_1 := Lib.hid ((HSw5_4.out.step (Below.refl _ _).drew).step hb)
  clear hb
  refine ⟨_, rfl, HSw7_1.out, ?_⟩
  refine m_enter po5 d5 (wanted_of gd5) (run_callf2 q5 rfl ((eval_other _ 59 60 _ (by decide)).trans ((eval_other _ 61 60 _ (by decide)).trans (eval_same _ _ _ (by simp only [put_size, hsz]; decide)))) ((eval_other _ 59 61 _ (by decide)).trans (eval_same _ _ _ (by simp only [put_size, hsz]; decide))) Try.func20 (by kernel_rfl) _) (RNAB.out _) ?_
  rintro e w7_2 ⟨rfl, hb⟩
  have HSw7_2 := Lib.hid ((HSw7_1.out).step hb)
  clear hb
  refine ⟨_, rfl, HSw7_2.out, ?_⟩
  refine met_free po6 d6 (wanted_of gd6) (fun w' h' => r_eqB q6 ((eval_other _ 62 59 _ (by decide)).trans (eval_same _ _ _ (by simp only [put_size, hsz]; decide))) (eval_same _ _ _ (by simp only [put_size, hsz]; decide)) w') ?_
  refine met_free po7 d7 (wanted_of gd7) (fun w' h' => run_move q7 (eval_same _ _ _ (by simp only [put_size, hsz]; decide)) w') ?_
  refine met_free po8 d8 (wanted_guard gd8 po7 d7 (eval_same _ _ _ (by simp only [put_size, hsz]; decide))) (fun w' h' => run_loadBlk q8 ((eval_other _ 64 5 _ (by decide)).trans ((eval_other _ 63 5 _ (by decide)).trans ((eval_other _ 62 5 _ (by decide)).trans ((eval_other _ 59 5 _ (by decide)).trans ((eval_other _ 61 5 _ (by decide)).trans ((eval_other _ 60 5 _ (by decide)).trans ((eval_other _ 58 5 _ (by decide)).trans ((eval_other _ 57 5 _ (by decide)).trans base5)))))))) h'.two (by kernel_rfl) (size_grant _)) ?_
  refine met_free po9 d9 (wanted_guard gd9 po7 d7 ((eval_other _ 65 64 _ (by decide)).trans (eval_same _ _ _ (by simp only [put_size, hsz]; decide)))) (fun w' h' => run_loadBlk q9 ((eval_other _ 65 4 _ (by decide)).trans ((eval_other _ 64 4 _ (by decide)).trans ((eval_other _ 63 4 _ (by decide)).trans ((eval_other _ 62 4 _ (by decide)).trans ((eval_other _ 59 4 _ (by decide)).trans ((eval_other _ 61 4 _ (by decide)).trans ((eval_other _ 60 4 _ (by decide)).trans ((eval_other _ 58 4 _ (by decide)).trans ((eval_other _ 57 4 _ (by decide)).trans base4))))))))) h'.one (by kernel_rfl) (size_grant _)) ?_
  refine met_free po11 d11 (wanted_guard gd11 po7 d7 ((eval_other _ 66 64 _ (by decide)).trans ((eval_other _ 65 64 _ (by decide)).trans (eval_same _ _ _ (by simp only [put_size, hsz]; decide))))) (fun w' h' => run_loadBlk q11 ((eval_other _ 66 5 _ (by decide)).trans ((eval_other _ 65 5 _ (by decide)).trans ((eval_other _ 64 5 _ (by decide)).trans ((eval_other _ 63 5 _ (by decide)).trans ((eval_other _ 62 5 _ (by decide)).trans ((eval_other _ 59 5 _ (by decide)).trans ((eval_other _ 61 5 _ (by decide)).trans ((eval_other _ 60 5 _ (by decide)).trans ((eval_other _ 58 5 _ (by decide)).trans ((eval_other _ 57 5 _ (by decide)).trans base5)))))))))) h'.two (by kernel_rfl) (size_grant _)) ?_
  refine met_free po12 d12 (wanted_guard gd12 po7 d7 ((eval_other _ 68 64 _ (by decide)).trans ((eval_other _ 66 64 _ (by decide)).trans ((eval_other _ 65 64 _ (by decide)).trans (eval_same _ _ _ (by simp only [put_size, hsz]; decide)))))) (fun w' h' => run_loadBlk q12 ((eval_other _ 68 4 _ (by decide)).trans ((eval_other _ 66 4 _ (by decide)).trans ((eval_other _ 65 4 _ (by decide)).trans ((eval_other _ 64 4 _ (by decide)).trans ((eval_other _ 63 4 _ (by decide)).trans ((eval_other _ 62 4 _ (by decide)).trans ((eval_other _ 59 4 _ (by decide)).trans ((eval_other _ 61 4 _ (by decide)).trans ((eval_other _ 60 4 _ (by decide)).trans ((eval_other _ 58 4 _ (by decide)).trans ((eval_other _ 57 4 _ (by decide)).trans base4))))))))))) h'.one (by kernel_rfl) (size_grant _)) ?_
  refine m_enter po10 d10 (wanted_guard gd10 po7 d7 ((eval_other _ 69 64 _ (by decide)).trans ((eval_other _ 68 64 _ (by decide)).trans ((eval_other _ 66 64 _ (by decide)).trans ((eval_other _ 65 64 _ (by decide)).trans (eval_same _ _ _ (by simp only [put_size, hsz]; decide))))))) (run_callf2 q10 rfl ((eval_other _ 69 65 _ (by decide)).trans ((eval_other _ 68 65 _ (by decide)).trans ((eval_other _ 66 65 _ (by decide)).trans (eval_same _ _ _ (by simp only [put_size, hsz]; decide))))) ((eval_other _ 69 66 _ (by decide)).trans ((eval_other _ 68 66 _ (by decide)).trans (eval_same _ _ _ (by simp only [put_size, hsz]; decide)))) Try.func19 (by kernel_rfl) _) (NBA.out _) ?_
  rintro e w7_3 ⟨rfl, hb⟩
  have HSw7_3 := Lib.hid ((HSw7_2.out).step hb)
  clear hb
  refine ⟨_, rfl, HSw7_3.out, ?_⟩
  refine m_enter po13 d13 (wanted_guard gd13 po7 d7 ((eval_other _ 67 64 _ (by decide)).trans ((eval_other _ 69 64 _ (by decide)).trans ((eval_other _ 68 64 _ (by decide)).trans ((eval_other _ 66 64 _ (by decide)).trans ((eval_other _ 65 64 _ (by decide)).trans (eval_same _ _ _ (by simp only [put_size, hsz]; decide)))))))) (run_callf2 q13 rfl ((eval_other _ 67 68 _ (by decide)).trans ((eval_other _ 69 68 _ (by decide)).trans (eval_same _ _ _ (by simp only [put_size, hsz]; decide)))) ((eval_other _ 67 69 _ (by decide)).trans (eval_same _ _ _ (by simp only [put_size, hsz]; decide))) Try.func20 (by kernel_rfl) _) (RNBA.out _) ?_
  rintro e w7_4 ⟨rfl, hb⟩
  have HSw7_4 := Lib.hid ((HSw7_3.out).step hb)
  clear hb
  refine ⟨_, rfl, HSw7_4.out, ?_⟩
  refine met_free po14 d14 (wanted_guard gd14 po7 d7 ((eval_other _ 70 64 _ (by decide)).trans ((eval_other _ 67 64 _ (by decide)).trans ((eval_other _ 69 64 _ (by decide)).trans ((eval_other _ 68 64 _ (by decide)).trans ((eval_other _ 66 64 _ (by decide)).trans ((eval_other _ 65 64 _ (by decide)).trans (eval_same _ _ _ (by simp only [put_size, hsz]; decide))))))))) (fun w' h' => r_eqB q14 ((eval_other _ 70 67 _ (by decide)).trans (eval_same _ _ _ (by simp only [put_size, hsz]; decide))) (eval_same _ _ _ (by simp only [put_size, hsz]; decide)) w') ?_
  refine met_free po15 d15 (wanted_of gd15) (fun w' h' => run_pick_true q15 ((eval_other _ 71 64 _ (by decide)).trans ((eval_other _ 70 64 _ (by decide)).trans ((eval_other _ 67 64 _ (by decide)).trans ((eval_other _ 69 64 _ (by decide)).trans ((eval_other _ 68 64 _ (by decide)).trans ((eval_other _ 66 64 _ (by decide)).trans ((eval_other _ 65 64 _ (by decide)).trans (eval_same _ _ _ (by simp only [put_size, hsz]; decide))))))))) (eval_same _ _ _ (by simp only [put_size, hsz]; decide)) w') ?_
  refine met_free po16 d16 (wanted_of gd16) (fun w' h' => run_move q16 (eval_same _ _ _ (by simp only [put_size, hsz]; decide)) w') ?_
  refine met_free po17 d17 (wanted_guard gd17 po16 d16 (eval_same _ _ _ (by simp only [put_size, hsz]; decide))) (fun w' h' => run_loadBlk q17 ((eval_other _ 73 4 _ (by decide)).trans ((eval_other _ 72 4 _ (by decide)).trans ((eval_other _ 71 4 _ (by decide)).trans ((eval_other _ 70 4 _ (by decide)).trans ((eval_other _ 67 4 _ (by decide)).trans ((eval_other _ 69 4 _ (by decide)).trans ((eval_other _ 68 4 _ (by decide)).trans ((eval_other _ 66 4 _ (by decide)).trans ((eval_other _ 65 4 _ (by decide)).trans ((eval_other _ 64 4 _ (by decide)).trans ((eval_other _ 63 4 _ (by decide)).trans ((eval_other _ 62 4 _ (by decide)).trans ((eval_other _ 59 4 _ (by decide)).trans ((eval_other _ 61 4 _ (by decide)).trans ((eval_other _ 60 4 _ (by decide)).trans ((eval_other _ 58 4 _ (by decide)).trans ((eval_other _ 57 4 _ (by decide)).trans base4))))))))))))))))) h'.one (by kernel_rfl) (size_grant _)) ?_
  refine met_free po18 d18 (wanted_guard gd18 po16 d16 ((eval_other _ 74 73 _ (by decide)).trans (eval_same _ _ _ (by simp only [put_size, hsz]; decide)))) (fun w' h' => run_loadBlk q18 ((eval_other _ 74 4 _ (by decide)).trans ((eval_other _ 73 4 _ (by decide)).trans ((eval_other _ 72 4 _ (by decide)).trans ((eval_other _ 71 4 _ (by decide)).trans ((eval_other _ 70 4 _ (by decide)).trans ((eval_other _ 67 4 _ (by decide)).trans ((eval_other _ 69 4 _ (by decide)).trans ((eval_other _ 68 4 _ (by decide)).trans ((eval_other _ 66 4 _ (by decide)).trans ((eval_other _ 65 4 _ (by decide)).trans ((eval_other _ 64 4 _ (by decide)).trans ((eval_other _ 63 4 _ (by decide)).trans ((eval_other _ 62 4 _ (by decide)).trans ((eval_other _ 59 4 _ (by decide)).trans ((eval_other _ 61 4 _ (by decide)).trans ((eval_other _ 60 4 _ (by decide)).trans ((eval_other _ 58 4 _ (by decide)).trans ((eval_other _ 57 4 _ (by decide)).trans base4)))))))))))))))))) h'.one (by kernel_rfl) (size_grant _)) ?_
  refine met_free po20 d20 (wanted_guard gd20 po16 d16 ((eval_other _ 75 73 _ (by decide)).trans ((eval_other _ 74 73 _ (by decide)).trans (eval_same _ _ _ (by simp only [put_size, hsz]; decide))))) (fun w' h' => run_loadBlk q20 ((eval_other _ 75 4 _ (by decide)).trans ((eval_other _ 74 4 _ (by decide)).trans ((eval_other _ 73 4 _ (by decide)).trans ((eval_other _ 72 4 _ (by decide)).trans ((eval_other _ 71 4 _ (by decide)).trans ((eval_other _ 70 4 _ (by decide)).trans ((eval_other _ 67 4 _ (by decide)).trans ((eval_other _ 69 4 _ (by decide)).trans ((eval_other _ 68 4 _ (by decide)).trans ((eval_other _ 66 4 _ (by decide)).trans ((eval_other _ 65 4 _ (by decide)).trans ((eval_other _ 64 4 _ (by decide)).trans ((eval_other _ 63 4 _ (by decide)).trans ((eval_other _ 62 4 _ (by decide)).trans ((eval_other _ 59 4 _ (by decide)).trans ((eval_other _ 61 4 _ (by decide)).trans ((eval_other _ 60 4 _ (by decide)).trans ((eval_other _ 58 4 _ (by decide)).trans ((eval_other _ 57 4 _ (by decide)).trans base4))))))))))))))))))) h'.one (by kernel_rfl) (size_grant _)) ?_
  refine met_free po21 d21 (wanted_guard gd21 po16 d16 ((eval_other _ 77 73 _ (by decide)).trans ((eval_other _ 75 73 _ (by decide)).trans ((eval_other _ 74 73 _ (by decide)).trans (eval_same _ _ _ (by simp only [put_size, hsz]; decide)))))) (fun w' h' => run_loadBlk q21 ((eval_other _ 77 4 _ (by decide)).trans ((eval_other _ 75 4 _ (by decide)).trans ((eval_other _ 74 4 _ (by decide)).trans ((eval_other _ 73 4 _ (by decide)).trans ((eval_other _ 72 4 _ (by decide)).trans ((eval_other _ 71 4 _ (by decide)).trans ((eval_other _ 70 4 _ (by decide)).trans ((eval_other _ 67 4 _ (by decide)).trans ((eval_other _ 69 4 _ (by decide)).trans ((eval_other _ 68 4 _ (by decide)).trans ((eval_other _ 66 4 _ (by decide)).trans ((eval_other _ 65 4 _ (by decide)).trans ((eval_other _ 64 4 _ (by decide)).trans ((eval_other _ 63 4 _ (by decide)).trans ((eval_other _ 62 4 _ (by decide)).trans ((eval_other _ 59 4 _ (by decide)).trans ((eval_other _ 61 4 _ (by decide)).trans ((eval_other _ 60 4 _ (by decide)).trans ((eval_other _ 58 4 _ (by decide)).trans ((eval_other _ 57 4 _ (by decide)).trans base4)))))))))))))))))))) h'.one (by kernel_rfl) (size_grant _)) ?_
  refine m_enter po19 d19 (wanted_guard gd19 po16 d16 ((eval_other _ 78 73 _ (by decide)).trans ((eval_other _ 77 73 _ (by decide)).trans ((eval_other _ 75 73 _ (by decide)).trans ((eval_other _ 74 73 _ (by decide)).trans (eval_same _ _ _ (by simp only [put_size, hsz]; decide))))))) (run_callf2 q19 rfl ((eval_other _ 78 74 _ (by decide)).trans ((eval_other _ 77 74 _ (by decide)).trans ((eval_other _ 75 74 _ (by decide)).trans (eval_same _ _ _ (by simp only [put_size, hsz]; decide))))) ((eval_other _ 78 75 _ (by decide)).trans ((eval_other _ 77 75 _ (by decide)).trans (eval_same _ _ _ (by simp only [put_size, hsz]; decide)))) Try.func19 (by kernel_rfl) _) (NAA.out _) ?_
  rintro e w7_5 ⟨rfl, hb⟩
  have HSw7_5 := Lib.hid ((HSw7_4.out).step hb)
  clear hb
  refine ⟨_, rfl, HSw7_5.out, ?_⟩
  refine m_enter po22 d22 (wanted_guard gd22 po16 d16 ((eval_other _ 76 73 _ (by decide)).trans ((eval_other _ 78 73 _ (by decide)).trans ((eval_other _ 77 73 _ (by decide)).trans ((eval_other _ 75 73 _ (by decide)).trans ((eval_other _ 74 73 _ (by decide)).trans (eval_same _ _ _ (by simp only [put_size, hsz]; decide)))))))) (run_callf2 q22 rfl ((eval_other _ 76 77 _ (by decide)).trans ((eval_other _ 78 77 _ (by decide)).trans (eval_same _ _ _ (by simp only [put_size, hsz]; decide)))) ((eval_other _ 76 78 _ (by decide)).trans (eval_same _ _ _ (by simp only [put_size, hsz]; decide))) Try.func20 (by kernel_rfl) _) (RNAA.out _) ?_
  rintro e w7_6 ⟨rfl, hb⟩
  have HSw7_6 := Lib.hid ((HSw7_5.out).step hb)
  clear hb
  refine ⟨_, rfl, HSw7_6.out, ?_⟩
  refine met_free po23 d23 (wanted_guard gd23 po16 d16 ((eval_other _ 79 73 _ (by decide)).trans ((eval_other _ 76 73 _ (by decide)).trans ((eval_other _ 78 73 _ (by decide)).trans ((eval_other _ 77 73 _ (by decide)).trans ((eval_other _ 75 73 _ (by decide)).trans ((eval_other _ 74 73 _ (by decide)).trans (eval_same _ _ _ (by simp only [put_size, hsz]; decide))))))))) (fun w' h' => r_eqB q23 ((eval_other _ 79 76 _ (by decide)).trans (eval_same _ _ _ (by simp only [put_size, hsz]; decide))) (eval_same _ _ _ (by simp only [put_size, hsz]; decide)) w') ?_
  refine met_free po24 d24 (wanted_of gd24) (fun w' h' => run_pick_true q24 ((eval_other _ 80 73 _ (by decide)).trans ((eval_other _ 79 73 _ (by decide)).trans ((eval_other _ 76 73 _ (by decide)).trans ((eval_other _ 78 73 _ (by decide)).trans ((eval_other _ 77 73 _ (by decide)).trans ((eval_other _ 75 73 _ (by decide)).trans ((eval_other _ 74 73 _ (by decide)).trans (eval_same _ _ _ (by simp only [put_size, hsz]; decide))))))))) (eval_same _ _ _ (by simp only [put_size, hsz]; decide)) w') ?_
  refine met_free po25 d25 (wanted_of gd25) (fun w' h' => run_move q25 (eval_same _ _ _ (by simp only [put_size, hsz]; decide)) w') ?_
  refine m_enter po26 d26 (wanted_guard gd26 po25 d25 (eval_same _ _ _ (by simp only [put_size, hsz]; decide))) (run_callf0 q26 rfl Try.func10 (by kernel_rfl) _) (HKN.out _) ?_
  rintro e w7_7 ⟨rfl, hb⟩
  have HSw7_7 := Lib.hid ((HSw7_6.out).step hb)
  clear hb
  refine ⟨_, rfl, HSw7_7.out, ?_⟩
  refine met_free po27 d27 (wanted_of gd27) (fun w' h' => run_pick_true q27 ((eval_other _ 83 82 _ (by decide)).trans (eval_same _ _ _ (by simp only [put_size, hsz]; decide))) (eval_same _ _ _ (by simp only [put_size, hsz]; decide)) w') ?_
  refine met_free po28 d28 (wanted_of gd28) (fun w' h' => run_assign q28 (eval_same _ _ _ (by simp only [put_size, hsz]; decide)) w') ?_
  show NoPanic _ .normal _ _
  refine NoPanic.normal ?_
  rw [HAA.out]
  go_frame
  clear HAA
  clear po0 q0 d0 gd0 po1 q1 d1 gd1 po2 q2 d2 gd2 po3 q3 d3 gd3 po4 q4 d4 gd4 po5 q5 d5 gd5 po6 q6 d6 gd6 po7 q7 d7 gd7 po8 q8 d8 gd8 po9 q9 d9 gd9 po10 q10 d10 gd10 po11 q11 d11 gd11 po12 q12 d12 gd12 po13 q13 d13 gd13 po14 q14 d14 gd14 po15 q15 d15 gd15 po16 q16 d16 gd16 po17 q17 d17 gd17 po18 q18 d18 gd18 po19 q19 d19 gd19 po20 q20 d20 gd20 po21 q21 d21 gd21 po22 q22 d22 gd22 po23 q23 d23 gd23 po24 q24 d24 gd24 po25 q25 d25 gd25 po26 q26 d26 gd26 po27 q27 d27 gd27 po28 q28 d28 gd28
  clear base2 base3 base4 base5 hsz
  go_wp2_with fail
  go_ret
  exact ⟨rfl, HSw7_7.out.below⟩
end Go.Proofs.Ytkfkdomjjepmdaa

/-
  RightGrants, for any two grants, any rights and any stream: the law returns true, and what came in reads afterwards as it read before. Without any condition.
-/
namespace Go.Proofs.Ytkfkdomjjepmdaa
open Go.ChangeShapes Go.WideShapes Go.ChangeAt Go.RowKit Go.Proofs.ShaWords

set_option maxRecDepth 100000 in
theorem rightGrants_lifted (os : Os) (started : os.Started) (H : Type) (enc : TypeId × Value → H) :
    ReturnsInHanded {} Try.checked os 3 .any (Rows.rightGrantsSpec.pre6 enc Try.prog Try.f3 Rows.rightGrantsRow.domain false)
      (Rows.rightGrantsSpec.post enc Try.prog Try.f3 false true false false) := by
  refine returnsInHanded_of_change_sized (C := Try.checked) own started (by kernel_rfl) Try.func3
    (ChangeSpec.witness6 (enc := enc) (C := Try.checked) false ⟨#[], #[.agg #[.int .i64 0, .string ⟨#[]⟩, .bool false, .int .i64 0], .agg #[.int .i64 0, .string ⟨#[]⟩, .bool false, .int .i64 0], .int .i64 0, .string ⟨#[]⟩], []⟩ 8 (by kernel_rfl) (by kernel_rfl) (by kernel_rfl) (by kernel_rfl)) ?_
  intro W base args ds gs before hval0 hW _ hsz _
  have hW' := hW
  obtain ⟨p, q, hA0, hV, rfl, hfz, hnd⟩ := hW
  have hA : DataW.TrodAll enc Try.prog W 0 (fun _ => true) true Try.f3.params.toList args.toList ds p := hA0
  have hval : ∀ (j : Nat) t v, Try.f3.params[j]? = some t → args[j]? = some v → Value.okWide Try.prog W .any base t v := hval0
  have hsz2 : (DataW.weightsEach Try.prog (Try.f3.params.toList ++ Rows.rightGrantsSpec.plain.varTypes Try.prog) (ds ++ gs)).all (· ≤ reachBytes) = true := hsz
  rw [Try.params3] at hA hval hsz2
  obtain ⟨v0, vs0, d0, ds0, p0, q0, hargs, rfl, rfl, h0, r0⟩ := trodAll_cons hA
  obtain ⟨v1, vs1, d1, ds1, p1, q1, rfl, rfl, rfl, h1, r1⟩ := trodAll_cons r0
  obtain ⟨v2, vs2, d2, ds2, p2, q2, rfl, rfl, rfl, h2, r2⟩ := trodAll_cons r1
  obtain ⟨v3, vs3, d3, ds3, p3, q3, rfl, rfl, rfl, h3, r3⟩ := trodAll_cons r2
  obtain ⟨rfl, rfl, rfl⟩ := trodAll_nil r3
  obtain rfl : args = #[v0, v1, v2, v3] := by cases args; simp_all
  obtain ⟨rfl, rfl⟩ := trodVars_none hV
  obtain ⟨cs0, rfl⟩ := okWide_grant (hval 0 23 v0 rfl rfl)
  have k0 := h0
  have lt0 : ∀ x ∈ p0, x.block < W.heap.size := by obtain ⟨m, hm⟩ := k0; exact DataW.trod_lt m _ _ _ hm
  obtain ⟨f0, hf0⟩ := h0
  obtain ⟨th0, hx0a, hx0b⟩ := open_grant hf0 (fun n hn => by have := List.all_eq_true.1 hsz2 n (DataW.weights_mem_each (j := 0) rfl rfl n hn); simpa using this)
  obtain rfl : cs0 = th0.cells.toArray := by rw [← hx0a]; rfl
  obtain ⟨cs1, rfl⟩ := okWide_grant (hval 1 23 v1 rfl rfl)
  have k1 := h1
  have lt1 : ∀ x ∈ p1, x.block < W.heap.size := by obtain ⟨m, hm⟩ := k1; exact DataW.trod_lt m _ _ _ hm
  obtain ⟨f1, hf1⟩ := h1
  obtain ⟨th1, hx1a, hx1b⟩ := open_grant hf1 (fun n hn => by have := List.all_eq_true.1 hsz2 n (DataW.weights_mem_each (j := 1) rfl rfl n hn); simpa using this)
  obtain rfl : cs1 = th1.cells.toArray := by rw [← hx1a]; rfl
  obtain ⟨z2, rfl, rfl, rfl, wz2⟩ := open_int Try.underlying3 (hval 2 3 v2 rfl rfl) h2
  obtain ⟨sv3, rfl⟩ := okWide_string Try.underlying9 (hval 3 9 v3 rfl rfl)
  have k3 := h3
  have lt3 : ∀ x ∈ p3, x.block < W.heap.size := by obtain ⟨m, hm⟩ := k3; exact DataW.trod_lt m _ _ _ hm
  obtain ⟨f3, hf3⟩ := h3
  obtain ⟨s3, hx3a, hx3b⟩ := open_strF hf3 (fun n hn => by have := List.all_eq_true.1 hsz2 n (DataW.weights_mem_each (j := 3) rfl rfl n hn); simpa using this)
  obtain rfl : s3 = sv3 := by simpa [Value.cells] using hx3a.symm
  clear hA0 hval0
  refine (rightGrants_any th0 th1 z2 s3 W hx0b hx1b (wrap_wfK wz2) hx3b).mono fun e W' ⟨he, bel⟩ => ?_
  subst he
  exact ⟨_, rfl, _, _, _, [], _, [], hW', trodAll_mk1 (shut_bool Try.underlying4 _), (trodAll_cons_mk (Below.trod laidOut (by kernel_rfl) (of_decide_eq_true (by kernel_rfl)) k0 bel lt0) (trodAll_cons_mk (Below.trod laidOut (by kernel_rfl) (of_decide_eq_true (by kernel_rfl)) k1 bel lt1) (trodAll_cons_mk (shut_int Try.underlying3 wz2) (trodAll_cons_mk (Below.trod laidOut (by kernel_rfl) (of_decide_eq_true (by kernel_rfl)) k3 bel lt3) trodAll_mk0)))), rfl, bel.frame _, fun h => by cases h⟩

theorem rightGrants_holds : Rows.RightGrantsSaid :=
  OpenClaim.holds_of_wide 3 Try.f3 rfl rfl rfl rfl rfl rfl rfl ⟨rfl, rfl, rfl, rfl, rfl⟩ rfl rfl rfl rfl rfl (by kernel_rfl) Try.func3 (by kernel_rfl)
    (of_decide_eq_true (by kernel_rfl)) (by unfold Func.isWrapper; first | (rw [if_pos (by decide +kernel)]; kernel_rfl) | (rw [if_neg (by decide +kernel)]; exact ⟨rfl, rfl⟩))
    (fun os started H enc _ => rightGrants_lifted os started H enc)

#print axioms rightGrants_holds
end Go.Proofs.Ytkfkdomjjepmdaa
