/-
  RightLess, for any two grants, any rights, any stream and any time: the law returns true, and what came in reads afterwards as it read before. Without any condition.
-/
import Derived.Test.YtkfkdomjjepmdaaPkA
import Derived.Test.YtkfkdomjjepmdaaPkN
/-
  RightLess' walk (gen_rtless.py).
-/
namespace Go.Proofs.Ytkfkdomjjepmdaa
open Go.RowKit
set_option maxRecDepth 100000 in
set_option maxHeartbeats 4000000 in
theorem rightLess_any (a b : GrantM) (r : Int) (s : ByteArray) (c : Int) (w : World) (hb : b.Ok) (hr : wrap64 r = r) :
    Calls Try.prog 5 #[.agg a.cells.toArray, .agg b.cells.toArray, .int .i64 r, .string s, .int .i64 c] w fun e w' => e = .returned (.bool true) ∧ Below w.heap.size w w' := by
  have HNW : Hid (∀ w, Calls Try.prog 19 #[.agg a.cells.toArray, .agg b.cells.toArray] w (ReturnsG (narrowM a b) w)) := show ∀ _, _ from fun w => narrow_any a b w hb.rw
  have HCA : Hid (∀ w, Calls Try.prog 15 #[.agg a.cells.toArray, .int .i64 r, .string s] w (ReturnsG (coversM a r s) w)) := show ∀ _, _ from fun w => covers_any a r s w hr
  have HCB : Hid (∀ w, Calls Try.prog 15 #[.agg b.cells.toArray, .int .i64 r, .string s] w (ReturnsG (coversM b r s) w)) := show ∀ _, _ from fun w => covers_any b r s w hr
  have HWA : Hid (∀ w, Calls Try.prog 17 #[.agg a.cells.toArray] w (ReturnsG (wholeM a) w)) := show ∀ _, _ from fun w => whole_any a w
  have HWB : Hid (∀ w, Calls Try.prog 17 #[.agg b.cells.toArray] w (ReturnsG (wholeM b) w)) := show ∀ _, _ from fun w => whole_any b w
  have HLA : Hid (∀ w, Calls Try.prog 27 #[.agg a.cells.toArray, .int .i64 c] w (ReturnsG (lastsM a c) w)) := show ∀ _, _ from fun w => lasts_any a c w
  have HLB : Hid (∀ w, Calls Try.prog 27 #[.agg b.cells.toArray, .int .i64 c] w (ReturnsG (lastsM b c) w)) := show ∀ _, _ from fun w => lasts_any b c w
  have HKN := Lib.hid works13_any
  have HPC := Lib.hid (fun h => narrow_covers (a := a) (b := b) h r s)
  have HPW := Lib.hid (narrow_whole (a := a) (b := b))
  have HPL := Lib.hid (fun h => narrow_lasts (a := a) (b := b) h c)
  clear hb hr
  generalize hca : a.cells.toArray = ca
  generalize hcb : b.cells.toArray = cb
  have HCAE := Lib.hid hca
  have HCBE := Lib.hid hcb
  clear hca hcb
  obtain ⟨M, hM⟩ : ∃ M, M = max (max a.pre.size b.pre.size) s.size := ⟨_, rfl⟩
  have HM := Lib.hid hM
  clear hM
  go_enter Try.func5, Try.ntmps5
  go_upto_region 1 with (fail)
  refine wp_gen (fun wr => Gr2 w.heap.size (w.heap.size + 1) a b w wr) (Gr2.boxes w HCAE.out HCBE.out) (fun w1 hg => ?_)
  have c1 := hg.one.c1
  have c2 := hg.two.c1
  have HG1 := Lib.hid hg
  clear hg
  by_cases hbig : M > 4096
  · have q : (M : Int) > 4096 := by omega
    go_wp2_with (first | (show wpList _ _ _ (⟨_, .call { callee := .builtin .max, args := _, argTypes := _ }, _, _, _, _⟩ :: _) _ _; refine wpList_run (by rfl) (run_max3 rfl rfl rfl rfl HM.out _) ?_))
    refine (HKN.out _).mono ?_
    rintro e w9 ⟨rfl, hb⟩
    have HB9 := Lib.hid (HG1.out.below.trans (hb.mono HG1.out.below.size))
    clear hb
    go_wp2_with fail
    go_ret
    exact ⟨rfl, HB9.out⟩
  have q : ¬ (M : Int) > 4096 := by omega
  clear hbig
  cases hn : narrowM a b
  · have HN := Lib.hid hn
    clear hn
    go_wp2_with (first | (show wpList _ _ _ (⟨_, .call { callee := .builtin .max, args := _, argTypes := _ }, _, _, _, _⟩ :: _) _ _; refine wpList_run (by rfl) (run_max3 rfl rfl rfl rfl HM.out _) ?_) | (show wpList _ _ _ (⟨_, .load 23 (.tmp 5), _, _, _, _⟩ :: _) _ _; refine wpList_run (by rfl) (run_loadBlk rfl rfl HG1.out.one (by kernel_rfl) (size_grant _)) ?_) | (show wpList _ _ _ (⟨_, .load 23 (.tmp 6), _, _, _, _⟩ :: _) _ _; refine wpList_run (by rfl) (run_loadBlk rfl rfl HG1.out.two (by kernel_rfl) (size_grant _)) ?_))
    refine (HNW.out _).mono ?_
    rw [HN.out]
    rintro e w2 ⟨rfl, hb⟩
    have HG2 := Lib.hid (HG1.out.step hb)
    clear hb
    go_wp2_with fail
    refine (HKN.out _).mono ?_
    rintro e w9 ⟨rfl, hb⟩
    have HB9 := Lib.hid (HG2.out.below.trans (hb.mono HG2.out.below.size))
    clear hb
    go_wp2_with fail
    go_ret
    exact ⟨rfl, HB9.out⟩
  have HN := Lib.hid hn
  clear hn
  have hpc := HPC.out HN.out
  have hpw := HPW.out HN.out
  have hpl := HPL.out HN.out
  cases hcb : coversM b r s <;> cases hwb : wholeM b <;> cases hlb : lastsM b c
  · have HVC := Lib.hid hcb
    have HVW := Lib.hid hwb
    have HVL := Lib.hid hlb
    clear hpc hpw hpl hcb hwb hlb
    go_wp2_with (first | (show wpList _ _ _ (⟨_, .call { callee := .builtin .max, args := _, argTypes := _ }, _, _, _, _⟩ :: _) _ _; refine wpList_run (by rfl) (run_max3 rfl rfl rfl rfl HM.out _) ?_) | (show wpList _ _ _ (⟨_, .load 23 (.tmp 5), _, _, _, _⟩ :: _) _ _; refine wpList_run (by rfl) (run_loadBlk rfl rfl HG1.out.one (by kernel_rfl) (size_grant _)) ?_) | (show wpList _ _ _ (⟨_, .load 23 (.tmp 6), _, _, _, _⟩ :: _) _ _; refine wpList_run (by rfl) (run_loadBlk rfl rfl HG1.out.two (by kernel_rfl) (size_grant _)) ?_))
    refine (HNW.out _).mono ?_
    rw [HN.out]
    rintro e w2 ⟨rfl, hb⟩
    have HG2 := Lib.hid (HG1.out.step hb)
    clear hb
    go_wp2_with (first | (show wpList _ _ _ (⟨_, .load 23 (.tmp 6), _, _, _, _⟩ :: _) _ _; refine wpList_run (by rfl) (run_loadBlk rfl rfl HG2.out.two (by kernel_rfl) (size_grant _)) ?_))
    refine (HCB.out _).mono ?_
    rw [HVC.out]
    rintro e w3 ⟨rfl, hb⟩
    have HG3 := Lib.hid (HG2.out.step hb)
    clear hb
    go_wp2_with (first | (show wpList _ _ _ (⟨_, .load 23 (.tmp 6), _, _, _, _⟩ :: _) _ _; refine wpList_run (by rfl) (run_loadBlk rfl rfl HG3.out.two (by kernel_rfl) (size_grant _)) ?_))
    refine (HWB.out _).mono ?_
    rw [HVW.out]
    rintro e w4 ⟨rfl, hb⟩
    have HG4 := Lib.hid (HG3.out.step hb)
    clear hb
    go_wp2_with (first | (show wpList _ _ _ (⟨_, .load 23 (.tmp 6), _, _, _, _⟩ :: _) _ _; refine wpList_run (by rfl) (run_loadBlk rfl rfl HG4.out.two (by kernel_rfl) (size_grant _)) ?_))
    refine (HLB.out _).mono ?_
    rw [HVL.out]
    rintro e w5 ⟨rfl, hb⟩
    have HG5 := Lib.hid (HG4.out.step hb)
    clear hb
    go_wp2_with fail
    refine (HKN.out _).mono ?_
    rintro e w9 ⟨rfl, hb⟩
    have HB9 := Lib.hid (HG5.out.below.trans (hb.mono HG5.out.below.size))
    clear hb
    go_wp2_with fail
    go_ret
    exact ⟨rfl, HB9.out⟩
  · have HVC := Lib.hid hcb
    have HVW := Lib.hid hwb
    have HVL := Lib.hid hlb
    have HUL := Lib.hid (hpl hlb)
    clear hpc hpw hpl hcb hwb hlb
    go_wp2_with (first | (show wpList _ _ _ (⟨_, .call { callee := .builtin .max, args := _, argTypes := _ }, _, _, _, _⟩ :: _) _ _; refine wpList_run (by rfl) (run_max3 rfl rfl rfl rfl HM.out _) ?_) | (show wpList _ _ _ (⟨_, .load 23 (.tmp 5), _, _, _, _⟩ :: _) _ _; refine wpList_run (by rfl) (run_loadBlk rfl rfl HG1.out.one (by kernel_rfl) (size_grant _)) ?_) | (show wpList _ _ _ (⟨_, .load 23 (.tmp 6), _, _, _, _⟩ :: _) _ _; refine wpList_run (by rfl) (run_loadBlk rfl rfl HG1.out.two (by kernel_rfl) (size_grant _)) ?_))
    refine (HNW.out _).mono ?_
    rw [HN.out]
    rintro e w2 ⟨rfl, hb⟩
    have HG2 := Lib.hid (HG1.out.step hb)
    clear hb
    go_wp2_with (first | (show wpList _ _ _ (⟨_, .load 23 (.tmp 6), _, _, _, _⟩ :: _) _ _; refine wpList_run (by rfl) (run_loadBlk rfl rfl HG2.out.two (by kernel_rfl) (size_grant _)) ?_))
    refine (HCB.out _).mono ?_
    rw [HVC.out]
    rintro e w3 ⟨rfl, hb⟩
    have HG3 := Lib.hid (HG2.out.step hb)
    clear hb
    go_wp2_with (first | (show wpList _ _ _ (⟨_, .load 23 (.tmp 6), _, _, _, _⟩ :: _) _ _; refine wpList_run (by rfl) (run_loadBlk rfl rfl HG3.out.two (by kernel_rfl) (size_grant _)) ?_))
    refine (HWB.out _).mono ?_
    rw [HVW.out]
    rintro e w4 ⟨rfl, hb⟩
    have HG4 := Lib.hid (HG3.out.step hb)
    clear hb
    go_wp2_with (first | (show wpList _ _ _ (⟨_, .load 23 (.tmp 6), _, _, _, _⟩ :: _) _ _; refine wpList_run (by rfl) (run_loadBlk rfl rfl HG4.out.two (by kernel_rfl) (size_grant _)) ?_))
    refine (HLB.out _).mono ?_
    rw [HVL.out]
    rintro e w5 ⟨rfl, hb⟩
    have HG5 := Lib.hid (HG4.out.step hb)
    clear hb
    go_wp2_with (first | (show wpList _ _ _ (⟨_, .load 23 (.tmp 5), _, _, _, _⟩ :: _) _ _; refine wpList_run (by rfl) (run_loadBlk rfl rfl HG5.out.one (by kernel_rfl) (size_grant _)) ?_))
    refine (HLA.out _).mono ?_
    rw [HUL.out]
    rintro e w6 ⟨rfl, hb⟩
    have HG6 := Lib.hid (HG5.out.step hb)
    clear hb
    go_wp2_with fail
    refine (HKN.out _).mono ?_
    rintro e w9 ⟨rfl, hb⟩
    have HB9 := Lib.hid (HG6.out.below.trans (hb.mono HG6.out.below.size))
    clear hb
    go_wp2_with fail
    go_ret
    exact ⟨rfl, HB9.out⟩
  · have HVC := Lib.hid hcb
    have HVW := Lib.hid hwb
    have HVL := Lib.hid hlb
    have HUW := Lib.hid (hpw hwb)
    clear hpc hpw hpl hcb hwb hlb
    go_wp2_with (first | (show wpList _ _ _ (⟨_, .call { callee := .builtin .max, args := _, argTypes := _ }, _, _, _, _⟩ :: _) _ _; refine wpList_run (by rfl) (run_max3 rfl rfl rfl rfl HM.out _) ?_) | (show wpList _ _ _ (⟨_, .load 23 (.tmp 5), _, _, _, _⟩ :: _) _ _; refine wpList_run (by rfl) (run_loadBlk rfl rfl HG1.out.one (by kernel_rfl) (size_grant _)) ?_) | (show wpList _ _ _ (⟨_, .load 23 (.tmp 6), _, _, _, _⟩ :: _) _ _; refine wpList_run (by rfl) (run_loadBlk rfl rfl HG1.out.two (by kernel_rfl) (size_grant _)) ?_))
    refine (HNW.out _).mono ?_
    rw [HN.out]
    rintro e w2 ⟨rfl, hb⟩
    have HG2 := Lib.hid (HG1.out.step hb)
    clear hb
    go_wp2_with (first | (show wpList _ _ _ (⟨_, .load 23 (.tmp 6), _, _, _, _⟩ :: _) _ _; refine wpList_run (by rfl) (run_loadBlk rfl rfl HG2.out.two (by kernel_rfl) (size_grant _)) ?_))
    refine (HCB.out _).mono ?_
    rw [HVC.out]
    rintro e w3 ⟨rfl, hb⟩
    have HG3 := Lib.hid (HG2.out.step hb)
    clear hb
    go_wp2_with (first | (show wpList _ _ _ (⟨_, .load 23 (.tmp 6), _, _, _, _⟩ :: _) _ _; refine wpList_run (by rfl) (run_loadBlk rfl rfl HG3.out.two (by kernel_rfl) (size_grant _)) ?_))
    refine (HWB.out _).mono ?_
    rw [HVW.out]
    rintro e w4 ⟨rfl, hb⟩
    have HG4 := Lib.hid (HG3.out.step hb)
    clear hb
    go_wp2_with (first | (show wpList _ _ _ (⟨_, .load 23 (.tmp 5), _, _, _, _⟩ :: _) _ _; refine wpList_run (by rfl) (run_loadBlk rfl rfl HG4.out.one (by kernel_rfl) (size_grant _)) ?_))
    refine (HWA.out _).mono ?_
    rw [HUW.out]
    rintro e w5 ⟨rfl, hb⟩
    have HG5 := Lib.hid (HG4.out.step hb)
    clear hb
    go_wp2_with (first | (show wpList _ _ _ (⟨_, .load 23 (.tmp 6), _, _, _, _⟩ :: _) _ _; refine wpList_run (by rfl) (run_loadBlk rfl rfl HG5.out.two (by kernel_rfl) (size_grant _)) ?_))
    refine (HLB.out _).mono ?_
    rw [HVL.out]
    rintro e w6 ⟨rfl, hb⟩
    have HG6 := Lib.hid (HG5.out.step hb)
    clear hb
    go_wp2_with fail
    refine (HKN.out _).mono ?_
    rintro e w9 ⟨rfl, hb⟩
    have HB9 := Lib.hid (HG6.out.below.trans (hb.mono HG6.out.below.size))
    clear hb
    go_wp2_with fail
    go_ret
    exact ⟨rfl, HB9.out⟩
  · have HVC := Lib.hid hcb
    have HVW := Lib.hid hwb
    have HVL := Lib.hid hlb
    have HUW := Lib.hid (hpw hwb)
    have HUL := Lib.hid (hpl hlb)
    clear hpc hpw hpl hcb hwb hlb
    go_wp2_with (first | (show wpList _ _ _ (⟨_, .call { callee := .builtin .max, args := _, argTypes := _ }, _, _, _, _⟩ :: _) _ _; refine wpList_run (by rfl) (run_max3 rfl rfl rfl rfl HM.out _) ?_) | (show wpList _ _ _ (⟨_, .load 23 (.tmp 5), _, _, _, _⟩ :: _) _ _; refine wpList_run (by rfl) (run_loadBlk rfl rfl HG1.out.one (by kernel_rfl) (size_grant _)) ?_) | (show wpList _ _ _ (⟨_, .load 23 (.tmp 6), _, _, _, _⟩ :: _) _ _; refine wpList_run (by rfl) (run_loadBlk rfl rfl HG1.out.two (by kernel_rfl) (size_grant _)) ?_))
    refine (HNW.out _).mono ?_
    rw [HN.out]
    rintro e w2 ⟨rfl, hb⟩
    have HG2 := Lib.hid (HG1.out.step hb)
    clear hb
    go_wp2_with (first | (show wpList _ _ _ (⟨_, .load 23 (.tmp 6), _, _, _, _⟩ :: _) _ _; refine wpList_run (by rfl) (run_loadBlk rfl rfl HG2.out.two (by kernel_rfl) (size_grant _)) ?_))
    refine (HCB.out _).mono ?_
    rw [HVC.out]
    rintro e w3 ⟨rfl, hb⟩
    have HG3 := Lib.hid (HG2.out.step hb)
    clear hb
    go_wp2_with (first | (show wpList _ _ _ (⟨_, .load 23 (.tmp 6), _, _, _, _⟩ :: _) _ _; refine wpList_run (by rfl) (run_loadBlk rfl rfl HG3.out.two (by kernel_rfl) (size_grant _)) ?_))
    refine (HWB.out _).mono ?_
    rw [HVW.out]
    rintro e w4 ⟨rfl, hb⟩
    have HG4 := Lib.hid (HG3.out.step hb)
    clear hb
    go_wp2_with (first | (show wpList _ _ _ (⟨_, .load 23 (.tmp 5), _, _, _, _⟩ :: _) _ _; refine wpList_run (by rfl) (run_loadBlk rfl rfl HG4.out.one (by kernel_rfl) (size_grant _)) ?_))
    refine (HWA.out _).mono ?_
    rw [HUW.out]
    rintro e w5 ⟨rfl, hb⟩
    have HG5 := Lib.hid (HG4.out.step hb)
    clear hb
    go_wp2_with (first | (show wpList _ _ _ (⟨_, .load 23 (.tmp 6), _, _, _, _⟩ :: _) _ _; refine wpList_run (by rfl) (run_loadBlk rfl rfl HG5.out.two (by kernel_rfl) (size_grant _)) ?_))
    refine (HLB.out _).mono ?_
    rw [HVL.out]
    rintro e w6 ⟨rfl, hb⟩
    have HG6 := Lib.hid (HG5.out.step hb)
    clear hb
    go_wp2_with (first | (show wpList _ _ _ (⟨_, .load 23 (.tmp 5), _, _, _, _⟩ :: _) _ _; refine wpList_run (by rfl) (run_loadBlk rfl rfl HG6.out.one (by kernel_rfl) (size_grant _)) ?_))
    refine (HLA.out _).mono ?_
    rw [HUL.out]
    rintro e w7 ⟨rfl, hb⟩
    have HG7 := Lib.hid (HG6.out.step hb)
    clear hb
    go_wp2_with fail
    refine (HKN.out _).mono ?_
    rintro e w9 ⟨rfl, hb⟩
    have HB9 := Lib.hid (HG7.out.below.trans (hb.mono HG7.out.below.size))
    clear hb
    go_wp2_with fail
    go_ret
    exact ⟨rfl, HB9.out⟩
  · have HVC := Lib.hid hcb
    have HVW := Lib.hid hwb
    have HVL := Lib.hid hlb
    have HUC := Lib.hid (hpc hcb)
    clear hpc hpw hpl hcb hwb hlb
    go_wp2_with (first | (show wpList _ _ _ (⟨_, .call { callee := .builtin .max, args := _, argTypes := _ }, _, _, _, _⟩ :: _) _ _; refine wpList_run (by rfl) (run_max3 rfl rfl rfl rfl HM.out _) ?_) | (show wpList _ _ _ (⟨_, .load 23 (.tmp 5), _, _, _, _⟩ :: _) _ _; refine wpList_run (by rfl) (run_loadBlk rfl rfl HG1.out.one (by kernel_rfl) (size_grant _)) ?_) | (show wpList _ _ _ (⟨_, .load 23 (.tmp 6), _, _, _, _⟩ :: _) _ _; refine wpList_run (by rfl) (run_loadBlk rfl rfl HG1.out.two (by kernel_rfl) (size_grant _)) ?_))
    refine (HNW.out _).mono ?_
    rw [HN.out]
    rintro e w2 ⟨rfl, hb⟩
    have HG2 := Lib.hid (HG1.out.step hb)
    clear hb
    go_wp2_with (first | (show wpList _ _ _ (⟨_, .load 23 (.tmp 6), _, _, _, _⟩ :: _) _ _; refine wpList_run (by rfl) (run_loadBlk rfl rfl HG2.out.two (by kernel_rfl) (size_grant _)) ?_))
    refine (HCB.out _).mono ?_
    rw [HVC.out]
    rintro e w3 ⟨rfl, hb⟩
    have HG3 := Lib.hid (HG2.out.step hb)
    clear hb
    go_wp2_with (first | (show wpList _ _ _ (⟨_, .load 23 (.tmp 5), _, _, _, _⟩ :: _) _ _; refine wpList_run (by rfl) (run_loadBlk rfl rfl HG3.out.one (by kernel_rfl) (size_grant _)) ?_))
    refine (HCA.out _).mono ?_
    rw [HUC.out]
    rintro e w4 ⟨rfl, hb⟩
    have HG4 := Lib.hid (HG3.out.step hb)
    clear hb
    go_wp2_with (first | (show wpList _ _ _ (⟨_, .load 23 (.tmp 6), _, _, _, _⟩ :: _) _ _; refine wpList_run (by rfl) (run_loadBlk rfl rfl HG4.out.two (by kernel_rfl) (size_grant _)) ?_))
    refine (HWB.out _).mono ?_
    rw [HVW.out]
    rintro e w5 ⟨rfl, hb⟩
    have HG5 := Lib.hid (HG4.out.step hb)
    clear hb
    go_wp2_with (first | (show wpList _ _ _ (⟨_, .load 23 (.tmp 6), _, _, _, _⟩ :: _) _ _; refine wpList_run (by rfl) (run_loadBlk rfl rfl HG5.out.two (by kernel_rfl) (size_grant _)) ?_))
    refine (HLB.out _).mono ?_
    rw [HVL.out]
    rintro e w6 ⟨rfl, hb⟩
    have HG6 := Lib.hid (HG5.out.step hb)
    clear hb
    go_wp2_with fail
    refine (HKN.out _).mono ?_
    rintro e w9 ⟨rfl, hb⟩
    have HB9 := Lib.hid (HG6.out.below.trans (hb.mono HG6.out.below.size))
    clear hb
    go_wp2_with fail
    go_ret
    exact ⟨rfl, HB9.out⟩
  · have HVC := Lib.hid hcb
    have HVW := Lib.hid hwb
    have HVL := Lib.hid hlb
    have HUC := Lib.hid (hpc hcb)
    have HUL := Lib.hid (hpl hlb)
    clear hpc hpw hpl hcb hwb hlb
    go_wp2_with (first | (show wpList _ _ _ (⟨_, .call { callee := .builtin .max, args := _, argTypes := _ }, _, _, _, _⟩ :: _) _ _; refine wpList_run (by rfl) (run_max3 rfl rfl rfl rfl HM.out _) ?_) | (show wpList _ _ _ (⟨_, .load 23 (.tmp 5), _, _, _, _⟩ :: _) _ _; refine wpList_run (by rfl) (run_loadBlk rfl rfl HG1.out.one (by kernel_rfl) (size_grant _)) ?_) | (show wpList _ _ _ (⟨_, .load 23 (.tmp 6), _, _, _, _⟩ :: _) _ _; refine wpList_run (by rfl) (run_loadBlk rfl rfl HG1.out.two (by kernel_rfl) (size_grant _)) ?_))
    refine (HNW.out _).mono ?_
    rw [HN.out]
    rintro e w2 ⟨rfl, hb⟩
    have HG2 := Lib.hid (HG1.out.step hb)
    clear hb
    go_wp2_with (first | (show wpList _ _ _ (⟨_, .load 23 (.tmp 6), _, _, _, _⟩ :: _) _ _; refine wpList_run (by rfl) (run_loadBlk rfl rfl HG2.out.two (by kernel_rfl) (size_grant _)) ?_))
    refine (HCB.out _).mono ?_
    rw [HVC.out]
    rintro e w3 ⟨rfl, hb⟩
    have HG3 := Lib.hid (HG2.out.step hb)
    clear hb
    go_wp2_with (first | (show wpList _ _ _ (⟨_, .load 23 (.tmp 5), _, _, _, _⟩ :: _) _ _; refine wpList_run (by rfl) (run_loadBlk rfl rfl HG3.out.one (by kernel_rfl) (size_grant _)) ?_))
    refine (HCA.out _).mono ?_
    rw [HUC.out]
    rintro e w4 ⟨rfl, hb⟩
    have HG4 := Lib.hid (HG3.out.step hb)
    clear hb
    go_wp2_with (first | (show wpList _ _ _ (⟨_, .load 23 (.tmp 6), _, _, _, _⟩ :: _) _ _; refine wpList_run (by rfl) (run_loadBlk rfl rfl HG4.out.two (by kernel_rfl) (size_grant _)) ?_))
    refine (HWB.out _).mono ?_
    rw [HVW.out]
    rintro e w5 ⟨rfl, hb⟩
    have HG5 := Lib.hid (HG4.out.step hb)
    clear hb
    go_wp2_with (first | (show wpList _ _ _ (⟨_, .load 23 (.tmp 6), _, _, _, _⟩ :: _) _ _; refine wpList_run (by rfl) (run_loadBlk rfl rfl HG5.out.two (by kernel_rfl) (size_grant _)) ?_))
    refine (HLB.out _).mono ?_
    rw [HVL.out]
    rintro e w6 ⟨rfl, hb⟩
    have HG6 := Lib.hid (HG5.out.step hb)
    clear hb
    go_wp2_with (first | (show wpList _ _ _ (⟨_, .load 23 (.tmp 5), _, _, _, _⟩ :: _) _ _; refine wpList_run (by rfl) (run_loadBlk rfl rfl HG6.out.one (by kernel_rfl) (size_grant _)) ?_))
    refine (HLA.out _).mono ?_
    rw [HUL.out]
    rintro e w7 ⟨rfl, hb⟩
    have HG7 := Lib.hid (HG6.out.step hb)
    clear hb
    go_wp2_with fail
    refine (HKN.out _).mono ?_
    rintro e w9 ⟨rfl, hb⟩
    have HB9 := Lib.hid (HG7.out.below.trans (hb.mono HG7.out.below.size))
    clear hb
    go_wp2_with fail
    go_ret
    exact ⟨rfl, HB9.out⟩
  · have HVC := Lib.hid hcb
    have HVW := Lib.hid hwb
    have HVL := Lib.hid hlb
    have HUC := Lib.hid (hpc hcb)
    have HUW := Lib.hid (hpw hwb)
    clear hpc hpw hpl hcb hwb hlb
    go_wp2_with (first | (show wpList _ _ _ (⟨_, .call { callee := .builtin .max, args := _, argTypes := _ }, _, _, _, _⟩ :: _) _ _; refine wpList_run (by rfl) (run_max3 rfl rfl rfl rfl HM.out _) ?_) | (show wpList _ _ _ (⟨_, .load 23 (.tmp 5), _, _, _, _⟩ :: _) _ _; refine wpList_run (by rfl) (run_loadBlk rfl rfl HG1.out.one (by kernel_rfl) (size_grant _)) ?_) | (show wpList _ _ _ (⟨_, .load 23 (.tmp 6), _, _, _, _⟩ :: _) _ _; refine wpList_run (by rfl) (run_loadBlk rfl rfl HG1.out.two (by kernel_rfl) (size_grant _)) ?_))
    refine (HNW.out _).mono ?_
    rw [HN.out]
    rintro e w2 ⟨rfl, hb⟩
    have HG2 := Lib.hid (HG1.out.step hb)
    clear hb
    go_wp2_with (first | (show wpList _ _ _ (⟨_, .load 23 (.tmp 6), _, _, _, _⟩ :: _) _ _; refine wpList_run (by rfl) (run_loadBlk rfl rfl HG2.out.two (by kernel_rfl) (size_grant _)) ?_))
    refine (HCB.out _).mono ?_
    rw [HVC.out]
    rintro e w3 ⟨rfl, hb⟩
    have HG3 := Lib.hid (HG2.out.step hb)
    clear hb
    go_wp2_with (first | (show wpList _ _ _ (⟨_, .load 23 (.tmp 5), _, _, _, _⟩ :: _) _ _; refine wpList_run (by rfl) (run_loadBlk rfl rfl HG3.out.one (by kernel_rfl) (size_grant _)) ?_))
    refine (HCA.out _).mono ?_
    rw [HUC.out]
    rintro e w4 ⟨rfl, hb⟩
    have HG4 := Lib.hid (HG3.out.step hb)
    clear hb
    go_wp2_with (first | (show wpList _ _ _ (⟨_, .load 23 (.tmp 6), _, _, _, _⟩ :: _) _ _; refine wpList_run (by rfl) (run_loadBlk rfl rfl HG4.out.two (by kernel_rfl) (size_grant _)) ?_))
    refine (HWB.out _).mono ?_
    rw [HVW.out]
    rintro e w5 ⟨rfl, hb⟩
    have HG5 := Lib.hid (HG4.out.step hb)
    clear hb
    go_wp2_with (first | (show wpList _ _ _ (⟨_, .load 23 (.tmp 5), _, _, _, _⟩ :: _) _ _; refine wpList_run (by rfl) (run_loadBlk rfl rfl HG5.out.one (by kernel_rfl) (size_grant _)) ?_))
    refine (HWA.out _).mono ?_
    rw [HUW.out]
    rintro e w6 ⟨rfl, hb⟩
    have HG6 := Lib.hid (HG5.out.step hb)
    clear hb
    go_wp2_with (first | (show wpList _ _ _ (⟨_, .load 23 (.tmp 6), _, _, _, _⟩ :: _) _ _; refine wpList_run (by rfl) (run_loadBlk rfl rfl HG6.out.two (by kernel_rfl) (size_grant _)) ?_))
    refine (HLB.out _).mono ?_
    rw [HVL.out]
    rintro e w7 ⟨rfl, hb⟩
    have HG7 := Lib.hid (HG6.out.step hb)
    clear hb
    go_wp2_with fail
    refine (HKN.out _).mono ?_
    rintro e w9 ⟨rfl, hb⟩
    have HB9 := Lib.hid (HG7.out.below.trans (hb.mono HG7.out.below.size))
    clear hb
    go_wp2_with fail
    go_ret
    exact ⟨rfl, HB9.out⟩
  · have HVC := Lib.hid hcb
    have HVW := Lib.hid hwb
    have HVL := Lib.hid hlb
    have HUC := Lib.hid (hpc hcb)
    have HUW := Lib.hid (hpw hwb)
    have HUL := Lib.hid (hpl hlb)
    clear hpc hpw hpl hcb hwb hlb
    go_wp2_with (first | (show wpList _ _ _ (⟨_, .call { callee := .builtin .max, args := _, argTypes := _ }, _, _, _, _⟩ :: _) _ _; refine wpList_run (by rfl) (run_max3 rfl rfl rfl rfl HM.out _) ?_) | (show wpList _ _ _ (⟨_, .load 23 (.tmp 5), _, _, _, _⟩ :: _) _ _; refine wpList_run (by rfl) (run_loadBlk rfl rfl HG1.out.one (by kernel_rfl) (size_grant _)) ?_) | (show wpList _ _ _ (⟨_, .load 23 (.tmp 6), _, _, _, _⟩ :: _) _ _; refine wpList_run (by rfl) (run_loadBlk rfl rfl HG1.out.two (by kernel_rfl) (size_grant _)) ?_))
    refine (HNW.out _).mono ?_
    rw [HN.out]
    rintro e w2 ⟨rfl, hb⟩
    have HG2 := Lib.hid (HG1.out.step hb)
    clear hb
    go_wp2_with (first | (show wpList _ _ _ (⟨_, .load 23 (.tmp 6), _, _, _, _⟩ :: _) _ _; refine wpList_run (by rfl) (run_loadBlk rfl rfl HG2.out.two (by kernel_rfl) (size_grant _)) ?_))
    refine (HCB.out _).mono ?_
    rw [HVC.out]
    rintro e w3 ⟨rfl, hb⟩
    have HG3 := Lib.hid (HG2.out.step hb)
    clear hb
    go_wp2_with (first | (show wpList _ _ _ (⟨_, .load 23 (.tmp 5), _, _, _, _⟩ :: _) _ _; refine wpList_run (by rfl) (run_loadBlk rfl rfl HG3.out.one (by kernel_rfl) (size_grant _)) ?_))
    refine (HCA.out _).mono ?_
    rw [HUC.out]
    rintro e w4 ⟨rfl, hb⟩
    have HG4 := Lib.hid (HG3.out.step hb)
    clear hb
    go_wp2_with (first | (show wpList _ _ _ (⟨_, .load 23 (.tmp 6), _, _, _, _⟩ :: _) _ _; refine wpList_run (by rfl) (run_loadBlk rfl rfl HG4.out.two (by kernel_rfl) (size_grant _)) ?_))
    refine (HWB.out _).mono ?_
    rw [HVW.out]
    rintro e w5 ⟨rfl, hb⟩
    have HG5 := Lib.hid (HG4.out.step hb)
    clear hb
    go_wp2_with (first | (show wpList _ _ _ (⟨_, .load 23 (.tmp 5), _, _, _, _⟩ :: _) _ _; refine wpList_run (by rfl) (run_loadBlk rfl rfl HG5.out.one (by kernel_rfl) (size_grant _)) ?_))
    refine (HWA.out _).mono ?_
    rw [HUW.out]
    rintro e w6 ⟨rfl, hb⟩
    have HG6 := Lib.hid (HG5.out.step hb)
    clear hb
    go_wp2_with (first | (show wpList _ _ _ (⟨_, .load 23 (.tmp 6), _, _, _, _⟩ :: _) _ _; refine wpList_run (by rfl) (run_loadBlk rfl rfl HG6.out.two (by kernel_rfl) (size_grant _)) ?_))
    refine (HLB.out _).mono ?_
    rw [HVL.out]
    rintro e w7 ⟨rfl, hb⟩
    have HG7 := Lib.hid (HG6.out.step hb)
    clear hb
    go_wp2_with (first | (show wpList _ _ _ (⟨_, .load 23 (.tmp 5), _, _, _, _⟩ :: _) _ _; refine wpList_run (by rfl) (run_loadBlk rfl rfl HG7.out.one (by kernel_rfl) (size_grant _)) ?_))
    refine (HLA.out _).mono ?_
    rw [HUL.out]
    rintro e w8 ⟨rfl, hb⟩
    have HG8 := Lib.hid (HG7.out.step hb)
    clear hb
    go_wp2_with fail
    refine (HKN.out _).mono ?_
    rintro e w9 ⟨rfl, hb⟩
    have HB9 := Lib.hid (HG8.out.below.trans (hb.mono HG8.out.below.size))
    clear hb
    go_wp2_with fail
    go_ret
    exact ⟨rfl, HB9.out⟩
end Go.Proofs.Ytkfkdomjjepmdaa

/-
  RightLess, for any two grants, any rights, any stream and any time: the law returns true, and what came in reads afterwards as it read before. Without any condition.
-/
namespace Go.Proofs.Ytkfkdomjjepmdaa
open Go.ChangeShapes Go.WideShapes Go.ChangeAt Go.RowKit Go.Proofs.ShaWords

set_option maxRecDepth 100000 in
theorem rightLess_lifted (os : Os) (started : os.Started) (H : Type) (enc : TypeId × Value → H) :
    ReturnsInHanded {} Try.checked os 5 .any (Rows.rightLessSpec.pre6 enc Try.prog Try.f5 Rows.rightLessRow.domain false)
      (Rows.rightLessSpec.post enc Try.prog Try.f5 false true false false) := by
  refine returnsInHanded_of_change_sized (C := Try.checked) own started (by kernel_rfl) Try.func5
    (ChangeSpec.witness6 (enc := enc) (C := Try.checked) false ⟨#[], #[.agg #[.int .i64 0, .string ⟨#[]⟩, .bool false, .int .i64 0], .agg #[.int .i64 0, .string ⟨#[]⟩, .bool false, .int .i64 0], .int .i64 0, .string ⟨#[]⟩, .int .i64 0], []⟩ 8 (by kernel_rfl) (by kernel_rfl) (by kernel_rfl) (by kernel_rfl)) ?_
  intro W base args ds gs before hval0 hW _ hsz _
  have hW' := hW
  obtain ⟨p, q, hA0, hV, rfl, hfz, hnd⟩ := hW
  have hA : DataW.TrodAll enc Try.prog W 0 (fun _ => true) true Try.f5.params.toList args.toList ds p := hA0
  have hval : ∀ (j : Nat) t v, Try.f5.params[j]? = some t → args[j]? = some v → Value.okWide Try.prog W .any base t v := hval0
  have hsz2 : (DataW.weightsEach Try.prog (Try.f5.params.toList ++ Rows.rightLessSpec.plain.varTypes Try.prog) (ds ++ gs)).all (· ≤ reachBytes) = true := hsz
  rw [Try.params5] at hA hval hsz2
  obtain ⟨v0, vs0, d0, ds0, p0, q0, hargs, rfl, rfl, h0, r0⟩ := trodAll_cons hA
  obtain ⟨v1, vs1, d1, ds1, p1, q1, rfl, rfl, rfl, h1, r1⟩ := trodAll_cons r0
  obtain ⟨v2, vs2, d2, ds2, p2, q2, rfl, rfl, rfl, h2, r2⟩ := trodAll_cons r1
  obtain ⟨v3, vs3, d3, ds3, p3, q3, rfl, rfl, rfl, h3, r3⟩ := trodAll_cons r2
  obtain ⟨v4, vs4, d4, ds4, p4, q4, rfl, rfl, rfl, h4, r4⟩ := trodAll_cons r3
  obtain ⟨rfl, rfl, rfl⟩ := trodAll_nil r4
  obtain rfl : args = #[v0, v1, v2, v3, v4] := by cases args; simp_all
  obtain ⟨rfl, rfl⟩ := trodVars_none hV
  obtain ⟨cs0, rfl⟩ := okWide_grant (hval 0 23 v0 rfl rfl)
  have k0 := h0
  have lt0 : ∀ x ∈ p0, x.block < W.heap.size := by obtain ⟨m, hm⟩ := k0; exact DataW.trod_lt m _ _ _ hm
  obtain ⟨f0, hf0⟩ := h0
  obtain ⟨th0, hx0a, hx0b⟩ := open_grant hf0 (fun n hn => by have := List.all_eq_true.1 hsz2 n (DataW.weights_mem_each (j := 0) rfl rfl n hn); simpa using this)
  obtain rfl : cs0 = th0.cells.toArray := by rw [← hx0a]; rfl
  obtain ⟨cs1, rfl⟩ := okWide_grant (hval 1 23 v1 rfl rfl)
  have k1 := h1
  have lt1 : ∀ x ∈ p1, x.block < W.heap.size := by obtain ⟨m, hm⟩ := k1; exact DataW.trod_lt m _ _ _ hm
  obtain ⟨f1, hf1⟩ := h1
  obtain ⟨th1, hx1a, hx1b⟩ := open_grant hf1 (fun n hn => by have := List.all_eq_true.1 hsz2 n (DataW.weights_mem_each (j := 1) rfl rfl n hn); simpa using this)
  obtain rfl : cs1 = th1.cells.toArray := by rw [← hx1a]; rfl
  obtain ⟨z2, rfl, rfl, rfl, wz2⟩ := open_int Try.underlying3 (hval 2 3 v2 rfl rfl) h2
  obtain ⟨sv3, rfl⟩ := okWide_string Try.underlying9 (hval 3 9 v3 rfl rfl)
  have k3 := h3
  have lt3 : ∀ x ∈ p3, x.block < W.heap.size := by obtain ⟨m, hm⟩ := k3; exact DataW.trod_lt m _ _ _ hm
  obtain ⟨f3, hf3⟩ := h3
  obtain ⟨s3, hx3a, hx3b⟩ := open_strF hf3 (fun n hn => by have := List.all_eq_true.1 hsz2 n (DataW.weights_mem_each (j := 3) rfl rfl n hn); simpa using this)
  obtain rfl : s3 = sv3 := by simpa [Value.cells] using hx3a.symm
  obtain ⟨z4, rfl, rfl, rfl, wz4⟩ := open_int Try.underlying3 (hval 4 3 v4 rfl rfl) h4
  clear hA0 hval0
  refine (rightLess_any th0 th1 z2 s3 z4 W hx1b (wrap_wfK wz2)).mono fun e W' ⟨he, bel⟩ => ?_
  subst he
  exact ⟨_, rfl, _, _, _, [], _, [], hW', trodAll_mk1 (shut_bool Try.underlying4 _), (trodAll_cons_mk (Below.trod laidOut (by kernel_rfl) (of_decide_eq_true (by kernel_rfl)) k0 bel lt0) (trodAll_cons_mk (Below.trod laidOut (by kernel_rfl) (of_decide_eq_true (by kernel_rfl)) k1 bel lt1) (trodAll_cons_mk (shut_int Try.underlying3 wz2) (trodAll_cons_mk (Below.trod laidOut (by kernel_rfl) (of_decide_eq_true (by kernel_rfl)) k3 bel lt3) (trodAll_cons_mk (shut_int Try.underlying3 wz4) trodAll_mk0))))), rfl, bel.frame _, fun h => by cases h⟩

theorem rightLess_holds : Rows.RightLessSaid :=
  OpenClaim.holds_of_wide 5 Try.f5 rfl rfl rfl rfl rfl rfl rfl ⟨rfl, rfl, rfl, rfl, rfl⟩ rfl rfl rfl rfl rfl (by kernel_rfl) Try.func5 (by kernel_rfl)
    (of_decide_eq_true (by kernel_rfl)) (by unfold Func.isWrapper; first | (rw [if_pos (by decide +kernel)]; kernel_rfl) | (rw [if_neg (by decide +kernel)]; exact ⟨rfl, rfl⟩))
    (fun os started H enc _ => rightLess_lifted os started H enc)

#print axioms rightLess_holds
end Go.Proofs.Ytkfkdomjjepmdaa
