/-
  What other texts lean on: VtPut, VtZero, VtL, VtWorks, VtRow, VtBase, OpenKeys, VtInK.
-/
import Derived.Test.YtoidjapenompiaaDoorPkA
import Derived.Test.YtoidjapenompiaaDoorPkZ
import Derived.Test.YtoidjapenompiaaDoorPkB
import Derived.Test.YtoidjapenompiaaDoorPkD
import Derived.Test.YtoidjapenompiaaDoorPkG
import Derived.Test.YtoidjapenompiaaDoorPkH
import Derived.Test.YtoidjapenompiaaDoorPkI
import Derived.Deep.CutRange
import Derived.WalkKit
import Derived.ProofKit
import Derived.OpenShut
import Derived.ShutString
import Derived.ChangeOld
import Derived.Below
import Derived.LaidMore
import Derived.Lib.LaidTab
import Derived.Stop.Joined
/-
  The program's Put.
-/
namespace Go.Proofs.YtoidjapenompiaaDoor
open Go.RowKit Go.Proofs.ShaWords
section
variable {P : Program} {ops : Array Oper} {Q : Exit → Act → World → Prop} {i : Nat} {o : Oper} {d : Option Tmp} {a : Act} {w : World} {K : Act → World → Prop}
theorem t_enterV {f : FuncId} {args : Array Value} {R : Ending → World → Prop} (ho : ops[i]? = some o) (hd : o.dst = d) (hw : Region.wanted o (yielded ops a.tmps) = true) (hr : (execOp a.eval o).run P w = .ok (.enter f args) w) (hc : Calls P f args w R)
    (h : ∀ e w', R e w' → ∃ v, e = .returned v ∧ K (a.put d v) w') : wpOp P ops Q i K a w := by
  refine at_wp ho hw ?_
  unfold Oper.wp
  rw [hr, Oper.upon_enter]
  refine hc.mono ?_
  rintro e w' hR
  obtain ⟨v, rfl, h⟩ := h e w' hR
  rw [hd]
  exact h
end
section
variable {ρ : Operand → Value} {o : Oper} {x y : Operand}
theorem run_allocSlot (ho : o.op = .alloc 80) (w : World) : (execOp ρ o).run Tryd.prog w = .ok (.value (.pointer (some ⟨w.heap.size, 0, none⟩))) (w.alloc (.cells (bytesV (noughts 40)).toArray 80)) := by
  obtain ⟨dst, op, ty', pos, after, guard⟩ := o
  simp only at ho
  subst ho
  kernel_rfl
theorem run_loadVar {A v : Nat} {w : World} (ho : o.op = .load 28 x) (hx : ρ x = .pointer (some ⟨A, 0, none⟩)) (h : VarV w A v) : (execOp ρ o).run Tryd.prog w = .ok (.value (.pointer (some ⟨v, 0, none⟩))) w := by
  have hc := h.cell
  obtain ⟨dst, op, ty', pos, after, guard⟩ := o
  simp only at ho
  subst ho
  go_simp
end
/-- What is read ahead of the slot's bytes. -/
def PtS (A K v j : Nat) (k : List (BitVec 8)) (w : World) : Prop := VarV w A v ∧ BytesAt w K 36 k ∧ w.cell? ⟨v, 2561, none⟩ = some (.int .i64 (j : Int)) ∧ v < w.heap.size
theorem PtS.below {A K v j : Nat} {k : List (BitVec 8)} {w w' : World} (h : PtS A K v j k w) (hb : Below w.heap.size w w') : PtS A K v j k w' :=
  ⟨(hb.block A (Array.getElem?_eq_some_iff.1 h.1).1).trans h.1, h.2.1.keep hb, (hb.cell (p := ⟨v, 2561, none⟩) h.2.2.2).trans h.2.2.1, Nat.lt_of_lt_of_le h.2.2.2 hb.size⟩
theorem PtS.of {A K v j : Nat} {k : List (BitVec 8)} {w w' : World} (h : PtS A K v j k w.drew) (hb : Below w.heap.size w w') : PtS A K v j k w' := PtS.below (w := w.drew) h ⟨hb.os, hb.tape, hb.output, hb.size, hb.block⟩
/-- What Put leaves and answers. -/
def PutP (S : Nat → Prop) (v g : Nat) (d : DiskM) (l : List SlotV) (dead : Bool) (k : List (BitVec 8)) (w : World) (e : Ending) (w' : World) : Prop :=
  e = .returned (.tuple #[.int .i64 (if (putVt d l dead k).e = 0 then ((putVt d l dead k).l.length : Int) else 0), .int .i64 (putVt d l dead k).e]) ∧ VtGo S v g (putVt d l dead k).d (putVt d l dead k).l (putVt d l dead k).dead w w'
set_option maxRecDepth 100000 in
set_option maxHeartbeats 2000000 in
theorem vtPut_any {S : Nat → Prop} {v g : Nat} {d : DiskM} {l : List SlotV} {dead : Bool} (k : List (BitVec 8)) (w : World) (h : VtIn S w v g d l dead) (hk : k.length = 32) (hc : d.count < 999999000) (hR : Rem w) :
    Calls Tryd.prog 25 #[.pointer (some ⟨v, 0, none⟩), .agg (bytesV k).toArray] w fun e w' => PutP S v g d l dead k w e w' := by
  have HDM := Lib.hid h.dom
  have HC := Lib.hid (And.intro hc trivial)
  have HK := Lib.hid hk
  have HR := Lib.hid hR
  obtain ⟨W, hW⟩ : ∃ W, W = (w.alloc (.cells #[.pointer (some ⟨v, 0, none⟩)] 28)).alloc (.cells (bytesV k).toArray 36) := ⟨_, rfl⟩
  have hA : VarV W w.heap.size v := by rw [hW]; show _ = _; rw [Below.heap_alloc _ _ _ (by rw [size_alloc]; omega)]; exact heap_new_at rfl
  have hKB : BytesAt W (w.heap.size + 1) 36 k := by rw [hW]; exact heap_new_at (by rw [size_alloc])
  have hb0 : Below w.heap.size w W := by rw [hW]; exact ((Below.refl _ _).alloc (Nat.le_refl _) _).alloc (by rw [size_alloc]; omega) _
  have hI := h.below hb0
  obtain ⟨-, c1, c2, -⟩ := hI.cells
  have cA := hA.cell
  have HA := Lib.hid hA
  have HKB := Lib.hid hKB
  have HB0 := Lib.hid hb0
  have HI := Lib.hid hI
  have HWW := Lib.hid hW
  have HWSZ : Hid (W.heap.size = w.heap.size + 2) := show _ = _ by rw [hW, size_alloc, size_alloc]
  have hle := h.le
  clear h hk hc hR hA hKB hb0 hI hW
  cases dead with
  | true =>
    have HP : Hid (PutP S v g d l true k w (.returned (.tuple #[.int .i64 0, .int .i64 9])) W) := show PutP _ _ _ _ _ _ _ _ _ _ from ⟨rfl, VtGo.trans (S1 := S) (fun _ s => Or.inl s) (Below.stays HB0.out) (VtGo.refl HI.out)⟩
    clear c1 hle
    go_enter Tryd.func25, Tryd.ntmps25
    go_upto_region 1 with (fail)
    rw [← HWW.out]
    go_wp2_with fail
    go_ret2
    exact HP.out
  | false =>
    by_cases h64 : l.length = 64
    · have HP : Hid (PutP S v g d l false k w (.returned (.tuple #[.int .i64 0, .int .i64 3])) W) := show PutP _ _ _ _ _ _ _ _ _ _ from by
        have e : putVt d l false k = ⟨d, l, false, 3⟩ := by unfold putVt; rw [if_neg (by decide), if_pos h64]
        unfold PutP
        rw [e]
        exact ⟨rfl, VtGo.trans (S1 := S) (fun _ s => Or.inl s) (Below.stays HB0.out) (VtGo.refl HI.out)⟩
      rw [h64] at c1
      clear hle h64
      go_enter Tryd.func25, Tryd.ntmps25
      go_upto_region 1 with (fail)
      rw [← HWW.out]
      go_wp2_with fail
      go_ret2
      exact HP.out
    · have HJ : Hid (l.length < 64 ∧ True) := show _ ∧ _ from ⟨by omega, trivial⟩
      have hlt := HI.out.lt
      have HPS : Hid (PtS w.heap.size (w.heap.size + 1) v l.length k W.drew) := show PtS _ _ _ _ _ _ from ⟨HA.out, HKB.out, c1, hlt⟩
      have q64 : ((l.length : Int) == 64) = false := beq_eq_false_iff_ne.2 (by omega)
      have HP64 := Lib.hid h64
      obtain ⟨x, hx⟩ : ∃ x, slotB (some k) (l.length + 1) = x := ⟨_, rfl⟩
      have HX := Lib.hid hx
      have HX40 : Hid (x.length = 40) := show _ = _ by rw [← hx]; exact slotB_length (slotOk_some HK.out) _
      clear hle h64 hlt hx
      go_enter Tryd.func25, Tryd.ntmps25
      go_upto_region 1 with (fail)
      rw [← HWW.out]
      go_upto_region 5 with (fail)
      clear c1 c2 cA q64 HWW
      go_cut [2, 6] (fun s2 s6 wx => s2 = .pointer (some ⟨w.heap.size, 0, none⟩) ∧ ∃ T : Nat, s6 = .pointer (some ⟨T, 0, none⟩) ∧ W.heap.size ≤ T ∧ BytesAt wx T 80 x ∧ Below W.heap.size W wx)
      case first =>
        refine region_tree (PtS w.heap.size (w.heap.size + 1) v l.length k) (HPS.out) (.pure 0 (.pure 1 (.pure 2 (.pure 3 (.pure 4 (.pure 5 (.two 6 7 (.one 7 (.one 8 .nil)) (.one 6 (.one 8 .nil))))))))) (by kernel_rfl) (by kernel_rfl) (by kernel_rfl) (fun ops hops A hA => ?_)
        have hsz : A.tmps.size = 41 := by rw [hA]; rfl
        have base2 : A.eval (.tmp 2) = .pointer (some ⟨w.heap.size, 0, none⟩) := by rw [hA]; rfl
        have base3 : A.eval (.tmp 3) = .pointer (some ⟨w.heap.size + 1, 0, none⟩) := by rw [hA]; rfl
        have HAA := Lib.hid hA; clear hA
        obtain ⟨o0, po0, q0, d0, gd0⟩ : ∃ o, ops[0]? = some o ∧ o.op = .load 28 (.tmp 2) ∧ o.dst = some 19 ∧ o.guard = none := ⟨_, by rw [hops]; rfl, rfl, rfl, rfl⟩
        obtain ⟨o1, po1, q1, d1, gd1⟩ : ∃ o, ops[1]? = some o ∧ o.op = .nilCheck (.tmp 19) ∧ o.dst = some 20 ∧ o.guard = none := ⟨_, by rw [hops]; rfl, rfl, rfl, rfl⟩
        obtain ⟨o2, po2, q2, d2, gd2⟩ : ∃ o, ops[2]? = some o ∧ o.op = .fieldAddr 83 (.tmp 20) 2 ∧ o.dst = some 21 ∧ o.guard = none := ⟨_, by rw [hops]; rfl, rfl, rfl, rfl⟩
        obtain ⟨o3, po3, q3, d3, gd3⟩ : ∃ o, ops[3]? = some o ∧ o.op = .load 3 (.tmp 21) ∧ o.dst = some 22 ∧ o.guard = none := ⟨_, by rw [hops]; rfl, rfl, rfl, rfl⟩
        obtain ⟨o4, po4, q4, d4, gd4⟩ : ∃ o, ops[4]? = some o ∧ o.op = .binOp .add 3 (.tmp 22) (.const (.int .i64 1)) 3 ∧ o.dst = some 23 ∧ o.guard = none := ⟨_, by rw [hops]; rfl, rfl, rfl, rfl⟩
        obtain ⟨o5, po5, q5, d5, gd5⟩ : ∃ o, ops[5]? = some o ∧ o.op = .load 36 (.tmp 3) ∧ o.dst = some 24 ∧ o.guard = none := ⟨_, by rw [hops]; rfl, rfl, rfl, rfl⟩
        obtain ⟨o6, po6, q6, d6, gd6⟩ : ∃ o, ops[6]? = some o ∧ o.op = .call { callee := .value (.func 48), args := #[.tmp 23, .tmp 24], argTypes := #[3, 36] } ∧ o.dst = some 25 ∧ o.guard = none := ⟨_, by rw [hops]; rfl, rfl, rfl, rfl⟩
        obtain ⟨o7, po7, q7, d7, gd7⟩ : ∃ o, ops[7]? = some o ∧ o.op = .alloc 80 ∧ o.dst = some 6 ∧ o.guard = none := ⟨_, by rw [hops]; rfl, rfl, rfl, rfl⟩
        obtain ⟨o8, po8, q8, d8, gd8⟩ : ∃ o, ops[8]? = some o ∧ o.op = .store 80 (.tmp 6) (.tmp 25) ∧ o.dst = none ∧ o.guard = none := ⟨_, by rw [hops]; rfl, rfl, rfl, rfl⟩
        clear hops
        refine Tr.takes po0 d0 (wanted_of gd0) (fun w' h' => run_loadVar q0 base2 h'.1) ?_
        refine Tr.takes po1 d1 (wanted_of gd1) (fun w' h' => run_nilCheck q1 (eval_same _ _ _ (by rw [hsz]; decide)) w') ?_
        refine Tr.takes po2 d2 (wanted_of gd2) (fun w' h' => run_fieldT (off := 2561) q2 (fun _ => by kernel_rfl) (eval_same _ _ _ (by simp only [put_size, hsz]; decide)) w') ?_
        refine Tr.takes po3 d3 (wanted_of gd3) (fun w' h' => run_loadI3V q3 (eval_same _ _ _ (by simp only [put_size, hsz]; decide)) h'.2.2.1) ?_
        refine Tr.takes po4 d4 (wanted_of gd4) (fun w' h' => run_addOneV q4 (fun _ => rfl) (eval_same _ _ _ (by simp only [put_size, hsz]; decide)) (by have := HJ.out.1; omega) w') ?_
        refine Tr.takes po5 d5 (wanted_of gd5) (fun w' h' => run_loadKeyB q5 ((eval_other _ 23 3 _ (by decide)).trans ((eval_other _ 22 3 _ (by decide)).trans ((eval_other _ 21 3 _ (by decide)).trans ((eval_other _ 20 3 _ (by decide)).trans ((eval_other _ 19 3 _ (by decide)).trans base3))))) HK.out h'.2.1) ?_
        refine ⟨?_, ?_⟩
        · have _t := trivial
          refine t_enterV po6 d6 (wanted_of gd6) (run_callf2 q6 rfl ((eval_other _ 24 23 _ (by decide)).trans (eval_same _ _ _ (by simp only [put_size, hsz]; decide))) (eval_same _ _ _ (by simp only [put_size, hsz]; decide)) Tryd.func48 (by kernel_rfl) _) (slotOf_any k (l.length + 1) HK.out W.drew (HR.out.on HB0.out.drew)) ?_
          rintro e w2 ⟨rfl, b2⟩
          rw [HX.out]
          have HB2 : Hid (Below W.heap.size W w2) := show Below _ _ _ from (Below.refl _ W).drew.trans b2
          have HP2 := Lib.hid (HPS.out.below b2)
          clear b2
          refine ⟨_, rfl, HP2.out, ?_⟩
          refine at_op po7 d7 (wanted_of gd7) (run_allocSlot q7 w2) ?_
          have HP3 := Lib.hid (HP2.out.below ((Below.refl _ _).alloc (Nat.le_refl _) (.cells (bytesV (noughts 40)).toArray 80)))
          refine ⟨HP3.out, ?_⟩
          have HT : Hid ((w2.alloc (.cells (bytesV (noughts 40)).toArray 80)).heap[w2.heap.size]? = some (.cells (bytesV (noughts 40)).toArray 80 (0, 0))) := show _ = _ from heap_new_at rfl
          have HTS : Hid (W.heap.size ≤ w2.heap.size) := show _ ≤ _ from HB2.out.size
          have HBT : Hid (Below W.heap.size W (w2.alloc (.cells (bytesV (noughts 40)).toArray 80))) := show Below _ _ _ from HB2.out.trans ((Below.refl _ _).alloc HTS.out _)
          have HPF : Hid (PtS w.heap.size (w.heap.size + 1) v l.length k ((w2.alloc (.cells (bytesV (noughts 40)).toArray 80)).setRow w2.heap.size (bytesV x).toArray)) := show PtS _ _ _ _ _ _ from PtS.of HPS.out (below_setRow HBT.out HTS.out _)
          generalize w2.alloc (.cells (bytesV (noughts 40)).toArray 80) = w3 at HT HBT HPF ⊢
          refine at_wp po8 (wanted_of gd8) (wp_store_row 80 (.tmp 6) (.tmp 25) q8 w2.heap.size (bytesV x).toArray (eval_same _ _ _ (by simp only [put_size, hsz]; decide)) ((eval_other _ 6 25 _ (by decide)).trans (eval_same _ _ _ (by simp only [put_size, hsz]; decide))) 80 _ HT.out (infoSlot _ HX40.out) (by rw [bytesV_size _ 40 HX40.out, bytesV_size _ 40 (noughts_length 40)]) (bytesV_one x) ⟨HPF.out, ?_⟩)
          rw [d8]
          have HROW := Lib.hid (setRow_heap w3 w2.heap.size _ (bytesV x).toArray 80 _ HT.out)
          have HBF := Lib.hid (below_setRow HBT.out HTS.out (bytesV x).toArray)
          generalize w3.setRow w2.heap.size (bytesV x).toArray = wz at HROW HBF HPF ⊢
          show NoPanic _ .normal _ _
          refine NoPanic.normal ?_
          rw [HAA.out]
          go_frame
          clear HAA
          go_wp2_with fail
          go_meet
          exact ⟨rfl, w2.heap.size, rfl, HTS.out, HROW.out, HBF.out⟩
        · have _t := trivial
          refine at_op po7 d7 (wanted_of gd7) (run_allocSlot q7 W.drew) ?_
          have HP3 := Lib.hid (HPS.out.below ((Below.refl _ _).alloc (Nat.le_refl _) (.cells (bytesV (noughts 40)).toArray 80)))
          refine ⟨HP3.out, ?_⟩
          have HT0 : Hid ((W.drew.alloc (.cells (bytesV (noughts 40)).toArray 80)).heap[W.heap.size]? = some (.cells (bytesV (noughts 40)).toArray 80 (0, 0))) := show _ = _ from heap_new_at rfl
          have HTS : Hid (W.heap.size ≤ W.heap.size) := show _ ≤ _ from Nat.le_refl _
          have HBT0 : Hid (Below W.heap.size W (W.drew.alloc (.cells (bytesV (noughts 40)).toArray 80))) := show Below _ _ _ from (Below.refl _ W).drew.alloc (Nat.le_refl _) _
          generalize W.drew.alloc (.cells (bytesV (noughts 40)).toArray 80) = w3 at HT0 HBT0 HP3 ⊢
          refine t_enterV po6 d6 (wanted_of gd6) (run_callf2 q6 rfl ((eval_other _ 6 23 _ (by decide)).trans ((eval_other _ 24 23 _ (by decide)).trans (eval_same _ _ _ (by simp only [put_size, hsz]; decide)))) ((eval_other _ 6 24 _ (by decide)).trans (eval_same _ _ _ (by simp only [put_size, hsz]; decide))) Tryd.func48 (by kernel_rfl) _) (slotOf_any k (l.length + 1) HK.out w3 (HR.out.on (HB0.out.trans (HBT0.out.mono HB0.out.size)))) ?_
          rintro e w2 ⟨rfl, b2⟩
          rw [HX.out]
          have HBT : Hid (Below W.heap.size W w2) := show Below _ _ _ from HBT0.out.trans (b2.mono HBT0.out.size)
          have HT : Hid (w2.heap[W.heap.size]? = some (.cells (bytesV (noughts 40)).toArray 80 (0, 0))) := show _ = _ from (b2.block _ (Array.getElem?_eq_some_iff.1 HT0.out).1).trans HT0.out
          have HP2 := Lib.hid (HP3.out.below b2)
          clear b2
          have HPF : Hid (PtS w.heap.size (w.heap.size + 1) v l.length k (w2.setRow W.heap.size (bytesV x).toArray)) := show PtS _ _ _ _ _ _ from PtS.of HPS.out (below_setRow HBT.out HTS.out _)
          refine ⟨_, rfl, HP2.out, ?_⟩
          refine at_wp po8 (wanted_of gd8) (wp_store_row 80 (.tmp 6) (.tmp 25) q8 W.heap.size (bytesV x).toArray ((eval_other _ 25 6 _ (by decide)).trans (eval_same _ _ _ (by simp only [put_size, hsz]; decide))) (eval_same _ _ _ (by simp only [put_size, hsz]; decide)) 80 _ HT.out (infoSlot _ HX40.out) (by rw [bytesV_size _ 40 HX40.out, bytesV_size _ 40 (noughts_length 40)]) (bytesV_one x) ⟨HPF.out, ?_⟩)
          rw [d8]
          have HROW := Lib.hid (setRow_heap w2 W.heap.size _ (bytesV x).toArray 80 _ HT.out)
          have HBF := Lib.hid (below_setRow HBT.out HTS.out (bytesV x).toArray)
          generalize w2.setRow W.heap.size (bytesV x).toArray = wz at HROW HBF HPF ⊢
          show NoPanic _ .normal _ _
          refine NoPanic.normal ?_
          rw [HAA.out]
          go_frame
          clear HAA
          go_wp2_with fail
          go_meet
          exact ⟨rfl, W.heap.size, rfl, HTS.out, HROW.out, HBF.out⟩
      case rest =>
        obtain ⟨rfl, T, rfl, hT, hTB, hB⟩ := hcut
        have hIc := HI.out.below hB
        have hAc : VarV wc w.heap.size v := (hB.block _ (Array.getElem?_eq_some_iff.1 HA.out).1).trans HA.out
        have cAc := hAc.cell
        have hws : W.heap.size = w.heap.size + 2 := by
          have h1 := (Array.getElem?_eq_some_iff.1 HKB.out).1
          have h2 := HWSZ.out
          omega
        have HWS := Lib.hid hws
        have HBC := Lib.hid (HB0.out.trans (hB.mono HB0.out.size))
        have HTT := Lib.hid hT
        have HTB := Lib.hid hTB
        have HAC := Lib.hid hAc
        have HIC := Lib.hid hIc
        obtain ⟨A, hA⟩ : ∃ A, A = w.heap.size := ⟨_, rfl⟩
        rw [← hA] at HAC cAc HWS ⊢
        have HAE := Lib.hid hA
        have HTZ := Lib.hid hTB.size
        clear hIc hAc hws hB hT hTB hA HPS HI HA HKB HB0
        have HF1 : Hid (∀ F, wc.heap.size ≤ F → ¬ S F ∧ F ≠ v) := show ∀ _, _ → _ from fun F hF => by
          have e1 := HBC.out.size
          exact ⟨fun s => by have := HDM.out F (Or.inl s); omega, fun e => by have := HDM.out F (Or.inr e); omega⟩
        have HF2 : Hid (∀ w1, Stays (fun k => S k ∨ k = v) wc w1 → VarV w1 A v ∧ BytesAt w1 T 80 x) := show ∀ _, _ → _ from fun w1 hs => by
          have e1 := HAE.out
          have e2 := HWS.out
          have e3 := HTT.out
          exact ⟨HAC.out.stay hs (fun s => by have := HDM.out A s; omega), (hs.block T HTZ.out (fun s => by have := HDM.out T s; omega)).trans HTB.out⟩
        obtain ⟨d1, e1, hwr⟩ : ∃ d1 e1, d.write 0 x = (d1, e1) := ⟨_, _, rfl⟩
        obtain ⟨d2, e2, hsy⟩ : ∃ d2 e2, d1.sync 0 = (d2, e2) := ⟨_, _, rfl⟩
        have hc1 : d1.count < 1000000000 := by
          have h := write_count d 0 x
          rw [hwr] at h
          have h' : d1.count ≤ d.count + 1 := h
          have := HC.out.1
          omega
        have HC1 := Lib.hid (And.intro hc1 trivial)
        have HWR := Lib.hid hwr
        have HSY := Lib.hid hsy
        clear hwr hsy hc1
        go_wp2_with (go_at_call 49; fail)
        have hb4 : Below wc.heap.size wc (wc.alloc (.cells #[.func (.func 50) #[] #[.pointer (some ⟨A, 0, none⟩), .pointer (some ⟨T, 0, none⟩)], .func (.func 51) #[] #[.pointer (some ⟨A, 0, none⟩)]] 90)) := (Below.refl _ _).alloc (Nat.le_refl _) _
        refine (vtRun2 (d1 := d1) (d2 := d2) (e1 := e1) (e2 := e2) 50 51 Tryd.f50 Tryd.f51 #[.pointer (some ⟨A, 0, none⟩), .pointer (some ⟨T, 0, none⟩)] #[.pointer (some ⟨A, 0, none⟩)] 2 wc.heap.size _ (HIC.out.below hb4) (fns_new2 wc _ _ _ _) (HF1.out _ (Nat.le_refl _)) Tryd.func50 (by kernel_rfl) Tryd.func51 (by kernel_rfl)
          (fun S1 w1 h1 hs => by
            have hv := HF2.out w1 ((Below.stays hb4).trans hs (fun _ f _ => f))
            have := vtPut1_any x h1 hv.1 hv.2 HX40.out (by have := HC.out.1; omega)
            rwa [HWR.out] at this)
          (fun S1 w1 h1 hs => by
            have hv := HF2.out w1 ((Below.stays hb4).trans hs (fun _ f _ => f))
            have := vtPut2_any h1 hv.1 HC1.out.1
            rwa [HSY.out] at this)).mono ?_
        rintro e w5 ⟨rfl, hg⟩
        have hb5 := hb4
        have hf5 : ∀ w1, VtGo S v g (if e1 ≠ 0 then d1 else d2) l (false || decide ((if e1 ≠ 0 then e1 else e2) = 9)) (wc.alloc (.cells #[.func (.func 50) #[] #[.pointer (some ⟨A, 0, none⟩), .pointer (some ⟨T, 0, none⟩)], .func (.func 51) #[] #[.pointer (some ⟨A, 0, none⟩)]] 90)) w1 → VarV w1 A v ∧ BytesAt w1 T 80 x := fun w1 h => by
          obtain ⟨_, _, _, hs⟩ := h
          exact HF2.out w1 ((Below.stays hb5).trans hs (fun _ f _ => f))
        obtain ⟨hA5, hT5⟩ := hf5 w5 hg
        rw [Bool.false_or] at hg
        obtain ⟨S5, hI5, hS5, hst5⟩ := hg
        have hA5n : ¬ (S5 A ∨ A = v) := fun f => by
          have e1 := HAE.out
          rcases f with f | f
          · rcases hS5 A f with s | s
            · have := HDM.out A (Or.inl s); omega
            · have h2 := (Array.getElem?_eq_some_iff.1 HAC.out).1
              have h3 := hb4.size
              omega
          · have := HDM.out A (Or.inr f); omega
        have HAN := Lib.hid hA5n
        have hbw : Below w.heap.size w _ := HBC.out.trans (hb4.mono HBC.out.size)
        have HS5 : Hid (∀ k, S5 k → S k ∨ w.heap.size ≤ k) := show ∀ _, _ → _ from fun k s => (hS5 k s).imp id (fun h => Nat.le_trans hbw.size h)
        have HST5 : Hid (Stays (fun k => S k ∨ k = v) w w5) := show Stays _ _ _ from (Below.stays (F := fun k => S k ∨ k = v) hbw).trans hst5 (fun _ f _ => f)
        have HI5 := Lib.hid hI5
        have cA5 := hA5.cell
        have HA5 := Lib.hid hA5
        have HRT := Lib.hid (range_bytesV (show w5.heap[T]? = some (.cells (bytesV x).toArray 80 (0, 0)) from hT5))
        have HPV : Hid (putVt d l false k = if (if e1 ≠ 0 then e1 else e2) ≠ 0 then ⟨if e1 ≠ 0 then d1 else d2, l, decide ((if e1 ≠ 0 then e1 else e2) = 9), if e1 ≠ 0 then e1 else e2⟩ else ⟨d2, l ++ [some k], false, 0⟩) := show _ = _ from by
          unfold putVt
          rw [if_neg (by decide), if_neg HP64.out, HX.out, HWR.out]
          dsimp only
          by_cases h0 : e1 = 0
          · subst h0
            rw [HSY.out]
            rfl
          · simp only [ne_eq, h0, not_false_eq_true, if_true]
        clear hI5 hS5 hst5 hA5n hbw hb4 hb5 hf5 hA5 hT5 HIC HF1 HF2 HAC HTB HTZ HTT cAc
        obtain ⟨d3, hd3⟩ : ∃ d3, (if e1 ≠ 0 then d1 else d2) = d3 := ⟨_, rfl⟩
        have hd2 : (if e1 ≠ 0 then e1 else e2) = 0 → d2 = d3 := fun h => by
          rw [← hd3]
          by_cases h0 : e1 = 0
          · rw [if_neg (fun h => h h0)]
          · rw [if_pos h0] at h; exact absurd h h0
        rw [hd3] at HI5 HPV
        clear hd3
        generalize (if e1 ≠ 0 then e1 else e2) = e3 at *
        by_cases h0 : e3 = 0
        · obtain rfl := hd2 h0
          subst h0
          have hdd : decide ((0 : Int) = 9) = false := rfl
          rw [hdd] at HI5
          have HPV2 : Hid (putVt d l false k = ⟨d2, l ++ [some k], false, 0⟩) := show _ = _ by rw [HPV.out, if_neg (fun h => h rfl)]
          clear HPV hdd hd2
          have hadd := vtAdd_any (some k) w5 HI5.out (slotOk_some HK.out) HJ.out.1
          rw [HX.out] at hadd
          have HADD := Lib.hid hadd
          clear hadd
          go_wp2_with (first
            | (show wpList _ _ _ (⟨_, .load 80 _, _, _, _, _⟩ :: _) _ _; refine wpList_runV (by rfl) (run_loadSlotV (x := .tmp 6) rfl rfl HX40.out HRT.out) ?_)
            | (go_at_call 53; fail))
          refine HADD.out.mono ?_
          rintro e w6 ⟨rfl, hg6⟩
          have hA6 : VarV w6 A v := by
            obtain ⟨_, _, _, hs⟩ := hg6
            exact HA5.out.stay hs HAN.out
          have cA6 := hA6.cell
          have HG6 := Lib.hid (VtGo.trans HS5.out HST5.out hg6)
          have c16 : w6.cell? ⟨v, 2561, none⟩ = some (.int .i64 ((l.length + 1 : Nat) : Int)) := by
            obtain ⟨_, hI6, _, _⟩ := hg6
            have := hI6.cells.2.1
            rwa [List.length_append] at this
          clear hg6 hA6 HADD HRT cA5
          go_wp2_with fail
          go_ret2
          unfold PutP
          rw [HPV2.out]
          refine ⟨?_, HG6.out⟩
          dsimp only
          rw [if_pos rfl, List.length_append]
          rfl
        · have HPV2 : Hid (putVt d l false k = ⟨d3, l, decide (e3 = 9), e3⟩) := show _ = _ by rw [HPV.out, if_pos h0]
          have q0 : (e3 == 0) = false := beq_eq_false_iff_ne.2 h0
          have HNE := Lib.hid h0
          clear HPV hd2 h0
          go_wp2_with fail
          go_ret2
          unfold PutP
          rw [HPV2.out]
          refine ⟨?_, ⟨S5, HI5.out, HS5.out, HST5.out⟩⟩
          dsimp only
          rw [if_neg HNE.out]
          rfl
end Go.Proofs.YtoidjapenompiaaDoor

/-
  The program's Zero.
-/
namespace Go.Proofs.YtoidjapenompiaaDoor
open Go.RowKit Go.Proofs.ShaWords
section
variable {ρ : Operand → Value} {o : Oper} {x y : Operand}
theorem run_subOneV {i : Nat} (ho : o.op = .binOp .sub 3 x (.const (.int .i64 1)) 3) (h0 : ∀ u, ρ (.const u) = u) (hx : ρ x = .int .i64 ((i : Int) + 1)) (hn : i ≤ 1000000) (w : World) : (execOp ρ o).run Tryd.prog w = .ok (.value (.int .i64 (i : Int))) w := by
  obtain ⟨dst, op, ty', pos, after, guard⟩ := o
  simp only at ho
  subst ho
  have h := IntWalk.i64_in ((i : Int) + 1 - 1) (by omega)
  have h1 := h0 (.int .i64 1)
  have h2 : (i : Int) + 1 - 1 = (i : Int) := by omega
  rw [h2] at h
  go_simp
theorem run_storeSlotV {b off : Nat} {l : List (BitVec 8)} {w : World} (ho : o.op = .store 80 x y) (hx : ρ x = .pointer (some ⟨b, off, none⟩)) (hy : ρ y = .agg (bytesV l).toArray) (hl : l.length = 40) (ht : w.there b off 40) :
    (execOp ρ o).run Tryd.prog w = .ok .skip (w.setCells b off (bytesV l)) := by
  have h := run_storeAt_mid (P := Tryd.prog) w b off 80 (bytesV l).toArray (by rw [bytesV_size _ 40 hl]; exact ht) (infoSlot l hl) (bytesV_one l)
  unfold execOp
  simp only [ho, hx, hy, Sem.run_bind, h, Result.andThen_ok, Sem.run_pure]
end
theorem vars_stay {F : Nat → Prop} {A B E v : Nat} {z : Int} {l : List (BitVec 8)} {w w' : World} (h : VarV w A v ∧ VarI w B z ∧ BytesAt w E 80 l) (hs : Stays F w w') (h1 : ¬ F A) (h2 : ¬ F B) (h3 : ¬ F E) : VarV w' A v ∧ VarI w' B z ∧ BytesAt w' E 80 l :=
  ⟨h.1.stay hs h1, h.2.1.stay hs h2, (hs.block _ h.2.2.size h3).trans h.2.2⟩
/-- What is read amid Zero. -/
structure ZrS (A B E v i : Nat) (x : List (BitVec 8)) (w : World) : Prop where
  a : VarV w A v
  b : VarI w B ((i : Int) + 1)
  e : BytesAt w E 80 (noughts 40)
  x : w.rangeAt v (1 + i * 40) (bytesV x)
/-- What Zero leaves and answers. -/
def ZeroP (S : Nat → Prop) (v g : Nat) (d : DiskM) (l : List SlotV) (dead : Bool) (z : Int) (w : World) (e : Ending) (w' : World) : Prop :=
  e = .returned (.int .i64 (zeroVt d l dead z).e) ∧ VtGo S v g (zeroVt d l dead z).d (zeroVt d l dead z).l (zeroVt d l dead z).dead w w'
set_option maxRecDepth 100000 in
set_option maxHeartbeats 2000000 in
theorem vtZero_any {S : Nat → Prop} {v g : Nat} {d : DiskM} {l : List SlotV} {dead : Bool} (z : Int) (w : World) (h : VtIn S w v g d l dead) (hc : d.count < 999999000) :
    Calls Tryd.prog 27 #[.pointer (some ⟨v, 0, none⟩), .int .i64 z] w fun e w' => ZeroP S v g d l dead z w e w' := by
  have HDM := Lib.hid h.dom
  have HC := Lib.hid (And.intro hc trivial)
  obtain ⟨W, hW⟩ : ∃ W, W = ((w.alloc (.cells #[.pointer (some ⟨v, 0, none⟩)] 28)).alloc (.cells #[.int .i64 z] 3)).alloc (.cells (bytesV (noughts 40)).toArray 80) := ⟨_, rfl⟩
  have hA : VarV W w.heap.size v := by rw [hW]; exact alloc3_1 _ _ _ _
  have hB : VarI W (w.heap.size + 1) z := by rw [hW]; exact alloc3_2 _ _ _ _
  have hE : BytesAt W (w.heap.size + 1 + 1) 80 (noughts 40) := by rw [hW]; exact alloc3_3 _ _ _ _
  have hb0 : Below w.heap.size w W := by rw [hW]; exact alloc3_below _ _ _ _
  have HWSZ : Hid (W.heap.size = w.heap.size + 3) := show _ = _ by rw [hW, size_alloc, size_alloc, size_alloc]
  have hI := h.below hb0
  obtain ⟨-, -, c2, -⟩ := hI.cells
  have cA := hA.cell
  have cB := hB.cell
  have HGEN : ∀ Q : World → Prop, Q W → Q (((w.alloc (.cells #[.pointer (some ⟨v, 0, none⟩)] 28)).alloc (.cells #[.int .i64 z] 3)).alloc (.cells (bytesV (noughts 40)).toArray 80)) := fun Q h => by rw [← hW]; exact h
  have HGENH := Lib.hid HGEN
  have HA := Lib.hid hA
  have HB := Lib.hid hB
  have HE := Lib.hid hE
  have HB0 := Lib.hid hb0
  have HI := Lib.hid hI
  have HHAS := Lib.hid (vtHas_any z W hI)
  clear h hc hA hB hE hb0 hI hW HGEN
  cases dead with
  | true =>
    have HP : Hid (ZeroP S v g d l true z w (.returned (.int .i64 9)) W) := show ZeroP _ _ _ _ _ _ _ _ _ _ from ⟨rfl, VtGo.trans (S1 := S) (fun _ s => Or.inl s) (Below.stays HB0.out) (VtGo.refl HI.out)⟩
    clear cB
    go_enter Tryd.func27, Tryd.ntmps27
    go_upto_region 2 with (fail)
    refine HGENH.out _ ?_
    go_wp2_with fail
    go_ret
    exact HP.out
  | false =>
    by_cases hz : 1 ≤ z ∧ z ≤ (l.length : Int)
    · obtain ⟨i, rfl⟩ : ∃ i : Nat, z = (i : Int) + 1 := ⟨(z - 1).toNat, by omega⟩
      have hi : i < l.length := by omega
      have hle := HI.out.le
      have HH := Lib.hid (decide_eq_true hz)
      rw [HH.out] at HHAS
      have hso := HI.out.slots _ (List.getElem_mem hi)
      have hx40 := slotB_length hso (i + 1)
      have hrg := HI.out.slot i hi
      have HI64 : Hid (i < 64 ∧ i < l.length) := show _ ∧ _ from ⟨by omega, hi⟩
      have hzr : zeroVt d l false ((i : Int) + 1) = if l[i] = none then ⟨d, l, false, 0⟩ else if (d.over 0 (40 * (i : Int)) (List.replicate 40 0#8)).2 ≠ 0 then ⟨(d.over 0 (40 * (i : Int)) (List.replicate 40 0#8)).1, l, decide ((d.over 0 (40 * (i : Int)) (List.replicate 40 0#8)).2 = 9), (d.over 0 (40 * (i : Int)) (List.replicate 40 0#8)).2⟩ else ⟨(d.over 0 (40 * (i : Int)) (List.replicate 40 0#8)).1, l.set i none, false, 0⟩ := by
        unfold zeroVt
        rw [if_neg (by decide), if_neg (by omega), show (i : Int) + 1 - 1 = (i : Int) by omega, Int.toNat_natCast, getD_atV hi]
      obtain ⟨sl, hsl⟩ : ∃ sl, l[i] = sl := ⟨_, rfl⟩
      rw [hsl] at hzr hso hx40 hrg
      have HZR := Lib.hid hzr
      have hxz : decide (slotB sl (i + 1) = noughts 40) = decide (sl = none) := by
        cases sl with
        | none => rfl
        | some k =>
          have hne : slotB (some k) (i + 1) ≠ noughts 40 := slotB_key (hso k rfl) (by omega) (by omega)
          rw [decide_eq_false hne, decide_eq_false (by simp)]
      obtain ⟨x, hx⟩ : ∃ x, slotB sl (i + 1) = x := ⟨_, rfl⟩
      rw [hx] at hx40 hrg hxz
      have HX40 := Lib.hid hx40
      have HXZ := Lib.hid hxz
      have HZS : Hid (ZrS w.heap.size (w.heap.size + 1) (w.heap.size + 1 + 1) v i x W) := show ZrS _ _ _ _ _ _ _ from ⟨HA.out, HB.out, HE.out, hrg⟩
      have HZD : Hid (ZrS w.heap.size (w.heap.size + 1) (w.heap.size + 1 + 1) v i x W.drew) := show ZrS _ _ _ _ _ _ _ from ⟨HA.out, HB.out, HE.out, hrg⟩
      clear hz hle HH hso hx40 hrg hzr hxz hx hsl hi
      cases sl with
      | none =>
        have HZ : Hid (decide (x = noughts 40) = true) := show _ = _ by rw [HXZ.out]; rfl
        have HP : Hid (ZeroP S v g d l false ((i : Int) + 1) w (.returned (.int .i64 0)) W.drew) := show ZeroP _ _ _ _ _ _ _ _ _ _ from by
          unfold ZeroP
          rw [HZR.out, if_pos rfl]
          exact ⟨rfl, VtGo.trans (S1 := S) (fun _ s => Or.inl s) (Below.stays HB0.out.drew) (VtGo.refl HI.out.drew)⟩
        go_enter Tryd.func27, Tryd.ntmps27
        go_upto_region 2 with (fail)
        refine HGENH.out _ ?_
        go_upto_region 6 with (go_at_call 44; refine HHAS.out.mono ?_; rintro e w1 ⟨rfl, rfl⟩)
        refine region_phase (ZrS w.heap.size (w.heap.size + 1) (w.heap.size + 1 + 1) v i x) (fun _ => True) 99 (HZD.out) trivial [(0, .free), (1, .free), (2, .free), (3, .free), (4, .free), (5, .free), (6, .free), (7, .free), (8, .free), (9, .free)] (by kernel_rfl) (by kernel_rfl) (by kernel_rfl) (by kernel_rfl) (fun ops hops A hA => ?_)
        have hsz : A.tmps.size = 41 := by rw [hA]; rfl
        have base2 : A.eval (.tmp 2) = .pointer (some ⟨w.heap.size, 0, none⟩) := by rw [hA]; rfl
        have base3 : A.eval (.tmp 3) = .pointer (some ⟨w.heap.size + 1, 0, none⟩) := by rw [hA]; rfl
        have base5 : A.eval (.tmp 5) = .pointer (some ⟨w.heap.size + 1 + 1, 0, none⟩) := by rw [hA]; rfl
        have HAA := Lib.hid hA; clear hA
        obtain ⟨o0, po0, q0, d0, gd0⟩ : ∃ o, ops[0]? = some o ∧ o.op = .load 28 (.tmp 2) ∧ o.dst = some 18 ∧ o.guard = none := ⟨_, by rw [hops]; rfl, rfl, rfl, rfl⟩
        obtain ⟨o1, po1, q1, d1, gd1⟩ : ∃ o, ops[1]? = some o ∧ o.op = .load 3 (.tmp 3) ∧ o.dst = some 19 ∧ o.guard = none := ⟨_, by rw [hops]; rfl, rfl, rfl, rfl⟩
        obtain ⟨o2, po2, q2, d2, gd2⟩ : ∃ o, ops[2]? = some o ∧ o.op = .binOp .sub 3 (.tmp 19) (.const (.int .i64 1)) 3 ∧ o.dst = some 20 ∧ o.guard = none := ⟨_, by rw [hops]; rfl, rfl, rfl, rfl⟩
        obtain ⟨o3, po3, q3, d3, gd3⟩ : ∃ o, ops[3]? = some o ∧ o.op = .nilCheck (.tmp 18) ∧ o.dst = some 21 ∧ o.guard = none := ⟨_, by rw [hops]; rfl, rfl, rfl, rfl⟩
        obtain ⟨o4, po4, q4, d4, gd4⟩ : ∃ o, ops[4]? = some o ∧ o.op = .fieldAddr 83 (.tmp 21) 1 ∧ o.dst = some 22 ∧ o.guard = none := ⟨_, by rw [hops]; rfl, rfl, rfl, rfl⟩
        obtain ⟨o5, po5, q5, d5, gd5⟩ : ∃ o, ops[5]? = some o ∧ o.op = .indexAddr 81 (.tmp 22) (.tmp 20) ∧ o.dst = some 23 ∧ o.guard = none := ⟨_, by rw [hops]; rfl, rfl, rfl, rfl⟩
        obtain ⟨o6, po6, q6, d6, gd6⟩ : ∃ o, ops[6]? = some o ∧ o.op = .load 80 (.tmp 23) ∧ o.dst = some 24 ∧ o.guard = none := ⟨_, by rw [hops]; rfl, rfl, rfl, rfl⟩
        obtain ⟨o7, po7, q7, d7, gd7⟩ : ∃ o, ops[7]? = some o ∧ o.op = .load 80 (.tmp 5) ∧ o.dst = some 25 ∧ o.guard = none := ⟨_, by rw [hops]; rfl, rfl, rfl, rfl⟩
        obtain ⟨o8, po8, q8, d8, gd8⟩ : ∃ o, ops[8]? = some o ∧ o.op = .binOp .eql 80 (.tmp 24) (.tmp 25) 80 ∧ o.dst = some 26 ∧ o.guard = none := ⟨_, by rw [hops]; rfl, rfl, rfl, rfl⟩
        obtain ⟨o9, po9, q9, d9, gd9⟩ : ∃ o, ops[9]? = some o ∧ o.op = .assign (.tmp 26) ∧ o.dst = some 17 ∧ o.guard = none := ⟨_, by rw [hops]; rfl, rfl, rfl, rfl⟩
        clear hops
        refine met_free po0 d0 (wanted_of gd0) (fun w' h' => run_loadVar q0 base2 h'.a) ?_
        refine met_free po1 d1 (wanted_of gd1) (fun w' h' => run_loadI3V q1 ((eval_other _ 18 3 _ (by decide)).trans base3) h'.b.cell) ?_
        refine met_free po2 d2 (wanted_of gd2) (fun w' h' => run_subOneV q2 (fun _ => rfl) (eval_same _ _ _ (by simp only [put_size, hsz]; decide)) (by have := HI64.out.1; omega) w') ?_
        refine met_free po3 d3 (wanted_of gd3) (fun w' h' => run_nilCheck q3 ((eval_other _ 20 18 _ (by decide)).trans ((eval_other _ 19 18 _ (by decide)).trans (eval_same _ _ _ (by rw [hsz]; decide)))) w') ?_
        refine met_free po4 d4 (wanted_of gd4) (fun w' h' => run_fieldT (off := 1) q4 (fun _ => by kernel_rfl) (eval_same _ _ _ (by simp only [put_size, hsz]; decide)) w') ?_
        refine met_free po5 d5 (wanted_of gd5) (fun w' h' => run_ixSlotV q5 (eval_same _ _ _ (by simp only [put_size, hsz]; decide)) ((eval_other _ 22 20 _ (by decide)).trans ((eval_other _ 21 20 _ (by decide)).trans (eval_same _ _ _ (by simp only [put_size, hsz]; decide)))) HI64.out.1 w') ?_
        refine met_free po6 d6 (wanted_of gd6) (fun w' h' => run_loadSlotV q6 (eval_same _ _ _ (by simp only [put_size, hsz]; decide)) HX40.out h'.x) ?_
        refine met_free po7 d7 (wanted_of gd7) (fun w' h' => run_loadSlotV q7 ((eval_other _ 24 5 _ (by decide)).trans ((eval_other _ 23 5 _ (by decide)).trans ((eval_other _ 22 5 _ (by decide)).trans ((eval_other _ 21 5 _ (by decide)).trans ((eval_other _ 20 5 _ (by decide)).trans ((eval_other _ 19 5 _ (by decide)).trans ((eval_other _ 18 5 _ (by decide)).trans base5))))))) (noughts_length 40) (range_bytesV h'.e)) ?_
        refine met_free po8 d8 (wanted_of gd8) (fun w' h' => run_eqSlotT q8 HX40.out (noughts_length 40) ((eval_other _ 25 24 _ (by decide)).trans (eval_same _ _ _ (by simp only [put_size, hsz]; decide))) (eval_same _ _ _ (by simp only [put_size, hsz]; decide)) HZ.out w') ?_
        refine met_free po9 d9 (wanted_of gd9) (fun w' h' => run_assign q9 (eval_same _ _ _ (by simp only [put_size, hsz]; decide)) w') ?_
        show NoPanic _ .normal _ _
        refine NoPanic.normal ?_
        rw [HAA.out]
        go_frame
        clear HAA
        clear po0 q0 d0 gd0 po1 q1 d1 gd1 po2 q2 d2 gd2 po3 q3 d3 gd3 po4 q4 d4 gd4 po5 q5 d5 gd5 po6 q6 d6 gd6 po7 q7 d7 gd7 po8 q8 d8 gd8 po9 q9 d9 gd9
        clear base2 base3 base5 hsz
        go_wp2_with fail
        go_ret
        exact HP.out
      | some k =>
        have HZ : Hid (decide (x = noughts 40) = false) := show _ = _ by rw [HXZ.out]; rfl
        obtain ⟨d1, e1, hov⟩ : ∃ d1 e1, d.over 0 (40 * (i : Int)) (List.replicate 40 0#8) = (d1, e1) := ⟨_, _, rfl⟩
        rw [hov, if_neg (by simp)] at HZR
        have HOV := Lib.hid hov
        clear hov
        go_enter Tryd.func27, Tryd.ntmps27
        go_upto_region 2 with (fail)
        refine HGENH.out _ ?_
        go_upto_region 6 with (go_at_call 44; refine HHAS.out.mono ?_; rintro e w1 ⟨rfl, rfl⟩)
        refine region_phase (ZrS w.heap.size (w.heap.size + 1) (w.heap.size + 1 + 1) v i x) (fun _ => True) 99 (HZD.out) trivial [(0, .free), (1, .free), (2, .free), (3, .free), (4, .free), (5, .free), (6, .free), (7, .free), (8, .free), (9, .free)] (by kernel_rfl) (by kernel_rfl) (by kernel_rfl) (by kernel_rfl) (fun ops hops A hA => ?_)
        have hsz : A.tmps.size = 41 := by rw [hA]; rfl
        have base2 : A.eval (.tmp 2) = .pointer (some ⟨w.heap.size, 0, none⟩) := by rw [hA]; rfl
        have base3 : A.eval (.tmp 3) = .pointer (some ⟨w.heap.size + 1, 0, none⟩) := by rw [hA]; rfl
        have base5 : A.eval (.tmp 5) = .pointer (some ⟨w.heap.size + 1 + 1, 0, none⟩) := by rw [hA]; rfl
        have HAA := Lib.hid hA; clear hA
        obtain ⟨o0, po0, q0, d0, gd0⟩ : ∃ o, ops[0]? = some o ∧ o.op = .load 28 (.tmp 2) ∧ o.dst = some 18 ∧ o.guard = none := ⟨_, by rw [hops]; rfl, rfl, rfl, rfl⟩
        obtain ⟨o1, po1, q1, d1, gd1⟩ : ∃ o, ops[1]? = some o ∧ o.op = .load 3 (.tmp 3) ∧ o.dst = some 19 ∧ o.guard = none := ⟨_, by rw [hops]; rfl, rfl, rfl, rfl⟩
        obtain ⟨o2, po2, q2, d2, gd2⟩ : ∃ o, ops[2]? = some o ∧ o.op = .binOp .sub 3 (.tmp 19) (.const (.int .i64 1)) 3 ∧ o.dst = some 20 ∧ o.guard = none := ⟨_, by rw [hops]; rfl, rfl, rfl, rfl⟩
        obtain ⟨o3, po3, q3, d3, gd3⟩ : ∃ o, ops[3]? = some o ∧ o.op = .nilCheck (.tmp 18) ∧ o.dst = some 21 ∧ o.guard = none := ⟨_, by rw [hops]; rfl, rfl, rfl, rfl⟩
        obtain ⟨o4, po4, q4, d4, gd4⟩ : ∃ o, ops[4]? = some o ∧ o.op = .fieldAddr 83 (.tmp 21) 1 ∧ o.dst = some 22 ∧ o.guard = none := ⟨_, by rw [hops]; rfl, rfl, rfl, rfl⟩
        obtain ⟨o5, po5, q5, d5, gd5⟩ : ∃ o, ops[5]? = some o ∧ o.op = .indexAddr 81 (.tmp 22) (.tmp 20) ∧ o.dst = some 23 ∧ o.guard = none := ⟨_, by rw [hops]; rfl, rfl, rfl, rfl⟩
        obtain ⟨o6, po6, q6, d6, gd6⟩ : ∃ o, ops[6]? = some o ∧ o.op = .load 80 (.tmp 23) ∧ o.dst = some 24 ∧ o.guard = none := ⟨_, by rw [hops]; rfl, rfl, rfl, rfl⟩
        obtain ⟨o7, po7, q7, d7, gd7⟩ : ∃ o, ops[7]? = some o ∧ o.op = .load 80 (.tmp 5) ∧ o.dst = some 25 ∧ o.guard = none := ⟨_, by rw [hops]; rfl, rfl, rfl, rfl⟩
        obtain ⟨o8, po8, q8, d8, gd8⟩ : ∃ o, ops[8]? = some o ∧ o.op = .binOp .eql 80 (.tmp 24) (.tmp 25) 80 ∧ o.dst = some 26 ∧ o.guard = none := ⟨_, by rw [hops]; rfl, rfl, rfl, rfl⟩
        obtain ⟨o9, po9, q9, d9, gd9⟩ : ∃ o, ops[9]? = some o ∧ o.op = .assign (.tmp 26) ∧ o.dst = some 17 ∧ o.guard = none := ⟨_, by rw [hops]; rfl, rfl, rfl, rfl⟩
        clear hops
        refine met_free po0 d0 (wanted_of gd0) (fun w' h' => run_loadVar q0 base2 h'.a) ?_
        refine met_free po1 d1 (wanted_of gd1) (fun w' h' => run_loadI3V q1 ((eval_other _ 18 3 _ (by decide)).trans base3) h'.b.cell) ?_
        refine met_free po2 d2 (wanted_of gd2) (fun w' h' => run_subOneV q2 (fun _ => rfl) (eval_same _ _ _ (by simp only [put_size, hsz]; decide)) (by have := HI64.out.1; omega) w') ?_
        refine met_free po3 d3 (wanted_of gd3) (fun w' h' => run_nilCheck q3 ((eval_other _ 20 18 _ (by decide)).trans ((eval_other _ 19 18 _ (by decide)).trans (eval_same _ _ _ (by rw [hsz]; decide)))) w') ?_
        refine met_free po4 d4 (wanted_of gd4) (fun w' h' => run_fieldT (off := 1) q4 (fun _ => by kernel_rfl) (eval_same _ _ _ (by simp only [put_size, hsz]; decide)) w') ?_
        refine met_free po5 d5 (wanted_of gd5) (fun w' h' => run_ixSlotV q5 (eval_same _ _ _ (by simp only [put_size, hsz]; decide)) ((eval_other _ 22 20 _ (by decide)).trans ((eval_other _ 21 20 _ (by decide)).trans (eval_same _ _ _ (by simp only [put_size, hsz]; decide)))) HI64.out.1 w') ?_
        refine met_free po6 d6 (wanted_of gd6) (fun w' h' => run_loadSlotV q6 (eval_same _ _ _ (by simp only [put_size, hsz]; decide)) HX40.out h'.x) ?_
        refine met_free po7 d7 (wanted_of gd7) (fun w' h' => run_loadSlotV q7 ((eval_other _ 24 5 _ (by decide)).trans ((eval_other _ 23 5 _ (by decide)).trans ((eval_other _ 22 5 _ (by decide)).trans ((eval_other _ 21 5 _ (by decide)).trans ((eval_other _ 20 5 _ (by decide)).trans ((eval_other _ 19 5 _ (by decide)).trans ((eval_other _ 18 5 _ (by decide)).trans base5))))))) (noughts_length 40) (range_bytesV h'.e)) ?_
        refine met_free po8 d8 (wanted_of gd8) (fun w' h' => run_eqSlotT q8 HX40.out (noughts_length 40) ((eval_other _ 25 24 _ (by decide)).trans (eval_same _ _ _ (by simp only [put_size, hsz]; decide))) (eval_same _ _ _ (by simp only [put_size, hsz]; decide)) HZ.out w') ?_
        refine met_free po9 d9 (wanted_of gd9) (fun w' h' => run_assign q9 (eval_same _ _ _ (by simp only [put_size, hsz]; decide)) w') ?_
        show NoPanic _ .normal _ _
        refine NoPanic.normal ?_
        rw [HAA.out]
        go_frame
        clear HAA
        clear po0 q0 d0 gd0 po1 q1 d1 gd1 po2 q2 d2 gd2 po3 q3 d3 gd3 po4 q4 d4 gd4 po5 q5 d5 gd5 po6 q6 d6 gd6 po7 q7 d7 gd7 po8 q8 d8 gd8 po9 q9 d9 gd9
        clear base2 base3 base5 hsz
        have cA2 : w1.drew.cell? ⟨w.heap.size, 0, none⟩ = some (.pointer (some ⟨v, 0, none⟩)) := HZD.out.a.cell
        have HBD : Hid (Below w.heap.size w w1.drew) := show Below _ _ _ from HB0.out.drew
        have HID := Lib.hid HI.out.drew
        have HSZ : Hid (w1.drew.heap.size = w.heap.size + 3) := show _ = _ from HWSZ.out
        clear cA cB c2 HHAS HGENH HZS HA HB HE HB0 HI HWSZ
        generalize w1.drew = w2 at cA2 HBD HID HSZ HZD ⊢
        obtain ⟨AA, hA⟩ : ∃ AA, AA = w.heap.size := ⟨_, rfl⟩
        rw [← hA] at cA2 HZD HSZ ⊢
        have HAE := Lib.hid hA
        clear hA
        go_wp2_with (go_at_call 49; fail)
        have hb4 : Below w2.heap.size w2 (w2.alloc (.cells #[.func (.func 54) #[] #[.pointer (some ⟨AA, 0, none⟩), .pointer (some ⟨AA + 1, 0, none⟩), .pointer (some ⟨AA + 1 + 1, 0, none⟩)]] 90)) := (Below.refl _ _).alloc (Nat.le_refl _) _
        have hF : ∀ F, AA ≤ F → ¬ (S F ∨ F = v) := fun F hF f => by have := HDM.out F f; have := HAE.out; omega
        have HFH := Lib.hid hF
        have hst9 : ∀ w1, Stays (fun k => S k ∨ k = v) w2 w1 → VarV w1 AA v ∧ VarI w1 (AA + 1) ((i : Int) + 1) ∧ BytesAt w1 (AA + 1 + 1) 80 (noughts 40) := fun w1 hs =>
          ⟨HZD.out.a.stay hs (hF AA (Nat.le_refl _)), HZD.out.b.stay hs (hF (AA + 1) (by omega)), (hs.block _ HZD.out.e.size (hF (AA + 1 + 1) (by omega))).trans HZD.out.e⟩
        have HST9 := Lib.hid hst9
        refine (vtRun1 (d' := d1) (e1 := e1) 54 Tryd.f54 #[.pointer (some ⟨AA, 0, none⟩), .pointer (some ⟨AA + 1, 0, none⟩), .pointer (some ⟨AA + 1 + 1, 0, none⟩)] 1 w2.heap.size _ (HID.out.below hb4) (fns_new1 w2 _ _) ⟨fun s => hF w2.heap.size (by have := HSZ.out; omega) (Or.inl s), fun e => hF w2.heap.size (by have := HSZ.out; omega) (Or.inr e)⟩ Tryd.func54 (by kernel_rfl)
          (fun S1 w1 h1 hs => by
            obtain ⟨a1, a2, a3⟩ := hst9 w1 ((Below.stays hb4).trans hs (fun _ f _ => f))
            have := vtZero1_any i (by have := HI64.out.1; omega) (noughts 40) h1 a1 a2 a3 (noughts_length 40) (by have := HC.out.1; omega)
            rwa [show noughts 40 = List.replicate 40 0#8 from rfl, HOV.out] at this)).mono ?_
        rintro e w5 ⟨rfl, hg⟩
        rw [Bool.false_or] at hg
        obtain ⟨S5, hI5, hS5, hst5⟩ := hg
        have hbw : Below w.heap.size w _ := HBD.out.trans (hb4.mono HBD.out.size)
        have hst25 := (Below.stays (F := fun k => S k ∨ k = v) hb4).trans hst5 (fun _ f _ => f)
        obtain ⟨a1, a2, a3⟩ := HST9.out w5 hst25
        have cA5 := a1.cell
        have HA5 : Hid (VarV w5.drew AA v ∧ VarI w5.drew (AA + 1) ((i : Int) + 1) ∧ BytesAt w5.drew (AA + 1 + 1) 80 (noughts 40)) := show _ ∧ _ ∧ _ from ⟨a1, a2, a3⟩
        have HS5 : Hid (∀ k, S5 k → S k ∨ w.heap.size ≤ k) := show ∀ _, _ → _ from fun k s => (hS5 k s).imp id (fun h => Nat.le_trans hbw.size h)
        have HST5 : Hid (Stays (fun k => S k ∨ k = v) w w5.drew) := show Stays _ _ _ from ((Below.stays (F := fun k => S k ∨ k = v) hbw).trans hst5 (fun _ f _ => f)).trans (G := fun _ => False) (Below.stays (Below.refl _ w5).drew) (fun _ f _ => f.elim)
        have HI5 := Lib.hid hI5.drew
        have HG5 : Hid (VtGo S v g d1 l (decide (e1 = 9)) w w5) := show VtGo _ _ _ _ _ _ _ _ from ⟨S5, hI5, HS5.out, (Below.stays (F := fun k => S k ∨ k = v) hbw).trans hst5 (fun _ f _ => f)⟩
        clear hI5 hS5 hst5 hbw hst25 a1 a2 a3 hF hst9 hb4 HST9 HID HZD HBD cA2
        by_cases h0 : e1 = 0
        · subst h0
          have hdd : decide ((0 : Int) = 9) = false := rfl
          rw [hdd] at HI5
          rw [if_neg (fun h => h rfl)] at HZR
          clear hdd HG5
          go_upto_region 11 with (fail)
          refine region_phase (fun w' => VarV w' AA v ∧ VarI w' (AA + 1) ((i : Int) + 1) ∧ BytesAt w' (AA + 1 + 1) 80 (noughts 40)) (fun _ => True) 7 (HA5.out) trivial [(0, .free), (1, .free), (2, .free), (3, .free), (4, .free), (5, .free), (6, .free), (7, .behind)] (by kernel_rfl) (by kernel_rfl) (by kernel_rfl) (by kernel_rfl) (fun ops hops A hA => ?_)
          have hsz : A.tmps.size = 41 := by rw [hA]; rfl
          have base2 : A.eval (.tmp 2) = .pointer (some ⟨AA, 0, none⟩) := by rw [hA]; rfl
          have base3 : A.eval (.tmp 3) = .pointer (some ⟨AA + 1, 0, none⟩) := by rw [hA]; rfl
          have base5 : A.eval (.tmp 5) = .pointer (some ⟨AA + 1 + 1, 0, none⟩) := by rw [hA]; rfl
          have HAA := Lib.hid hA; clear hA
          obtain ⟨o0, po0, q0, d0, gd0⟩ : ∃ o, ops[0]? = some o ∧ o.op = .load 28 (.tmp 2) ∧ o.dst = some 34 ∧ o.guard = none := ⟨_, by rw [hops]; rfl, rfl, rfl, rfl⟩
          obtain ⟨o1, po1, q1, d1, gd1⟩ : ∃ o, ops[1]? = some o ∧ o.op = .load 3 (.tmp 3) ∧ o.dst = some 35 ∧ o.guard = none := ⟨_, by rw [hops]; rfl, rfl, rfl, rfl⟩
          obtain ⟨o2, po2, q2, d2, gd2⟩ : ∃ o, ops[2]? = some o ∧ o.op = .binOp .sub 3 (.tmp 35) (.const (.int .i64 1)) 3 ∧ o.dst = some 36 ∧ o.guard = none := ⟨_, by rw [hops]; rfl, rfl, rfl, rfl⟩
          obtain ⟨o3, po3, q3, d3, gd3⟩ : ∃ o, ops[3]? = some o ∧ o.op = .load 80 (.tmp 5) ∧ o.dst = some 37 ∧ o.guard = none := ⟨_, by rw [hops]; rfl, rfl, rfl, rfl⟩
          obtain ⟨o4, po4, q4, d4, gd4⟩ : ∃ o, ops[4]? = some o ∧ o.op = .nilCheck (.tmp 34) ∧ o.dst = some 38 ∧ o.guard = none := ⟨_, by rw [hops]; rfl, rfl, rfl, rfl⟩
          obtain ⟨o5, po5, q5, d5, gd5⟩ : ∃ o, ops[5]? = some o ∧ o.op = .fieldAddr 83 (.tmp 38) 1 ∧ o.dst = some 39 ∧ o.guard = none := ⟨_, by rw [hops]; rfl, rfl, rfl, rfl⟩
          obtain ⟨o6, po6, q6, d6, gd6⟩ : ∃ o, ops[6]? = some o ∧ o.op = .indexAddr 81 (.tmp 39) (.tmp 36) ∧ o.dst = some 40 ∧ o.guard = none := ⟨_, by rw [hops]; rfl, rfl, rfl, rfl⟩
          obtain ⟨o7, po7, q7, d7, gd7⟩ : ∃ o, ops[7]? = some o ∧ o.op = .store 80 (.tmp 40) (.tmp 37) ∧ o.dst = none ∧ o.guard = none := ⟨_, by rw [hops]; rfl, rfl, rfl, rfl⟩
          clear hops
          refine met_free po0 d0 (wanted_of gd0) (fun w' h' => run_loadVar q0 base2 h'.1) ?_
          refine met_free po1 d1 (wanted_of gd1) (fun w' h' => run_loadI3V q1 ((eval_other _ 34 3 _ (by decide)).trans base3) h'.2.1.cell) ?_
          refine met_free po2 d2 (wanted_of gd2) (fun w' h' => run_subOneV q2 (fun _ => rfl) (eval_same _ _ _ (by simp only [put_size, hsz]; decide)) (by have := HI64.out.1; omega) w') ?_
          refine met_free po3 d3 (wanted_of gd3) (fun w' h' => run_loadSlotV q3 ((eval_other _ 36 5 _ (by decide)).trans ((eval_other _ 35 5 _ (by decide)).trans ((eval_other _ 34 5 _ (by decide)).trans base5))) (noughts_length 40) (range_bytesV h'.2.2)) ?_
          refine met_free po4 d4 (wanted_of gd4) (fun w' h' => run_nilCheck q4 ((eval_other _ 37 34 _ (by decide)).trans ((eval_other _ 36 34 _ (by decide)).trans ((eval_other _ 35 34 _ (by decide)).trans (eval_same _ _ _ (by rw [hsz]; decide))))) w') ?_
          refine met_free po5 d5 (wanted_of gd5) (fun w' h' => run_fieldT (off := 1) q5 (fun _ => by kernel_rfl) (eval_same _ _ _ (by simp only [put_size, hsz]; decide)) w') ?_
          refine met_free po6 d6 (wanted_of gd6) (fun w' h' => run_ixSlotV q6 (eval_same _ _ _ (by simp only [put_size, hsz]; decide)) ((eval_other _ 39 36 _ (by decide)).trans ((eval_other _ 38 36 _ (by decide)).trans ((eval_other _ 37 36 _ (by decide)).trans (eval_same _ _ _ (by simp only [put_size, hsz]; decide))))) HI64.out.1 w') ?_
          refine met_skip po7 d7 (wanted_of gd7) (run_storeSlotV q7 (eval_same _ _ _ (by simp only [put_size, hsz]; decide)) ((eval_other _ 40 37 _ (by decide)).trans ((eval_other _ 39 37 _ (by decide)).trans ((eval_other _ 38 37 _ (by decide)).trans (eval_same _ _ _ (by simp only [put_size, hsz]; decide))))) (noughts_length 40) (HI5.out.there i HI64.out.1)) (vars_stay HA5.out (grown_stays (F := fun k => k = v) (grown_setCells w5.drew v _ _) (fun k e => (Option.some.inj e).symm)) (fun e => HFH.out AA (Nat.le_refl _) (Or.inr e)) (fun e => HFH.out (AA + 1) (by omega) (Or.inr e)) (fun e => HFH.out (AA + 1 + 1) (by omega) (Or.inr e))) ?_
          show NoPanic _ .normal _ _
          refine NoPanic.normal ?_
          rw [HAA.out]
          go_frame
          clear HAA
          clear po0 q0 d0 gd0 po1 q1 d1 gd1 po2 q2 d2 gd2 po3 q3 d3 gd3 po4 q4 d4 gd4 po5 q5 d5 gd5 po6 q6 d6 gd6 po7 q7 d7 gd7
          clear base2 base3 base5 hsz
          have HFIN := Lib.hid (VtGo.trans HS5.out HST5.out (HI5.out.zero i HI64.out.2))
          go_wp2_with fail
          go_ret
          unfold ZeroP
          rw [HZR.out]
          exact ⟨rfl, HFIN.out⟩
        · have q0 : (e1 == 0) = false := beq_eq_false_iff_ne.2 h0
          rw [if_pos h0] at HZR
          clear h0 HI5 HS5 HST5 HA5 cA5
          go_wp2_with fail
          go_ret
          unfold ZeroP
          rw [HZR.out]
          exact ⟨rfl, HG5.out⟩
    · have HP : Hid (ZeroP S v g d l false z w (.returned (.int .i64 12)) W) := show ZeroP _ _ _ _ _ _ _ _ _ _ from by
        have e : zeroVt d l false z = ⟨d, l, false, 12⟩ := by unfold zeroVt; rw [if_neg (by decide), if_pos (by omega)]
        unfold ZeroP
        rw [e]
        exact ⟨rfl, VtGo.trans (S1 := S) (fun _ s => Or.inl s) (Below.stays HB0.out) (VtGo.refl HI.out)⟩
      have HH := Lib.hid (decide_eq_false hz)
      rw [HH.out] at HHAS
      clear hz
      go_enter Tryd.func27, Tryd.ntmps27
      go_upto_region 2 with (fail)
      refine HGENH.out _ ?_
      go_wp2_with (go_at_call 44; refine HHAS.out.mono ?_; rintro e w1 ⟨rfl, rfl⟩)
      go_ret
      exact HP.out
end Go.Proofs.YtoidjapenompiaaDoor

/-
  A vault of the call's own beside its disk, and blocks of others that its calls leave alone.
-/
namespace Go.Proofs.YtoidjapenompiaaDoor
open Go.RowKit Go.Proofs.ShaWords
def vtO (g : Nat) (l : List SlotV) (dead : Bool) : Obj := .cells (vtC g (padV l) l.length dead).toArray 83 (0, 0)
structure VtL (lo : Nat) (w : World) (v g : Nat) (d : DiskM) (l : List SlotV) (dead : Bool) (L : List (Nat × Obj)) : Prop where
  disk : DkL lo w g d ((v, vtO g l dead) :: L)
  le : l.length ≤ 64
  slots : ∀ s ∈ l, SlotOk s
  lo : lo ≤ v
  ne : ∀ x ∈ L, x.1 ≠ v
section
variable {lo v g : Nat} {d d' : DiskM} {l l' : List SlotV} {dead dead' : Bool} {w w' : World} {L : List (Nat × Obj)}
theorem VtL.all (h : VtL lo w v g d l dead L) : ∀ x ∈ L, w.heap[x.1]? = some x.2 := fun x hx => h.disk.all x (List.mem_cons_of_mem _ hx)
theorem VtL.at (h : VtL lo w v g d l dead L) {k : Nat} {o : Obj} (hk : (k, o) ∈ L) : w.heap[k]? = some o := h.all _ hk
theorem VtL.ok (h : VtL lo w v g d l dead L) : d.Ok := h.disk.ok
theorem VtL.ins (h : VtL lo w v g d l dead L) : ∃ S, VtIn S w v g d l dead ∧ (∀ k, S k → lo ≤ k) ∧ ∀ x ∈ L, ¬ (S x.1 ∨ x.1 = v) := by
  obtain ⟨S, h1, h2, h3⟩ := h.disk
  have hv := h3 _ List.mem_cons_self
  exact ⟨S, ⟨h1, hv.2, hv.1, h.le, h.slots⟩, h2, fun x hx f => f.elim (h3 x (List.mem_cons_of_mem _ hx)).1 (h.ne x hx)⟩
theorem VtGo.intoL {S : Nat → Prop} {w0 : World} (h : VtGo S v g d l dead w0 w) (h2 : ∀ k, S k → lo ≤ k) (hv : lo ≤ v) (hlo : lo ≤ w0.heap.size) (h3 : ∀ x ∈ L, ¬ (S x.1 ∨ x.1 = v) ∧ w0.heap[x.1]? = some x.2) : VtL lo w v g d l dead L ∧ Below lo w0 w := by
  obtain ⟨S', hI, hS, hst⟩ := h
  refine ⟨⟨⟨S', hI.disk, fun k s => (hS k s).elim (h2 k) (fun h => by omega), fun x hx => ?_⟩, hI.le, hI.slots, hv, fun x hx e => (h3 x hx).1 (Or.inr e)⟩, hst.below (fun k f => f.elim (h2 k) (fun e => e ▸ hv)) hlo⟩
  rcases List.mem_cons.1 hx with rfl | hx
  · exact ⟨hI.out, hI.vt⟩
  · have hlt := (Array.getElem?_eq_some_iff.1 (h3 x hx).2).1
    exact ⟨fun s => (hS _ s).elim (fun s => (h3 x hx).1 (Or.inl s)) (fun h => by omega), (hst.block _ hlt (h3 x hx).1).trans (h3 x hx).2⟩
theorem VtL.call {f : FuncId} {args : Array Value} {R : Ending → Prop} (h : VtL lo w v g d l dead L) (hlo : lo ≤ w.heap.size) (hc : ∀ S, VtIn S w v g d l dead → Calls Tryd.prog f args w fun e w' => R e ∧ VtGo S v g d' l' dead' w w') :
    Calls Tryd.prog f args w fun e w' => R e ∧ VtL lo w' v g d' l' dead' L ∧ Below lo w w' := by
  obtain ⟨S, h1, h2, h3⟩ := h.ins
  exact (hc S h1).mono fun e w' ⟨a, b⟩ => ⟨a, b.intoL h2 h.lo hlo (fun x hx => ⟨h3 x hx, h.all x hx⟩)⟩
theorem VtL.below (h : VtL lo w v g d l dead L) (hb : Below w.heap.size w w') : VtL lo w' v g d l dead L := ⟨h.disk.below hb, h.le, h.slots, h.lo, h.ne⟩
theorem VtL.lt (h : VtL lo w v g d l dead L) : v < w.heap.size := (Array.getElem?_eq_some_iff.1 (h.disk.at List.mem_cons_self)).1
theorem VtL.fewer {L' : List (Nat × Obj)} (h : VtL lo w v g d l dead L) (hL : ∀ x ∈ L', x ∈ L) : VtL lo w v g d l dead L' :=
  ⟨h.disk.fewer (fun x hx => by rcases List.mem_cons.1 hx with rfl | hx; exact List.mem_cons_self; exact List.mem_cons_of_mem _ (hL x hx)), h.le, h.slots, h.lo, fun x hx => h.ne x (hL x hx)⟩
/-- The vault is let go. -/
theorem VtL.drop (h : VtL lo w v g d l dead L) : DkL lo w g d L := h.disk.fewer (fun _ hx => List.mem_cons_of_mem _ hx)
theorem VtL.add (h : VtL lo w v g d l dead L) (hb : Below w.heap.size w w') {L' : List (Nat × Obj)} (hL : ∀ x ∈ L', w.heap.size ≤ x.1 ∧ w'.heap[x.1]? = some x.2) : VtL lo w' v g d l dead (L' ++ L) := by
  have hlt := h.lt
  refine ⟨?_, h.le, h.slots, h.lo, fun x hx => ?_⟩
  · have h' := h.disk.below hb
    obtain ⟨S, h1, h2, h3⟩ := h.disk
    obtain ⟨⟨vs, hv⟩, -⟩ := id h1
    refine ⟨S, h1.below hb, h2, fun x hx => ?_⟩
    rcases List.mem_cons.1 hx with rfl | hx
    · exact ⟨(h3 _ List.mem_cons_self).1, h'.at List.mem_cons_self⟩
    · rcases List.mem_append.1 hx with hx | hx
      · exact ⟨fun s => by have := hv.dom _ s; have := (hL x hx).1; omega, (hL x hx).2⟩
      · exact ⟨(h3 _ (List.mem_cons_of_mem _ hx)).1, h'.all x (List.mem_cons_of_mem _ hx)⟩
  · rcases List.mem_append.1 hx with hx | hx
    · have := (hL x hx).1; omega
    · exact h.ne x hx
/-- A block of the list is written to. -/
theorem VtL.set (h : VtL lo w v g d l dead L) {k : Nat} {o o' : Obj} (hk : (k, o) ∈ L) (hs : Stays (fun x => x = k) w w') (ho : w'.heap[k]? = some o') {L' : List (Nat × Obj)} (hL : ∀ x ∈ L', x = (k, o') ∨ x ∈ L ∧ x.1 ≠ k) : VtL lo w' v g d l dead L' := by
  have hkv := h.ne _ hk
  refine ⟨h.disk.set (List.mem_cons_of_mem _ hk) hs ho (fun x hx => ?_), h.le, h.slots, h.lo, fun x hx => ?_⟩
  · rcases List.mem_cons.1 hx with rfl | hx
    · exact Or.inr ⟨List.mem_cons_self, fun e => hkv e.symm⟩
    · exact (hL x hx).imp id (fun h => ⟨List.mem_cons_of_mem _ h.1, h.2⟩)
  · rcases hL x hx with rfl | ⟨hx, -⟩
    · exact hkv
    · exact h.ne x hx
/-- A call of the disk itself. -/
theorem VtL.dk {f : FuncId} {args : Array Value} {e0 : Ending} (h : VtL lo w v g d l dead L) (hlo : lo ≤ w.heap.size) (hc : ∀ S, DkAt S w g d → Calls Tryd.prog f args w fun e w' => e = e0 ∧ DkGo S g d' w w') :
    Calls Tryd.prog f args w fun e w' => e = e0 ∧ VtL lo w' v g d' l dead L ∧ Below lo w w' :=
  (h.disk.go hlo hc).mono fun _ _ ⟨a, b, c⟩ => ⟨a, ⟨b, h.le, h.slots, h.lo, h.ne⟩, c⟩
theorem VtL.get (h : VtL lo w v g d l dead L) (z : Int) : Calls Tryd.prog 22 #[.pointer (some ⟨v, 0, none⟩), .int .i64 z] w fun e w' => e = .returned (gvV l z) ∧ Below w.heap.size w w' := by
  obtain ⟨S, h1, -⟩ := h.ins
  exact vtGet_any z w h1
theorem VtL.len (h : VtL lo w v g d l dead L) : Calls Tryd.prog 29 #[.pointer (some ⟨v, 0, none⟩)] w fun e w' => e = .returned (.int .i64 (l.length : Int)) ∧ w' = w := by
  obtain ⟨S, h1, -⟩ := h.ins
  exact vtLen_any w h1
def putVE (d : DiskM) (l : List SlotV) (dead : Bool) (k : List (BitVec 8)) : Ending := .returned (.tuple #[.int .i64 (if (putVt d l dead k).e = 0 then ((putVt d l dead k).l.length : Int) else 0), .int .i64 (putVt d l dead k).e])
theorem VtL.put (h : VtL lo w v g d l dead L) (hlo : lo ≤ w.heap.size) (k : List (BitVec 8)) (hk : k.length = 32) (hc : d.count < 999999000) (hR : Rem w) :
    Calls Tryd.prog 25 #[.pointer (some ⟨v, 0, none⟩), .agg (bytesV k).toArray] w fun e w' => e = putVE d l dead k ∧ VtL lo w' v g (putVt d l dead k).d (putVt d l dead k).l (putVt d l dead k).dead L ∧ Below lo w w' :=
  h.call hlo (fun _ hI => vtPut_any k w hI hk hc hR)
theorem VtL.zero (h : VtL lo w v g d l dead L) (hlo : lo ≤ w.heap.size) (z : Int) (hc : d.count < 999999000) :
    Calls Tryd.prog 27 #[.pointer (some ⟨v, 0, none⟩), .int .i64 z] w fun e w' => e = .returned (.int .i64 (zeroVt d l dead z).e) ∧ VtL lo w' v g (zeroVt d l dead z).d (zeroVt d l dead z).l (zeroVt d l dead z).dead L ∧ Below lo w w' :=
  h.call hlo (fun _ hI => vtZero_any z w hI hc)
/-- Opening, with the power on. -/
theorem DkL.openV (h : DkL lo w g d L) (hlo : lo ≤ w.heap.size) (hG : 0 < lo) (hR : Rem w) (hd : d.down = false) (hc : d.count < 1000000000) {r : List (BitVec 8)} (hV : VtOf (d.files 0).all l r) :
    Calls Tryd.prog 24 #[.pointer (some ⟨g, 0, none⟩)] w fun e w' => (((openVt d l r).2 = 0 ∧ ∃ v, e = .returned (.tuple #[.pointer (some ⟨v, 0, none⟩), .int .i64 0]) ∧ w.heap.size ≤ v ∧ VtL lo w' v g (openVt d l r).1 l false L) ∨ ((openVt d l r).2 ≠ 0 ∧ e = .returned (.tuple #[.pointer none, .int .i64 (openVt d l r).2]) ∧ DkL lo w' g (openVt d l r).1 L)) ∧ Below lo w w' := by
  obtain ⟨S, h1, h2, h3⟩ := h
  refine (vtOpen_any S g d w l r h1 hd hc hV hR (fun s => by have := h2 _ s; omega)).mono fun e w' hO => ?_
  have hL : ∀ S' : Nat → Prop, (∀ k, S' k → S k ∨ w.heap.size ≤ k) → Stays S w w' → ∀ x ∈ L, ¬ S' x.1 ∧ w'.heap[x.1]? = some x.2 := fun S' hS hst x hx => by
    have hlt := (Array.getElem?_eq_some_iff.1 (h3 x hx).2).1
    exact ⟨fun s => (hS _ s).elim (h3 x hx).1 (fun h => by omega), (hst.block _ hlt (h3 x hx).1).trans (h3 x hx).2⟩
  rcases hO with ⟨h0, v, S', rfl, hv, hI, hS, hst⟩ | ⟨h0, S', rfl, hD, hS, hst⟩
  · refine ⟨Or.inl ⟨h0, v, rfl, hv, ⟨⟨S', hI.disk, fun k s => (hS k s).elim (h2 k) (fun h => by omega), fun x hx => ?_⟩, hI.le, hI.slots, by omega, fun x hx e => ?_⟩⟩, hst.below h2 hlo⟩
    · rcases List.mem_cons.1 hx with rfl | hx
      · exact ⟨hI.out, hI.vt⟩
      · exact hL S' hS hst x hx
    · have := (Array.getElem?_eq_some_iff.1 (h3 x hx).2).1; omega
  · exact ⟨Or.inr ⟨h0, rfl, S', hD, fun k s => (hS k s).elim (h2 k) (fun h => by omega), hL S' hS hst⟩, hst.below h2 hlo⟩
/-- Opening, while nothing is armed. -/
theorem DkL.openVC (h : DkL lo w g d L) (hlo : lo ≤ w.heap.size) (hG : 0 < lo) (hR : Rem w) (hcalm : d.Calm) (hc : d.count < 1000000000) {r : List (BitVec 8)} (hV : VtOf (d.files 0).all l r) :
    Calls Tryd.prog 24 #[.pointer (some ⟨g, 0, none⟩)] w fun e w' => ∃ v, e = .returned (.tuple #[.pointer (some ⟨v, 0, none⟩), .int .i64 0]) ∧ w.heap.size ≤ v ∧ VtL lo w' v g (openVt d l r).1 l false L ∧ Below lo w w' := by
  have h0 := (openVt_calm hcalm h.ok hV).1
  refine (h.openV hlo hG hR hcalm.down hc hV).mono fun e w' ⟨hO, hb⟩ => ?_
  rcases hO with ⟨-, v, rfl, hv, hL⟩ | ⟨h1, -⟩
  · exact ⟨v, rfl, hv, hL, hb⟩
  · exact absurd h0 h1
end
end Go.Proofs.YtoidjapenompiaaDoor

/-
  The example that each statement asks.
-/
namespace Go.Proofs.YtoidjapenompiaaDoor
open Go.RowKit Go.Proofs.ShaWords
/-- A key whose first byte is given. -/
def keyA (b : BitVec 8) : List (BitVec 8) := b :: noughts 31
theorem keyA_length (b : BitVec 8) : (keyA b).length = 32 := rfl
theorem run_keyA {ρ : Operand → Value} {o : Oper} {x : Operand} {b : BitVec 8} (ho : o.op = .build 36 #[(0, x)]) (hx : ρ x = .int .u8 (n8 b)) (w : World) :
    (execOp ρ o).run Tryd.prog w = .ok (.value (.agg (bytesV (keyA b)).toArray)) w := by
  have hb : Tryd.prog.built 36 [(0, .int .u8 (n8 b))] = some (bytesV (keyA b)).toArray := by kernel_rfl
  have hr := Go.run_build (P := Tryd.prog) w 36 #[(0, .int .u8 (n8 b))] _ hb
  obtain ⟨dst, op, ty', pos, after, guard⟩ := o
  simp only at ho
  subst ho
  unfold execOp
  simp only [List.map_toArray, List.map_cons, List.map_nil, hx, Sem.run_bind, hr, Result.andThen_ok, Sem.run_pure]
theorem run_eqKeyT {ρ : Operand → Value} {o : Oper} {x y : Operand} {l m : List (BitVec 8)} {ty : TypeId} {b : Bool} (ho : o.op = .binOp .eql 36 x y ty) (hl : l.length = 32) (hm : m.length = 32) (hx : ρ x = .agg (bytesV l).toArray) (hy : ρ y = .agg (bytesV m).toArray) (hb : decide (l = m) = b) (w : World) :
    (execOp ρ o).run Tryd.prog w = .ok (.value (.bool b)) w := by
  rw [← hb]; exact run_eqArr ho Tryd.underlying36 (by kernel_rfl) hl hm hx hy w
set_option maxRecDepth 100000 in
set_option maxHeartbeats 1000000 in
theorem works11_any (w : World) (hR : Rem w) : Calls Tryd.prog 10 #[] w fun e w' => e = .returned (.bool true) ∧ Below w.heap.size w w' := by
  have HR := Lib.hid hR
  have HG := Lib.hid hR.size
  obtain ⟨k1, hk1⟩ : ∃ k1, k1 = keyA 1#8 := ⟨_, rfl⟩
  obtain ⟨k2, hk2⟩ : ∃ k2, k2 = keyA 2#8 := ⟨_, rfl⟩
  have HK1 : Hid (k1.length = 32) := show _ = _ by rw [hk1]; rfl
  have HK2 : Hid (k2.length = 32) := show _ = _ by rw [hk2]; rfl
  have c0 : VtCalm (DiskM.new 1000) [] 1000 0 := vtCalm_new 1000
  obtain ⟨-, n1, c1, hn1⟩ := c0.open
  obtain ⟨d1, hd1⟩ : ∃ d1, (openVt (DiskM.new 1000) [] []).1 = d1 := ⟨_, rfl⟩
  rw [hd1] at c1
  obtain ⟨d2, p2, c2⟩ := c1.put HK1.out (by show 0 < 64; decide) (by show 40 * 0 + 40 ≤ 1000; decide)
  obtain ⟨d3, p3, c3⟩ := c2.put HK2.out (by show 1 < 64; decide) (by show 40 * 1 + 40 ≤ 1000; decide)
  have p2 : putVt d1 [] false k1 = ⟨d2, [some k1], false, 0⟩ := p2
  have p3 : putVt d2 [some k1] false k2 = ⟨d3, [some k1, some k2], false, 0⟩ := p3
  have c4 : VtCalm (d3.crash []) [some k1, some k2] 1000 (n1 + 2 + 2) := c3.crash []
  obtain ⟨-, n5, c5, hn5⟩ := c4.open
  obtain ⟨d5, hd5⟩ : ∃ d5, (openVt (d3.crash []) [some k1, some k2] []).1 = d5 := ⟨_, rfl⟩
  rw [hd5] at c5
  obtain ⟨d6, p6, c6⟩ := c5.zero (i := 0) (by show 0 < 2; decide) (by show some k1 ≠ none; simp)
  have p6 : zeroVt d5 [some k1, some k2] false 1 = ⟨d6, [none, some k2], false, 0⟩ := p6
  have c6 : VtCalm d6 [none, some k2] 1000 (n5 + 1) := c6
  have hg5 : gvV [some k1, some k2] 2 = .tuple #[.agg (bytesV k2).toArray, .int .i64 0] := gvV_key (l := [some k1, some k2]) (i := 1) (by show 1 < 2; decide) rfl
  have hg6 : gvV [none, some k2] 1 = .tuple #[.agg (bytesV (noughts 32)).toArray, .int .i64 17] := gvV_gone (l := [none, some k2]) (i := 0) (by show 0 < 2; decide) rfl
  have HC0 := Lib.hid c0
  have HC2 := Lib.hid (And.intro c1.count (And.intro hn1 c2.count))
  have HD1 := Lib.hid hd1
  have HP2 := Lib.hid p2
  have HP3 := Lib.hid p3
  have HC4 := Lib.hid c4
  have HD5 := Lib.hid hd5
  have HC5 := Lib.hid (And.intro c5.count hn5)
  have HP6 := Lib.hid p6
  have HR6 : Hid ((d6.read 0).length = 80) := show _ = _ by
    have h := c6.len
    unfold DiskM.read
    rw [if_pos (by omega)]
    exact h
  have HG5 := Lib.hid hg5
  have HG6 := Lib.hid hg6
  clear c0 c1 hn1 hd1 c2 p2 c3 p3 c4 c5 hn5 hd5 c6 p6 hg5 hg6
  have HKE1 := Lib.hid hk1
  have HKE2 := Lib.hid hk2
  clear hR hk1 hk2
  go_enter Tryd.func10, Tryd.ntmps10
  go_wp2_with fail
  refine (dkNewL 1000 w).mono ?_
  rintro e w1 ⟨g, rfl, hi, hb⟩
  have HI1 := Lib.hid hi; have HB1 := Lib.hid hb; clear hi hb
  go_wp2_with (go_at_call 24; fail)
  refine (HI1.out.openVC HB1.out.size HG.out (HR.out.on HB1.out) HC0.out.calm (by rw [HC0.out.count]; decide) HC0.out.of).mono ?_
  rintro e w2 ⟨v, rfl, -, hv, hb⟩
  rw [HD1.out] at hv
  have HV2 := Lib.hid hv
  have HB2 := Lib.hid (HB1.out.trans hb)
  clear hv hb HI1 HB1
  go_wp2_with (first
    | (show wpList _ _ _ (⟨_, .build 36 _, _, _, _, _⟩ :: _) _ _; refine wpList_runV (by rfl) (run_keyA (b := 1#8) rfl rfl _) ?_; rw [← HKE1.out])
    | (go_at_call 25; fail))
  have hcall := HV2.out.put HB2.out.size k1 HK1.out (by have := HC2.out.1; have := HC2.out.2.1; omega) (HR.out.on HB2.out)
  unfold putVE at hcall
  rw [HP2.out] at hcall
  dsimp only at hcall
  refine hcall.mono ?_
  rintro e w3 ⟨rfl, hv, hb⟩
  have HV3 := Lib.hid hv
  have HB3 := Lib.hid (HB2.out.trans hb)
  clear hcall hv hb HV2 HB2
  go_wp2_with (first
    | (show wpList _ _ _ (⟨_, .build 36 _, _, _, _, _⟩ :: _) _ _; refine wpList_runV (by rfl) (run_keyA (b := 2#8) rfl rfl _) ?_; rw [← HKE2.out])
    | (go_at_call 25; fail))
  have hcall := HV3.out.put HB3.out.size k2 HK2.out (by have := HC2.out.2.2; have := HC2.out.2.1; omega) (HR.out.on HB3.out)
  unfold putVE at hcall
  rw [HP3.out] at hcall
  dsimp only at hcall
  refine hcall.mono ?_
  rintro e w4 ⟨rfl, hv, hb⟩
  have HV4 := Lib.hid hv.drop
  have HB4 := Lib.hid (HB3.out.trans hb)
  clear hcall hv hb HV3 HB3
  go_wp2_with (go_at_call 28; fail)
  refine (HV4.out.go HB4.out.size (fun S h => dkCrash_any S g d3 [] 0 0 none w4 h rfl (Nat.le_refl _) (Or.inl rfl))).mono ?_
  rintro e w5 ⟨rfl, hv, hb⟩
  have HV5 := Lib.hid hv
  have HB5 := Lib.hid (HB4.out.trans hb)
  clear hv hb HV4 HB4
  go_wp2_with (go_at_call 24; fail)
  refine (HV5.out.openVC HB5.out.size HG.out (HR.out.on HB5.out) HC4.out.calm (by rw [HC4.out.count]; have := HC2.out.2.1; omega) HC4.out.of).mono ?_
  rintro e w6 ⟨v2, rfl, -, hv, hb⟩
  rw [HD5.out] at hv
  have HV6 := Lib.hid hv
  have HB6 := Lib.hid (HB5.out.trans hb)
  clear hv hb HV5 HB5
  have HIK2 := Lib.hid (infoKey k2 HK2.out)
  have HZS : Hid ((bytesV (noughts 32)).toArray.size = (bytesV k2).toArray.size) := show _ = _ by rw [bytesV_size _ 32 (noughts_length 32), bytesV_size _ 32 HK2.out]
  go_wp2_with (go_at_call 22; fail)
  refine (HV6.out.get 2).mono ?_
  rintro e w7 ⟨rfl, hb⟩
  rw [HG5.out]
  have HV7 := Lib.hid (HV6.out.below hb)
  have HB7 := Lib.hid (HB6.out.trans (hb.mono HB6.out.size))
  clear hb HV6 HB6
  go_wp2_with (first
    | (show wpList _ _ _ (⟨_, .store 36 _ _, _, _, _, _⟩ :: _) _ _; go_loud (refine wpList_store_new rfl 36 (.tmp 8) (.tmp 53) rfl w7.heap.size rfl (bytesV k2).toArray rfl rfl HIK2.out (by exact HZS.out) (keyV_ones _) ?_; intro w8 h8 b8; have HT8 := Lib.hid h8; have HV8 := Lib.hid (HV7.out.add b8 (L' := [(w7.heap.size, _)]) (fun x hx => by rw [List.mem_singleton.1 hx]; exact ⟨Nat.le_refl _, h8⟩)); have HB8 := Lib.hid (HB7.out.trans (b8.mono HB7.out.size)); clear h8 b8))
    | (go_at_call 27; fail))
  have hcall := HV8.out.zero HB8.out.size 1 (by have := HC5.out.1; have := HC5.out.2; have := HC2.out.2.1; omega)
  rw [HP6.out] at hcall
  dsimp only at hcall
  refine hcall.mono ?_
  rintro e w9 ⟨rfl, hv, hb⟩
  have HV9 := Lib.hid hv
  have HB9 := Lib.hid (HB8.out.trans hb)
  clear hcall hv hb HV8 HB8 HT8
  have HIK0 := Lib.hid (infoKey (noughts 32) (noughts_length 32))
  go_wp2_with (go_at_call 22; fail)
  refine (HV9.out.get 1).mono ?_
  rintro e w10 ⟨rfl, hb⟩
  rw [HG6.out]
  have HV10 := Lib.hid (HV9.out.below hb)
  have HB10 := Lib.hid (HB9.out.trans (hb.mono HB9.out.size))
  clear hb HV9 HB9
  generalize w7.heap.size = T7 at HV10 ⊢
  go_upto_region 14 with (show wpList _ _ _ (⟨_, .store 36 _ _, _, _, _, _⟩ :: _) _ _; go_loud (refine wpList_store_new rfl 36 (.tmp 11) (.tmp 60) rfl w10.heap.size rfl (bytesV (noughts 32)).toArray rfl rfl HIK0.out (by rfl) (keyV_ones _) ?_; intro w11 h11 b11; have HV11 := Lib.hid (HV10.out.below b11); have HB11 := Lib.hid (HB10.out.trans (b11.mono HB10.out.size)); clear h11 b11))
  have hT := HV11.out.at List.mem_cons_self
  have HT := Lib.hid (show BytesAt w11 T7 36 k2 from hT)
  have HEQ : Hid (decide (k2 = keyA 2#8) = true) := show _ = _ from decide_eq_true HKE2.out
  clear hT HV10 HB10
  go_wp2_with (first
    | (show wpList _ _ _ (⟨_, .load 36 _, _, _, _, _⟩ :: _) _ _; refine wpList_runV (by rfl) (run_loadKeyB (x := .tmp 8) rfl rfl HK2.out HT.out) ?_)
    | (show wpList _ _ _ (⟨_, .build 36 _, _, _, _, _⟩ :: _) _ _; refine wpList_runV (by rfl) (run_keyA (b := 2#8) rfl rfl _) ?_)
    | (refine wpList_runV (by rfl) (run_eqKeyT (x := .tmp 69) (y := .tmp 70) rfl HK2.out (keyA_length _) rfl rfl HEQ.out _) ?_)
    | (go_at_call 29; refine HV11.out.len.mono ?_; rintro e w12 ⟨rfl, rfl⟩)
    | (go_at_call 15; fail))
  refine (HV11.out.disk.read 0).mono ?_
  rintro e w13 ⟨sv, rfl, ho, hb⟩
  obtain ⟨q, c, rfl, -, -, -⟩ := ho.slP HR6.out
  have HB13 := Lib.hid (HB11.out.trans (hb.mono HB11.out.size))
  clear ho hb
  go_wp2_with fail
  go_ret
  exact ⟨rfl, HB13.out⟩
end Go.Proofs.YtoidjapenompiaaDoor

/-
  Rows of a call's own by the blocks that they have, beside a vault: kept through its calls, grown by one.
-/
namespace Go.Proofs.YtoidjapenompiaaDoor
open Go.RowKit Go.Proofs.ShaWords
structure RowK (lo : Nat) (L : List (Nat × Obj)) (te : TypeId) (N : Nat) (v : Value) (n : Nat) (xs : List Value) : Prop where
  on : ∀ x ∈ L, v.ownBlock = some x.1
  whole : ∀ k, v.ownBlock = some k → ∃ o, (k, o) ∈ L
  row : ∀ w' : World, (∀ x ∈ L, w'.heap[x.1]? = some x.2) → w'.ownsRow lo te N v n xs
theorem RowK.nil (lo : Nat) (te : TypeId) (N : Nat) : RowK lo [] te N (.slice none 0 0) 0 [] := ⟨fun x hx => absurd hx List.not_mem_nil, (fun k hk => by cases hk), fun w _ => World.ownsRow_nil w lo te N⟩
theorem rowK_of {lo N n : Nat} {te : TypeId} {w : World} {v : Value} {xs : List Value} (h : w.ownsRow lo te N v n xs) : ∃ L, RowK lo L te N v n xs ∧ ∀ x ∈ L, lo ≤ x.1 ∧ w.heap[x.1]? = some x.2 := by
  cases hk : v.ownBlock with
  | none => exact ⟨[], ⟨fun x hx => absurd hx List.not_mem_nil, (fun k e => by rw [hk] at e; cases e), fun w' _ => ownsRow_same h (fun k e => by rw [hk] at e; cases e)⟩, fun x hx => absurd hx List.not_mem_nil⟩
  | some k =>
    have hlt := World.ownsRow.lt h k hk
    refine ⟨[(k, w.heap[k]'hlt.2)], ⟨fun x hx => by rw [List.mem_singleton.1 hx]; exact hk, fun j e => ?_, fun w' hw => ownsRow_same h (fun j e => ?_)⟩, fun x hx => ?_⟩
    · rw [hk] at e; cases e; exact ⟨_, List.mem_cons_self⟩
    · rw [hk] at e; cases e
      exact (hw _ List.mem_cons_self).trans (Array.getElem?_eq_getElem hlt.2).symm
    · rw [List.mem_singleton.1 hx]
      exact ⟨hlt.1, Array.getElem?_eq_getElem hlt.2⟩
section
variable {lo v g : Nat} {d : DiskM} {l : List SlotV} {dead : Bool} {w w' : World} {L L1 L2 : List (Nat × Obj)}
/-- Blocks of which some have changed: those of one row. -/
theorem VtL.grown {r : Option Nat} (h : VtL lo w v g d l dead L) (hg : w.grownBy w' r) (hr : ∀ k, r = some k → ∃ o, (k, o) ∈ L) (h2 : ∀ x ∈ L2, x ∈ L ∧ r ≠ some x.1) (L3 : List (Nat × Obj)) (h3 : ∀ x ∈ L3, w'.heap[x.1]? = some x.2 ∧ (w.heap.size ≤ x.1 ∨ ∃ o, (x.1, o) ∈ L)) :
    VtL lo w' v g d l dead (L3 ++ L2) := by
  have hvL := h.lt
  have hne := h.ne
  obtain ⟨S, a1, a2, a3⟩ := h.disk
  have hd : ∀ k, S k → k < w.heap.size := by obtain ⟨⟨⟨vs, hv⟩, -⟩, -⟩ := And.intro a1 trivial; exact hv.dom
  have hs : Stays (fun k => r = some k) w w' := grown_stays hg (fun k e => e)
  have hno : ∀ k, r = some k → ¬ S k ∧ k ≠ v := fun k e => by
    obtain ⟨o, ho⟩ := hr k e
    exact ⟨(a3 _ (List.mem_cons_of_mem _ ho)).1, hne _ ho⟩
  refine ⟨⟨S, a1.keep hs (fun k e s => (hno k e).1 s), a2, fun x hx => ?_⟩, h.le, h.slots, h.lo, fun x hx => ?_⟩
  · rcases List.mem_cons.1 hx with rfl | hx
    · have := a3 _ List.mem_cons_self
      exact ⟨this.1, (hs.block v hvL (fun e => (hno v e).2 rfl)).trans this.2⟩
    · rcases List.mem_append.1 hx with hx | hx
      · obtain ⟨e1, e2⟩ := h3 x hx
        rcases e2 with e2 | ⟨o, e2⟩
        · exact ⟨fun s => by have := hd _ s; omega, e1⟩
        · exact ⟨(a3 _ (List.mem_cons_of_mem _ e2)).1, e1⟩
      · have := a3 x (List.mem_cons_of_mem _ (h2 x hx).1)
        exact ⟨this.1, (hs.block _ (Array.getElem?_eq_some_iff.1 this.2).1 (fun e => (h2 x hx).2 e)).trans this.2⟩
  · rcases List.mem_append.1 hx with hx | hx
    · obtain ⟨e1, e2⟩ := h3 x hx
      rcases e2 with e2 | ⟨o, e2⟩
      · omega
      · exact hne (x.1, o) e2
    · exact hne x (h2 x hx).1
/-- A row grown by one, or with other cells. -/
theorem RowK.append {N n n' : Nat} {te : TypeId} {u u' : Value} {xs xs' : List Value} (hK : RowK lo L1 te N u n xs) (h : VtL lo w v g d l dead L) (h1 : ∀ x ∈ L1, x ∈ L) (h2 : ∀ x ∈ L2, x ∈ L ∧ u.ownBlock ≠ some x.1) (hrow : w'.ownsRow lo te N u' n' xs') (hg : w.grownBy w' u.ownBlock) (hb : u'.ownBlock = u.ownBlock ∨ u'.ownBlock = some w.heap.size) :
    ∃ L1', RowK lo L1' te N u' n' xs' ∧ VtL lo w' v g d l dead (L1' ++ L2) ∧ ∀ x ∈ L2, u'.ownBlock ≠ some x.1 := by
  obtain ⟨L1', k1, k2⟩ := rowK_of hrow
  refine ⟨L1', k1, h.grown hg (fun k e => ?_) h2 L1' (fun x hx => ⟨(k2 x hx).2, ?_⟩), fun x hx e => ?_⟩
  · obtain ⟨o, ho⟩ := hK.whole k e
    exact ⟨o, h1 _ ho⟩
  · have e := k1.on x hx
    rcases hb with hb | hb
    · rw [hb] at e
      obtain ⟨o, ho⟩ := hK.whole _ e
      exact Or.inr ⟨o, h1 _ ho⟩
    · rw [hb] at e
      have := Option.some.inj e
      exact Or.inl (by omega)
  · rcases hb with hb | hb
    · rw [hb] at e; exact (h2 x hx).2 e
    · rw [hb] at e
      have h4 := (Array.getElem?_eq_some_iff.1 (h.all x (h2 x hx).1)).1
      have := Option.some.inj e
      omega
theorem RowK.own {N n : Nat} {te : TypeId} {u : Value} {xs : List Value} (hK : RowK lo L1 te N u n xs) (h : VtL lo w v g d l dead L) (h1 : ∀ x ∈ L1, x ∈ L) : w.ownsRow lo te N u n xs := hK.row w (fun x hx => h.all x (h1 x hx))
end
theorem keyT : ElemT 36 47 32 32 where
  sl := Tryd.underlying47
  info := elemInfo (by kernel_rfl) (by kernel_rfl)
  pos := by decide
  few := by decide
theorem errT : ElemT 43 58 1 8 where
  sl := Tryd.underlying58
  info := elemInfo (by kernel_rfl) (by kernel_rfl)
  pos := by decide
  few := by decide
end Go.Proofs.YtoidjapenompiaaDoor

/-
  What the rows of layer 11 share: the table out of the row's condition.
-/
namespace Go.Proofs.YtoidjapenompiaaDoor
open Go.ChangeShapes Go.WideShapes Go.ChangeAt Go.RowKit Go.Proofs.ShaWords

abbrev laid11 : List (String × DataW Unit) := Rows.vaultKnownRow.laid
theorem rem_data11 {H : Type} : (Rows.laid_sealery_frame_remainders : DataW H) = Lib.tabData .u32 (remT.map n32) := by kernel_rfl
/-- The door's own heap meets the condition: closed facts. -/
theorem door_met11 (os : Os) (args : Array Value) : laidMetH Tryd.prog laid11 ((World.doorLaid Tryd.prog 400 os).forCall (fun _ _ => 0) ⟨#[], args, []⟩).memory :=
  laidMetH_of_parts3 (fuel := 8) (laidMet_of_run' 8 (by kernel_rfl) (by kernel_rfl)) (by kernel_rfl) (by kernel_rfl)
theorem of_laid11 {W : World} (h : laidMetH Tryd.prog laid11 W) : Rem W := by
  rw [MakeChecks.laidMetH_plain _ _ _ (by kernel_rfl)] at h
  obtain ⟨ps, ⟨g0, t0, cs0, f0, p0, q0, hg0, ht0, hv0, hd0, _⟩, _, _⟩ := h
  obtain rfl := Option.some.inj (hg0.symm.trans (show _ = some 0 by kernel_rfl))
  obtain rfl := Option.some.inj (ht0.symm.trans (show _ = some 114 by kernel_rfl))
  rw [rem_data11] at hd0
  have e0 := Lib.cells_of_tab Tryd.underlying114 Tryd.underlying109 (by kernel_rfl) (by kernel_rfl) hd0
  intro j v hv
  have := World.var?_cell hg0 hv0 j
  rw [Nat.zero_add, this, ← Array.getElem?_toList, e0, ← hv]
  simp [wordsV]
  rfl
end Go.Proofs.YtoidjapenompiaaDoor

/-
  A key and a nonce that came in.
-/
namespace Go.Proofs.YtoidjapenompiaaDoor
open Go.ChangeShapes Go.WideShapes Go.ChangeAt Go.RowKit Go.Proofs.ShaWords Go.Deep
/-- A key that came in. -/
theorem open_key {H : Type} {enc : TypeId × Value → H} {W : World} {fuel : Nat} {cs : List Value} {x : DataW H × List MemPlace}
    (h : DataW.trod enc Tryd.prog W 0 (fun _ => true) true fuel 36 cs = some x) : ∃ bs : List (BitVec 8), bs.length = 32 ∧ cs = bytesV bs := by
  obtain ⟨xs, m, rfl, rfl, hl, hxl, hf⟩ := DataW.trod_array Tryd.underlying36 h
  have hc5 : Tryd.prog.cellsOf 5 = 1 := by kernel_rfl
  have hcs : Tryd.prog.cellsOf 36 = 32 := by kernel_rfl
  rw [hcs] at hl
  have each : ∀ i, i < 32 → ∃ z : Int, cs[i]? = some (.int .u8 z) ∧ (Lit.int .u8 z).wf = true := fun i hi => by
    have h1 := hf i hi
    obtain ⟨b, hb⟩ : ∃ b, xs[i]? = some b := ⟨xs[i]'(by omega), List.getElem?_eq_getElem (by omega)⟩
    rw [hc5, Nat.mul_one, hb] at h1
    obtain ⟨z, hz, _, hw⟩ := DataW.trod_int Tryd.underlying5 h1
    refine ⟨z, ?_, hw⟩
    have := congrArg (·[0]?) hz
    simpa [List.getElem?_take, List.getElem?_drop] using this
  obtain ⟨Z, hZ⟩ := choose_lt (α := Int) each
  refine ⟨(List.range 32).map fun i => BitVec.ofInt 8 (Z i), by simp, ?_⟩
  apply List.ext_getElem?
  intro i
  by_cases hi : i < 32
  · rw [(hZ i hi).1]
    simp [bytesV, hi, n8_ofInt _ (hZ i hi).2]
  · rw [List.getElem?_eq_none (by omega), List.getElem?_eq_none (by simp [bytesV]; omega)]
end Go.Proofs.YtoidjapenompiaaDoor

/-
  Keys that came in, one behind the other.
-/
namespace Go.Proofs.YtoidjapenompiaaDoor
open Go.ChangeShapes Go.WideShapes Go.ChangeAt Go.RowKit Go.Proofs.ShaWords Go.Deep
end Go.Proofs.YtoidjapenompiaaDoor
