/-
  The walk of the law ChachaBlocks: for any key, counter and nonce it returns true, and nothing that was there changes.
-/
import Derived.Test.YtgfmjfpafpmghaaDoorCcRefBlock
import Derived.Test.YtgfmjfpafpmghaaDoorCcOps
import Derived.Test.YtgfmjfpafpmghaaDoorCcWorks
namespace Go.Proofs.YtgfmjfpafpmghaaDoor
open Go.RowKit Go.Proofs.ShaWords
theorem equal64 (d : Nat) (l : List (BitVec 8)) (hl : l.length = 64) (w : World) : (Op.equalIn (d + 1 + 1) 42 (.agg (bytesV l).toArray) (.agg (bytesV l).toArray)).run Tryd.prog w = .ok true w := by
  have hsz : (sizeOf 5).run Tryd.prog w = .ok 1 w := by kernel_rfl
  rw [Op.equalIn]
  simp only [Sem.run_bind, run_underlying Tryd.underlying42, Result.andThen_ok, hsz]
  rw [Std.Legacy.Range.forIn_eq_forIn_range']
  rw [forIn_yield]
  · simp
  · intro i hi
    have hi64 : i < l.length := by
      rw [List.mem_range'] at hi
      obtain ⟨j, hj, rfl⟩ := hi
      rw [hl]
      simp [Std.Legacy.Range.size] at hj ⊢
      omega
    rw [Sem.run_bind, part5 l i hi64]
    simp only [Result.andThen_ok]
    rw [Sem.run_bind, part5 l i hi64]
    simp only [Result.andThen_ok]
    rw [Sem.run_bind, run_equalIn_int w d 5 .u8 .u8 _ _ Tryd.underlying5]
    simp
theorem eql64 (l : List (BitVec 8)) (hl : l.length = 64) (w : World) : (binOp .eql 42 (.agg (bytesV l).toArray) (.agg (bytesV l).toArray)).run Tryd.prog w = .ok (.bool true) w := by
  rw [run_eql_struct, equal64 9998 l hl]; rfl
theorem run_eql64 {ρ : Operand → Value} {o : Oper} {x y : Operand} {l : List (BitVec 8)} (ho : o.op = .binOp .eql 42 x y 42) (hl : l.length = 64) (hx : ρ x = .agg (bytesV l).toArray) (hy : ρ y = .agg (bytesV l).toArray) (w : World) :
    (execOp ρ o).run Tryd.prog w = .ok (.value (.bool true)) w := by
  have hg : Tryd.prog.eqGuardType Tryd.prog.depth 42 = false := by kernel_rfl
  unfold execOp
  simp only [ho, hx, hy, Sem.run_bind, run_eqGuard_agg w .eql 42 x y _ _ hg, Result.andThen_ok, eql64 l hl, Sem.run_pure]
attribute [local irreducible] ccBlock
set_option maxRecDepth 100000 in
set_option maxHeartbeats 2000000 in
theorem blocks_any (key nonce : List (BitVec 8)) (c : BitVec 32) (w : World) (hk : key.length = 32) (hn : nonce.length = 12) (hq : Quads w) :
    Calls Tryd.prog 23 #[.agg (bytesV key).toArray, .int .u32 (n32 c), .agg (bytesV nonce).toArray] w fun e w' => e = .returned (.bool true) ∧ Below w.heap.size w w' := by
  have hqs := hq.size
  have HQ := Lib.hid hq; clear hq
  have HKL := Lib.hid hk; clear hk
  have HNL := Lib.hid hn; clear hn
  have HCL := Lib.hid (ccBlock_length key c nonce)
  go_enter Tryd.func23, Tryd.ntmps23
  go_upto_region 1 with (fail)
  refine wp_gen (TwoW w key nonce) (two_start w key nonce) ?_
  intro w0 hw0
  have HW0 := Lib.hid hw0; clear hw0
  refine region_phase (TwoW w key nonce) (fun _ => True) 3 (HW0.out.on ((Below.refl _ _).drew)) trivial [(0, .free), (1, .free), (2, .free), (4, .free), (5, .free), (6, .free), (3, .behind), (7, .behind), (8, .free), (9, .free), (10, .behind), (11, .free), (12, .free)] (by kernel_rfl) (by kernel_rfl) (by kernel_rfl) (by kernel_rfl) (fun ops hops A hA => ?_)
  have hsz : A.tmps.size = 19 := by rw [hA]; rfl
  have base1 : A.eval (.tmp 1) = .int .u32 (n32 c) := by rw [hA]; rfl
  have base3 : A.eval (.tmp 3) = .pointer (some ⟨w.heap.size, 0, none⟩) := by rw [hA]; rfl
  have base5 : A.eval (.tmp 5) = .pointer (some ⟨w.heap.size + 1, 0, none⟩) := by rw [hA]; rfl
  have HAA := Lib.hid hA; clear hA
  obtain ⟨o0, po0, q0, d0, gd0⟩ : ∃ o, ops[0]? = some o ∧ o.op = .load 44 (.tmp 3) ∧ o.dst = some 7 ∧ o.guard = none := ⟨_, by rw [hops]; rfl, rfl, rfl, rfl⟩
  obtain ⟨o1, po1, q1, d1, gd1⟩ : ∃ o, ops[1]? = some o ∧ o.op = .move (.tmp 1) ∧ o.dst = some 8 ∧ o.guard = none := ⟨_, by rw [hops]; rfl, rfl, rfl, rfl⟩
  obtain ⟨o2, po2, q2, d2, gd2⟩ : ∃ o, ops[2]? = some o ∧ o.op = .load 46 (.tmp 5) ∧ o.dst = some 9 ∧ o.guard = none := ⟨_, by rw [hops]; rfl, rfl, rfl, rfl⟩
  obtain ⟨o3, po3, q3, d3, gd3⟩ : ∃ o, ops[3]? = some o ∧ o.op = .call { callee := .value (.func 18), args := #[.tmp 7, .tmp 8, .tmp 9], argTypes := #[44, 25, 46] } ∧ o.dst = some 10 ∧ o.guard = none := ⟨_, by rw [hops]; rfl, rfl, rfl, rfl⟩
  obtain ⟨o4, po4, q4, d4, gd4⟩ : ∃ o, ops[4]? = some o ∧ o.op = .load 44 (.tmp 3) ∧ o.dst = some 11 ∧ o.guard = none := ⟨_, by rw [hops]; rfl, rfl, rfl, rfl⟩
  obtain ⟨o5, po5, q5, d5, gd5⟩ : ∃ o, ops[5]? = some o ∧ o.op = .move (.tmp 1) ∧ o.dst = some 12 ∧ o.guard = none := ⟨_, by rw [hops]; rfl, rfl, rfl, rfl⟩
  obtain ⟨o6, po6, q6, d6, gd6⟩ : ∃ o, ops[6]? = some o ∧ o.op = .load 46 (.tmp 5) ∧ o.dst = some 13 ∧ o.guard = none := ⟨_, by rw [hops]; rfl, rfl, rfl, rfl⟩
  obtain ⟨o7, po7, q7, d7, gd7⟩ : ∃ o, ops[7]? = some o ∧ o.op = .call { callee := .value (.func 41), args := #[.tmp 11, .tmp 12, .tmp 13], argTypes := #[44, 25, 46] } ∧ o.dst = some 14 ∧ o.guard = none := ⟨_, by rw [hops]; rfl, rfl, rfl, rfl⟩
  obtain ⟨o8, po8, q8, d8, gd8⟩ : ∃ o, ops[8]? = some o ∧ o.op = .binOp .eql 42 (.tmp 10) (.tmp 14) 42 ∧ o.dst = some 15 ∧ o.guard = none := ⟨_, by rw [hops]; rfl, rfl, rfl, rfl⟩
  obtain ⟨o9, po9, q9, d9, gd9⟩ : ∃ o, ops[9]? = some o ∧ o.op = .move (.tmp 15) ∧ o.dst = some 16 ∧ o.guard = none := ⟨_, by rw [hops]; rfl, rfl, rfl, rfl⟩
  obtain ⟨o10, po10, q10, d10, gd10⟩ : ∃ o, ops[10]? = some o ∧ o.op = .call { callee := .value (.func 27), args := #[], argTypes := #[] } ∧ o.dst = some 17 ∧ o.guard = some (9, true) := ⟨_, by rw [hops]; rfl, rfl, rfl, rfl⟩
  obtain ⟨o11, po11, q11, d11, gd11⟩ : ∃ o, ops[11]? = some o ∧ o.op = .pick (.tmp 16) (.tmp 17) (.const (.bool false)) ∧ o.dst = some 18 ∧ o.guard = none := ⟨_, by rw [hops]; rfl, rfl, rfl, rfl⟩
  obtain ⟨o12, po12, q12, d12, gd12⟩ : ∃ o, ops[12]? = some o ∧ o.op = .assign (.tmp 18) ∧ o.dst = some 6 ∧ o.guard = none := ⟨_, by rw [hops]; rfl, rfl, rfl, rfl⟩
  clear hops
  refine met_free po0 d0 (wanted_of gd0) (fun w' h' => run_loadKey q0 base3 HKL.out h'.key) ?_
  refine met_free po1 d1 (wanted_of gd1) (fun w' _ => run_move q1 ((eval_other _ 7 1 _ (by decide)).trans base1) w') ?_
  refine met_free po2 d2 (wanted_of gd2) (fun w' h' => run_loadNonce q2 ((eval_other _ 8 5 _ (by decide)).trans ((eval_other _ 7 5 _ (by decide)).trans base5)) HNL.out h'.nonce) ?_
  refine met_free po4 d4 (wanted_of gd4) (fun w' h' => run_loadKey q4 ((eval_other _ 9 3 _ (by decide)).trans ((eval_other _ 8 3 _ (by decide)).trans ((eval_other _ 7 3 _ (by decide)).trans base3))) HKL.out h'.key) ?_
  refine met_free po5 d5 (wanted_of gd5) (fun w' _ => run_move q5 ((eval_other _ 11 1 _ (by decide)).trans ((eval_other _ 9 1 _ (by decide)).trans ((eval_other _ 8 1 _ (by decide)).trans ((eval_other _ 7 1 _ (by decide)).trans base1)))) w') ?_
  refine met_free po6 d6 (wanted_of gd6) (fun w' h' => run_loadNonce q6 ((eval_other _ 12 5 _ (by decide)).trans ((eval_other _ 11 5 _ (by decide)).trans ((eval_other _ 9 5 _ (by decide)).trans ((eval_other _ 8 5 _ (by decide)).trans ((eval_other _ 7 5 _ (by decide)).trans base5))))) HNL.out h'.nonce) ?_
  refine met_enter po3 d3 (wanted_of gd3) (run_callf3 q3 rfl ((eval_other _ 13 7 _ (by decide)).trans ((eval_other _ 12 7 _ (by decide)).trans ((eval_other _ 11 7 _ (by decide)).trans ((eval_other _ 9 7 _ (by decide)).trans ((eval_other _ 8 7 _ (by decide)).trans (eval_same _ _ _ (by rw [hsz]; decide))))))) ((eval_other _ 13 8 _ (by decide)).trans ((eval_other _ 12 8 _ (by decide)).trans ((eval_other _ 11 8 _ (by decide)).trans ((eval_other _ 9 8 _ (by decide)).trans (eval_same _ _ _ (by simp only [put_size, hsz]; decide)))))) ((eval_other _ 13 9 _ (by decide)).trans ((eval_other _ 12 9 _ (by decide)).trans ((eval_other _ 11 9 _ (by decide)).trans (eval_same _ _ _ (by simp only [put_size, hsz]; decide))))) Tryd.func18 (by kernel_rfl) _) (ccBlock_any key nonce c w0.drew HKL.out HNL.out (HQ.out.below (HW0.out.on ((Below.refl _ _).drew)).below hqs)) ?_
  rintro e w1 ⟨rfl, hb1⟩
  have HW1 := Lib.hid ((HW0.out.on ((Below.refl _ _).drew)).on hb1); clear hb1
  refine ⟨_, rfl, HW1.out, ?_⟩
  refine met_enter po7 d7 (wanted_of gd7) (run_callf3 q7 rfl ((eval_other _ 10 11 _ (by decide)).trans ((eval_other _ 13 11 _ (by decide)).trans ((eval_other _ 12 11 _ (by decide)).trans (eval_same _ _ _ (by simp only [put_size, hsz]; decide))))) ((eval_other _ 10 12 _ (by decide)).trans ((eval_other _ 13 12 _ (by decide)).trans (eval_same _ _ _ (by simp only [put_size, hsz]; decide)))) ((eval_other _ 10 13 _ (by decide)).trans (eval_same _ _ _ (by simp only [put_size, hsz]; decide))) Tryd.func41 (by kernel_rfl) _) (refBlock_any key nonce c w1 HKL.out HNL.out) ?_
  rintro e w2 ⟨rfl, hb2⟩
  have HW2 := Lib.hid (HW1.out.on hb2); clear hb2
  refine ⟨_, rfl, HW2.out, ?_⟩
  refine met_free po8 d8 (wanted_of gd8) (fun w' _ => run_eql64 q8 HCL.out ((eval_other _ 14 10 _ (by decide)).trans (eval_same _ _ _ (by simp only [put_size, hsz]; decide))) (eval_same _ _ _ (by simp only [put_size, hsz]; decide)) w') ?_
  refine met_free po9 d9 (wanted_of gd9) (fun w' _ => run_move q9 (eval_same _ _ _ (by simp only [put_size, hsz]; decide)) w') ?_
  refine met_enter po10 d10 (wanted_guard gd10 po9 d9 (eval_same _ _ _ (by simp only [put_size, hsz]; decide))) (run_callf0 q10 rfl Tryd.func27 (by kernel_rfl) _) (works3_any w2 (HQ.out.below HW2.out.below hqs)) ?_
  rintro e w3 ⟨rfl, hb3⟩
  have HW3 := Lib.hid (HW2.out.on hb3); clear hb3
  refine ⟨_, rfl, HW3.out, ?_⟩
  refine met_free po11 d11 (wanted_of gd11) (fun w' _ => run_pick_true q11 ((eval_other _ 17 16 _ (by decide)).trans (eval_same _ _ _ (by simp only [put_size, hsz]; decide))) (eval_same _ _ _ (by simp only [put_size, hsz]; decide)) w') ?_
  refine met_free po12 d12 (wanted_of gd12) (fun w' _ => run_assign q12 (eval_same _ _ _ (by simp only [put_size, hsz]; decide)) w') ?_
  show NoPanic _ .normal _ _
  refine NoPanic.normal ?_
  rw [HAA.out]
  go_frame
  go_wp2_with fail
  go_ret
  exact ⟨rfl, HW3.out.below⟩
end Go.Proofs.YtgfmjfpafpmghaaDoor
