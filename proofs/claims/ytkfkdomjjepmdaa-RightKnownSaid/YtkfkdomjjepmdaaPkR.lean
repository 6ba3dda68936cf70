/-
  What other texts lean on: RtOrderLaw.
-/
import Derived.Test.YtkfkdomjjepmdaaPkO
/-
  RightOrder's walk (gen_rtorder.py).
-/
namespace Go.Proofs.Ytkfkdomjjepmdaa
open Go.RowKit
/-- Three grants in blocks. -/
structure Gr3 (A B C : Nat) (a b c : GrantM) (W w : World) : Prop where
  one : GrantAt w A a
  two : GrantAt w B b
  three : GrantAt w C c
  below : Below W.heap.size W w
theorem Gr3.boxes {a b c : GrantM} {ca cb cc : Array Value} (w : World) (ha : a.cells.toArray = ca) (hb : b.cells.toArray = cb) (hc : c.cells.toArray = cc) : Gr3 w.heap.size (w.heap.size + 1) (w.heap.size + 2) a b c w (((w.alloc (.cells ca 23)).alloc (.cells cb 23)).alloc (.cells cc 23)) := by
  have h := Gr2.boxes w ha hb
  have hbx := boxBelow ((w.alloc (.cells ca 23)).alloc (.cells cb 23)) (.cells cc 23)
  have h2 := h.step hbx
  refine ⟨h2.one, h2.two, ?_, h2.below⟩
  subst hc
  have := heap_alloc_new ((w.alloc (.cells ca 23)).alloc (.cells cb 23)) (.cells c.cells.toArray 23)
  unfold GrantAt
  simpa using this
theorem Gr3.step {A B C : Nat} {a b c : GrantM} {W w w' : World} (h : Gr3 A B C a b c W w) (hb : Below w.heap.size w w') : Gr3 A B C a b c W w' :=
  ⟨h.one.below hb (Array.getElem?_eq_some_iff.1 h.one).1, h.two.below hb (Array.getElem?_eq_some_iff.1 h.two).1, h.three.below hb (Array.getElem?_eq_some_iff.1 h.three).1, h.below.trans (hb.mono h.below.size)⟩
theorem max4_run {a b c d m : Int} (hm : m = max (max (max a b) c) d) (ty : TypeId) (w : World) : (Builtin.max_ #[3, 3, 3, 3] ty #[.int .i64 a, .int .i64 b, .int .i64 c, .int .i64 d]).run Try.prog w = .ok (.int .i64 m) w := by
  simp [Builtin.max_, Builtin.max2]
  omega
theorem run_max4 {ρ : Operand → Value} {o : Oper} {x y z u : Operand} {n m r q k : Nat} (ho : o.op = .call { callee := .builtin .max, args := #[x, y, z, u], argTypes := #[3, 3, 3, 3] }) (hx : ρ x = .int .i64 (n : Int)) (hy : ρ y = .int .i64 (m : Int)) (hz : ρ z = .int .i64 (r : Int)) (hu : ρ u = .int .i64 (q : Int)) (hk : k = max (max (max n m) r) q) (w : World) :
    (execOp ρ o).run Try.prog w = .ok (.value (.int .i64 (k : Int))) w := by
  obtain ⟨dst, op, ty', pos, after, guard⟩ := o
  simp only at ho
  subst ho
  have h := fun ty w => max4_run (a := n) (b := m) (c := r) (d := q) (m := k) (by omega) ty w
  clear hk
  go_simp
set_option maxRecDepth 100000 in
set_option maxHeartbeats 8000000 in
theorem rightOrder_any (a b c : GrantM) (r : Int) (s : ByteArray) (w : World) (ha : a.Ok) (hb : b.Ok) (hc : c.Ok) (hr : wrap64 r = r) :
    Calls Try.prog 6 #[.agg a.cells.toArray, .agg b.cells.toArray, .agg c.cells.toArray, .int .i64 r, .string s] w fun e w' => e = .returned (.bool true) ∧ Below w.heap.size w w' := by
  have NAA : Hid (∀ w, Calls Try.prog 19 #[.agg a.cells.toArray, .agg a.cells.toArray] w (ReturnsG (narrowM a a) w)) := show ∀ _, _ from fun w => narrow_any a a w ha.rw
  have NAB : Hid (∀ w, Calls Try.prog 19 #[.agg a.cells.toArray, .agg b.cells.toArray] w (ReturnsG (narrowM a b) w)) := show ∀ _, _ from fun w => narrow_any a b w hb.rw
  have NBA : Hid (∀ w, Calls Try.prog 19 #[.agg b.cells.toArray, .agg a.cells.toArray] w (ReturnsG (narrowM b a) w)) := show ∀ _, _ from fun w => narrow_any b a w ha.rw
  have NBC : Hid (∀ w, Calls Try.prog 19 #[.agg b.cells.toArray, .agg c.cells.toArray] w (ReturnsG (narrowM b c) w)) := show ∀ _, _ from fun w => narrow_any b c w hc.rw
  have NAC : Hid (∀ w, Calls Try.prog 19 #[.agg a.cells.toArray, .agg c.cells.toArray] w (ReturnsG (narrowM a c) w)) := show ∀ _, _ from fun w => narrow_any a c w hc.rw
  have CHK : Hid (∀ w, Calls Try.prog 13 #[.agg a.cells.toArray] w (ReturnsZ (checkM a) w)) := show ∀ _, _ from fun w => check_any a w ha.ps
  have HCA : Hid (∀ w, Calls Try.prog 15 #[.agg a.cells.toArray, .int .i64 r, .string s] w (ReturnsG (coversM a r s) w)) := show ∀ _, _ from fun w => covers_any a r s w hr
  have HCB : Hid (∀ w, Calls Try.prog 15 #[.agg b.cells.toArray, .int .i64 r, .string s] w (ReturnsG (coversM b r s) w)) := show ∀ _, _ from fun w => covers_any b r s w hr
  have HKN := Lib.hid works13_any
  have PSELF := Lib.hid (narrow_self (a := a))
  have PTR := Lib.hid (narrow_trans (a := a) (b := b) (c := c))
  have PBO := Lib.hid (fun h1 h2 => narrow_both (a := a) (b := b) h1 h2 r s)
  clear ha hb hc hr
  generalize hca : a.cells.toArray = ca
  generalize hcb : b.cells.toArray = cb
  generalize hcc : c.cells.toArray = cc
  have HCAE := Lib.hid hca
  have HCBE := Lib.hid hcb
  have HCCE := Lib.hid hcc
  clear hca hcb hcc
  obtain ⟨M, hM⟩ : ∃ M, M = max (max (max a.pre.size b.pre.size) c.pre.size) s.size := ⟨_, rfl⟩
  have HM := Lib.hid hM
  clear hM
  go_enter Try.func6, Try.ntmps6
  go_upto_region 1 with (fail)
  refine wp_gen (fun wr => Gr3 w.heap.size (w.heap.size + 1) (w.heap.size + 2) a b c w wr) (Gr3.boxes w HCAE.out HCBE.out HCCE.out) (fun w1 hg => ?_)
  have c1 := hg.one.c1
  have c2 := hg.two.c1
  have c3 := hg.three.c1
  have HG1 := Lib.hid hg
  clear hg
  by_cases hbig : M > 4096
  · have q : (M : Int) > 4096 := by omega
    go_wp2_with (first | (show wpList _ _ _ (⟨_, .call { callee := .builtin .max, args := _, argTypes := _ }, _, _, _, _⟩ :: _) _ _; refine wpList_run (by rfl) (run_max4 rfl rfl rfl rfl rfl HM.out _) ?_))
    refine (HKN.out _).mono ?_
    rintro e w99 ⟨rfl, hb⟩
    have HB9 := Lib.hid (HG1.out.below.trans (hb.mono HG1.out.below.size))
    clear hb
    go_wp2_with fail
    go_ret
    exact ⟨rfl, HB9.out⟩
  have q : ¬ (M : Int) > 4096 := by omega
  clear hbig
  obtain ⟨z, hz⟩ : ∃ z, checkM a = z := ⟨_, rfl⟩
  rw [hz] at CHK
  have hself : z = 0 → narrowM a a = true := fun h => PSELF.out (hz.trans h)
  have HSELF := Lib.hid hself
  clear hself hz
  have CHK2 : Hid (∀ w, Calls Try.prog 13 #[.agg a.cells.toArray] w (ReturnsZ z w)) := CHK
  cases hab : narrowM a b <;> cases hbc : narrowM b c <;> cases hba : narrowM b a
  · have VAB := Lib.hid hab
    have VBC := Lib.hid hbc
    have VBA := Lib.hid hba
    clear hab hbc hba
    by_cases hz0 : z = 0
    · have VAA := Lib.hid (HSELF.out hz0)
      subst hz0
      go_wp2_with (first | (show wpList _ _ _ (⟨_, .call { callee := .builtin .max, args := _, argTypes := _ }, _, _, _, _⟩ :: _) _ _; refine wpList_run (by rfl) (run_max4 rfl rfl rfl rfl rfl HM.out _) ?_) | (show wpList _ _ _ (⟨_, .load 23 (.tmp 5), _, _, _, _⟩ :: _) _ _; refine wpList_run (by rfl) (run_loadBlk rfl rfl HG1.out.one (by kernel_rfl) (size_grant _)) ?_))
      refine (CHK2.out _).mono ?_
      rintro e w2 ⟨rfl, hb⟩
      have HG2 := Lib.hid (HG1.out.step hb)
      clear hb
      go_wp2_with (first | (show wpList _ _ _ (⟨_, .load 23 (.tmp 5), _, _, _, _⟩ :: _) _ _; refine wpList_run (by rfl) (run_loadBlk rfl rfl HG2.out.one (by kernel_rfl) (size_grant _)) ?_))
      refine (NAA.out _).mono ?_
      rw [VAA.out]
      rintro e w3 ⟨rfl, hb⟩
      have HG3 := Lib.hid (HG2.out.step hb)
      clear hb
      go_wp2_with (first | (show wpList _ _ _ (⟨_, .load 23 (.tmp 5), _, _, _, _⟩ :: _) _ _; refine wpList_run (by rfl) (run_loadBlk rfl rfl HG3.out.one (by kernel_rfl) (size_grant _)) ?_) | (show wpList _ _ _ (⟨_, .load 23 (.tmp 6), _, _, _, _⟩ :: _) _ _; refine wpList_run (by rfl) (run_loadBlk rfl rfl HG3.out.two (by kernel_rfl) (size_grant _)) ?_))
      refine (NAB.out _).mono ?_
      rw [VAB.out]
      rintro e w4 ⟨rfl, hb⟩
      have HG4 := Lib.hid (HG3.out.step hb)
      clear hb
      go_upto_region 7 with (fail)
      refine region_phase (fun wr => Gr3 w.heap.size (w.heap.size + 1) (w.heap.size + 2) a b c w wr) (fun _ => True) 99 (HG4.out.step (Below.refl _ _).drew) trivial [(0, .free), (1, .free), (2, .behind), (3, .free), (4, .free), (5, .free), (6, .behind), (7, .free), (8, .free), (9, .free), (10, .free), (11, .free), (13, .free), (14, .free), (15, .free), (12, .behind), (16, .behind), (17, .free), (18, .free)] (by kernel_rfl) (by kernel_rfl) (by kernel_rfl) (by kernel_rfl) (fun ops hops A hA => ?_)
      have hsz : A.tmps.size = 68 := by rw [hA]; rfl
      have base3 : A.eval (.tmp 3) = .int .i64 r := by rw [hA]; rfl
      have base4 : A.eval (.tmp 4) = .string s := by rw [hA]; rfl
      have base5 : A.eval (.tmp 5) = .pointer (some ⟨w.heap.size, 0, none⟩) := by rw [hA]; rfl
      have base6 : A.eval (.tmp 6) = .pointer (some ⟨w.heap.size + 1, 0, none⟩) := by rw [hA]; rfl
      have base7 : A.eval (.tmp 7) = .pointer (some ⟨w.heap.size + 2, 0, none⟩) := by rw [hA]; rfl
      have HAA := Lib.hid hA; clear hA
      obtain ⟨o0, po0, q0, d0, gd0⟩ : ∃ o, ops[0]? = some o ∧ o.op = .load 23 (.tmp 5) ∧ o.dst = some 48 ∧ o.guard = none := ⟨_, by rw [hops]; rfl, rfl, rfl, rfl⟩
      obtain ⟨o1, po1, q1, d1, gd1⟩ : ∃ o, ops[1]? = some o ∧ o.op = .load 23 (.tmp 6) ∧ o.dst = some 49 ∧ o.guard = none := ⟨_, by rw [hops]; rfl, rfl, rfl, rfl⟩
      obtain ⟨o2, po2, q2, d2, gd2⟩ : ∃ o, ops[2]? = some o ∧ o.op = .call { callee := .value (.func 19), args := #[.tmp 48, .tmp 49], argTypes := #[23, 23] } ∧ o.dst = some 50 ∧ o.guard = none := ⟨_, by rw [hops]; rfl, rfl, rfl, rfl⟩
      obtain ⟨o3, po3, q3, d3, gd3⟩ : ∃ o, ops[3]? = some o ∧ o.op = .move (.tmp 50) ∧ o.dst = some 51 ∧ o.guard = none := ⟨_, by rw [hops]; rfl, rfl, rfl, rfl⟩
      obtain ⟨o4, po4, q4, d4, gd4⟩ : ∃ o, ops[4]? = some o ∧ o.op = .load 23 (.tmp 6) ∧ o.dst = some 52 ∧ o.guard = some (3, true) := ⟨_, by rw [hops]; rfl, rfl, rfl, rfl⟩
      obtain ⟨o5, po5, q5, d5, gd5⟩ : ∃ o, ops[5]? = some o ∧ o.op = .load 23 (.tmp 5) ∧ o.dst = some 53 ∧ o.guard = some (3, true) := ⟨_, by rw [hops]; rfl, rfl, rfl, rfl⟩
      obtain ⟨o6, po6, q6, d6, gd6⟩ : ∃ o, ops[6]? = some o ∧ o.op = .call { callee := .value (.func 19), args := #[.tmp 52, .tmp 53], argTypes := #[23, 23] } ∧ o.dst = some 54 ∧ o.guard = some (3, true) := ⟨_, by rw [hops]; rfl, rfl, rfl, rfl⟩
      obtain ⟨o7, po7, q7, d7, gd7⟩ : ∃ o, ops[7]? = some o ∧ o.op = .pick (.tmp 51) (.tmp 54) (.const (.bool false)) ∧ o.dst = some 55 ∧ o.guard = none := ⟨_, by rw [hops]; rfl, rfl, rfl, rfl⟩
      obtain ⟨o8, po8, q8, d8, gd8⟩ : ∃ o, ops[8]? = some o ∧ o.op = .move (.tmp 55) ∧ o.dst = some 56 ∧ o.guard = none := ⟨_, by rw [hops]; rfl, rfl, rfl, rfl⟩
      obtain ⟨o9, po9, q9, d9, gd9⟩ : ∃ o, ops[9]? = some o ∧ o.op = .load 23 (.tmp 5) ∧ o.dst = some 57 ∧ o.guard = some (8, true) := ⟨_, by rw [hops]; rfl, rfl, rfl, rfl⟩
      obtain ⟨o10, po10, q10, d10, gd10⟩ : ∃ o, ops[10]? = some o ∧ o.op = .move (.tmp 3) ∧ o.dst = some 58 ∧ o.guard = some (8, true) := ⟨_, by rw [hops]; rfl, rfl, rfl, rfl⟩
      obtain ⟨o11, po11, q11, d11, gd11⟩ : ∃ o, ops[11]? = some o ∧ o.op = .move (.tmp 4) ∧ o.dst = some 59 ∧ o.guard = some (8, true) := ⟨_, by rw [hops]; rfl, rfl, rfl, rfl⟩
      obtain ⟨o12, po12, q12, d12, gd12⟩ : ∃ o, ops[12]? = some o ∧ o.op = .call { callee := .value (.func 15), args := #[.tmp 57, .tmp 58, .tmp 59], argTypes := #[23, 3, 9] } ∧ o.dst = some 60 ∧ o.guard = some (8, true) := ⟨_, by rw [hops]; rfl, rfl, rfl, rfl⟩
      obtain ⟨o13, po13, q13, d13, gd13⟩ : ∃ o, ops[13]? = some o ∧ o.op = .load 23 (.tmp 6) ∧ o.dst = some 61 ∧ o.guard = some (8, true) := ⟨_, by rw [hops]; rfl, rfl, rfl, rfl⟩
      obtain ⟨o14, po14, q14, d14, gd14⟩ : ∃ o, ops[14]? = some o ∧ o.op = .move (.tmp 3) ∧ o.dst = some 62 ∧ o.guard = some (8, true) := ⟨_, by rw [hops]; rfl, rfl, rfl, rfl⟩
      obtain ⟨o15, po15, q15, d15, gd15⟩ : ∃ o, ops[15]? = some o ∧ o.op = .move (.tmp 4) ∧ o.dst = some 63 ∧ o.guard = some (8, true) := ⟨_, by rw [hops]; rfl, rfl, rfl, rfl⟩
      obtain ⟨o16, po16, q16, d16, gd16⟩ : ∃ o, ops[16]? = some o ∧ o.op = .call { callee := .value (.func 15), args := #[.tmp 61, .tmp 62, .tmp 63], argTypes := #[23, 3, 9] } ∧ o.dst = some 64 ∧ o.guard = some (8, true) := ⟨_, by rw [hops]; rfl, rfl, rfl, rfl⟩
      obtain ⟨o17, po17, q17, d17, gd17⟩ : ∃ o, ops[17]? = some o ∧ o.op = .binOp .neq 4 (.tmp 60) (.tmp 64) 4 ∧ o.dst = some 65 ∧ o.guard = some (8, true) := ⟨_, by rw [hops]; rfl, rfl, rfl, rfl⟩
      obtain ⟨o18, po18, q18, d18, gd18⟩ : ∃ o, ops[18]? = some o ∧ o.op = .pick (.tmp 56) (.tmp 65) (.const (.bool false)) ∧ o.dst = some 66 ∧ o.guard = none := ⟨_, by rw [hops]; rfl, rfl, rfl, rfl⟩
      clear hops
      refine met_free po0 d0 (wanted_of gd0) (fun w' h' => run_loadBlk q0 base5 h'.one (by kernel_rfl) (size_grant _)) ?_
      refine met_free po1 d1 (wanted_of gd1) (fun w' h' => run_loadBlk q1 ((eval_other _ 48 6 _ (by decide)).trans base6) h'.two (by kernel_rfl) (size_grant _)) ?_
      refine m_enter po2 d2 (wanted_of gd2) (run_callf2 q2 rfl ((eval_other _ 49 48 _ (by decide)).trans (eval_same _ _ _ (by rw [hsz]; decide))) (eval_same _ _ _ (by simp only [put_size, hsz]; decide)) Try.func19 (by kernel_rfl) _) ((VAB.out ▸ NAB.out _ : Calls _ _ _ _ (ReturnsG false _))) ?_
      rintro e w7_1 ⟨rfl, hb⟩
      have HSw7_1 := Lib.hid ((HG4.out.step (Below.refl _ _).drew).step hb)
      clear hb
      refine ⟨_, rfl, HSw7_1.out, ?_⟩
      refine met_free po3 d3 (wanted_of gd3) (fun w' h' => run_move q3 (eval_same _ _ _ (by simp only [put_size, hsz]; decide)) w') ?_
      refine m_unwanted po4 d4 (w_not gd4 po3 d3 (eval_same _ _ _ (by simp only [put_size, hsz]; decide))) ?_
      refine m_unwanted po5 d5 (w_not gd5 po3 d3 ((eval_other _ 52 51 _ (by decide)).trans (eval_same _ _ _ (by simp only [put_size, hsz]; decide)))) ?_
      refine m_skipped po6 d6 (w_not gd6 po3 d3 ((eval_other _ 53 51 _ (by decide)).trans ((eval_other _ 52 51 _ (by decide)).trans (eval_same _ _ _ (by simp only [put_size, hsz]; decide))))) ⟨HSw7_1.out, ?_⟩
      refine met_free po7 d7 (wanted_of gd7) (fun w' h' => r_pickF q7 ((eval_other _ 54 51 _ (by decide)).trans ((eval_other _ 53 51 _ (by decide)).trans ((eval_other _ 52 51 _ (by decide)).trans (eval_same _ _ _ (by simp only [put_size, hsz]; decide))))) rfl w') ?_
      refine met_free po8 d8 (wanted_of gd8) (fun w' h' => run_move q8 (eval_same _ _ _ (by simp only [put_size, hsz]; decide)) w') ?_
      refine m_unwanted po9 d9 (w_not gd9 po8 d8 (eval_same _ _ _ (by simp only [put_size, hsz]; decide))) ?_
      refine m_unwanted po10 d10 (w_not gd10 po8 d8 ((eval_other _ 57 56 _ (by decide)).trans (eval_same _ _ _ (by simp only [put_size, hsz]; decide)))) ?_
      refine m_unwanted po11 d11 (w_not gd11 po8 d8 ((eval_other _ 58 56 _ (by decide)).trans ((eval_other _ 57 56 _ (by decide)).trans (eval_same _ _ _ (by simp only [put_size, hsz]; decide))))) ?_
      refine m_unwanted po13 d13 (w_not gd13 po8 d8 ((eval_other _ 59 56 _ (by decide)).trans ((eval_other _ 58 56 _ (by decide)).trans ((eval_other _ 57 56 _ (by decide)).trans (eval_same _ _ _ (by simp only [put_size, hsz]; decide)))))) ?_
      refine m_unwanted po14 d14 (w_not gd14 po8 d8 ((eval_other _ 61 56 _ (by decide)).trans ((eval_other _ 59 56 _ (by decide)).trans ((eval_other _ 58 56 _ (by decide)).trans ((eval_other _ 57 56 _ (by decide)).trans (eval_same _ _ _ (by simp only [put_size, hsz]; decide))))))) ?_
      refine m_unwanted po15 d15 (w_not gd15 po8 d8 ((eval_other _ 62 56 _ (by decide)).trans ((eval_other _ 61 56 _ (by decide)).trans ((eval_other _ 59 56 _ (by decide)).trans ((eval_other _ 58 56 _ (by decide)).trans ((eval_other _ 57 56 _ (by decide)).trans (eval_same _ _ _ (by simp only [put_size, hsz]; decide)))))))) ?_
      refine m_skipped po12 d12 (w_not gd12 po8 d8 ((eval_other _ 63 56 _ (by decide)).trans ((eval_other _ 62 56 _ (by decide)).trans ((eval_other _ 61 56 _ (by decide)).trans ((eval_other _ 59 56 _ (by decide)).trans ((eval_other _ 58 56 _ (by decide)).trans ((eval_other _ 57 56 _ (by decide)).trans (eval_same _ _ _ (by simp only [put_size, hsz]; decide))))))))) ⟨HSw7_1.out, ?_⟩
      refine m_skipped po16 d16 (w_not gd16 po8 d8 ((eval_other _ 60 56 _ (by decide)).trans ((eval_other _ 63 56 _ (by decide)).trans ((eval_other _ 62 56 _ (by decide)).trans ((eval_other _ 61 56 _ (by decide)).trans ((eval_other _ 59 56 _ (by decide)).trans ((eval_other _ 58 56 _ (by decide)).trans ((eval_other _ 57 56 _ (by decide)).trans (eval_same _ _ _ (by simp only [put_size, hsz]; decide)))))))))) ⟨HSw7_1.out, ?_⟩
      refine m_unwanted po17 d17 (w_not gd17 po8 d8 ((eval_other _ 64 56 _ (by decide)).trans ((eval_other _ 60 56 _ (by decide)).trans ((eval_other _ 63 56 _ (by decide)).trans ((eval_other _ 62 56 _ (by decide)).trans ((eval_other _ 61 56 _ (by decide)).trans ((eval_other _ 59 56 _ (by decide)).trans ((eval_other _ 58 56 _ (by decide)).trans ((eval_other _ 57 56 _ (by decide)).trans (eval_same _ _ _ (by simp only [put_size, hsz]; decide))))))))))) ?_
      refine met_free po18 d18 (wanted_of gd18) (fun w' h' => r_pickF q18 ((eval_other _ 65 56 _ (by decide)).trans ((eval_other _ 64 56 _ (by decide)).trans ((eval_other _ 60 56 _ (by decide)).trans ((eval_other _ 63 56 _ (by decide)).trans ((eval_other _ 62 56 _ (by decide)).trans ((eval_other _ 61 56 _ (by decide)).trans ((eval_other _ 59 56 _ (by decide)).trans ((eval_other _ 58 56 _ (by decide)).trans ((eval_other _ 57 56 _ (by decide)).trans (eval_same _ _ _ (by simp only [put_size, hsz]; decide))))))))))) rfl w') ?_
      show NoPanic _ .normal _ _
      refine NoPanic.normal ?_
      rw [HAA.out]
      go_frame
      clear HAA
      clear po0 q0 d0 gd0 po1 q1 d1 gd1 po2 q2 d2 gd2 po3 q3 d3 gd3 po4 q4 d4 gd4 po5 q5 d5 gd5 po6 q6 d6 gd6 po7 q7 d7 gd7 po8 q8 d8 gd8 po9 q9 d9 gd9 po10 q10 d10 gd10 po11 q11 d11 gd11 po12 q12 d12 gd12 po13 q13 d13 gd13 po14 q14 d14 gd14 po15 q15 d15 gd15 po16 q16 d16 gd16 po17 q17 d17 gd17 po18 q18 d18 gd18
      clear base3 base4 base5 base6 base7 hsz
      go_wp2_with fail
      refine (HKN.out _).mono ?_
      rintro e w99 ⟨rfl, hb⟩
      have HB9 := Lib.hid (HSw7_1.out.below.trans (hb.mono HSw7_1.out.below.size))
      clear hb
      go_wp2_with fail
      go_ret
      exact ⟨rfl, HB9.out⟩
    · skip
      go_wp2_with (first | (show wpList _ _ _ (⟨_, .call { callee := .builtin .max, args := _, argTypes := _ }, _, _, _, _⟩ :: _) _ _; refine wpList_run (by rfl) (run_max4 rfl rfl rfl rfl rfl HM.out _) ?_) | (show wpList _ _ _ (⟨_, .load 23 (.tmp 5), _, _, _, _⟩ :: _) _ _; refine wpList_run (by rfl) (run_loadBlk rfl rfl HG1.out.one (by kernel_rfl) (size_grant _)) ?_))
      refine (CHK2.out _).mono ?_
      rintro e w2 ⟨rfl, hb⟩
      have HG2 := Lib.hid (HG1.out.step hb)
      clear hb
      go_wp2_with (first | (show wpList _ _ _ (⟨_, .load 23 (.tmp 5), _, _, _, _⟩ :: _) _ _; refine wpList_run (by rfl) (run_loadBlk rfl rfl HG2.out.one (by kernel_rfl) (size_grant _)) ?_) | (show wpList _ _ _ (⟨_, .load 23 (.tmp 6), _, _, _, _⟩ :: _) _ _; refine wpList_run (by rfl) (run_loadBlk rfl rfl HG2.out.two (by kernel_rfl) (size_grant _)) ?_))
      refine (NAB.out _).mono ?_
      rw [VAB.out]
      rintro e w3 ⟨rfl, hb⟩
      have HG3 := Lib.hid (HG2.out.step hb)
      clear hb
      go_upto_region 7 with (fail)
      refine region_phase (fun wr => Gr3 w.heap.size (w.heap.size + 1) (w.heap.size + 2) a b c w wr) (fun _ => True) 99 (HG3.out.step (Below.refl _ _).drew) trivial [(0, .free), (1, .free), (2, .behind), (3, .free), (4, .free), (5, .free), (6, .behind), (7, .free), (8, .free), (9, .free), (10, .free), (11, .free), (13, .free), (14, .free), (15, .free), (12, .behind), (16, .behind), (17, .free), (18, .free)] (by kernel_rfl) (by kernel_rfl) (by kernel_rfl) (by kernel_rfl) (fun ops hops A hA => ?_)
      have hsz : A.tmps.size = 68 := by rw [hA]; rfl
      have base3 : A.eval (.tmp 3) = .int .i64 r := by rw [hA]; rfl
      have base4 : A.eval (.tmp 4) = .string s := by rw [hA]; rfl
      have base5 : A.eval (.tmp 5) = .pointer (some ⟨w.heap.size, 0, none⟩) := by rw [hA]; rfl
      have base6 : A.eval (.tmp 6) = .pointer (some ⟨w.heap.size + 1, 0, none⟩) := by rw [hA]; rfl
      have base7 : A.eval (.tmp 7) = .pointer (some ⟨w.heap.size + 2, 0, none⟩) := by rw [hA]; rfl
      have HAA := Lib.hid hA; clear hA
      obtain ⟨o0, po0, q0, d0, gd0⟩ : ∃ o, ops[0]? = some o ∧ o.op = .load 23 (.tmp 5) ∧ o.dst = some 48 ∧ o.guard = none := ⟨_, by rw [hops]; rfl, rfl, rfl, rfl⟩
      obtain ⟨o1, po1, q1, d1, gd1⟩ : ∃ o, ops[1]? = some o ∧ o.op = .load 23 (.tmp 6) ∧ o.dst = some 49 ∧ o.guard = none := ⟨_, by rw [hops]; rfl, rfl, rfl, rfl⟩
      obtain ⟨o2, po2, q2, d2, gd2⟩ : ∃ o, ops[2]? = some o ∧ o.op = .call { callee := .value (.func 19), args := #[.tmp 48, .tmp 49], argTypes := #[23, 23] } ∧ o.dst = some 50 ∧ o.guard = none := ⟨_, by rw [hops]; rfl, rfl, rfl, rfl⟩
      obtain ⟨o3, po3, q3, d3, gd3⟩ : ∃ o, ops[3]? = some o ∧ o.op = .move (.tmp 50) ∧ o.dst = some 51 ∧ o.guard = none := ⟨_, by rw [hops]; rfl, rfl, rfl, rfl⟩
      obtain ⟨o4, po4, q4, d4, gd4⟩ : ∃ o, ops[4]? = some o ∧ o.op = .load 23 (.tmp 6) ∧ o.dst = some 52 ∧ o.guard = some (3, true) := ⟨_, by rw [hops]; rfl, rfl, rfl, rfl⟩
      obtain ⟨o5, po5, q5, d5, gd5⟩ : ∃ o, ops[5]? = some o ∧ o.op = .load 23 (.tmp 5) ∧ o.dst = some 53 ∧ o.guard = some (3, true) := ⟨_, by rw [hops]; rfl, rfl, rfl, rfl⟩
      obtain ⟨o6, po6, q6, d6, gd6⟩ : ∃ o, ops[6]? = some o ∧ o.op = .call { callee := .value (.func 19), args := #[.tmp 52, .tmp 53], argTypes := #[23, 23] } ∧ o.dst = some 54 ∧ o.guard = some (3, true) := ⟨_, by rw [hops]; rfl, rfl, rfl, rfl⟩
      obtain ⟨o7, po7, q7, d7, gd7⟩ : ∃ o, ops[7]? = some o ∧ o.op = .pick (.tmp 51) (.tmp 54) (.const (.bool false)) ∧ o.dst = some 55 ∧ o.guard = none := ⟨_, by rw [hops]; rfl, rfl, rfl, rfl⟩
      obtain ⟨o8, po8, q8, d8, gd8⟩ : ∃ o, ops[8]? = some o ∧ o.op = .move (.tmp 55) ∧ o.dst = some 56 ∧ o.guard = none := ⟨_, by rw [hops]; rfl, rfl, rfl, rfl⟩
      obtain ⟨o9, po9, q9, d9, gd9⟩ : ∃ o, ops[9]? = some o ∧ o.op = .load 23 (.tmp 5) ∧ o.dst = some 57 ∧ o.guard = some (8, true) := ⟨_, by rw [hops]; rfl, rfl, rfl, rfl⟩
      obtain ⟨o10, po10, q10, d10, gd10⟩ : ∃ o, ops[10]? = some o ∧ o.op = .move (.tmp 3) ∧ o.dst = some 58 ∧ o.guard = some (8, true) := ⟨_, by rw [hops]; rfl, rfl, rfl, rfl⟩
      obtain ⟨o11, po11, q11, d11, gd11⟩ : ∃ o, ops[11]? = some o ∧ o.op = .move (.tmp 4) ∧ o.dst = some 59 ∧ o.guard = some (8, true) := ⟨_, by rw [hops]; rfl, rfl, rfl, rfl⟩
      obtain ⟨o12, po12, q12, d12, gd12⟩ : ∃ o, ops[12]? = some o ∧ o.op = .call { callee := .value (.func 15), args := #[.tmp 57, .tmp 58, .tmp 59], argTypes := #[23, 3, 9] } ∧ o.dst = some 60 ∧ o.guard = some (8, true) := ⟨_, by rw [hops]; rfl, rfl, rfl, rfl⟩
      obtain ⟨o13, po13, q13, d13, gd13⟩ : ∃ o, ops[13]? = some o ∧ o.op = .load 23 (.tmp 6) ∧ o.dst = some 61 ∧ o.guard = some (8, true) := ⟨_, by rw [hops]; rfl, rfl, rfl, rfl⟩
      obtain ⟨o14, po14, q14, d14, gd14⟩ : ∃ o, ops[14]? = some o ∧ o.op = .move (.tmp 3) ∧ o.dst = some 62 ∧ o.guard = some (8, true) := ⟨_, by rw [hops]; rfl, rfl, rfl, rfl⟩
      obtain ⟨o15, po15, q15, d15, gd15⟩ : ∃ o, ops[15]? = some o ∧ o.op = .move (.tmp 4) ∧ o.dst = some 63 ∧ o.guard = some (8, true) := ⟨_, by rw [hops]; rfl, rfl, rfl, rfl⟩
      obtain ⟨o16, po16, q16, d16, gd16⟩ : ∃ o, ops[16]? = some o ∧ o.op = .call { callee := .value (.func 15), args := #[.tmp 61, .tmp 62, .tmp 63], argTypes := #[23, 3, 9] } ∧ o.dst = some 64 ∧ o.guard = some (8, true) := ⟨_, by rw [hops]; rfl, rfl, rfl, rfl⟩
      obtain ⟨o17, po17, q17, d17, gd17⟩ : ∃ o, ops[17]? = some o ∧ o.op = .binOp .neq 4 (.tmp 60) (.tmp 64) 4 ∧ o.dst = some 65 ∧ o.guard = some (8, true) := ⟨_, by rw [hops]; rfl, rfl, rfl, rfl⟩
      obtain ⟨o18, po18, q18, d18, gd18⟩ : ∃ o, ops[18]? = some o ∧ o.op = .pick (.tmp 56) (.tmp 65) (.const (.bool false)) ∧ o.dst = some 66 ∧ o.guard = none := ⟨_, by rw [hops]; rfl, rfl, rfl, rfl⟩
      clear hops
      refine met_free po0 d0 (wanted_of gd0) (fun w' h' => run_loadBlk q0 base5 h'.one (by kernel_rfl) (size_grant _)) ?_
      refine met_free po1 d1 (wanted_of gd1) (fun w' h' => run_loadBlk q1 ((eval_other _ 48 6 _ (by decide)).trans base6) h'.two (by kernel_rfl) (size_grant _)) ?_
      refine m_enter po2 d2 (wanted_of gd2) (run_callf2 q2 rfl ((eval_other _ 49 48 _ (by decide)).trans (eval_same _ _ _ (by rw [hsz]; decide))) (eval_same _ _ _ (by simp only [put_size, hsz]; decide)) Try.func19 (by kernel_rfl) _) ((VAB.out ▸ NAB.out _ : Calls _ _ _ _ (ReturnsG false _))) ?_
      rintro e w7_1 ⟨rfl, hb⟩
      have HSw7_1 := Lib.hid ((HG3.out.step (Below.refl _ _).drew).step hb)
      clear hb
      refine ⟨_, rfl, HSw7_1.out, ?_⟩
      refine met_free po3 d3 (wanted_of gd3) (fun w' h' => run_move q3 (eval_same _ _ _ (by simp only [put_size, hsz]; decide)) w') ?_
      refine m_unwanted po4 d4 (w_not gd4 po3 d3 (eval_same _ _ _ (by simp only [put_size, hsz]; decide))) ?_
      refine m_unwanted po5 d5 (w_not gd5 po3 d3 ((eval_other _ 52 51 _ (by decide)).trans (eval_same _ _ _ (by simp only [put_size, hsz]; decide)))) ?_
      refine m_skipped po6 d6 (w_not gd6 po3 d3 ((eval_other _ 53 51 _ (by decide)).trans ((eval_other _ 52 51 _ (by decide)).trans (eval_same _ _ _ (by simp only [put_size, hsz]; decide))))) ⟨HSw7_1.out, ?_⟩
      refine met_free po7 d7 (wanted_of gd7) (fun w' h' => r_pickF q7 ((eval_other _ 54 51 _ (by decide)).trans ((eval_other _ 53 51 _ (by decide)).trans ((eval_other _ 52 51 _ (by decide)).trans (eval_same _ _ _ (by simp only [put_size, hsz]; decide))))) rfl w') ?_
      refine met_free po8 d8 (wanted_of gd8) (fun w' h' => run_move q8 (eval_same _ _ _ (by simp only [put_size, hsz]; decide)) w') ?_
      refine m_unwanted po9 d9 (w_not gd9 po8 d8 (eval_same _ _ _ (by simp only [put_size, hsz]; decide))) ?_
      refine m_unwanted po10 d10 (w_not gd10 po8 d8 ((eval_other _ 57 56 _ (by decide)).trans (eval_same _ _ _ (by simp only [put_size, hsz]; decide)))) ?_
      refine m_unwanted po11 d11 (w_not gd11 po8 d8 ((eval_other _ 58 56 _ (by decide)).trans ((eval_other _ 57 56 _ (by decide)).trans (eval_same _ _ _ (by simp only [put_size, hsz]; decide))))) ?_
      refine m_unwanted po13 d13 (w_not gd13 po8 d8 ((eval_other _ 59 56 _ (by decide)).trans ((eval_other _ 58 56 _ (by decide)).trans ((eval_other _ 57 56 _ (by decide)).trans (eval_same _ _ _ (by simp only [put_size, hsz]; decide)))))) ?_
      refine m_unwanted po14 d14 (w_not gd14 po8 d8 ((eval_other _ 61 56 _ (by decide)).trans ((eval_other _ 59 56 _ (by decide)).trans ((eval_other _ 58 56 _ (by decide)).trans ((eval_other _ 57 56 _ (by decide)).trans (eval_same _ _ _ (by simp only [put_size, hsz]; decide))))))) ?_
      refine m_unwanted po15 d15 (w_not gd15 po8 d8 ((eval_other _ 62 56 _ (by decide)).trans ((eval_other _ 61 56 _ (by decide)).trans ((eval_other _ 59 56 _ (by decide)).trans ((eval_other _ 58 56 _ (by decide)).trans ((eval_other _ 57 56 _ (by decide)).trans (eval_same _ _ _ (by simp only [put_size, hsz]; decide)))))))) ?_
      refine m_skipped po12 d12 (w_not gd12 po8 d8 ((eval_other _ 63 56 _ (by decide)).trans ((eval_other _ 62 56 _ (by decide)).trans ((eval_other _ 61 56 _ (by decide)).trans ((eval_other _ 59 56 _ (by decide)).trans ((eval_other _ 58 56 _ (by decide)).trans ((eval_other _ 57 56 _ (by decide)).trans (eval_same _ _ _ (by simp only [put_size, hsz]; decide))))))))) ⟨HSw7_1.out, ?_⟩
      refine m_skipped po16 d16 (w_not gd16 po8 d8 ((eval_other _ 60 56 _ (by decide)).trans ((eval_other _ 63 56 _ (by decide)).trans ((eval_other _ 62 56 _ (by decide)).trans ((eval_other _ 61 56 _ (by decide)).trans ((eval_other _ 59 56 _ (by decide)).trans ((eval_other _ 58 56 _ (by decide)).trans ((eval_other _ 57 56 _ (by decide)).trans (eval_same _ _ _ (by simp only [put_size, hsz]; decide)))))))))) ⟨HSw7_1.out, ?_⟩
      refine m_unwanted po17 d17 (w_not gd17 po8 d8 ((eval_other _ 64 56 _ (by decide)).trans ((eval_other _ 60 56 _ (by decide)).trans ((eval_other _ 63 56 _ (by decide)).trans ((eval_other _ 62 56 _ (by decide)).trans ((eval_other _ 61 56 _ (by decide)).trans ((eval_other _ 59 56 _ (by decide)).trans ((eval_other _ 58 56 _ (by decide)).trans ((eval_other _ 57 56 _ (by decide)).trans (eval_same _ _ _ (by simp only [put_size, hsz]; decide))))))))))) ?_
      refine met_free po18 d18 (wanted_of gd18) (fun w' h' => r_pickF q18 ((eval_other _ 65 56 _ (by decide)).trans ((eval_other _ 64 56 _ (by decide)).trans ((eval_other _ 60 56 _ (by decide)).trans ((eval_other _ 63 56 _ (by decide)).trans ((eval_other _ 62 56 _ (by decide)).trans ((eval_other _ 61 56 _ (by decide)).trans ((eval_other _ 59 56 _ (by decide)).trans ((eval_other _ 58 56 _ (by decide)).trans ((eval_other _ 57 56 _ (by decide)).trans (eval_same _ _ _ (by simp only [put_size, hsz]; decide))))))))))) rfl w') ?_
      show NoPanic _ .normal _ _
      refine NoPanic.normal ?_
      rw [HAA.out]
      go_frame
      clear HAA
      clear po0 q0 d0 gd0 po1 q1 d1 gd1 po2 q2 d2 gd2 po3 q3 d3 gd3 po4 q4 d4 gd4 po5 q5 d5 gd5 po6 q6 d6 gd6 po7 q7 d7 gd7 po8 q8 d8 gd8 po9 q9 d9 gd9 po10 q10 d10 gd10 po11 q11 d11 gd11 po12 q12 d12 gd12 po13 q13 d13 gd13 po14 q14 d14 gd14 po15 q15 d15 gd15 po16 q16 d16 gd16 po17 q17 d17 gd17 po18 q18 d18 gd18
      clear base3 base4 base5 base6 base7 hsz
      go_wp2_with fail
      refine (HKN.out _).mono ?_
      rintro e w99 ⟨rfl, hb⟩
      have HB9 := Lib.hid (HSw7_1.out.below.trans (hb.mono HSw7_1.out.below.size))
      clear hb
      go_wp2_with fail
      go_ret
      exact ⟨rfl, HB9.out⟩
  · have VAB := Lib.hid hab
    have VBC := Lib.hid hbc
    have VBA := Lib.hid hba
    clear hab hbc hba
    by_cases hz0 : z = 0
    · have VAA := Lib.hid (HSELF.out hz0)
      subst hz0
      go_wp2_with (first | (show wpList _ _ _ (⟨_, .call { callee := .builtin .max, args := _, argTypes := _ }, _, _, _, _⟩ :: _) _ _; refine wpList_run (by rfl) (run_max4 rfl rfl rfl rfl rfl HM.out _) ?_) | (show wpList _ _ _ (⟨_, .load 23 (.tmp 5), _, _, _, _⟩ :: _) _ _; refine wpList_run (by rfl) (run_loadBlk rfl rfl HG1.out.one (by kernel_rfl) (size_grant _)) ?_))
      refine (CHK2.out _).mono ?_
      rintro e w2 ⟨rfl, hb⟩
      have HG2 := Lib.hid (HG1.out.step hb)
      clear hb
      go_wp2_with (first | (show wpList _ _ _ (⟨_, .load 23 (.tmp 5), _, _, _, _⟩ :: _) _ _; refine wpList_run (by rfl) (run_loadBlk rfl rfl HG2.out.one (by kernel_rfl) (size_grant _)) ?_))
      refine (NAA.out _).mono ?_
      rw [VAA.out]
      rintro e w3 ⟨rfl, hb⟩
      have HG3 := Lib.hid (HG2.out.step hb)
      clear hb
      go_wp2_with (first | (show wpList _ _ _ (⟨_, .load 23 (.tmp 5), _, _, _, _⟩ :: _) _ _; refine wpList_run (by rfl) (run_loadBlk rfl rfl HG3.out.one (by kernel_rfl) (size_grant _)) ?_) | (show wpList _ _ _ (⟨_, .load 23 (.tmp 6), _, _, _, _⟩ :: _) _ _; refine wpList_run (by rfl) (run_loadBlk rfl rfl HG3.out.two (by kernel_rfl) (size_grant _)) ?_))
      refine (NAB.out _).mono ?_
      rw [VAB.out]
      rintro e w4 ⟨rfl, hb⟩
      have HG4 := Lib.hid (HG3.out.step hb)
      clear hb
      go_upto_region 7 with (fail)
      refine region_phase (fun wr => Gr3 w.heap.size (w.heap.size + 1) (w.heap.size + 2) a b c w wr) (fun _ => True) 99 (HG4.out.step (Below.refl _ _).drew) trivial [(0, .free), (1, .free), (2, .behind), (3, .free), (4, .free), (5, .free), (6, .behind), (7, .free), (8, .free), (9, .free), (10, .free), (11, .free), (13, .free), (14, .free), (15, .free), (12, .behind), (16, .behind), (17, .free), (18, .free)] (by kernel_rfl) (by kernel_rfl) (by kernel_rfl) (by kernel_rfl) (fun ops hops A hA => ?_)
      have hsz : A.tmps.size = 68 := by rw [hA]; rfl
      have base3 : A.eval (.tmp 3) = .int .i64 r := by rw [hA]; rfl
      have base4 : A.eval (.tmp 4) = .string s := by rw [hA]; rfl
      have base5 : A.eval (.tmp 5) = .pointer (some ⟨w.heap.size, 0, none⟩) := by rw [hA]; rfl
      have base6 : A.eval (.tmp 6) = .pointer (some ⟨w.heap.size + 1, 0, none⟩) := by rw [hA]; rfl
      have base7 : A.eval (.tmp 7) = .pointer (some ⟨w.heap.size + 2, 0, none⟩) := by rw [hA]; rfl
      have HAA := Lib.hid hA; clear hA
      obtain ⟨o0, po0, q0, d0, gd0⟩ : ∃ o, ops[0]? = some o ∧ o.op = .load 23 (.tmp 5) ∧ o.dst = some 48 ∧ o.guard = none := ⟨_, by rw [hops]; rfl, rfl, rfl, rfl⟩
      obtain ⟨o1, po1, q1, d1, gd1⟩ : ∃ o, ops[1]? = some o ∧ o.op = .load 23 (.tmp 6) ∧ o.dst = some 49 ∧ o.guard = none := ⟨_, by rw [hops]; rfl, rfl, rfl, rfl⟩
      obtain ⟨o2, po2, q2, d2, gd2⟩ : ∃ o, ops[2]? = some o ∧ o.op = .call { callee := .value (.func 19), args := #[.tmp 48, .tmp 49], argTypes := #[23, 23] } ∧ o.dst = some 50 ∧ o.guard = none := ⟨_, by rw [hops]; rfl, rfl, rfl, rfl⟩
      obtain ⟨o3, po3, q3, d3, gd3⟩ : ∃ o, ops[3]? = some o ∧ o.op = .move (.tmp 50) ∧ o.dst = some 51 ∧ o.guard = none := ⟨_, by rw [hops]; rfl, rfl, rfl, rfl⟩
      obtain ⟨o4, po4, q4, d4, gd4⟩ : ∃ o, ops[4]? = some o ∧ o.op = .load 23 (.tmp 6) ∧ o.dst = some 52 ∧ o.guard = some (3, true) := ⟨_, by rw [hops]; rfl, rfl, rfl, rfl⟩
      obtain ⟨o5, po5, q5, d5, gd5⟩ : ∃ o, ops[5]? = some o ∧ o.op = .load 23 (.tmp 5) ∧ o.dst = some 53 ∧ o.guard = some (3, true) := ⟨_, by rw [hops]; rfl, rfl, rfl, rfl⟩
      obtain ⟨o6, po6, q6, d6, gd6⟩ : ∃ o, ops[6]? = some o ∧ o.op = .call { callee := .value (.func 19), args := #[.tmp 52, .tmp 53], argTypes := #[23, 23] } ∧ o.dst = some 54 ∧ o.guard = some (3, true) := ⟨_, by rw [hops]; rfl, rfl, rfl, rfl⟩
      obtain ⟨o7, po7, q7, d7, gd7⟩ : ∃ o, ops[7]? = some o ∧ o.op = .pick (.tmp 51) (.tmp 54) (.const (.bool false)) ∧ o.dst = some 55 ∧ o.guard = none := ⟨_, by rw [hops]; rfl, rfl, rfl, rfl⟩
      obtain ⟨o8, po8, q8, d8, gd8⟩ : ∃ o, ops[8]? = some o ∧ o.op = .move (.tmp 55) ∧ o.dst = some 56 ∧ o.guard = none := ⟨_, by rw [hops]; rfl, rfl, rfl, rfl⟩
      obtain ⟨o9, po9, q9, d9, gd9⟩ : ∃ o, ops[9]? = some o ∧ o.op = .load 23 (.tmp 5) ∧ o.dst = some 57 ∧ o.guard = some (8, true) := ⟨_, by rw [hops]; rfl, rfl, rfl, rfl⟩
      obtain ⟨o10, po10, q10, d10, gd10⟩ : ∃ o, ops[10]? = some o ∧ o.op = .move (.tmp 3) ∧ o.dst = some 58 ∧ o.guard = some (8, true) := ⟨_, by rw [hops]; rfl, rfl, rfl, rfl⟩
      obtain ⟨o11, po11, q11, d11, gd11⟩ : ∃ o, ops[11]? = some o ∧ o.op = .move (.tmp 4) ∧ o.dst = some 59 ∧ o.guard = some (8, true) := ⟨_, by rw [hops]; rfl, rfl, rfl, rfl⟩
      obtain ⟨o12, po12, q12, d12, gd12⟩ : ∃ o, ops[12]? = some o ∧ o.op = .call { callee := .value (.func 15), args := #[.tmp 57, .tmp 58, .tmp 59], argTypes := #[23, 3, 9] } ∧ o.dst = some 60 ∧ o.guard = some (8, true) := ⟨_, by rw [hops]; rfl, rfl, rfl, rfl⟩
      obtain ⟨o13, po13, q13, d13, gd13⟩ : ∃ o, ops[13]? = some o ∧ o.op = .load 23 (.tmp 6) ∧ o.dst = some 61 ∧ o.guard = some (8, true) := ⟨_, by rw [hops]; rfl, rfl, rfl, rfl⟩
      obtain ⟨o14, po14, q14, d14, gd14⟩ : ∃ o, ops[14]? = some o ∧ o.op = .move (.tmp 3) ∧ o.dst = some 62 ∧ o.guard = some (8, true) := ⟨_, by rw [hops]; rfl, rfl, rfl, rfl⟩
      obtain ⟨o15, po15, q15, d15, gd15⟩ : ∃ o, ops[15]? = some o ∧ o.op = .move (.tmp 4) ∧ o.dst = some 63 ∧ o.guard = some (8, true) := ⟨_, by rw [hops]; rfl, rfl, rfl, rfl⟩
      obtain ⟨o16, po16, q16, d16, gd16⟩ : ∃ o, ops[16]? = some o ∧ o.op = .call { callee := .value (.func 15), args := #[.tmp 61, .tmp 62, .tmp 63], argTypes := #[23, 3, 9] } ∧ o.dst = some 64 ∧ o.guard = some (8, true) := ⟨_, by rw [hops]; rfl, rfl, rfl, rfl⟩
      obtain ⟨o17, po17, q17, d17, gd17⟩ : ∃ o, ops[17]? = some o ∧ o.op = .binOp .neq 4 (.tmp 60) (.tmp 64) 4 ∧ o.dst = some 65 ∧ o.guard = some (8, true) := ⟨_, by rw [hops]; rfl, rfl, rfl, rfl⟩
      obtain ⟨o18, po18, q18, d18, gd18⟩ : ∃ o, ops[18]? = some o ∧ o.op = .pick (.tmp 56) (.tmp 65) (.const (.bool false)) ∧ o.dst = some 66 ∧ o.guard = none := ⟨_, by rw [hops]; rfl, rfl, rfl, rfl⟩
      clear hops
      refine met_free po0 d0 (wanted_of gd0) (fun w' h' => run_loadBlk q0 base5 h'.one (by kernel_rfl) (size_grant _)) ?_
      refine met_free po1 d1 (wanted_of gd1) (fun w' h' => run_loadBlk q1 ((eval_other _ 48 6 _ (by decide)).trans base6) h'.two (by kernel_rfl) (size_grant _)) ?_
      refine m_enter po2 d2 (wanted_of gd2) (run_callf2 q2 rfl ((eval_other _ 49 48 _ (by decide)).trans (eval_same _ _ _ (by rw [hsz]; decide))) (eval_same _ _ _ (by simp only [put_size, hsz]; decide)) Try.func19 (by kernel_rfl) _) ((VAB.out ▸ NAB.out _ : Calls _ _ _ _ (ReturnsG false _))) ?_
      rintro e w7_1 ⟨rfl, hb⟩
      have HSw7_1 := Lib.hid ((HG4.out.step (Below.refl _ _).drew).step hb)
      clear hb
      refine ⟨_, rfl, HSw7_1.out, ?_⟩
      refine met_free po3 d3 (wanted_of gd3) (fun w' h' => run_move q3 (eval_same _ _ _ (by simp only [put_size, hsz]; decide)) w') ?_
      refine m_unwanted po4 d4 (w_not gd4 po3 d3 (eval_same _ _ _ (by simp only [put_size, hsz]; decide))) ?_
      refine m_unwanted po5 d5 (w_not gd5 po3 d3 ((eval_other _ 52 51 _ (by decide)).trans (eval_same _ _ _ (by simp only [put_size, hsz]; decide)))) ?_
      refine m_skipped po6 d6 (w_not gd6 po3 d3 ((eval_other _ 53 51 _ (by decide)).trans ((eval_other _ 52 51 _ (by decide)).trans (eval_same _ _ _ (by simp only [put_size, hsz]; decide))))) ⟨HSw7_1.out, ?_⟩
      refine met_free po7 d7 (wanted_of gd7) (fun w' h' => r_pickF q7 ((eval_other _ 54 51 _ (by decide)).trans ((eval_other _ 53 51 _ (by decide)).trans ((eval_other _ 52 51 _ (by decide)).trans (eval_same _ _ _ (by simp only [put_size, hsz]; decide))))) rfl w') ?_
      refine met_free po8 d8 (wanted_of gd8) (fun w' h' => run_move q8 (eval_same _ _ _ (by simp only [put_size, hsz]; decide)) w') ?_
      refine m_unwanted po9 d9 (w_not gd9 po8 d8 (eval_same _ _ _ (by simp only [put_size, hsz]; decide))) ?_
      refine m_unwanted po10 d10 (w_not gd10 po8 d8 ((eval_other _ 57 56 _ (by decide)).trans (eval_same _ _ _ (by simp only [put_size, hsz]; decide)))) ?_
      refine m_unwanted po11 d11 (w_not gd11 po8 d8 ((eval_other _ 58 56 _ (by decide)).trans ((eval_other _ 57 56 _ (by decide)).trans (eval_same _ _ _ (by simp only [put_size, hsz]; decide))))) ?_
      refine m_unwanted po13 d13 (w_not gd13 po8 d8 ((eval_other _ 59 56 _ (by decide)).trans ((eval_other _ 58 56 _ (by decide)).trans ((eval_other _ 57 56 _ (by decide)).trans (eval_same _ _ _ (by simp only [put_size, hsz]; decide)))))) ?_
      refine m_unwanted po14 d14 (w_not gd14 po8 d8 ((eval_other _ 61 56 _ (by decide)).trans ((eval_other _ 59 56 _ (by decide)).trans ((eval_other _ 58 56 _ (by decide)).trans ((eval_other _ 57 56 _ (by decide)).trans (eval_same _ _ _ (by simp only [put_size, hsz]; decide))))))) ?_
      refine m_unwanted po15 d15 (w_not gd15 po8 d8 ((eval_other _ 62 56 _ (by decide)).trans ((eval_other _ 61 56 _ (by decide)).trans ((eval_other _ 59 56 _ (by decide)).trans ((eval_other _ 58 56 _ (by decide)).trans ((eval_other _ 57 56 _ (by decide)).trans (eval_same _ _ _ (by simp only [put_size, hsz]; decide)))))))) ?_
      refine m_skipped po12 d12 (w_not gd12 po8 d8 ((eval_other _ 63 56 _ (by decide)).trans ((eval_other _ 62 56 _ (by decide)).trans ((eval_other _ 61 56 _ (by decide)).trans ((eval_other _ 59 56 _ (by decide)).trans ((eval_other _ 58 56 _ (by decide)).trans ((eval_other _ 57 56 _ (by decide)).trans (eval_same _ _ _ (by simp only [put_size, hsz]; decide))))))))) ⟨HSw7_1.out, ?_⟩
      refine m_skipped po16 d16 (w_not gd16 po8 d8 ((eval_other _ 60 56 _ (by decide)).trans ((eval_other _ 63 56 _ (by decide)).trans ((eval_other _ 62 56 _ (by decide)).trans ((eval_other _ 61 56 _ (by decide)).trans ((eval_other _ 59 56 _ (by decide)).trans ((eval_other _ 58 56 _ (by decide)).trans ((eval_other _ 57 56 _ (by decide)).trans (eval_same _ _ _ (by simp only [put_size, hsz]; decide)))))))))) ⟨HSw7_1.out, ?_⟩
      refine m_unwanted po17 d17 (w_not gd17 po8 d8 ((eval_other _ 64 56 _ (by decide)).trans ((eval_other _ 60 56 _ (by decide)).trans ((eval_other _ 63 56 _ (by decide)).trans ((eval_other _ 62 56 _ (by decide)).trans ((eval_other _ 61 56 _ (by decide)).trans ((eval_other _ 59 56 _ (by decide)).trans ((eval_other _ 58 56 _ (by decide)).trans ((eval_other _ 57 56 _ (by decide)).trans (eval_same _ _ _ (by simp only [put_size, hsz]; decide))))))))))) ?_
      refine met_free po18 d18 (wanted_of gd18) (fun w' h' => r_pickF q18 ((eval_other _ 65 56 _ (by decide)).trans ((eval_other _ 64 56 _ (by decide)).trans ((eval_other _ 60 56 _ (by decide)).trans ((eval_other _ 63 56 _ (by decide)).trans ((eval_other _ 62 56 _ (by decide)).trans ((eval_other _ 61 56 _ (by decide)).trans ((eval_other _ 59 56 _ (by decide)).trans ((eval_other _ 58 56 _ (by decide)).trans ((eval_other _ 57 56 _ (by decide)).trans (eval_same _ _ _ (by simp only [put_size, hsz]; decide))))))))))) rfl w') ?_
      show NoPanic _ .normal _ _
      refine NoPanic.normal ?_
      rw [HAA.out]
      go_frame
      clear HAA
      clear po0 q0 d0 gd0 po1 q1 d1 gd1 po2 q2 d2 gd2 po3 q3 d3 gd3 po4 q4 d4 gd4 po5 q5 d5 gd5 po6 q6 d6 gd6 po7 q7 d7 gd7 po8 q8 d8 gd8 po9 q9 d9 gd9 po10 q10 d10 gd10 po11 q11 d11 gd11 po12 q12 d12 gd12 po13 q13 d13 gd13 po14 q14 d14 gd14 po15 q15 d15 gd15 po16 q16 d16 gd16 po17 q17 d17 gd17 po18 q18 d18 gd18
      clear base3 base4 base5 base6 base7 hsz
      go_wp2_with fail
      refine (HKN.out _).mono ?_
      rintro e w99 ⟨rfl, hb⟩
      have HB9 := Lib.hid (HSw7_1.out.below.trans (hb.mono HSw7_1.out.below.size))
      clear hb
      go_wp2_with fail
      go_ret
      exact ⟨rfl, HB9.out⟩
    · skip
      go_wp2_with (first | (show wpList _ _ _ (⟨_, .call { callee := .builtin .max, args := _, argTypes := _ }, _, _, _, _⟩ :: _) _ _; refine wpList_run (by rfl) (run_max4 rfl rfl rfl rfl rfl HM.out _) ?_) | (show wpList _ _ _ (⟨_, .load 23 (.tmp 5), _, _, _, _⟩ :: _) _ _; refine wpList_run (by rfl) (run_loadBlk rfl rfl HG1.out.one (by kernel_rfl) (size_grant _)) ?_))
      refine (CHK2.out _).mono ?_
      rintro e w2 ⟨rfl, hb⟩
      have HG2 := Lib.hid (HG1.out.step hb)
      clear hb
      go_wp2_with (first | (show wpList _ _ _ (⟨_, .load 23 (.tmp 5), _, _, _, _⟩ :: _) _ _; refine wpList_run (by rfl) (run_loadBlk rfl rfl HG2.out.one (by kernel_rfl) (size_grant _)) ?_) | (show wpList _ _ _ (⟨_, .load 23 (.tmp 6), _, _, _, _⟩ :: _) _ _; refine wpList_run (by rfl) (run_loadBlk rfl rfl HG2.out.two (by kernel_rfl) (size_grant _)) ?_))
      refine (NAB.out _).mono ?_
      rw [VAB.out]
      rintro e w3 ⟨rfl, hb⟩
      have HG3 := Lib.hid (HG2.out.step hb)
      clear hb
      go_upto_region 7 with (fail)
      refine region_phase (fun wr => Gr3 w.heap.size (w.heap.size + 1) (w.heap.size + 2) a b c w wr) (fun _ => True) 99 (HG3.out.step (Below.refl _ _).drew) trivial [(0, .free), (1, .free), (2, .behind), (3, .free), (4, .free), (5, .free), (6, .behind), (7, .free), (8, .free), (9, .free), (10, .free), (11, .free), (13, .free), (14, .free), (15, .free), (12, .behind), (16, .behind), (17, .free), (18, .free)] (by kernel_rfl) (by kernel_rfl) (by kernel_rfl) (by kernel_rfl) (fun ops hops A hA => ?_)
      have hsz : A.tmps.size = 68 := by rw [hA]; rfl
      have base3 : A.eval (.tmp 3) = .int .i64 r := by rw [hA]; rfl
      have base4 : A.eval (.tmp 4) = .string s := by rw [hA]; rfl
      have base5 : A.eval (.tmp 5) = .pointer (some ⟨w.heap.size, 0, none⟩) := by rw [hA]; rfl
      have base6 : A.eval (.tmp 6) = .pointer (some ⟨w.heap.size + 1, 0, none⟩) := by rw [hA]; rfl
      have base7 : A.eval (.tmp 7) = .pointer (some ⟨w.heap.size + 2, 0, none⟩) := by rw [hA]; rfl
      have HAA := Lib.hid hA; clear hA
      obtain ⟨o0, po0, q0, d0, gd0⟩ : ∃ o, ops[0]? = some o ∧ o.op = .load 23 (.tmp 5) ∧ o.dst = some 48 ∧ o.guard = none := ⟨_, by rw [hops]; rfl, rfl, rfl, rfl⟩
      obtain ⟨o1, po1, q1, d1, gd1⟩ : ∃ o, ops[1]? = some o ∧ o.op = .load 23 (.tmp 6) ∧ o.dst = some 49 ∧ o.guard = none := ⟨_, by rw [hops]; rfl, rfl, rfl, rfl⟩
      obtain ⟨o2, po2, q2, d2, gd2⟩ : ∃ o, ops[2]? = some o ∧ o.op = .call { callee := .value (.func 19), args := #[.tmp 48, .tmp 49], argTypes := #[23, 23] } ∧ o.dst = some 50 ∧ o.guard = none := ⟨_, by rw [hops]; rfl, rfl, rfl, rfl⟩
      obtain ⟨o3, po3, q3, d3, gd3⟩ : ∃ o, ops[3]? = some o ∧ o.op = .move (.tmp 50) ∧ o.dst = some 51 ∧ o.guard = none := ⟨_, by rw [hops]; rfl, rfl, rfl, rfl⟩
      obtain ⟨o4, po4, q4, d4, gd4⟩ : ∃ o, ops[4]? = some o ∧ o.op = .load 23 (.tmp 6) ∧ o.dst = some 52 ∧ o.guard = some (3, true) := ⟨_, by rw [hops]; rfl, rfl, rfl, rfl⟩
      obtain ⟨o5, po5, q5, d5, gd5⟩ : ∃ o, ops[5]? = some o ∧ o.op = .load 23 (.tmp 5) ∧ o.dst = some 53 ∧ o.guard = some (3, true) := ⟨_, by rw [hops]; rfl, rfl, rfl, rfl⟩
      obtain ⟨o6, po6, q6, d6, gd6⟩ : ∃ o, ops[6]? = some o ∧ o.op = .call { callee := .value (.func 19), args := #[.tmp 52, .tmp 53], argTypes := #[23, 23] } ∧ o.dst = some 54 ∧ o.guard = some (3, true) := ⟨_, by rw [hops]; rfl, rfl, rfl, rfl⟩
      obtain ⟨o7, po7, q7, d7, gd7⟩ : ∃ o, ops[7]? = some o ∧ o.op = .pick (.tmp 51) (.tmp 54) (.const (.bool false)) ∧ o.dst = some 55 ∧ o.guard = none := ⟨_, by rw [hops]; rfl, rfl, rfl, rfl⟩
      obtain ⟨o8, po8, q8, d8, gd8⟩ : ∃ o, ops[8]? = some o ∧ o.op = .move (.tmp 55) ∧ o.dst = some 56 ∧ o.guard = none := ⟨_, by rw [hops]; rfl, rfl, rfl, rfl⟩
      obtain ⟨o9, po9, q9, d9, gd9⟩ : ∃ o, ops[9]? = some o ∧ o.op = .load 23 (.tmp 5) ∧ o.dst = some 57 ∧ o.guard = some (8, true) := ⟨_, by rw [hops]; rfl, rfl, rfl, rfl⟩
      obtain ⟨o10, po10, q10, d10, gd10⟩ : ∃ o, ops[10]? = some o ∧ o.op = .move (.tmp 3) ∧ o.dst = some 58 ∧ o.guard = some (8, true) := ⟨_, by rw [hops]; rfl, rfl, rfl, rfl⟩
      obtain ⟨o11, po11, q11, d11, gd11⟩ : ∃ o, ops[11]? = some o ∧ o.op = .move (.tmp 4) ∧ o.dst = some 59 ∧ o.guard = some (8, true) := ⟨_, by rw [hops]; rfl, rfl, rfl, rfl⟩
      obtain ⟨o12, po12, q12, d12, gd12⟩ : ∃ o, ops[12]? = some o ∧ o.op = .call { callee := .value (.func 15), args := #[.tmp 57, .tmp 58, .tmp 59], argTypes := #[23, 3, 9] } ∧ o.dst = some 60 ∧ o.guard = some (8, true) := ⟨_, by rw [hops]; rfl, rfl, rfl, rfl⟩
      obtain ⟨o13, po13, q13, d13, gd13⟩ : ∃ o, ops[13]? = some o ∧ o.op = .load 23 (.tmp 6) ∧ o.dst = some 61 ∧ o.guard = some (8, true) := ⟨_, by rw [hops]; rfl, rfl, rfl, rfl⟩
      obtain ⟨o14, po14, q14, d14, gd14⟩ : ∃ o, ops[14]? = some o ∧ o.op = .move (.tmp 3) ∧ o.dst = some 62 ∧ o.guard = some (8, true) := ⟨_, by rw [hops]; rfl, rfl, rfl, rfl⟩
      obtain ⟨o15, po15, q15, d15, gd15⟩ : ∃ o, ops[15]? = some o ∧ o.op = .move (.tmp 4) ∧ o.dst = some 63 ∧ o.guard = some (8, true) := ⟨_, by rw [hops]; rfl, rfl, rfl, rfl⟩
      obtain ⟨o16, po16, q16, d16, gd16⟩ : ∃ o, ops[16]? = some o ∧ o.op = .call { callee := .value (.func 15), args := #[.tmp 61, .tmp 62, .tmp 63], argTypes := #[23, 3, 9] } ∧ o.dst = some 64 ∧ o.guard = some (8, true) := ⟨_, by rw [hops]; rfl, rfl, rfl, rfl⟩
      obtain ⟨o17, po17, q17, d17, gd17⟩ : ∃ o, ops[17]? = some o ∧ o.op = .binOp .neq 4 (.tmp 60) (.tmp 64) 4 ∧ o.dst = some 65 ∧ o.guard = some (8, true) := ⟨_, by rw [hops]; rfl, rfl, rfl, rfl⟩
      obtain ⟨o18, po18, q18, d18, gd18⟩ : ∃ o, ops[18]? = some o ∧ o.op = .pick (.tmp 56) (.tmp 65) (.const (.bool false)) ∧ o.dst = some 66 ∧ o.guard = none := ⟨_, by rw [hops]; rfl, rfl, rfl, rfl⟩
      clear hops
      refine met_free po0 d0 (wanted_of gd0) (fun w' h' => run_loadBlk q0 base5 h'.one (by kernel_rfl) (size_grant _)) ?_
      refine met_free po1 d1 (wanted_of gd1) (fun w' h' => run_loadBlk q1 ((eval_other _ 48 6 _ (by decide)).trans base6) h'.two (by kernel_rfl) (size_grant _)) ?_
      refine m_enter po2 d2 (wanted_of gd2) (run_callf2 q2 rfl ((eval_other _ 49 48 _ (by decide)).trans (eval_same _ _ _ (by rw [hsz]; decide))) (eval_same _ _ _ (by simp only [put_size, hsz]; decide)) Try.func19 (by kernel_rfl) _) ((VAB.out ▸ NAB.out _ : Calls _ _ _ _ (ReturnsG false _))) ?_
      rintro e w7_1 ⟨rfl, hb⟩
      have HSw7_1 := Lib.hid ((HG3.out.step (Below.refl _ _).drew).step hb)
      clear hb
      refine ⟨_, rfl, HSw7_1.out, ?_⟩
      refine met_free po3 d3 (wanted_of gd3) (fun w' h' => run_move q3 (eval_same _ _ _ (by simp only [put_size, hsz]; decide)) w') ?_
      refine m_unwanted po4 d4 (w_not gd4 po3 d3 (eval_same _ _ _ (by simp only [put_size, hsz]; decide))) ?_
      refine m_unwanted po5 d5 (w_not gd5 po3 d3 ((eval_other _ 52 51 _ (by decide)).trans (eval_same _ _ _ (by simp only [put_size, hsz]; decide)))) ?_
      refine m_skipped po6 d6 (w_not gd6 po3 d3 ((eval_other _ 53 51 _ (by decide)).trans ((eval_other _ 52 51 _ (by decide)).trans (eval_same _ _ _ (by simp only [put_size, hsz]; decide))))) ⟨HSw7_1.out, ?_⟩
      refine met_free po7 d7 (wanted_of gd7) (fun w' h' => r_pickF q7 ((eval_other _ 54 51 _ (by decide)).trans ((eval_other _ 53 51 _ (by decide)).trans ((eval_other _ 52 51 _ (by decide)).trans (eval_same _ _ _ (by simp only [put_size, hsz]; decide))))) rfl w') ?_
      refine met_free po8 d8 (wanted_of gd8) (fun w' h' => run_move q8 (eval_same _ _ _ (by simp only [put_size, hsz]; decide)) w') ?_
      refine m_unwanted po9 d9 (w_not gd9 po8 d8 (eval_same _ _ _ (by simp only [put_size, hsz]; decide))) ?_
      refine m_unwanted po10 d10 (w_not gd10 po8 d8 ((eval_other _ 57 56 _ (by decide)).trans (eval_same _ _ _ (by simp only [put_size, hsz]; decide)))) ?_
      refine m_unwanted po11 d11 (w_not gd11 po8 d8 ((eval_other _ 58 56 _ (by decide)).trans ((eval_other _ 57 56 _ (by decide)).trans (eval_same _ _ _ (by simp only [put_size, hsz]; decide))))) ?_
      refine m_unwanted po13 d13 (w_not gd13 po8 d8 ((eval_other _ 59 56 _ (by decide)).trans ((eval_other _ 58 56 _ (by decide)).trans ((eval_other _ 57 56 _ (by decide)).trans (eval_same _ _ _ (by simp only [put_size, hsz]; decide)))))) ?_
      refine m_unwanted po14 d14 (w_not gd14 po8 d8 ((eval_other _ 61 56 _ (by decide)).trans ((eval_other _ 59 56 _ (by decide)).trans ((eval_other _ 58 56 _ (by decide)).trans ((eval_other _ 57 56 _ (by decide)).trans (eval_same _ _ _ (by simp only [put_size, hsz]; decide))))))) ?_
      refine m_unwanted po15 d15 (w_not gd15 po8 d8 ((eval_other _ 62 56 _ (by decide)).trans ((eval_other _ 61 56 _ (by decide)).trans ((eval_other _ 59 56 _ (by decide)).trans ((eval_other _ 58 56 _ (by decide)).trans ((eval_other _ 57 56 _ (by decide)).trans (eval_same _ _ _ (by simp only [put_size, hsz]; decide)))))))) ?_
      refine m_skipped po12 d12 (w_not gd12 po8 d8 ((eval_other _ 63 56 _ (by decide)).trans ((eval_other _ 62 56 _ (by decide)).trans ((eval_other _ 61 56 _ (by decide)).trans ((eval_other _ 59 56 _ (by decide)).trans ((eval_other _ 58 56 _ (by decide)).trans ((eval_other _ 57 56 _ (by decide)).trans (eval_same _ _ _ (by simp only [put_size, hsz]; decide))))))))) ⟨HSw7_1.out, ?_⟩
      refine m_skipped po16 d16 (w_not gd16 po8 d8 ((eval_other _ 60 56 _ (by decide)).trans ((eval_other _ 63 56 _ (by decide)).trans ((eval_other _ 62 56 _ (by decide)).trans ((eval_other _ 61 56 _ (by decide)).trans ((eval_other _ 59 56 _ (by decide)).trans ((eval_other _ 58 56 _ (by decide)).trans ((eval_other _ 57 56 _ (by decide)).trans (eval_same _ _ _ (by simp only [put_size, hsz]; decide)))))))))) ⟨HSw7_1.out, ?_⟩
      refine m_unwanted po17 d17 (w_not gd17 po8 d8 ((eval_other _ 64 56 _ (by decide)).trans ((eval_other _ 60 56 _ (by decide)).trans ((eval_other _ 63 56 _ (by decide)).trans ((eval_other _ 62 56 _ (by decide)).trans ((eval_other _ 61 56 _ (by decide)).trans ((eval_other _ 59 56 _ (by decide)).trans ((eval_other _ 58 56 _ (by decide)).trans ((eval_other _ 57 56 _ (by decide)).trans (eval_same _ _ _ (by simp only [put_size, hsz]; decide))))))))))) ?_
      refine met_free po18 d18 (wanted_of gd18) (fun w' h' => r_pickF q18 ((eval_other _ 65 56 _ (by decide)).trans ((eval_other _ 64 56 _ (by decide)).trans ((eval_other _ 60 56 _ (by decide)).trans ((eval_other _ 63 56 _ (by decide)).trans ((eval_other _ 62 56 _ (by decide)).trans ((eval_other _ 61 56 _ (by decide)).trans ((eval_other _ 59 56 _ (by decide)).trans ((eval_other _ 58 56 _ (by decide)).trans ((eval_other _ 57 56 _ (by decide)).trans (eval_same _ _ _ (by simp only [put_size, hsz]; decide))))))))))) rfl w') ?_
      show NoPanic _ .normal _ _
      refine NoPanic.normal ?_
      rw [HAA.out]
      go_frame
      clear HAA
      clear po0 q0 d0 gd0 po1 q1 d1 gd1 po2 q2 d2 gd2 po3 q3 d3 gd3 po4 q4 d4 gd4 po5 q5 d5 gd5 po6 q6 d6 gd6 po7 q7 d7 gd7 po8 q8 d8 gd8 po9 q9 d9 gd9 po10 q10 d10 gd10 po11 q11 d11 gd11 po12 q12 d12 gd12 po13 q13 d13 gd13 po14 q14 d14 gd14 po15 q15 d15 gd15 po16 q16 d16 gd16 po17 q17 d17 gd17 po18 q18 d18 gd18
      clear base3 base4 base5 base6 base7 hsz
      go_wp2_with fail
      refine (HKN.out _).mono ?_
      rintro e w99 ⟨rfl, hb⟩
      have HB9 := Lib.hid (HSw7_1.out.below.trans (hb.mono HSw7_1.out.below.size))
      clear hb
      go_wp2_with fail
      go_ret
      exact ⟨rfl, HB9.out⟩
  · have VAB := Lib.hid hab
    have VBC := Lib.hid hbc
    have VBA := Lib.hid hba
    clear hab hbc hba
    by_cases hz0 : z = 0
    · have VAA := Lib.hid (HSELF.out hz0)
      subst hz0
      go_wp2_with (first | (show wpList _ _ _ (⟨_, .call { callee := .builtin .max, args := _, argTypes := _ }, _, _, _, _⟩ :: _) _ _; refine wpList_run (by rfl) (run_max4 rfl rfl rfl rfl rfl HM.out _) ?_) | (show wpList _ _ _ (⟨_, .load 23 (.tmp 5), _, _, _, _⟩ :: _) _ _; refine wpList_run (by rfl) (run_loadBlk rfl rfl HG1.out.one (by kernel_rfl) (size_grant _)) ?_))
      refine (CHK2.out _).mono ?_
      rintro e w2 ⟨rfl, hb⟩
      have HG2 := Lib.hid (HG1.out.step hb)
      clear hb
      go_wp2_with (first | (show wpList _ _ _ (⟨_, .load 23 (.tmp 5), _, _, _, _⟩ :: _) _ _; refine wpList_run (by rfl) (run_loadBlk rfl rfl HG2.out.one (by kernel_rfl) (size_grant _)) ?_))
      refine (NAA.out _).mono ?_
      rw [VAA.out]
      rintro e w3 ⟨rfl, hb⟩
      have HG3 := Lib.hid (HG2.out.step hb)
      clear hb
      go_wp2_with (first | (show wpList _ _ _ (⟨_, .load 23 (.tmp 5), _, _, _, _⟩ :: _) _ _; refine wpList_run (by rfl) (run_loadBlk rfl rfl HG3.out.one (by kernel_rfl) (size_grant _)) ?_) | (show wpList _ _ _ (⟨_, .load 23 (.tmp 6), _, _, _, _⟩ :: _) _ _; refine wpList_run (by rfl) (run_loadBlk rfl rfl HG3.out.two (by kernel_rfl) (size_grant _)) ?_))
      refine (NAB.out _).mono ?_
      rw [VAB.out]
      rintro e w4 ⟨rfl, hb⟩
      have HG4 := Lib.hid (HG3.out.step hb)
      clear hb
      go_upto_region 7 with (fail)
      refine region_phase (fun wr => Gr3 w.heap.size (w.heap.size + 1) (w.heap.size + 2) a b c w wr) (fun _ => True) 99 (HG4.out.step (Below.refl _ _).drew) trivial [(0, .free), (1, .free), (2, .behind), (3, .free), (4, .free), (5, .free), (6, .behind), (7, .free), (8, .free), (9, .free), (10, .free), (11, .free), (13, .free), (14, .free), (15, .free), (12, .behind), (16, .behind), (17, .free), (18, .free)] (by kernel_rfl) (by kernel_rfl) (by kernel_rfl) (by kernel_rfl) (fun ops hops A hA => ?_)
      have hsz : A.tmps.size = 68 := by rw [hA]; rfl
      have base3 : A.eval (.tmp 3) = .int .i64 r := by rw [hA]; rfl
      have base4 : A.eval (.tmp 4) = .string s := by rw [hA]; rfl
      have base5 : A.eval (.tmp 5) = .pointer (some ⟨w.heap.size, 0, none⟩) := by rw [hA]; rfl
      have base6 : A.eval (.tmp 6) = .pointer (some ⟨w.heap.size + 1, 0, none⟩) := by rw [hA]; rfl
      have base7 : A.eval (.tmp 7) = .pointer (some ⟨w.heap.size + 2, 0, none⟩) := by rw [hA]; rfl
      have HAA := Lib.hid hA; clear hA
      obtain ⟨o0, po0, q0, d0, gd0⟩ : ∃ o, ops[0]? = some o ∧ o.op = .load 23 (.tmp 5) ∧ o.dst = some 48 ∧ o.guard = none := ⟨_, by rw [hops]; rfl, rfl, rfl, rfl⟩
      obtain ⟨o1, po1, q1, d1, gd1⟩ : ∃ o, ops[1]? = some o ∧ o.op = .load 23 (.tmp 6) ∧ o.dst = some 49 ∧ o.guard = none := ⟨_, by rw [hops]; rfl, rfl, rfl, rfl⟩
      obtain ⟨o2, po2, q2, d2, gd2⟩ : ∃ o, ops[2]? = some o ∧ o.op = .call { callee := .value (.func 19), args := #[.tmp 48, .tmp 49], argTypes := #[23, 23] } ∧ o.dst = some 50 ∧ o.guard = none := ⟨_, by rw [hops]; rfl, rfl, rfl, rfl⟩
      obtain ⟨o3, po3, q3, d3, gd3⟩ : ∃ o, ops[3]? = some o ∧ o.op = .move (.tmp 50) ∧ o.dst = some 51 ∧ o.guard = none := ⟨_, by rw [hops]; rfl, rfl, rfl, rfl⟩
      obtain ⟨o4, po4, q4, d4, gd4⟩ : ∃ o, ops[4]? = some o ∧ o.op = .load 23 (.tmp 6) ∧ o.dst = some 52 ∧ o.guard = some (3, true) := ⟨_, by rw [hops]; rfl, rfl, rfl, rfl⟩
      obtain ⟨o5, po5, q5, d5, gd5⟩ : ∃ o, ops[5]? = some o ∧ o.op = .load 23 (.tmp 5) ∧ o.dst = some 53 ∧ o.guard = some (3, true) := ⟨_, by rw [hops]; rfl, rfl, rfl, rfl⟩
      obtain ⟨o6, po6, q6, d6, gd6⟩ : ∃ o, ops[6]? = some o ∧ o.op = .call { callee := .value (.func 19), args := #[.tmp 52, .tmp 53], argTypes := #[23, 23] } ∧ o.dst = some 54 ∧ o.guard = some (3, true) := ⟨_, by rw [hops]; rfl, rfl, rfl, rfl⟩
      obtain ⟨o7, po7, q7, d7, gd7⟩ : ∃ o, ops[7]? = some o ∧ o.op = .pick (.tmp 51) (.tmp 54) (.const (.bool false)) ∧ o.dst = some 55 ∧ o.guard = none := ⟨_, by rw [hops]; rfl, rfl, rfl, rfl⟩
      obtain ⟨o8, po8, q8, d8, gd8⟩ : ∃ o, ops[8]? = some o ∧ o.op = .move (.tmp 55) ∧ o.dst = some 56 ∧ o.guard = none := ⟨_, by rw [hops]; rfl, rfl, rfl, rfl⟩
      obtain ⟨o9, po9, q9, d9, gd9⟩ : ∃ o, ops[9]? = some o ∧ o.op = .load 23 (.tmp 5) ∧ o.dst = some 57 ∧ o.guard = some (8, true) := ⟨_, by rw [hops]; rfl, rfl, rfl, rfl⟩
      obtain ⟨o10, po10, q10, d10, gd10⟩ : ∃ o, ops[10]? = some o ∧ o.op = .move (.tmp 3) ∧ o.dst = some 58 ∧ o.guard = some (8, true) := ⟨_, by rw [hops]; rfl, rfl, rfl, rfl⟩
      obtain ⟨o11, po11, q11, d11, gd11⟩ : ∃ o, ops[11]? = some o ∧ o.op = .move (.tmp 4) ∧ o.dst = some 59 ∧ o.guard = some (8, true) := ⟨_, by rw [hops]; rfl, rfl, rfl, rfl⟩
      obtain ⟨o12, po12, q12, d12, gd12⟩ : ∃ o, ops[12]? = some o ∧ o.op = .call { callee := .value (.func 15), args := #[.tmp 57, .tmp 58, .tmp 59], argTypes := #[23, 3, 9] } ∧ o.dst = some 60 ∧ o.guard = some (8, true) := ⟨_, by rw [hops]; rfl, rfl, rfl, rfl⟩
      obtain ⟨o13, po13, q13, d13, gd13⟩ : ∃ o, ops[13]? = some o ∧ o.op = .load 23 (.tmp 6) ∧ o.dst = some 61 ∧ o.guard = some (8, true) := ⟨_, by rw [hops]; rfl, rfl, rfl, rfl⟩
      obtain ⟨o14, po14, q14, d14, gd14⟩ : ∃ o, ops[14]? = some o ∧ o.op = .move (.tmp 3) ∧ o.dst = some 62 ∧ o.guard = some (8, true) := ⟨_, by rw [hops]; rfl, rfl, rfl, rfl⟩
      obtain ⟨o15, po15, q15, d15, gd15⟩ : ∃ o, ops[15]? = some o ∧ o.op = .move (.tmp 4) ∧ o.dst = some 63 ∧ o.guard = some (8, true) := ⟨_, by rw [hops]; rfl, rfl, rfl, rfl⟩
      obtain ⟨o16, po16, q16, d16, gd16⟩ : ∃ o, ops[16]? = some o ∧ o.op = .call { callee := .value (.func 15), args := #[.tmp 61, .tmp 62, .tmp 63], argTypes := #[23, 3, 9] } ∧ o.dst = some 64 ∧ o.guard = some (8, true) := ⟨_, by rw [hops]; rfl, rfl, rfl, rfl⟩
      obtain ⟨o17, po17, q17, d17, gd17⟩ : ∃ o, ops[17]? = some o ∧ o.op = .binOp .neq 4 (.tmp 60) (.tmp 64) 4 ∧ o.dst = some 65 ∧ o.guard = some (8, true) := ⟨_, by rw [hops]; rfl, rfl, rfl, rfl⟩
      obtain ⟨o18, po18, q18, d18, gd18⟩ : ∃ o, ops[18]? = some o ∧ o.op = .pick (.tmp 56) (.tmp 65) (.const (.bool false)) ∧ o.dst = some 66 ∧ o.guard = none := ⟨_, by rw [hops]; rfl, rfl, rfl, rfl⟩
      clear hops
      refine met_free po0 d0 (wanted_of gd0) (fun w' h' => run_loadBlk q0 base5 h'.one (by kernel_rfl) (size_grant _)) ?_
      refine met_free po1 d1 (wanted_of gd1) (fun w' h' => run_loadBlk q1 ((eval_other _ 48 6 _ (by decide)).trans base6) h'.two (by kernel_rfl) (size_grant _)) ?_
      refine m_enter po2 d2 (wanted_of gd2) (run_callf2 q2 rfl ((eval_other _ 49 48 _ (by decide)).trans (eval_same _ _ _ (by rw [hsz]; decide))) (eval_same _ _ _ (by simp only [put_size, hsz]; decide)) Try.func19 (by kernel_rfl) _) ((VAB.out ▸ NAB.out _ : Calls _ _ _ _ (ReturnsG false _))) ?_
      rintro e w7_1 ⟨rfl, hb⟩
      have HSw7_1 := Lib.hid ((HG4.out.step (Below.refl _ _).drew).step hb)
      clear hb
      refine ⟨_, rfl, HSw7_1.out, ?_⟩
      refine met_free po3 d3 (wanted_of gd3) (fun w' h' => run_move q3 (eval_same _ _ _ (by simp only [put_size, hsz]; decide)) w') ?_
      refine m_unwanted po4 d4 (w_not gd4 po3 d3 (eval_same _ _ _ (by simp only [put_size, hsz]; decide))) ?_
      refine m_unwanted po5 d5 (w_not gd5 po3 d3 ((eval_other _ 52 51 _ (by decide)).trans (eval_same _ _ _ (by simp only [put_size, hsz]; decide)))) ?_
      refine m_skipped po6 d6 (w_not gd6 po3 d3 ((eval_other _ 53 51 _ (by decide)).trans ((eval_other _ 52 51 _ (by decide)).trans (eval_same _ _ _ (by simp only [put_size, hsz]; decide))))) ⟨HSw7_1.out, ?_⟩
      refine met_free po7 d7 (wanted_of gd7) (fun w' h' => r_pickF q7 ((eval_other _ 54 51 _ (by decide)).trans ((eval_other _ 53 51 _ (by decide)).trans ((eval_other _ 52 51 _ (by decide)).trans (eval_same _ _ _ (by simp only [put_size, hsz]; decide))))) rfl w') ?_
      refine met_free po8 d8 (wanted_of gd8) (fun w' h' => run_move q8 (eval_same _ _ _ (by simp only [put_size, hsz]; decide)) w') ?_
      refine m_unwanted po9 d9 (w_not gd9 po8 d8 (eval_same _ _ _ (by simp only [put_size, hsz]; decide))) ?_
      refine m_unwanted po10 d10 (w_not gd10 po8 d8 ((eval_other _ 57 56 _ (by decide)).trans (eval_same _ _ _ (by simp only [put_size, hsz]; decide)))) ?_
      refine m_unwanted po11 d11 (w_not gd11 po8 d8 ((eval_other _ 58 56 _ (by decide)).trans ((eval_other _ 57 56 _ (by decide)).trans (eval_same _ _ _ (by simp only [put_size, hsz]; decide))))) ?_
      refine m_unwanted po13 d13 (w_not gd13 po8 d8 ((eval_other _ 59 56 _ (by decide)).trans ((eval_other _ 58 56 _ (by decide)).trans ((eval_other _ 57 56 _ (by decide)).trans (eval_same _ _ _ (by simp only [put_size, hsz]; decide)))))) ?_
      refine m_unwanted po14 d14 (w_not gd14 po8 d8 ((eval_other _ 61 56 _ (by decide)).trans ((eval_other _ 59 56 _ (by decide)).trans ((eval_other _ 58 56 _ (by decide)).trans ((eval_other _ 57 56 _ (by decide)).trans (eval_same _ _ _ (by simp only [put_size, hsz]; decide))))))) ?_
      refine m_unwanted po15 d15 (w_not gd15 po8 d8 ((eval_other _ 62 56 _ (by decide)).trans ((eval_other _ 61 56 _ (by decide)).trans ((eval_other _ 59 56 _ (by decide)).trans ((eval_other _ 58 56 _ (by decide)).trans ((eval_other _ 57 56 _ (by decide)).trans (eval_same _ _ _ (by simp only [put_size, hsz]; decide)))))))) ?_
      refine m_skipped po12 d12 (w_not gd12 po8 d8 ((eval_other _ 63 56 _ (by decide)).trans ((eval_other _ 62 56 _ (by decide)).trans ((eval_other _ 61 56 _ (by decide)).trans ((eval_other _ 59 56 _ (by decide)).trans ((eval_other _ 58 56 _ (by decide)).trans ((eval_other _ 57 56 _ (by decide)).trans (eval_same _ _ _ (by simp only [put_size, hsz]; decide))))))))) ⟨HSw7_1.out, ?_⟩
      refine m_skipped po16 d16 (w_not gd16 po8 d8 ((eval_other _ 60 56 _ (by decide)).trans ((eval_other _ 63 56 _ (by decide)).trans ((eval_other _ 62 56 _ (by decide)).trans ((eval_other _ 61 56 _ (by decide)).trans ((eval_other _ 59 56 _ (by decide)).trans ((eval_other _ 58 56 _ (by decide)).trans ((eval_other _ 57 56 _ (by decide)).trans (eval_same _ _ _ (by simp only [put_size, hsz]; decide)))))))))) ⟨HSw7_1.out, ?_⟩
      refine m_unwanted po17 d17 (w_not gd17 po8 d8 ((eval_other _ 64 56 _ (by decide)).trans ((eval_other _ 60 56 _ (by decide)).trans ((eval_other _ 63 56 _ (by decide)).trans ((eval_other _ 62 56 _ (by decide)).trans ((eval_other _ 61 56 _ (by decide)).trans ((eval_other _ 59 56 _ (by decide)).trans ((eval_other _ 58 56 _ (by decide)).trans ((eval_other _ 57 56 _ (by decide)).trans (eval_same _ _ _ (by simp only [put_size, hsz]; decide))))))))))) ?_
      refine met_free po18 d18 (wanted_of gd18) (fun w' h' => r_pickF q18 ((eval_other _ 65 56 _ (by decide)).trans ((eval_other _ 64 56 _ (by decide)).trans ((eval_other _ 60 56 _ (by decide)).trans ((eval_other _ 63 56 _ (by decide)).trans ((eval_other _ 62 56 _ (by decide)).trans ((eval_other _ 61 56 _ (by decide)).trans ((eval_other _ 59 56 _ (by decide)).trans ((eval_other _ 58 56 _ (by decide)).trans ((eval_other _ 57 56 _ (by decide)).trans (eval_same _ _ _ (by simp only [put_size, hsz]; decide))))))))))) rfl w') ?_
      show NoPanic _ .normal _ _
      refine NoPanic.normal ?_
      rw [HAA.out]
      go_frame
      clear HAA
      clear po0 q0 d0 gd0 po1 q1 d1 gd1 po2 q2 d2 gd2 po3 q3 d3 gd3 po4 q4 d4 gd4 po5 q5 d5 gd5 po6 q6 d6 gd6 po7 q7 d7 gd7 po8 q8 d8 gd8 po9 q9 d9 gd9 po10 q10 d10 gd10 po11 q11 d11 gd11 po12 q12 d12 gd12 po13 q13 d13 gd13 po14 q14 d14 gd14 po15 q15 d15 gd15 po16 q16 d16 gd16 po17 q17 d17 gd17 po18 q18 d18 gd18
      clear base3 base4 base5 base6 base7 hsz
      go_wp2_with fail
      refine (HKN.out _).mono ?_
      rintro e w99 ⟨rfl, hb⟩
      have HB9 := Lib.hid (HSw7_1.out.below.trans (hb.mono HSw7_1.out.below.size))
      clear hb
      go_wp2_with fail
      go_ret
      exact ⟨rfl, HB9.out⟩
    · skip
      go_wp2_with (first | (show wpList _ _ _ (⟨_, .call { callee := .builtin .max, args := _, argTypes := _ }, _, _, _, _⟩ :: _) _ _; refine wpList_run (by rfl) (run_max4 rfl rfl rfl rfl rfl HM.out _) ?_) | (show wpList _ _ _ (⟨_, .load 23 (.tmp 5), _, _, _, _⟩ :: _) _ _; refine wpList_run (by rfl) (run_loadBlk rfl rfl HG1.out.one (by kernel_rfl) (size_grant _)) ?_))
      refine (CHK2.out _).mono ?_
      rintro e w2 ⟨rfl, hb⟩
      have HG2 := Lib.hid (HG1.out.step hb)
      clear hb
      go_wp2_with (first | (show wpList _ _ _ (⟨_, .load 23 (.tmp 5), _, _, _, _⟩ :: _) _ _; refine wpList_run (by rfl) (run_loadBlk rfl rfl HG2.out.one (by kernel_rfl) (size_grant _)) ?_) | (show wpList _ _ _ (⟨_, .load 23 (.tmp 6), _, _, _, _⟩ :: _) _ _; refine wpList_run (by rfl) (run_loadBlk rfl rfl HG2.out.two (by kernel_rfl) (size_grant _)) ?_))
      refine (NAB.out _).mono ?_
      rw [VAB.out]
      rintro e w3 ⟨rfl, hb⟩
      have HG3 := Lib.hid (HG2.out.step hb)
      clear hb
      go_upto_region 7 with (fail)
      refine region_phase (fun wr => Gr3 w.heap.size (w.heap.size + 1) (w.heap.size + 2) a b c w wr) (fun _ => True) 99 (HG3.out.step (Below.refl _ _).drew) trivial [(0, .free), (1, .free), (2, .behind), (3, .free), (4, .free), (5, .free), (6, .behind), (7, .free), (8, .free), (9, .free), (10, .free), (11, .free), (13, .free), (14, .free), (15, .free), (12, .behind), (16, .behind), (17, .free), (18, .free)] (by kernel_rfl) (by kernel_rfl) (by kernel_rfl) (by kernel_rfl) (fun ops hops A hA => ?_)
      have hsz : A.tmps.size = 68 := by rw [hA]; rfl
      have base3 : A.eval (.tmp 3) = .int .i64 r := by rw [hA]; rfl
      have base4 : A.eval (.tmp 4) = .string s := by rw [hA]; rfl
      have base5 : A.eval (.tmp 5) = .pointer (some ⟨w.heap.size, 0, none⟩) := by rw [hA]; rfl
      have base6 : A.eval (.tmp 6) = .pointer (some ⟨w.heap.size + 1, 0, none⟩) := by rw [hA]; rfl
      have base7 : A.eval (.tmp 7) = .pointer (some ⟨w.heap.size + 2, 0, none⟩) := by rw [hA]; rfl
      have HAA := Lib.hid hA; clear hA
      obtain ⟨o0, po0, q0, d0, gd0⟩ : ∃ o, ops[0]? = some o ∧ o.op = .load 23 (.tmp 5) ∧ o.dst = some 48 ∧ o.guard = none := ⟨_, by rw [hops]; rfl, rfl, rfl, rfl⟩
      obtain ⟨o1, po1, q1, d1, gd1⟩ : ∃ o, ops[1]? = some o ∧ o.op = .load 23 (.tmp 6) ∧ o.dst = some 49 ∧ o.guard = none := ⟨_, by rw [hops]; rfl, rfl, rfl, rfl⟩
      obtain ⟨o2, po2, q2, d2, gd2⟩ : ∃ o, ops[2]? = some o ∧ o.op = .call { callee := .value (.func 19), args := #[.tmp 48, .tmp 49], argTypes := #[23, 23] } ∧ o.dst = some 50 ∧ o.guard = none := ⟨_, by rw [hops]; rfl, rfl, rfl, rfl⟩
      obtain ⟨o3, po3, q3, d3, gd3⟩ : ∃ o, ops[3]? = some o ∧ o.op = .move (.tmp 50) ∧ o.dst = some 51 ∧ o.guard = none := ⟨_, by rw [hops]; rfl, rfl, rfl, rfl⟩
      obtain ⟨o4, po4, q4, d4, gd4⟩ : ∃ o, ops[4]? = some o ∧ o.op = .load 23 (.tmp 6) ∧ o.dst = some 52 ∧ o.guard = some (3, true) := ⟨_, by rw [hops]; rfl, rfl, rfl, rfl⟩
      obtain ⟨o5, po5, q5, d5, gd5⟩ : ∃ o, ops[5]? = some o ∧ o.op = .load 23 (.tmp 5) ∧ o.dst = some 53 ∧ o.guard = some (3, true) := ⟨_, by rw [hops]; rfl, rfl, rfl, rfl⟩
      obtain ⟨o6, po6, q6, d6, gd6⟩ : ∃ o, ops[6]? = some o ∧ o.op = .call { callee := .value (.func 19), args := #[.tmp 52, .tmp 53], argTypes := #[23, 23] } ∧ o.dst = some 54 ∧ o.guard = some (3, true) := ⟨_, by rw [hops]; rfl, rfl, rfl, rfl⟩
      obtain ⟨o7, po7, q7, d7, gd7⟩ : ∃ o, ops[7]? = some o ∧ o.op = .pick (.tmp 51) (.tmp 54) (.const (.bool false)) ∧ o.dst = some 55 ∧ o.guard = none := ⟨_, by rw [hops]; rfl, rfl, rfl, rfl⟩
      obtain ⟨o8, po8, q8, d8, gd8⟩ : ∃ o, ops[8]? = some o ∧ o.op = .move (.tmp 55) ∧ o.dst = some 56 ∧ o.guard = none := ⟨_, by rw [hops]; rfl, rfl, rfl, rfl⟩
      obtain ⟨o9, po9, q9, d9, gd9⟩ : ∃ o, ops[9]? = some o ∧ o.op = .load 23 (.tmp 5) ∧ o.dst = some 57 ∧ o.guard = some (8, true) := ⟨_, by rw [hops]; rfl, rfl, rfl, rfl⟩
      obtain ⟨o10, po10, q10, d10, gd10⟩ : ∃ o, ops[10]? = some o ∧ o.op = .move (.tmp 3) ∧ o.dst = some 58 ∧ o.guard = some (8, true) := ⟨_, by rw [hops]; rfl, rfl, rfl, rfl⟩
      obtain ⟨o11, po11, q11, d11, gd11⟩ : ∃ o, ops[11]? = some o ∧ o.op = .move (.tmp 4) ∧ o.dst = some 59 ∧ o.guard = some (8, true) := ⟨_, by rw [hops]; rfl, rfl, rfl, rfl⟩
      obtain ⟨o12, po12, q12, d12, gd12⟩ : ∃ o, ops[12]? = some o ∧ o.op = .call { callee := .value (.func 15), args := #[.tmp 57, .tmp 58, .tmp 59], argTypes := #[23, 3, 9] } ∧ o.dst = some 60 ∧ o.guard = some (8, true) := ⟨_, by rw [hops]; rfl, rfl, rfl, rfl⟩
      obtain ⟨o13, po13, q13, d13, gd13⟩ : ∃ o, ops[13]? = some o ∧ o.op = .load 23 (.tmp 6) ∧ o.dst = some 61 ∧ o.guard = some (8, true) := ⟨_, by rw [hops]; rfl, rfl, rfl, rfl⟩
      obtain ⟨o14, po14, q14, d14, gd14⟩ : ∃ o, ops[14]? = some o ∧ o.op = .move (.tmp 3) ∧ o.dst = some 62 ∧ o.guard = some (8, true) := ⟨_, by rw [hops]; rfl, rfl, rfl, rfl⟩
      obtain ⟨o15, po15, q15, d15, gd15⟩ : ∃ o, ops[15]? = some o ∧ o.op = .move (.tmp 4) ∧ o.dst = some 63 ∧ o.guard = some (8, true) := ⟨_, by rw [hops]; rfl, rfl, rfl, rfl⟩
      obtain ⟨o16, po16, q16, d16, gd16⟩ : ∃ o, ops[16]? = some o ∧ o.op = .call { callee := .value (.func 15), args := #[.tmp 61, .tmp 62, .tmp 63], argTypes := #[23, 3, 9] } ∧ o.dst = some 64 ∧ o.guard = some (8, true) := ⟨_, by rw [hops]; rfl, rfl, rfl, rfl⟩
      obtain ⟨o17, po17, q17, d17, gd17⟩ : ∃ o, ops[17]? = some o ∧ o.op = .binOp .neq 4 (.tmp 60) (.tmp 64) 4 ∧ o.dst = some 65 ∧ o.guard = some (8, true) := ⟨_, by rw [hops]; rfl, rfl, rfl, rfl⟩
      obtain ⟨o18, po18, q18, d18, gd18⟩ : ∃ o, ops[18]? = some o ∧ o.op = .pick (.tmp 56) (.tmp 65) (.const (.bool false)) ∧ o.dst = some 66 ∧ o.guard = none := ⟨_, by rw [hops]; rfl, rfl, rfl, rfl⟩
      clear hops
      refine met_free po0 d0 (wanted_of gd0) (fun w' h' => run_loadBlk q0 base5 h'.one (by kernel_rfl) (size_grant _)) ?_
      refine met_free po1 d1 (wanted_of gd1) (fun w' h' => run_loadBlk q1 ((eval_other _ 48 6 _ (by decide)).trans base6) h'.two (by kernel_rfl) (size_grant _)) ?_
      refine m_enter po2 d2 (wanted_of gd2) (run_callf2 q2 rfl ((eval_other _ 49 48 _ (by decide)).trans (eval_same _ _ _ (by rw [hsz]; decide))) (eval_same _ _ _ (by simp only [put_size, hsz]; decide)) Try.func19 (by kernel_rfl) _) ((VAB.out ▸ NAB.out _ : Calls _ _ _ _ (ReturnsG false _))) ?_
      rintro e w7_1 ⟨rfl, hb⟩
      have HSw7_1 := Lib.hid ((HG3.out.step (Below.refl _ _).drew).step hb)
      clear hb
      refine ⟨_, rfl, HSw7_1.out, ?_⟩
      refine met_free po3 d3 (wanted_of gd3) (fun w' h' => run_move q3 (eval_same _ _ _ (by simp only [put_size, hsz]; decide)) w') ?_
      refine m_unwanted po4 d4 (w_not gd4 po3 d3 (eval_same _ _ _ (by simp only [put_size, hsz]; decide))) ?_
      refine m_unwanted po5 d5 (w_not gd5 po3 d3 ((eval_other _ 52 51 _ (by decide)).trans (eval_same _ _ _ (by simp only [put_size, hsz]; decide)))) ?_
      refine m_skipped po6 d6 (w_not gd6 po3 d3 ((eval_other _ 53 51 _ (by decide)).trans ((eval_other _ 52 51 _ (by decide)).trans (eval_same _ _ _ (by simp only [put_size, hsz]; decide))))) ⟨HSw7_1.out, ?_⟩
      refine met_free po7 d7 (wanted_of gd7) (fun w' h' => r_pickF q7 ((eval_other _ 54 51 _ (by decide)).trans ((eval_other _ 53 51 _ (by decide)).trans ((eval_other _ 52 51 _ (by decide)).trans (eval_same _ _ _ (by simp only [put_size, hsz]; decide))))) rfl w') ?_
      refine met_free po8 d8 (wanted_of gd8) (fun w' h' => run_move q8 (eval_same _ _ _ (by simp only [put_size, hsz]; decide)) w') ?_
      refine m_unwanted po9 d9 (w_not gd9 po8 d8 (eval_same _ _ _ (by simp only [put_size, hsz]; decide))) ?_
      refine m_unwanted po10 d10 (w_not gd10 po8 d8 ((eval_other _ 57 56 _ (by decide)).trans (eval_same _ _ _ (by simp only [put_size, hsz]; decide)))) ?_
      refine m_unwanted po11 d11 (w_not gd11 po8 d8 ((eval_other _ 58 56 _ (by decide)).trans ((eval_other _ 57 56 _ (by decide)).trans (eval_same _ _ _ (by simp only [put_size, hsz]; decide))))) ?_
      refine m_unwanted po13 d13 (w_not gd13 po8 d8 ((eval_other _ 59 56 _ (by decide)).trans ((eval_other _ 58 56 _ (by decide)).trans ((eval_other _ 57 56 _ (by decide)).trans (eval_same _ _ _ (by simp only [put_size, hsz]; decide)))))) ?_
      refine m_unwanted po14 d14 (w_not gd14 po8 d8 ((eval_other _ 61 56 _ (by decide)).trans ((eval_other _ 59 56 _ (by decide)).trans ((eval_other _ 58 56 _ (by decide)).trans ((eval_other _ 57 56 _ (by decide)).trans (eval_same _ _ _ (by simp only [put_size, hsz]; decide))))))) ?_
      refine m_unwanted po15 d15 (w_not gd15 po8 d8 ((eval_other _ 62 56 _ (by decide)).trans ((eval_other _ 61 56 _ (by decide)).trans ((eval_other _ 59 56 _ (by decide)).trans ((eval_other _ 58 56 _ (by decide)).trans ((eval_other _ 57 56 _ (by decide)).trans (eval_same _ _ _ (by simp only [put_size, hsz]; decide)))))))) ?_
      refine m_skipped po12 d12 (w_not gd12 po8 d8 ((eval_other _ 63 56 _ (by decide)).trans ((eval_other _ 62 56 _ (by decide)).trans ((eval_other _ 61 56 _ (by decide)).trans ((eval_other _ 59 56 _ (by decide)).trans ((eval_other _ 58 56 _ (by decide)).trans ((eval_other _ 57 56 _ (by decide)).trans (eval_same _ _ _ (by simp only [put_size, hsz]; decide))))))))) ⟨HSw7_1.out, ?_⟩
      refine m_skipped po16 d16 (w_not gd16 po8 d8 ((eval_other _ 60 56 _ (by decide)).trans ((eval_other _ 63 56 _ (by decide)).trans ((eval_other _ 62 56 _ (by decide)).trans ((eval_other _ 61 56 _ (by decide)).trans ((eval_other _ 59 56 _ (by decide)).trans ((eval_other _ 58 56 _ (by decide)).trans ((eval_other _ 57 56 _ (by decide)).trans (eval_same _ _ _ (by simp only [put_size, hsz]; decide)))))))))) ⟨HSw7_1.out, ?_⟩
      refine m_unwanted po17 d17 (w_not gd17 po8 d8 ((eval_other _ 64 56 _ (by decide)).trans ((eval_other _ 60 56 _ (by decide)).trans ((eval_other _ 63 56 _ (by decide)).trans ((eval_other _ 62 56 _ (by decide)).trans ((eval_other _ 61 56 _ (by decide)).trans ((eval_other _ 59 56 _ (by decide)).trans ((eval_other _ 58 56 _ (by decide)).trans ((eval_other _ 57 56 _ (by decide)).trans (eval_same _ _ _ (by simp only [put_size, hsz]; decide))))))))))) ?_
      refine met_free po18 d18 (wanted_of gd18) (fun w' h' => r_pickF q18 ((eval_other _ 65 56 _ (by decide)).trans ((eval_other _ 64 56 _ (by decide)).trans ((eval_other _ 60 56 _ (by decide)).trans ((eval_other _ 63 56 _ (by decide)).trans ((eval_other _ 62 56 _ (by decide)).trans ((eval_other _ 61 56 _ (by decide)).trans ((eval_other _ 59 56 _ (by decide)).trans ((eval_other _ 58 56 _ (by decide)).trans ((eval_other _ 57 56 _ (by decide)).trans (eval_same _ _ _ (by simp only [put_size, hsz]; decide))))))))))) rfl w') ?_
      show NoPanic _ .normal _ _
      refine NoPanic.normal ?_
      rw [HAA.out]
      go_frame
      clear HAA
      clear po0 q0 d0 gd0 po1 q1 d1 gd1 po2 q2 d2 gd2 po3 q3 d3 gd3 po4 q4 d4 gd4 po5 q5 d5 gd5 po6 q6 d6 gd6 po7 q7 d7 gd7 po8 q8 d8 gd8 po9 q9 d9 gd9 po10 q10 d10 gd10 po11 q11 d11 gd11 po12 q12 d12 gd12 po13 q13 d13 gd13 po14 q14 d14 gd14 po15 q15 d15 gd15 po16 q16 d16 gd16 po17 q17 d17 gd17 po18 q18 d18 gd18
      clear base3 base4 base5 base6 base7 hsz
      go_wp2_with fail
      refine (HKN.out _).mono ?_
      rintro e w99 ⟨rfl, hb⟩
      have HB9 := Lib.hid (HSw7_1.out.below.trans (hb.mono HSw7_1.out.below.size))
      clear hb
      go_wp2_with fail
      go_ret
      exact ⟨rfl, HB9.out⟩
  · have VAB := Lib.hid hab
    have VBC := Lib.hid hbc
    have VBA := Lib.hid hba
    clear hab hbc hba
    by_cases hz0 : z = 0
    · have VAA := Lib.hid (HSELF.out hz0)
      subst hz0
      go_wp2_with (first | (show wpList _ _ _ (⟨_, .call { callee := .builtin .max, args := _, argTypes := _ }, _, _, _, _⟩ :: _) _ _; refine wpList_run (by rfl) (run_max4 rfl rfl rfl rfl rfl HM.out _) ?_) | (show wpList _ _ _ (⟨_, .load 23 (.tmp 5), _, _, _, _⟩ :: _) _ _; refine wpList_run (by rfl) (run_loadBlk rfl rfl HG1.out.one (by kernel_rfl) (size_grant _)) ?_))
      refine (CHK2.out _).mono ?_
      rintro e w2 ⟨rfl, hb⟩
      have HG2 := Lib.hid (HG1.out.step hb)
      clear hb
      go_wp2_with (first | (show wpList _ _ _ (⟨_, .load 23 (.tmp 5), _, _, _, _⟩ :: _) _ _; refine wpList_run (by rfl) (run_loadBlk rfl rfl HG2.out.one (by kernel_rfl) (size_grant _)) ?_))
      refine (NAA.out _).mono ?_
      rw [VAA.out]
      rintro e w3 ⟨rfl, hb⟩
      have HG3 := Lib.hid (HG2.out.step hb)
      clear hb
      go_wp2_with (first | (show wpList _ _ _ (⟨_, .load 23 (.tmp 5), _, _, _, _⟩ :: _) _ _; refine wpList_run (by rfl) (run_loadBlk rfl rfl HG3.out.one (by kernel_rfl) (size_grant _)) ?_) | (show wpList _ _ _ (⟨_, .load 23 (.tmp 6), _, _, _, _⟩ :: _) _ _; refine wpList_run (by rfl) (run_loadBlk rfl rfl HG3.out.two (by kernel_rfl) (size_grant _)) ?_))
      refine (NAB.out _).mono ?_
      rw [VAB.out]
      rintro e w4 ⟨rfl, hb⟩
      have HG4 := Lib.hid (HG3.out.step hb)
      clear hb
      go_upto_region 7 with (fail)
      refine region_phase (fun wr => Gr3 w.heap.size (w.heap.size + 1) (w.heap.size + 2) a b c w wr) (fun _ => True) 99 (HG4.out.step (Below.refl _ _).drew) trivial [(0, .free), (1, .free), (2, .behind), (3, .free), (4, .free), (5, .free), (6, .behind), (7, .free), (8, .free), (9, .free), (10, .free), (11, .free), (13, .free), (14, .free), (15, .free), (12, .behind), (16, .behind), (17, .free), (18, .free)] (by kernel_rfl) (by kernel_rfl) (by kernel_rfl) (by kernel_rfl) (fun ops hops A hA => ?_)
      have hsz : A.tmps.size = 68 := by rw [hA]; rfl
      have base3 : A.eval (.tmp 3) = .int .i64 r := by rw [hA]; rfl
      have base4 : A.eval (.tmp 4) = .string s := by rw [hA]; rfl
      have base5 : A.eval (.tmp 5) = .pointer (some ⟨w.heap.size, 0, none⟩) := by rw [hA]; rfl
      have base6 : A.eval (.tmp 6) = .pointer (some ⟨w.heap.size + 1, 0, none⟩) := by rw [hA]; rfl
      have base7 : A.eval (.tmp 7) = .pointer (some ⟨w.heap.size + 2, 0, none⟩) := by rw [hA]; rfl
      have HAA := Lib.hid hA; clear hA
      obtain ⟨o0, po0, q0, d0, gd0⟩ : ∃ o, ops[0]? = some o ∧ o.op = .load 23 (.tmp 5) ∧ o.dst = some 48 ∧ o.guard = none := ⟨_, by rw [hops]; rfl, rfl, rfl, rfl⟩
      obtain ⟨o1, po1, q1, d1, gd1⟩ : ∃ o, ops[1]? = some o ∧ o.op = .load 23 (.tmp 6) ∧ o.dst = some 49 ∧ o.guard = none := ⟨_, by rw [hops]; rfl, rfl, rfl, rfl⟩
      obtain ⟨o2, po2, q2, d2, gd2⟩ : ∃ o, ops[2]? = some o ∧ o.op = .call { callee := .value (.func 19), args := #[.tmp 48, .tmp 49], argTypes := #[23, 23] } ∧ o.dst = some 50 ∧ o.guard = none := ⟨_, by rw [hops]; rfl, rfl, rfl, rfl⟩
      obtain ⟨o3, po3, q3, d3, gd3⟩ : ∃ o, ops[3]? = some o ∧ o.op = .move (.tmp 50) ∧ o.dst = some 51 ∧ o.guard = none := ⟨_, by rw [hops]; rfl, rfl, rfl, rfl⟩
      obtain ⟨o4, po4, q4, d4, gd4⟩ : ∃ o, ops[4]? = some o ∧ o.op = .load 23 (.tmp 6) ∧ o.dst = some 52 ∧ o.guard = some (3, true) := ⟨_, by rw [hops]; rfl, rfl, rfl, rfl⟩
      obtain ⟨o5, po5, q5, d5, gd5⟩ : ∃ o, ops[5]? = some o ∧ o.op = .load 23 (.tmp 5) ∧ o.dst = some 53 ∧ o.guard = some (3, true) := ⟨_, by rw [hops]; rfl, rfl, rfl, rfl⟩
      obtain ⟨o6, po6, q6, d6, gd6⟩ : ∃ o, ops[6]? = some o ∧ o.op = .call { callee := .value (.func 19), args := #[.tmp 52, .tmp 53], argTypes := #[23, 23] } ∧ o.dst = some 54 ∧ o.guard = some (3, true) := ⟨_, by rw [hops]; rfl, rfl, rfl, rfl⟩
      obtain ⟨o7, po7, q7, d7, gd7⟩ : ∃ o, ops[7]? = some o ∧ o.op = .pick (.tmp 51) (.tmp 54) (.const (.bool false)) ∧ o.dst = some 55 ∧ o.guard = none := ⟨_, by rw [hops]; rfl, rfl, rfl, rfl⟩
      obtain ⟨o8, po8, q8, d8, gd8⟩ : ∃ o, ops[8]? = some o ∧ o.op = .move (.tmp 55) ∧ o.dst = some 56 ∧ o.guard = none := ⟨_, by rw [hops]; rfl, rfl, rfl, rfl⟩
      obtain ⟨o9, po9, q9, d9, gd9⟩ : ∃ o, ops[9]? = some o ∧ o.op = .load 23 (.tmp 5) ∧ o.dst = some 57 ∧ o.guard = some (8, true) := ⟨_, by rw [hops]; rfl, rfl, rfl, rfl⟩
      obtain ⟨o10, po10, q10, d10, gd10⟩ : ∃ o, ops[10]? = some o ∧ o.op = .move (.tmp 3) ∧ o.dst = some 58 ∧ o.guard = some (8, true) := ⟨_, by rw [hops]; rfl, rfl, rfl, rfl⟩
      obtain ⟨o11, po11, q11, d11, gd11⟩ : ∃ o, ops[11]? = some o ∧ o.op = .move (.tmp 4) ∧ o.dst = some 59 ∧ o.guard = some (8, true) := ⟨_, by rw [hops]; rfl, rfl, rfl, rfl⟩
      obtain ⟨o12, po12, q12, d12, gd12⟩ : ∃ o, ops[12]? = some o ∧ o.op = .call { callee := .value (.func 15), args := #[.tmp 57, .tmp 58, .tmp 59], argTypes := #[23, 3, 9] } ∧ o.dst = some 60 ∧ o.guard = some (8, true) := ⟨_, by rw [hops]; rfl, rfl, rfl, rfl⟩
      obtain ⟨o13, po13, q13, d13, gd13⟩ : ∃ o, ops[13]? = some o ∧ o.op = .load 23 (.tmp 6) ∧ o.dst = some 61 ∧ o.guard = some (8, true) := ⟨_, by rw [hops]; rfl, rfl, rfl, rfl⟩
      obtain ⟨o14, po14, q14, d14, gd14⟩ : ∃ o, ops[14]? = some o ∧ o.op = .move (.tmp 3) ∧ o.dst = some 62 ∧ o.guard = some (8, true) := ⟨_, by rw [hops]; rfl, rfl, rfl, rfl⟩
      obtain ⟨o15, po15, q15, d15, gd15⟩ : ∃ o, ops[15]? = some o ∧ o.op = .move (.tmp 4) ∧ o.dst = some 63 ∧ o.guard = some (8, true) := ⟨_, by rw [hops]; rfl, rfl, rfl, rfl⟩
      obtain ⟨o16, po16, q16, d16, gd16⟩ : ∃ o, ops[16]? = some o ∧ o.op = .call { callee := .value (.func 15), args := #[.tmp 61, .tmp 62, .tmp 63], argTypes := #[23, 3, 9] } ∧ o.dst = some 64 ∧ o.guard = some (8, true) := ⟨_, by rw [hops]; rfl, rfl, rfl, rfl⟩
      obtain ⟨o17, po17, q17, d17, gd17⟩ : ∃ o, ops[17]? = some o ∧ o.op = .binOp .neq 4 (.tmp 60) (.tmp 64) 4 ∧ o.dst = some 65 ∧ o.guard = some (8, true) := ⟨_, by rw [hops]; rfl, rfl, rfl, rfl⟩
      obtain ⟨o18, po18, q18, d18, gd18⟩ : ∃ o, ops[18]? = some o ∧ o.op = .pick (.tmp 56) (.tmp 65) (.const (.bool false)) ∧ o.dst = some 66 ∧ o.guard = none := ⟨_, by rw [hops]; rfl, rfl, rfl, rfl⟩
      clear hops
      refine met_free po0 d0 (wanted_of gd0) (fun w' h' => run_loadBlk q0 base5 h'.one (by kernel_rfl) (size_grant _)) ?_
      refine met_free po1 d1 (wanted_of gd1) (fun w' h' => run_loadBlk q1 ((eval_other _ 48 6 _ (by decide)).trans base6) h'.two (by kernel_rfl) (size_grant _)) ?_
      refine m_enter po2 d2 (wanted_of gd2) (run_callf2 q2 rfl ((eval_other _ 49 48 _ (by decide)).trans (eval_same _ _ _ (by rw [hsz]; decide))) (eval_same _ _ _ (by simp only [put_size, hsz]; decide)) Try.func19 (by kernel_rfl) _) ((VAB.out ▸ NAB.out _ : Calls _ _ _ _ (ReturnsG false _))) ?_
      rintro e w7_1 ⟨rfl, hb⟩
      have HSw7_1 := Lib.hid ((HG4.out.step (Below.refl _ _).drew).step hb)
      clear hb
      refine ⟨_, rfl, HSw7_1.out, ?_⟩
      refine met_free po3 d3 (wanted_of gd3) (fun w' h' => run_move q3 (eval_same _ _ _ (by simp only [put_size, hsz]; decide)) w') ?_
      refine m_unwanted po4 d4 (w_not gd4 po3 d3 (eval_same _ _ _ (by simp only [put_size, hsz]; decide))) ?_
      refine m_unwanted po5 d5 (w_not gd5 po3 d3 ((eval_other _ 52 51 _ (by decide)).trans (eval_same _ _ _ (by simp only [put_size, hsz]; decide)))) ?_
      refine m_skipped po6 d6 (w_not gd6 po3 d3 ((eval_other _ 53 51 _ (by decide)).trans ((eval_other _ 52 51 _ (by decide)).trans (eval_same _ _ _ (by simp only [put_size, hsz]; decide))))) ⟨HSw7_1.out, ?_⟩
      refine met_free po7 d7 (wanted_of gd7) (fun w' h' => r_pickF q7 ((eval_other _ 54 51 _ (by decide)).trans ((eval_other _ 53 51 _ (by decide)).trans ((eval_other _ 52 51 _ (by decide)).trans (eval_same _ _ _ (by simp only [put_size, hsz]; decide))))) rfl w') ?_
      refine met_free po8 d8 (wanted_of gd8) (fun w' h' => run_move q8 (eval_same _ _ _ (by simp only [put_size, hsz]; decide)) w') ?_
      refine m_unwanted po9 d9 (w_not gd9 po8 d8 (eval_same _ _ _ (by simp only [put_size, hsz]; decide))) ?_
      refine m_unwanted po10 d10 (w_not gd10 po8 d8 ((eval_other _ 57 56 _ (by decide)).trans (eval_same _ _ _ (by simp only [put_size, hsz]; decide)))) ?_
      refine m_unwanted po11 d11 (w_not gd11 po8 d8 ((eval_other _ 58 56 _ (by decide)).trans ((eval_other _ 57 56 _ (by decide)).trans (eval_same _ _ _ (by simp only [put_size, hsz]; decide))))) ?_
      refine m_unwanted po13 d13 (w_not gd13 po8 d8 ((eval_other _ 59 56 _ (by decide)).trans ((eval_other _ 58 56 _ (by decide)).trans ((eval_other _ 57 56 _ (by decide)).trans (eval_same _ _ _ (by simp only [put_size, hsz]; decide)))))) ?_
      refine m_unwanted po14 d14 (w_not gd14 po8 d8 ((eval_other _ 61 56 _ (by decide)).trans ((eval_other _ 59 56 _ (by decide)).trans ((eval_other _ 58 56 _ (by decide)).trans ((eval_other _ 57 56 _ (by decide)).trans (eval_same _ _ _ (by simp only [put_size, hsz]; decide))))))) ?_
      refine m_unwanted po15 d15 (w_not gd15 po8 d8 ((eval_other _ 62 56 _ (by decide)).trans ((eval_other _ 61 56 _ (by decide)).trans ((eval_other _ 59 56 _ (by decide)).trans ((eval_other _ 58 56 _ (by decide)).trans ((eval_other _ 57 56 _ (by decide)).trans (eval_same _ _ _ (by simp only [put_size, hsz]; decide)))))))) ?_
      refine m_skipped po12 d12 (w_not gd12 po8 d8 ((eval_other _ 63 56 _ (by decide)).trans ((eval_other _ 62 56 _ (by decide)).trans ((eval_other _ 61 56 _ (by decide)).trans ((eval_other _ 59 56 _ (by decide)).trans ((eval_other _ 58 56 _ (by decide)).trans ((eval_other _ 57 56 _ (by decide)).trans (eval_same _ _ _ (by simp only [put_size, hsz]; decide))))))))) ⟨HSw7_1.out, ?_⟩
      refine m_skipped po16 d16 (w_not gd16 po8 d8 ((eval_other _ 60 56 _ (by decide)).trans ((eval_other _ 63 56 _ (by decide)).trans ((eval_other _ 62 56 _ (by decide)).trans ((eval_other _ 61 56 _ (by decide)).trans ((eval_other _ 59 56 _ (by decide)).trans ((eval_other _ 58 56 _ (by decide)).trans ((eval_other _ 57 56 _ (by decide)).trans (eval_same _ _ _ (by simp only [put_size, hsz]; decide)))))))))) ⟨HSw7_1.out, ?_⟩
      refine m_unwanted po17 d17 (w_not gd17 po8 d8 ((eval_other _ 64 56 _ (by decide)).trans ((eval_other _ 60 56 _ (by decide)).trans ((eval_other _ 63 56 _ (by decide)).trans ((eval_other _ 62 56 _ (by decide)).trans ((eval_other _ 61 56 _ (by decide)).trans ((eval_other _ 59 56 _ (by decide)).trans ((eval_other _ 58 56 _ (by decide)).trans ((eval_other _ 57 56 _ (by decide)).trans (eval_same _ _ _ (by simp only [put_size, hsz]; decide))))))))))) ?_
      refine met_free po18 d18 (wanted_of gd18) (fun w' h' => r_pickF q18 ((eval_other _ 65 56 _ (by decide)).trans ((eval_other _ 64 56 _ (by decide)).trans ((eval_other _ 60 56 _ (by decide)).trans ((eval_other _ 63 56 _ (by decide)).trans ((eval_other _ 62 56 _ (by decide)).trans ((eval_other _ 61 56 _ (by decide)).trans ((eval_other _ 59 56 _ (by decide)).trans ((eval_other _ 58 56 _ (by decide)).trans ((eval_other _ 57 56 _ (by decide)).trans (eval_same _ _ _ (by simp only [put_size, hsz]; decide))))))))))) rfl w') ?_
      show NoPanic _ .normal _ _
      refine NoPanic.normal ?_
      rw [HAA.out]
      go_frame
      clear HAA
      clear po0 q0 d0 gd0 po1 q1 d1 gd1 po2 q2 d2 gd2 po3 q3 d3 gd3 po4 q4 d4 gd4 po5 q5 d5 gd5 po6 q6 d6 gd6 po7 q7 d7 gd7 po8 q8 d8 gd8 po9 q9 d9 gd9 po10 q10 d10 gd10 po11 q11 d11 gd11 po12 q12 d12 gd12 po13 q13 d13 gd13 po14 q14 d14 gd14 po15 q15 d15 gd15 po16 q16 d16 gd16 po17 q17 d17 gd17 po18 q18 d18 gd18
      clear base3 base4 base5 base6 base7 hsz
      go_wp2_with fail
      refine (HKN.out _).mono ?_
      rintro e w99 ⟨rfl, hb⟩
      have HB9 := Lib.hid (HSw7_1.out.below.trans (hb.mono HSw7_1.out.below.size))
      clear hb
      go_wp2_with fail
      go_ret
      exact ⟨rfl, HB9.out⟩
    · skip
      go_wp2_with (first | (show wpList _ _ _ (⟨_, .call { callee := .builtin .max, args := _, argTypes := _ }, _, _, _, _⟩ :: _) _ _; refine wpList_run (by rfl) (run_max4 rfl rfl rfl rfl rfl HM.out _) ?_) | (show wpList _ _ _ (⟨_, .load 23 (.tmp 5), _, _, _, _⟩ :: _) _ _; refine wpList_run (by rfl) (run_loadBlk rfl rfl HG1.out.one (by kernel_rfl) (size_grant _)) ?_))
      refine (CHK2.out _).mono ?_
      rintro e w2 ⟨rfl, hb⟩
      have HG2 := Lib.hid (HG1.out.step hb)
      clear hb
      go_wp2_with (first | (show wpList _ _ _ (⟨_, .load 23 (.tmp 5), _, _, _, _⟩ :: _) _ _; refine wpList_run (by rfl) (run_loadBlk rfl rfl HG2.out.one (by kernel_rfl) (size_grant _)) ?_) | (show wpList _ _ _ (⟨_, .load 23 (.tmp 6), _, _, _, _⟩ :: _) _ _; refine wpList_run (by rfl) (run_loadBlk rfl rfl HG2.out.two (by kernel_rfl) (size_grant _)) ?_))
      refine (NAB.out _).mono ?_
      rw [VAB.out]
      rintro e w3 ⟨rfl, hb⟩
      have HG3 := Lib.hid (HG2.out.step hb)
      clear hb
      go_upto_region 7 with (fail)
      refine region_phase (fun wr => Gr3 w.heap.size (w.heap.size + 1) (w.heap.size + 2) a b c w wr) (fun _ => True) 99 (HG3.out.step (Below.refl _ _).drew) trivial [(0, .free), (1, .free), (2, .behind), (3, .free), (4, .free), (5, .free), (6, .behind), (7, .free), (8, .free), (9, .free), (10, .free), (11, .free), (13, .free), (14, .free), (15, .free), (12, .behind), (16, .behind), (17, .free), (18, .free)] (by kernel_rfl) (by kernel_rfl) (by kernel_rfl) (by kernel_rfl) (fun ops hops A hA => ?_)
      have hsz : A.tmps.size = 68 := by rw [hA]; rfl
      have base3 : A.eval (.tmp 3) = .int .i64 r := by rw [hA]; rfl
      have base4 : A.eval (.tmp 4) = .string s := by rw [hA]; rfl
      have base5 : A.eval (.tmp 5) = .pointer (some ⟨w.heap.size, 0, none⟩) := by rw [hA]; rfl
      have base6 : A.eval (.tmp 6) = .pointer (some ⟨w.heap.size + 1, 0, none⟩) := by rw [hA]; rfl
      have base7 : A.eval (.tmp 7) = .pointer (some ⟨w.heap.size + 2, 0, none⟩) := by rw [hA]; rfl
      have HAA := Lib.hid hA; clear hA
      obtain ⟨o0, po0, q0, d0, gd0⟩ : ∃ o, ops[0]? = some o ∧ o.op = .load 23 (.tmp 5) ∧ o.dst = some 48 ∧ o.guard = none := ⟨_, by rw [hops]; rfl, rfl, rfl, rfl⟩
      obtain ⟨o1, po1, q1, d1, gd1⟩ : ∃ o, ops[1]? = some o ∧ o.op = .load 23 (.tmp 6) ∧ o.dst = some 49 ∧ o.guard = none := ⟨_, by rw [hops]; rfl, rfl, rfl, rfl⟩
      obtain ⟨o2, po2, q2, d2, gd2⟩ : ∃ o, ops[2]? = some o ∧ o.op = .call { callee := .value (.func 19), args := #[.tmp 48, .tmp 49], argTypes := #[23, 23] } ∧ o.dst = some 50 ∧ o.guard = none := ⟨_, by rw [hops]; rfl, rfl, rfl, rfl⟩
      obtain ⟨o3, po3, q3, d3, gd3⟩ : ∃ o, ops[3]? = some o ∧ o.op = .move (.tmp 50) ∧ o.dst = some 51 ∧ o.guard = none := ⟨_, by rw [hops]; rfl, rfl, rfl, rfl⟩
      obtain ⟨o4, po4, q4, d4, gd4⟩ : ∃ o, ops[4]? = some o ∧ o.op = .load 23 (.tmp 6) ∧ o.dst = some 52 ∧ o.guard = some (3, true) := ⟨_, by rw [hops]; rfl, rfl, rfl, rfl⟩
      obtain ⟨o5, po5, q5, d5, gd5⟩ : ∃ o, ops[5]? = some o ∧ o.op = .load 23 (.tmp 5) ∧ o.dst = some 53 ∧ o.guard = some (3, true) := ⟨_, by rw [hops]; rfl, rfl, rfl, rfl⟩
      obtain ⟨o6, po6, q6, d6, gd6⟩ : ∃ o, ops[6]? = some o ∧ o.op = .call { callee := .value (.func 19), args := #[.tmp 52, .tmp 53], argTypes := #[23, 23] } ∧ o.dst = some 54 ∧ o.guard = some (3, true) := ⟨_, by rw [hops]; rfl, rfl, rfl, rfl⟩
      obtain ⟨o7, po7, q7, d7, gd7⟩ : ∃ o, ops[7]? = some o ∧ o.op = .pick (.tmp 51) (.tmp 54) (.const (.bool false)) ∧ o.dst = some 55 ∧ o.guard = none := ⟨_, by rw [hops]; rfl, rfl, rfl, rfl⟩
      obtain ⟨o8, po8, q8, d8, gd8⟩ : ∃ o, ops[8]? = some o ∧ o.op = .move (.tmp 55) ∧ o.dst = some 56 ∧ o.guard = none := ⟨_, by rw [hops]; rfl, rfl, rfl, rfl⟩
      obtain ⟨o9, po9, q9, d9, gd9⟩ : ∃ o, ops[9]? = some o ∧ o.op = .load 23 (.tmp 5) ∧ o.dst = some 57 ∧ o.guard = some (8, true) := ⟨_, by rw [hops]; rfl, rfl, rfl, rfl⟩
      obtain ⟨o10, po10, q10, d10, gd10⟩ : ∃ o, ops[10]? = some o ∧ o.op = .move (.tmp 3) ∧ o.dst = some 58 ∧ o.guard = some (8, true) := ⟨_, by rw [hops]; rfl, rfl, rfl, rfl⟩
      obtain ⟨o11, po11, q11, d11, gd11⟩ : ∃ o, ops[11]? = some o ∧ o.op = .move (.tmp 4) ∧ o.dst = some 59 ∧ o.guard = some (8, true) := ⟨_, by rw [hops]; rfl, rfl, rfl, rfl⟩
      obtain ⟨o12, po12, q12, d12, gd12⟩ : ∃ o, ops[12]? = some o ∧ o.op = .call { callee := .value (.func 15), args := #[.tmp 57, .tmp 58, .tmp 59], argTypes := #[23, 3, 9] } ∧ o.dst = some 60 ∧ o.guard = some (8, true) := ⟨_, by rw [hops]; rfl, rfl, rfl, rfl⟩
      obtain ⟨o13, po13, q13, d13, gd13⟩ : ∃ o, ops[13]? = some o ∧ o.op = .load 23 (.tmp 6) ∧ o.dst = some 61 ∧ o.guard = some (8, true) := ⟨_, by rw [hops]; rfl, rfl, rfl, rfl⟩
      obtain ⟨o14, po14, q14, d14, gd14⟩ : ∃ o, ops[14]? = some o ∧ o.op = .move (.tmp 3) ∧ o.dst = some 62 ∧ o.guard = some (8, true) := ⟨_, by rw [hops]; rfl, rfl, rfl, rfl⟩
      obtain ⟨o15, po15, q15, d15, gd15⟩ : ∃ o, ops[15]? = some o ∧ o.op = .move (.tmp 4) ∧ o.dst = some 63 ∧ o.guard = some (8, true) := ⟨_, by rw [hops]; rfl, rfl, rfl, rfl⟩
      obtain ⟨o16, po16, q16, d16, gd16⟩ : ∃ o, ops[16]? = some o ∧ o.op = .call { callee := .value (.func 15), args := #[.tmp 61, .tmp 62, .tmp 63], argTypes := #[23, 3, 9] } ∧ o.dst = some 64 ∧ o.guard = some (8, true) := ⟨_, by rw [hops]; rfl, rfl, rfl, rfl⟩
      obtain ⟨o17, po17, q17, d17, gd17⟩ : ∃ o, ops[17]? = some o ∧ o.op = .binOp .neq 4 (.tmp 60) (.tmp 64) 4 ∧ o.dst = some 65 ∧ o.guard = some (8, true) := ⟨_, by rw [hops]; rfl, rfl, rfl, rfl⟩
      obtain ⟨o18, po18, q18, d18, gd18⟩ : ∃ o, ops[18]? = some o ∧ o.op = .pick (.tmp 56) (.tmp 65) (.const (.bool false)) ∧ o.dst = some 66 ∧ o.guard = none := ⟨_, by rw [hops]; rfl, rfl, rfl, rfl⟩
      clear hops
      refine met_free po0 d0 (wanted_of gd0) (fun w' h' => run_loadBlk q0 base5 h'.one (by kernel_rfl) (size_grant _)) ?_
      refine met_free po1 d1 (wanted_of gd1) (fun w' h' => run_loadBlk q1 ((eval_other _ 48 6 _ (by decide)).trans base6) h'.two (by kernel_rfl) (size_grant _)) ?_
      refine m_enter po2 d2 (wanted_of gd2) (run_callf2 q2 rfl ((eval_other _ 49 48 _ (by decide)).trans (eval_same _ _ _ (by rw [hsz]; decide))) (eval_same _ _ _ (by simp only [put_size, hsz]; decide)) Try.func19 (by kernel_rfl) _) ((VAB.out ▸ NAB.out _ : Calls _ _ _ _ (ReturnsG false _))) ?_
      rintro e w7_1 ⟨rfl, hb⟩
      have HSw7_1 := Lib.hid ((HG3.out.step (Below.refl _ _).drew).step hb)
      clear hb
      refine ⟨_, rfl, HSw7_1.out, ?_⟩
      refine met_free po3 d3 (wanted_of gd3) (fun w' h' => run_move q3 (eval_same _ _ _ (by simp only [put_size, hsz]; decide)) w') ?_
      refine m_unwanted po4 d4 (w_not gd4 po3 d3 (eval_same _ _ _ (by simp only [put_size, hsz]; decide))) ?_
      refine m_unwanted po5 d5 (w_not gd5 po3 d3 ((eval_other _ 52 51 _ (by decide)).trans (eval_same _ _ _ (by simp only [put_size, hsz]; decide)))) ?_
      refine m_skipped po6 d6 (w_not gd6 po3 d3 ((eval_other _ 53 51 _ (by decide)).trans ((eval_other _ 52 51 _ (by decide)).trans (eval_same _ _ _ (by simp only [put_size, hsz]; decide))))) ⟨HSw7_1.out, ?_⟩
      refine met_free po7 d7 (wanted_of gd7) (fun w' h' => r_pickF q7 ((eval_other _ 54 51 _ (by decide)).trans ((eval_other _ 53 51 _ (by decide)).trans ((eval_other _ 52 51 _ (by decide)).trans (eval_same _ _ _ (by simp only [put_size, hsz]; decide))))) rfl w') ?_
      refine met_free po8 d8 (wanted_of gd8) (fun w' h' => run_move q8 (eval_same _ _ _ (by simp only [put_size, hsz]; decide)) w') ?_
      refine m_unwanted po9 d9 (w_not gd9 po8 d8 (eval_same _ _ _ (by simp only [put_size, hsz]; decide))) ?_
      refine m_unwanted po10 d10 (w_not gd10 po8 d8 ((eval_other _ 57 56 _ (by decide)).trans (eval_same _ _ _ (by simp only [put_size, hsz]; decide)))) ?_
      refine m_unwanted po11 d11 (w_not gd11 po8 d8 ((eval_other _ 58 56 _ (by decide)).trans ((eval_other _ 57 56 _ (by decide)).trans (eval_same _ _ _ (by simp only [put_size, hsz]; decide))))) ?_
      refine m_unwanted po13 d13 (w_not gd13 po8 d8 ((eval_other _ 59 56 _ (by decide)).trans ((eval_other _ 58 56 _ (by decide)).trans ((eval_other _ 57 56 _ (by decide)).trans (eval_same _ _ _ (by simp only [put_size, hsz]; decide)))))) ?_
      refine m_unwanted po14 d14 (w_not gd14 po8 d8 ((eval_other _ 61 56 _ (by decide)).trans ((eval_other _ 59 56 _ (by decide)).trans ((eval_other _ 58 56 _ (by decide)).trans ((eval_other _ 57 56 _ (by decide)).trans (eval_same _ _ _ (by simp only [put_size, hsz]; decide))))))) ?_
      refine m_unwanted po15 d15 (w_not gd15 po8 d8 ((eval_other _ 62 56 _ (by decide)).trans ((eval_other _ 61 56 _ (by decide)).trans ((eval_other _ 59 56 _ (by decide)).trans ((eval_other _ 58 56 _ (by decide)).trans ((eval_other _ 57 56 _ (by decide)).trans (eval_same _ _ _ (by simp only [put_size, hsz]; decide)))))))) ?_
      refine m_skipped po12 d12 (w_not gd12 po8 d8 ((eval_other _ 63 56 _ (by decide)).trans ((eval_other _ 62 56 _ (by decide)).trans ((eval_other _ 61 56 _ (by decide)).trans ((eval_other _ 59 56 _ (by decide)).trans ((eval_other _ 58 56 _ (by decide)).trans ((eval_other _ 57 56 _ (by decide)).trans (eval_same _ _ _ (by simp only [put_size, hsz]; decide))))))))) ⟨HSw7_1.out, ?_⟩
      refine m_skipped po16 d16 (w_not gd16 po8 d8 ((eval_other _ 60 56 _ (by decide)).trans ((eval_other _ 63 56 _ (by decide)).trans ((eval_other _ 62 56 _ (by decide)).trans ((eval_other _ 61 56 _ (by decide)).trans ((eval_other _ 59 56 _ (by decide)).trans ((eval_other _ 58 56 _ (by decide)).trans ((eval_other _ 57 56 _ (by decide)).trans (eval_same _ _ _ (by simp only [put_size, hsz]; decide)))))))))) ⟨HSw7_1.out, ?_⟩
      refine m_unwanted po17 d17 (w_not gd17 po8 d8 ((eval_other _ 64 56 _ (by decide)).trans ((eval_other _ 60 56 _ (by decide)).trans ((eval_other _ 63 56 _ (by decide)).trans ((eval_other _ 62 56 _ (by decide)).trans ((eval_other _ 61 56 _ (by decide)).trans ((eval_other _ 59 56 _ (by decide)).trans ((eval_other _ 58 56 _ (by decide)).trans ((eval_other _ 57 56 _ (by decide)).trans (eval_same _ _ _ (by simp only [put_size, hsz]; decide))))))))))) ?_
      refine met_free po18 d18 (wanted_of gd18) (fun w' h' => r_pickF q18 ((eval_other _ 65 56 _ (by decide)).trans ((eval_other _ 64 56 _ (by decide)).trans ((eval_other _ 60 56 _ (by decide)).trans ((eval_other _ 63 56 _ (by decide)).trans ((eval_other _ 62 56 _ (by decide)).trans ((eval_other _ 61 56 _ (by decide)).trans ((eval_other _ 59 56 _ (by decide)).trans ((eval_other _ 58 56 _ (by decide)).trans ((eval_other _ 57 56 _ (by decide)).trans (eval_same _ _ _ (by simp only [put_size, hsz]; decide))))))))))) rfl w') ?_
      show NoPanic _ .normal _ _
      refine NoPanic.normal ?_
      rw [HAA.out]
      go_frame
      clear HAA
      clear po0 q0 d0 gd0 po1 q1 d1 gd1 po2 q2 d2 gd2 po3 q3 d3 gd3 po4 q4 d4 gd4 po5 q5 d5 gd5 po6 q6 d6 gd6 po7 q7 d7 gd7 po8 q8 d8 gd8 po9 q9 d9 gd9 po10 q10 d10 gd10 po11 q11 d11 gd11 po12 q12 d12 gd12 po13 q13 d13 gd13 po14 q14 d14 gd14 po15 q15 d15 gd15 po16 q16 d16 gd16 po17 q17 d17 gd17 po18 q18 d18 gd18
      clear base3 base4 base5 base6 base7 hsz
      go_wp2_with fail
      refine (HKN.out _).mono ?_
      rintro e w99 ⟨rfl, hb⟩
      have HB9 := Lib.hid (HSw7_1.out.below.trans (hb.mono HSw7_1.out.below.size))
      clear hb
      go_wp2_with fail
      go_ret
      exact ⟨rfl, HB9.out⟩
  · have VAB := Lib.hid hab
    have VBC := Lib.hid hbc
    have VBA := Lib.hid hba
    clear hab hbc hba
    by_cases hz0 : z = 0
    · have VAA := Lib.hid (HSELF.out hz0)
      subst hz0
      go_wp2_with (first | (show wpList _ _ _ (⟨_, .call { callee := .builtin .max, args := _, argTypes := _ }, _, _, _, _⟩ :: _) _ _; refine wpList_run (by rfl) (run_max4 rfl rfl rfl rfl rfl HM.out _) ?_) | (show wpList _ _ _ (⟨_, .load 23 (.tmp 5), _, _, _, _⟩ :: _) _ _; refine wpList_run (by rfl) (run_loadBlk rfl rfl HG1.out.one (by kernel_rfl) (size_grant _)) ?_))
      refine (CHK2.out _).mono ?_
      rintro e w2 ⟨rfl, hb⟩
      have HG2 := Lib.hid (HG1.out.step hb)
      clear hb
      go_wp2_with (first | (show wpList _ _ _ (⟨_, .load 23 (.tmp 5), _, _, _, _⟩ :: _) _ _; refine wpList_run (by rfl) (run_loadBlk rfl rfl HG2.out.one (by kernel_rfl) (size_grant _)) ?_))
      refine (NAA.out _).mono ?_
      rw [VAA.out]
      rintro e w3 ⟨rfl, hb⟩
      have HG3 := Lib.hid (HG2.out.step hb)
      clear hb
      go_wp2_with (first | (show wpList _ _ _ (⟨_, .load 23 (.tmp 5), _, _, _, _⟩ :: _) _ _; refine wpList_run (by rfl) (run_loadBlk rfl rfl HG3.out.one (by kernel_rfl) (size_grant _)) ?_) | (show wpList _ _ _ (⟨_, .load 23 (.tmp 6), _, _, _, _⟩ :: _) _ _; refine wpList_run (by rfl) (run_loadBlk rfl rfl HG3.out.two (by kernel_rfl) (size_grant _)) ?_))
      refine (NAB.out _).mono ?_
      rw [VAB.out]
      rintro e w4 ⟨rfl, hb⟩
      have HG4 := Lib.hid (HG3.out.step hb)
      clear hb
      go_wp2_with (first | (show wpList _ _ _ (⟨_, .load 23 (.tmp 6), _, _, _, _⟩ :: _) _ _; refine wpList_run (by rfl) (run_loadBlk rfl rfl HG4.out.two (by kernel_rfl) (size_grant _)) ?_) | (show wpList _ _ _ (⟨_, .load 23 (.tmp 7), _, _, _, _⟩ :: _) _ _; refine wpList_run (by rfl) (run_loadBlk rfl rfl HG4.out.three (by kernel_rfl) (size_grant _)) ?_))
      refine (NBC.out _).mono ?_
      rw [VBC.out]
      rintro e w5 ⟨rfl, hb⟩
      have HG5 := Lib.hid (HG4.out.step hb)
      clear hb
      go_upto_region 7 with (fail)
      refine region_phase (fun wr => Gr3 w.heap.size (w.heap.size + 1) (w.heap.size + 2) a b c w wr) (fun _ => True) 99 (HG5.out.step (Below.refl _ _).drew) trivial [(0, .free), (1, .free), (2, .behind), (3, .free), (4, .free), (5, .free), (6, .behind), (7, .free), (8, .free), (9, .free), (10, .free), (11, .free), (13, .free), (14, .free), (15, .free), (12, .behind), (16, .behind), (17, .free), (18, .free)] (by kernel_rfl) (by kernel_rfl) (by kernel_rfl) (by kernel_rfl) (fun ops hops A hA => ?_)
      have hsz : A.tmps.size = 68 := by rw [hA]; rfl
      have base3 : A.eval (.tmp 3) = .int .i64 r := by rw [hA]; rfl
      have base4 : A.eval (.tmp 4) = .string s := by rw [hA]; rfl
      have base5 : A.eval (.tmp 5) = .pointer (some ⟨w.heap.size, 0, none⟩) := by rw [hA]; rfl
      have base6 : A.eval (.tmp 6) = .pointer (some ⟨w.heap.size + 1, 0, none⟩) := by rw [hA]; rfl
      have base7 : A.eval (.tmp 7) = .pointer (some ⟨w.heap.size + 2, 0, none⟩) := by rw [hA]; rfl
      have HAA := Lib.hid hA; clear hA
      obtain ⟨o0, po0, q0, d0, gd0⟩ : ∃ o, ops[0]? = some o ∧ o.op = .load 23 (.tmp 5) ∧ o.dst = some 48 ∧ o.guard = none := ⟨_, by rw [hops]; rfl, rfl, rfl, rfl⟩
      obtain ⟨o1, po1, q1, d1, gd1⟩ : ∃ o, ops[1]? = some o ∧ o.op = .load 23 (.tmp 6) ∧ o.dst = some 49 ∧ o.guard = none := ⟨_, by rw [hops]; rfl, rfl, rfl, rfl⟩
      obtain ⟨o2, po2, q2, d2, gd2⟩ : ∃ o, ops[2]? = some o ∧ o.op = .call { callee := .value (.func 19), args := #[.tmp 48, .tmp 49], argTypes := #[23, 23] } ∧ o.dst = some 50 ∧ o.guard = none := ⟨_, by rw [hops]; rfl, rfl, rfl, rfl⟩
      obtain ⟨o3, po3, q3, d3, gd3⟩ : ∃ o, ops[3]? = some o ∧ o.op = .move (.tmp 50) ∧ o.dst = some 51 ∧ o.guard = none := ⟨_, by rw [hops]; rfl, rfl, rfl, rfl⟩
      obtain ⟨o4, po4, q4, d4, gd4⟩ : ∃ o, ops[4]? = some o ∧ o.op = .load 23 (.tmp 6) ∧ o.dst = some 52 ∧ o.guard = some (3, true) := ⟨_, by rw [hops]; rfl, rfl, rfl, rfl⟩
      obtain ⟨o5, po5, q5, d5, gd5⟩ : ∃ o, ops[5]? = some o ∧ o.op = .load 23 (.tmp 5) ∧ o.dst = some 53 ∧ o.guard = some (3, true) := ⟨_, by rw [hops]; rfl, rfl, rfl, rfl⟩
      obtain ⟨o6, po6, q6, d6, gd6⟩ : ∃ o, ops[6]? = some o ∧ o.op = .call { callee := .value (.func 19), args := #[.tmp 52, .tmp 53], argTypes := #[23, 23] } ∧ o.dst = some 54 ∧ o.guard = some (3, true) := ⟨_, by rw [hops]; rfl, rfl, rfl, rfl⟩
      obtain ⟨o7, po7, q7, d7, gd7⟩ : ∃ o, ops[7]? = some o ∧ o.op = .pick (.tmp 51) (.tmp 54) (.const (.bool false)) ∧ o.dst = some 55 ∧ o.guard = none := ⟨_, by rw [hops]; rfl, rfl, rfl, rfl⟩
      obtain ⟨o8, po8, q8, d8, gd8⟩ : ∃ o, ops[8]? = some o ∧ o.op = .move (.tmp 55) ∧ o.dst = some 56 ∧ o.guard = none := ⟨_, by rw [hops]; rfl, rfl, rfl, rfl⟩
      obtain ⟨o9, po9, q9, d9, gd9⟩ : ∃ o, ops[9]? = some o ∧ o.op = .load 23 (.tmp 5) ∧ o.dst = some 57 ∧ o.guard = some (8, true) := ⟨_, by rw [hops]; rfl, rfl, rfl, rfl⟩
      obtain ⟨o10, po10, q10, d10, gd10⟩ : ∃ o, ops[10]? = some o ∧ o.op = .move (.tmp 3) ∧ o.dst = some 58 ∧ o.guard = some (8, true) := ⟨_, by rw [hops]; rfl, rfl, rfl, rfl⟩
      obtain ⟨o11, po11, q11, d11, gd11⟩ : ∃ o, ops[11]? = some o ∧ o.op = .move (.tmp 4) ∧ o.dst = some 59 ∧ o.guard = some (8, true) := ⟨_, by rw [hops]; rfl, rfl, rfl, rfl⟩
      obtain ⟨o12, po12, q12, d12, gd12⟩ : ∃ o, ops[12]? = some o ∧ o.op = .call { callee := .value (.func 15), args := #[.tmp 57, .tmp 58, .tmp 59], argTypes := #[23, 3, 9] } ∧ o.dst = some 60 ∧ o.guard = some (8, true) := ⟨_, by rw [hops]; rfl, rfl, rfl, rfl⟩
      obtain ⟨o13, po13, q13, d13, gd13⟩ : ∃ o, ops[13]? = some o ∧ o.op = .load 23 (.tmp 6) ∧ o.dst = some 61 ∧ o.guard = some (8, true) := ⟨_, by rw [hops]; rfl, rfl, rfl, rfl⟩
      obtain ⟨o14, po14, q14, d14, gd14⟩ : ∃ o, ops[14]? = some o ∧ o.op = .move (.tmp 3) ∧ o.dst = some 62 ∧ o.guard = some (8, true) := ⟨_, by rw [hops]; rfl, rfl, rfl, rfl⟩
      obtain ⟨o15, po15, q15, d15, gd15⟩ : ∃ o, ops[15]? = some o ∧ o.op = .move (.tmp 4) ∧ o.dst = some 63 ∧ o.guard = some (8, true) := ⟨_, by rw [hops]; rfl, rfl, rfl, rfl⟩
      obtain ⟨o16, po16, q16, d16, gd16⟩ : ∃ o, ops[16]? = some o ∧ o.op = .call { callee := .value (.func 15), args := #[.tmp 61, .tmp 62, .tmp 63], argTypes := #[23, 3, 9] } ∧ o.dst = some 64 ∧ o.guard = some (8, true) := ⟨_, by rw [hops]; rfl, rfl, rfl, rfl⟩
      obtain ⟨o17, po17, q17, d17, gd17⟩ : ∃ o, ops[17]? = some o ∧ o.op = .binOp .neq 4 (.tmp 60) (.tmp 64) 4 ∧ o.dst = some 65 ∧ o.guard = some (8, true) := ⟨_, by rw [hops]; rfl, rfl, rfl, rfl⟩
      obtain ⟨o18, po18, q18, d18, gd18⟩ : ∃ o, ops[18]? = some o ∧ o.op = .pick (.tmp 56) (.tmp 65) (.const (.bool false)) ∧ o.dst = some 66 ∧ o.guard = none := ⟨_, by rw [hops]; rfl, rfl, rfl, rfl⟩
      clear hops
      refine met_free po0 d0 (wanted_of gd0) (fun w' h' => run_loadBlk q0 base5 h'.one (by kernel_rfl) (size_grant _)) ?_
      refine met_free po1 d1 (wanted_of gd1) (fun w' h' => run_loadBlk q1 ((eval_other _ 48 6 _ (by decide)).trans base6) h'.two (by kernel_rfl) (size_grant _)) ?_
      refine m_enter po2 d2 (wanted_of gd2) (run_callf2 q2 rfl ((eval_other _ 49 48 _ (by decide)).trans (eval_same _ _ _ (by rw [hsz]; decide))) (eval_same _ _ _ (by simp only [put_size, hsz]; decide)) Try.func19 (by kernel_rfl) _) ((VAB.out ▸ NAB.out _ : Calls _ _ _ _ (ReturnsG true _))) ?_
      rintro e w7_1 ⟨rfl, hb⟩
      have HSw7_1 := Lib.hid ((HG5.out.step (Below.refl _ _).drew).step hb)
      clear hb
      refine ⟨_, rfl, HSw7_1.out, ?_⟩
      refine met_free po3 d3 (wanted_of gd3) (fun w' h' => run_move q3 (eval_same _ _ _ (by simp only [put_size, hsz]; decide)) w') ?_
      refine met_free po4 d4 (wanted_guard gd4 po3 d3 (eval_same _ _ _ (by simp only [put_size, hsz]; decide))) (fun w' h' => run_loadBlk q4 ((eval_other _ 51 6 _ (by decide)).trans ((eval_other _ 50 6 _ (by decide)).trans ((eval_other _ 49 6 _ (by decide)).trans ((eval_other _ 48 6 _ (by decide)).trans base6)))) h'.two (by kernel_rfl) (size_grant _)) ?_
      refine met_free po5 d5 (wanted_guard gd5 po3 d3 ((eval_other _ 52 51 _ (by decide)).trans (eval_same _ _ _ (by simp only [put_size, hsz]; decide)))) (fun w' h' => run_loadBlk q5 ((eval_other _ 52 5 _ (by decide)).trans ((eval_other _ 51 5 _ (by decide)).trans ((eval_other _ 50 5 _ (by decide)).trans ((eval_other _ 49 5 _ (by decide)).trans ((eval_other _ 48 5 _ (by decide)).trans base5))))) h'.one (by kernel_rfl) (size_grant _)) ?_
      refine m_enter po6 d6 (wanted_guard gd6 po3 d3 ((eval_other _ 53 51 _ (by decide)).trans ((eval_other _ 52 51 _ (by decide)).trans (eval_same _ _ _ (by simp only [put_size, hsz]; decide))))) (run_callf2 q6 rfl ((eval_other _ 53 52 _ (by decide)).trans (eval_same _ _ _ (by simp only [put_size, hsz]; decide))) (eval_same _ _ _ (by simp only [put_size, hsz]; decide)) Try.func19 (by kernel_rfl) _) ((VBA.out ▸ NBA.out _ : Calls _ _ _ _ (ReturnsG false _))) ?_
      rintro e w7_2 ⟨rfl, hb⟩
      have HSw7_2 := Lib.hid (HSw7_1.out.step hb)
      clear hb
      refine ⟨_, rfl, HSw7_2.out, ?_⟩
      refine met_free po7 d7 (wanted_of gd7) (fun w' h' => run_pick_true q7 ((eval_other _ 54 51 _ (by decide)).trans ((eval_other _ 53 51 _ (by decide)).trans ((eval_other _ 52 51 _ (by decide)).trans (eval_same _ _ _ (by simp only [put_size, hsz]; decide))))) (eval_same _ _ _ (by simp only [put_size, hsz]; decide)) w') ?_
      refine met_free po8 d8 (wanted_of gd8) (fun w' h' => run_move q8 (eval_same _ _ _ (by simp only [put_size, hsz]; decide)) w') ?_
      refine m_unwanted po9 d9 (w_not gd9 po8 d8 (eval_same _ _ _ (by simp only [put_size, hsz]; decide))) ?_
      refine m_unwanted po10 d10 (w_not gd10 po8 d8 ((eval_other _ 57 56 _ (by decide)).trans (eval_same _ _ _ (by simp only [put_size, hsz]; decide)))) ?_
      refine m_unwanted po11 d11 (w_not gd11 po8 d8 ((eval_other _ 58 56 _ (by decide)).trans ((eval_other _ 57 56 _ (by decide)).trans (eval_same _ _ _ (by simp only [put_size, hsz]; decide))))) ?_
      refine m_unwanted po13 d13 (w_not gd13 po8 d8 ((eval_other _ 59 56 _ (by decide)).trans ((eval_other _ 58 56 _ (by decide)).trans ((eval_other _ 57 56 _ (by decide)).trans (eval_same _ _ _ (by simp only [put_size, hsz]; decide)))))) ?_
      refine m_unwanted po14 d14 (w_not gd14 po8 d8 ((eval_other _ 61 56 _ (by decide)).trans ((eval_other _ 59 56 _ (by decide)).trans ((eval_other _ 58 56 _ (by decide)).trans ((eval_other _ 57 56 _ (by decide)).trans (eval_same _ _ _ (by simp only [put_size, hsz]; decide))))))) ?_
      refine m_unwanted po15 d15 (w_not gd15 po8 d8 ((eval_other _ 62 56 _ (by decide)).trans ((eval_other _ 61 56 _ (by decide)).trans ((eval_other _ 59 56 _ (by decide)).trans ((eval_other _ 58 56 _ (by decide)).trans ((eval_other _ 57 56 _ (by decide)).trans (eval_same _ _ _ (by simp only [put_size, hsz]; decide)))))))) ?_
      refine m_skipped po12 d12 (w_not gd12 po8 d8 ((eval_other _ 63 56 _ (by decide)).trans ((eval_other _ 62 56 _ (by decide)).trans ((eval_other _ 61 56 _ (by decide)).trans ((eval_other _ 59 56 _ (by decide)).trans ((eval_other _ 58 56 _ (by decide)).trans ((eval_other _ 57 56 _ (by decide)).trans (eval_same _ _ _ (by simp only [put_size, hsz]; decide))))))))) ⟨HSw7_2.out, ?_⟩
      refine m_skipped po16 d16 (w_not gd16 po8 d8 ((eval_other _ 60 56 _ (by decide)).trans ((eval_other _ 63 56 _ (by decide)).trans ((eval_other _ 62 56 _ (by decide)).trans ((eval_other _ 61 56 _ (by decide)).trans ((eval_other _ 59 56 _ (by decide)).trans ((eval_other _ 58 56 _ (by decide)).trans ((eval_other _ 57 56 _ (by decide)).trans (eval_same _ _ _ (by simp only [put_size, hsz]; decide)))))))))) ⟨HSw7_2.out, ?_⟩
      refine m_unwanted po17 d17 (w_not gd17 po8 d8 ((eval_other _ 64 56 _ (by decide)).trans ((eval_other _ 60 56 _ (by decide)).trans ((eval_other _ 63 56 _ (by decide)).trans ((eval_other _ 62 56 _ (by decide)).trans ((eval_other _ 61 56 _ (by decide)).trans ((eval_other _ 59 56 _ (by decide)).trans ((eval_other _ 58 56 _ (by decide)).trans ((eval_other _ 57 56 _ (by decide)).trans (eval_same _ _ _ (by simp only [put_size, hsz]; decide))))))))))) ?_
      refine met_free po18 d18 (wanted_of gd18) (fun w' h' => r_pickF q18 ((eval_other _ 65 56 _ (by decide)).trans ((eval_other _ 64 56 _ (by decide)).trans ((eval_other _ 60 56 _ (by decide)).trans ((eval_other _ 63 56 _ (by decide)).trans ((eval_other _ 62 56 _ (by decide)).trans ((eval_other _ 61 56 _ (by decide)).trans ((eval_other _ 59 56 _ (by decide)).trans ((eval_other _ 58 56 _ (by decide)).trans ((eval_other _ 57 56 _ (by decide)).trans (eval_same _ _ _ (by simp only [put_size, hsz]; decide))))))))))) rfl w') ?_
      show NoPanic _ .normal _ _
      refine NoPanic.normal ?_
      rw [HAA.out]
      go_frame
      clear HAA
      clear po0 q0 d0 gd0 po1 q1 d1 gd1 po2 q2 d2 gd2 po3 q3 d3 gd3 po4 q4 d4 gd4 po5 q5 d5 gd5 po6 q6 d6 gd6 po7 q7 d7 gd7 po8 q8 d8 gd8 po9 q9 d9 gd9 po10 q10 d10 gd10 po11 q11 d11 gd11 po12 q12 d12 gd12 po13 q13 d13 gd13 po14 q14 d14 gd14 po15 q15 d15 gd15 po16 q16 d16 gd16 po17 q17 d17 gd17 po18 q18 d18 gd18
      clear base3 base4 base5 base6 base7 hsz
      go_wp2_with fail
      refine (HKN.out _).mono ?_
      rintro e w99 ⟨rfl, hb⟩
      have HB9 := Lib.hid (HSw7_2.out.below.trans (hb.mono HSw7_2.out.below.size))
      clear hb
      go_wp2_with fail
      go_ret
      exact ⟨rfl, HB9.out⟩
    · skip
      go_wp2_with (first | (show wpList _ _ _ (⟨_, .call { callee := .builtin .max, args := _, argTypes := _ }, _, _, _, _⟩ :: _) _ _; refine wpList_run (by rfl) (run_max4 rfl rfl rfl rfl rfl HM.out _) ?_) | (show wpList _ _ _ (⟨_, .load 23 (.tmp 5), _, _, _, _⟩ :: _) _ _; refine wpList_run (by rfl) (run_loadBlk rfl rfl HG1.out.one (by kernel_rfl) (size_grant _)) ?_))
      refine (CHK2.out _).mono ?_
      rintro e w2 ⟨rfl, hb⟩
      have HG2 := Lib.hid (HG1.out.step hb)
      clear hb
      go_wp2_with (first | (show wpList _ _ _ (⟨_, .load 23 (.tmp 5), _, _, _, _⟩ :: _) _ _; refine wpList_run (by rfl) (run_loadBlk rfl rfl HG2.out.one (by kernel_rfl) (size_grant _)) ?_) | (show wpList _ _ _ (⟨_, .load 23 (.tmp 6), _, _, _, _⟩ :: _) _ _; refine wpList_run (by rfl) (run_loadBlk rfl rfl HG2.out.two (by kernel_rfl) (size_grant _)) ?_))
      refine (NAB.out _).mono ?_
      rw [VAB.out]
      rintro e w3 ⟨rfl, hb⟩
      have HG3 := Lib.hid (HG2.out.step hb)
      clear hb
      go_wp2_with (first | (show wpList _ _ _ (⟨_, .load 23 (.tmp 6), _, _, _, _⟩ :: _) _ _; refine wpList_run (by rfl) (run_loadBlk rfl rfl HG3.out.two (by kernel_rfl) (size_grant _)) ?_) | (show wpList _ _ _ (⟨_, .load 23 (.tmp 7), _, _, _, _⟩ :: _) _ _; refine wpList_run (by rfl) (run_loadBlk rfl rfl HG3.out.three (by kernel_rfl) (size_grant _)) ?_))
      refine (NBC.out _).mono ?_
      rw [VBC.out]
      rintro e w4 ⟨rfl, hb⟩
      have HG4 := Lib.hid (HG3.out.step hb)
      clear hb
      go_upto_region 7 with (fail)
      refine region_phase (fun wr => Gr3 w.heap.size (w.heap.size + 1) (w.heap.size + 2) a b c w wr) (fun _ => True) 99 (HG4.out.step (Below.refl _ _).drew) trivial [(0, .free), (1, .free), (2, .behind), (3, .free), (4, .free), (5, .free), (6, .behind), (7, .free), (8, .free), (9, .free), (10, .free), (11, .free), (13, .free), (14, .free), (15, .free), (12, .behind), (16, .behind), (17, .free), (18, .free)] (by kernel_rfl) (by kernel_rfl) (by kernel_rfl) (by kernel_rfl) (fun ops hops A hA => ?_)
      have hsz : A.tmps.size = 68 := by rw [hA]; rfl
      have base3 : A.eval (.tmp 3) = .int .i64 r := by rw [hA]; rfl
      have base4 : A.eval (.tmp 4) = .string s := by rw [hA]; rfl
      have base5 : A.eval (.tmp 5) = .pointer (some ⟨w.heap.size, 0, none⟩) := by rw [hA]; rfl
      have base6 : A.eval (.tmp 6) = .pointer (some ⟨w.heap.size + 1, 0, none⟩) := by rw [hA]; rfl
      have base7 : A.eval (.tmp 7) = .pointer (some ⟨w.heap.size + 2, 0, none⟩) := by rw [hA]; rfl
      have HAA := Lib.hid hA; clear hA
      obtain ⟨o0, po0, q0, d0, gd0⟩ : ∃ o, ops[0]? = some o ∧ o.op = .load 23 (.tmp 5) ∧ o.dst = some 48 ∧ o.guard = none := ⟨_, by rw [hops]; rfl, rfl, rfl, rfl⟩
      obtain ⟨o1, po1, q1, d1, gd1⟩ : ∃ o, ops[1]? = some o ∧ o.op = .load 23 (.tmp 6) ∧ o.dst = some 49 ∧ o.guard = none := ⟨_, by rw [hops]; rfl, rfl, rfl, rfl⟩
      obtain ⟨o2, po2, q2, d2, gd2⟩ : ∃ o, ops[2]? = some o ∧ o.op = .call { callee := .value (.func 19), args := #[.tmp 48, .tmp 49], argTypes := #[23, 23] } ∧ o.dst = some 50 ∧ o.guard = none := ⟨_, by rw [hops]; rfl, rfl, rfl, rfl⟩
      obtain ⟨o3, po3, q3, d3, gd3⟩ : ∃ o, ops[3]? = some o ∧ o.op = .move (.tmp 50) ∧ o.dst = some 51 ∧ o.guard = none := ⟨_, by rw [hops]; rfl, rfl, rfl, rfl⟩
      obtain ⟨o4, po4, q4, d4, gd4⟩ : ∃ o, ops[4]? = some o ∧ o.op = .load 23 (.tmp 6) ∧ o.dst = some 52 ∧ o.guard = some (3, true) := ⟨_, by rw [hops]; rfl, rfl, rfl, rfl⟩
      obtain ⟨o5, po5, q5, d5, gd5⟩ : ∃ o, ops[5]? = some o ∧ o.op = .load 23 (.tmp 5) ∧ o.dst = some 53 ∧ o.guard = some (3, true) := ⟨_, by rw [hops]; rfl, rfl, rfl, rfl⟩
      obtain ⟨o6, po6, q6, d6, gd6⟩ : ∃ o, ops[6]? = some o ∧ o.op = .call { callee := .value (.func 19), args := #[.tmp 52, .tmp 53], argTypes := #[23, 23] } ∧ o.dst = some 54 ∧ o.guard = some (3, true) := ⟨_, by rw [hops]; rfl, rfl, rfl, rfl⟩
      obtain ⟨o7, po7, q7, d7, gd7⟩ : ∃ o, ops[7]? = some o ∧ o.op = .pick (.tmp 51) (.tmp 54) (.const (.bool false)) ∧ o.dst = some 55 ∧ o.guard = none := ⟨_, by rw [hops]; rfl, rfl, rfl, rfl⟩
      obtain ⟨o8, po8, q8, d8, gd8⟩ : ∃ o, ops[8]? = some o ∧ o.op = .move (.tmp 55) ∧ o.dst = some 56 ∧ o.guard = none := ⟨_, by rw [hops]; rfl, rfl, rfl, rfl⟩
      obtain ⟨o9, po9, q9, d9, gd9⟩ : ∃ o, ops[9]? = some o ∧ o.op = .load 23 (.tmp 5) ∧ o.dst = some 57 ∧ o.guard = some (8, true) := ⟨_, by rw [hops]; rfl, rfl, rfl, rfl⟩
      obtain ⟨o10, po10, q10, d10, gd10⟩ : ∃ o, ops[10]? = some o ∧ o.op = .move (.tmp 3) ∧ o.dst = some 58 ∧ o.guard = some (8, true) := ⟨_, by rw [hops]; rfl, rfl, rfl, rfl⟩
      obtain ⟨o11, po11, q11, d11, gd11⟩ : ∃ o, ops[11]? = some o ∧ o.op = .move (.tmp 4) ∧ o.dst = some 59 ∧ o.guard = some (8, true) := ⟨_, by rw [hops]; rfl, rfl, rfl, rfl⟩
      obtain ⟨o12, po12, q12, d12, gd12⟩ : ∃ o, ops[12]? = some o ∧ o.op = .call { callee := .value (.func 15), args := #[.tmp 57, .tmp 58, .tmp 59], argTypes := #[23, 3, 9] } ∧ o.dst = some 60 ∧ o.guard = some (8, true) := ⟨_, by rw [hops]; rfl, rfl, rfl, rfl⟩
      obtain ⟨o13, po13, q13, d13, gd13⟩ : ∃ o, ops[13]? = some o ∧ o.op = .load 23 (.tmp 6) ∧ o.dst = some 61 ∧ o.guard = some (8, true) := ⟨_, by rw [hops]; rfl, rfl, rfl, rfl⟩
      obtain ⟨o14, po14, q14, d14, gd14⟩ : ∃ o, ops[14]? = some o ∧ o.op = .move (.tmp 3) ∧ o.dst = some 62 ∧ o.guard = some (8, true) := ⟨_, by rw [hops]; rfl, rfl, rfl, rfl⟩
      obtain ⟨o15, po15, q15, d15, gd15⟩ : ∃ o, ops[15]? = some o ∧ o.op = .move (.tmp 4) ∧ o.dst = some 63 ∧ o.guard = some (8, true) := ⟨_, by rw [hops]; rfl, rfl, rfl, rfl⟩
      obtain ⟨o16, po16, q16, d16, gd16⟩ : ∃ o, ops[16]? = some o ∧ o.op = .call { callee := .value (.func 15), args := #[.tmp 61, .tmp 62, .tmp 63], argTypes := #[23, 3, 9] } ∧ o.dst = some 64 ∧ o.guard = some (8, true) := ⟨_, by rw [hops]; rfl, rfl, rfl, rfl⟩
      obtain ⟨o17, po17, q17, d17, gd17⟩ : ∃ o, ops[17]? = some o ∧ o.op = .binOp .neq 4 (.tmp 60) (.tmp 64) 4 ∧ o.dst = some 65 ∧ o.guard = some (8, true) := ⟨_, by rw [hops]; rfl, rfl, rfl, rfl⟩
      obtain ⟨o18, po18, q18, d18, gd18⟩ : ∃ o, ops[18]? = some o ∧ o.op = .pick (.tmp 56) (.tmp 65) (.const (.bool false)) ∧ o.dst = some 66 ∧ o.guard = none := ⟨_, by rw [hops]; rfl, rfl, rfl, rfl⟩
      clear hops
      refine met_free po0 d0 (wanted_of gd0) (fun w' h' => run_loadBlk q0 base5 h'.one (by kernel_rfl) (size_grant _)) ?_
      refine met_free po1 d1 (wanted_of gd1) (fun w' h' => run_loadBlk q1 ((eval_other _ 48 6 _ (by decide)).trans base6) h'.two (by kernel_rfl) (size_grant _)) ?_
      refine m_enter po2 d2 (wanted_of gd2) (run_callf2 q2 rfl ((eval_other _ 49 48 _ (by decide)).trans (eval_same _ _ _ (by rw [hsz]; decide))) (eval_same _ _ _ (by simp only [put_size, hsz]; decide)) Try.func19 (by kernel_rfl) _) ((VAB.out ▸ NAB.out _ : Calls _ _ _ _ (ReturnsG true _))) ?_
      rintro e w7_1 ⟨rfl, hb⟩
      have HSw7_1 := Lib.hid ((HG4.out.step (Below.refl _ _).drew).step hb)
      clear hb
      refine ⟨_, rfl, HSw7_1.out, ?_⟩
      refine met_free po3 d3 (wanted_of gd3) (fun w' h' => run_move q3 (eval_same _ _ _ (by simp only [put_size, hsz]; decide)) w') ?_
      refine met_free po4 d4 (wanted_guard gd4 po3 d3 (eval_same _ _ _ (by simp only [put_size, hsz]; decide))) (fun w' h' => run_loadBlk q4 ((eval_other _ 51 6 _ (by decide)).trans ((eval_other _ 50 6 _ (by decide)).trans ((eval_other _ 49 6 _ (by decide)).trans ((eval_other _ 48 6 _ (by decide)).trans base6)))) h'.two (by kernel_rfl) (size_grant _)) ?_
      refine met_free po5 d5 (wanted_guard gd5 po3 d3 ((eval_other _ 52 51 _ (by decide)).trans (eval_same _ _ _ (by simp only [put_size, hsz]; decide)))) (fun w' h' => run_loadBlk q5 ((eval_other _ 52 5 _ (by decide)).trans ((eval_other _ 51 5 _ (by decide)).trans ((eval_other _ 50 5 _ (by decide)).trans ((eval_other _ 49 5 _ (by decide)).trans ((eval_other _ 48 5 _ (by decide)).trans base5))))) h'.one (by kernel_rfl) (size_grant _)) ?_
      refine m_enter po6 d6 (wanted_guard gd6 po3 d3 ((eval_other _ 53 51 _ (by decide)).trans ((eval_other _ 52 51 _ (by decide)).trans (eval_same _ _ _ (by simp only [put_size, hsz]; decide))))) (run_callf2 q6 rfl ((eval_other _ 53 52 _ (by decide)).trans (eval_same _ _ _ (by simp only [put_size, hsz]; decide))) (eval_same _ _ _ (by simp only [put_size, hsz]; decide)) Try.func19 (by kernel_rfl) _) ((VBA.out ▸ NBA.out _ : Calls _ _ _ _ (ReturnsG false _))) ?_
      rintro e w7_2 ⟨rfl, hb⟩
      have HSw7_2 := Lib.hid (HSw7_1.out.step hb)
      clear hb
      refine ⟨_, rfl, HSw7_2.out, ?_⟩
      refine met_free po7 d7 (wanted_of gd7) (fun w' h' => run_pick_true q7 ((eval_other _ 54 51 _ (by decide)).trans ((eval_other _ 53 51 _ (by decide)).trans ((eval_other _ 52 51 _ (by decide)).trans (eval_same _ _ _ (by simp only [put_size, hsz]; decide))))) (eval_same _ _ _ (by simp only [put_size, hsz]; decide)) w') ?_
      refine met_free po8 d8 (wanted_of gd8) (fun w' h' => run_move q8 (eval_same _ _ _ (by simp only [put_size, hsz]; decide)) w') ?_
      refine m_unwanted po9 d9 (w_not gd9 po8 d8 (eval_same _ _ _ (by simp only [put_size, hsz]; decide))) ?_
      refine m_unwanted po10 d10 (w_not gd10 po8 d8 ((eval_other _ 57 56 _ (by decide)).trans (eval_same _ _ _ (by simp only [put_size, hsz]; decide)))) ?_
      refine m_unwanted po11 d11 (w_not gd11 po8 d8 ((eval_other _ 58 56 _ (by decide)).trans ((eval_other _ 57 56 _ (by decide)).trans (eval_same _ _ _ (by simp only [put_size, hsz]; decide))))) ?_
      refine m_unwanted po13 d13 (w_not gd13 po8 d8 ((eval_other _ 59 56 _ (by decide)).trans ((eval_other _ 58 56 _ (by decide)).trans ((eval_other _ 57 56 _ (by decide)).trans (eval_same _ _ _ (by simp only [put_size, hsz]; decide)))))) ?_
      refine m_unwanted po14 d14 (w_not gd14 po8 d8 ((eval_other _ 61 56 _ (by decide)).trans ((eval_other _ 59 56 _ (by decide)).trans ((eval_other _ 58 56 _ (by decide)).trans ((eval_other _ 57 56 _ (by decide)).trans (eval_same _ _ _ (by simp only [put_size, hsz]; decide))))))) ?_
      refine m_unwanted po15 d15 (w_not gd15 po8 d8 ((eval_other _ 62 56 _ (by decide)).trans ((eval_other _ 61 56 _ (by decide)).trans ((eval_other _ 59 56 _ (by decide)).trans ((eval_other _ 58 56 _ (by decide)).trans ((eval_other _ 57 56 _ (by decide)).trans (eval_same _ _ _ (by simp only [put_size, hsz]; decide)))))))) ?_
      refine m_skipped po12 d12 (w_not gd12 po8 d8 ((eval_other _ 63 56 _ (by decide)).trans ((eval_other _ 62 56 _ (by decide)).trans ((eval_other _ 61 56 _ (by decide)).trans ((eval_other _ 59 56 _ (by decide)).trans ((eval_other _ 58 56 _ (by decide)).trans ((eval_other _ 57 56 _ (by decide)).trans (eval_same _ _ _ (by simp only [put_size, hsz]; decide))))))))) ⟨HSw7_2.out, ?_⟩
      refine m_skipped po16 d16 (w_not gd16 po8 d8 ((eval_other _ 60 56 _ (by decide)).trans ((eval_other _ 63 56 _ (by decide)).trans ((eval_other _ 62 56 _ (by decide)).trans ((eval_other _ 61 56 _ (by decide)).trans ((eval_other _ 59 56 _ (by decide)).trans ((eval_other _ 58 56 _ (by decide)).trans ((eval_other _ 57 56 _ (by decide)).trans (eval_same _ _ _ (by simp only [put_size, hsz]; decide)))))))))) ⟨HSw7_2.out, ?_⟩
      refine m_unwanted po17 d17 (w_not gd17 po8 d8 ((eval_other _ 64 56 _ (by decide)).trans ((eval_other _ 60 56 _ (by decide)).trans ((eval_other _ 63 56 _ (by decide)).trans ((eval_other _ 62 56 _ (by decide)).trans ((eval_other _ 61 56 _ (by decide)).trans ((eval_other _ 59 56 _ (by decide)).trans ((eval_other _ 58 56 _ (by decide)).trans ((eval_other _ 57 56 _ (by decide)).trans (eval_same _ _ _ (by simp only [put_size, hsz]; decide))))))))))) ?_
      refine met_free po18 d18 (wanted_of gd18) (fun w' h' => r_pickF q18 ((eval_other _ 65 56 _ (by decide)).trans ((eval_other _ 64 56 _ (by decide)).trans ((eval_other _ 60 56 _ (by decide)).trans ((eval_other _ 63 56 _ (by decide)).trans ((eval_other _ 62 56 _ (by decide)).trans ((eval_other _ 61 56 _ (by decide)).trans ((eval_other _ 59 56 _ (by decide)).trans ((eval_other _ 58 56 _ (by decide)).trans ((eval_other _ 57 56 _ (by decide)).trans (eval_same _ _ _ (by simp only [put_size, hsz]; decide))))))))))) rfl w') ?_
      show NoPanic _ .normal _ _
      refine NoPanic.normal ?_
      rw [HAA.out]
      go_frame
      clear HAA
      clear po0 q0 d0 gd0 po1 q1 d1 gd1 po2 q2 d2 gd2 po3 q3 d3 gd3 po4 q4 d4 gd4 po5 q5 d5 gd5 po6 q6 d6 gd6 po7 q7 d7 gd7 po8 q8 d8 gd8 po9 q9 d9 gd9 po10 q10 d10 gd10 po11 q11 d11 gd11 po12 q12 d12 gd12 po13 q13 d13 gd13 po14 q14 d14 gd14 po15 q15 d15 gd15 po16 q16 d16 gd16 po17 q17 d17 gd17 po18 q18 d18 gd18
      clear base3 base4 base5 base6 base7 hsz
      go_wp2_with fail
      refine (HKN.out _).mono ?_
      rintro e w99 ⟨rfl, hb⟩
      have HB9 := Lib.hid (HSw7_2.out.below.trans (hb.mono HSw7_2.out.below.size))
      clear hb
      go_wp2_with fail
      go_ret
      exact ⟨rfl, HB9.out⟩
  · have VAB := Lib.hid hab
    have VBC := Lib.hid hbc
    have VBA := Lib.hid hba
    have VCC := Lib.hid (PBO.out hab hba).symm
    clear hab hbc hba
    by_cases hz0 : z = 0
    · have VAA := Lib.hid (HSELF.out hz0)
      subst hz0
      go_wp2_with (first | (show wpList _ _ _ (⟨_, .call { callee := .builtin .max, args := _, argTypes := _ }, _, _, _, _⟩ :: _) _ _; refine wpList_run (by rfl) (run_max4 rfl rfl rfl rfl rfl HM.out _) ?_) | (show wpList _ _ _ (⟨_, .load 23 (.tmp 5), _, _, _, _⟩ :: _) _ _; refine wpList_run (by rfl) (run_loadBlk rfl rfl HG1.out.one (by kernel_rfl) (size_grant _)) ?_))
      refine (CHK2.out _).mono ?_
      rintro e w2 ⟨rfl, hb⟩
      have HG2 := Lib.hid (HG1.out.step hb)
      clear hb
      go_wp2_with (first | (show wpList _ _ _ (⟨_, .load 23 (.tmp 5), _, _, _, _⟩ :: _) _ _; refine wpList_run (by rfl) (run_loadBlk rfl rfl HG2.out.one (by kernel_rfl) (size_grant _)) ?_))
      refine (NAA.out _).mono ?_
      rw [VAA.out]
      rintro e w3 ⟨rfl, hb⟩
      have HG3 := Lib.hid (HG2.out.step hb)
      clear hb
      go_wp2_with (first | (show wpList _ _ _ (⟨_, .load 23 (.tmp 5), _, _, _, _⟩ :: _) _ _; refine wpList_run (by rfl) (run_loadBlk rfl rfl HG3.out.one (by kernel_rfl) (size_grant _)) ?_) | (show wpList _ _ _ (⟨_, .load 23 (.tmp 6), _, _, _, _⟩ :: _) _ _; refine wpList_run (by rfl) (run_loadBlk rfl rfl HG3.out.two (by kernel_rfl) (size_grant _)) ?_))
      refine (NAB.out _).mono ?_
      rw [VAB.out]
      rintro e w4 ⟨rfl, hb⟩
      have HG4 := Lib.hid (HG3.out.step hb)
      clear hb
      go_wp2_with (first | (show wpList _ _ _ (⟨_, .load 23 (.tmp 6), _, _, _, _⟩ :: _) _ _; refine wpList_run (by rfl) (run_loadBlk rfl rfl HG4.out.two (by kernel_rfl) (size_grant _)) ?_) | (show wpList _ _ _ (⟨_, .load 23 (.tmp 7), _, _, _, _⟩ :: _) _ _; refine wpList_run (by rfl) (run_loadBlk rfl rfl HG4.out.three (by kernel_rfl) (size_grant _)) ?_))
      refine (NBC.out _).mono ?_
      rw [VBC.out]
      rintro e w5 ⟨rfl, hb⟩
      have HG5 := Lib.hid (HG4.out.step hb)
      clear hb
      go_upto_region 7 with (fail)
      refine region_phase (fun wr => Gr3 w.heap.size (w.heap.size + 1) (w.heap.size + 2) a b c w wr) (fun _ => True) 99 (HG5.out.step (Below.refl _ _).drew) trivial [(0, .free), (1, .free), (2, .behind), (3, .free), (4, .free), (5, .free), (6, .behind), (7, .free), (8, .free), (9, .free), (10, .free), (11, .free), (13, .free), (14, .free), (15, .free), (12, .behind), (16, .behind), (17, .free), (18, .free)] (by kernel_rfl) (by kernel_rfl) (by kernel_rfl) (by kernel_rfl) (fun ops hops A hA => ?_)
      have hsz : A.tmps.size = 68 := by rw [hA]; rfl
      have base3 : A.eval (.tmp 3) = .int .i64 r := by rw [hA]; rfl
      have base4 : A.eval (.tmp 4) = .string s := by rw [hA]; rfl
      have base5 : A.eval (.tmp 5) = .pointer (some ⟨w.heap.size, 0, none⟩) := by rw [hA]; rfl
      have base6 : A.eval (.tmp 6) = .pointer (some ⟨w.heap.size + 1, 0, none⟩) := by rw [hA]; rfl
      have base7 : A.eval (.tmp 7) = .pointer (some ⟨w.heap.size + 2, 0, none⟩) := by rw [hA]; rfl
      have HAA := Lib.hid hA; clear hA
      obtain ⟨o0, po0, q0, d0, gd0⟩ : ∃ o, ops[0]? = some o ∧ o.op = .load 23 (.tmp 5) ∧ o.dst = some 48 ∧ o.guard = none := ⟨_, by rw [hops]; rfl, rfl, rfl, rfl⟩
      obtain ⟨o1, po1, q1, d1, gd1⟩ : ∃ o, ops[1]? = some o ∧ o.op = .load 23 (.tmp 6) ∧ o.dst = some 49 ∧ o.guard = none := ⟨_, by rw [hops]; rfl, rfl, rfl, rfl⟩
      obtain ⟨o2, po2, q2, d2, gd2⟩ : ∃ o, ops[2]? = some o ∧ o.op = .call { callee := .value (.func 19), args := #[.tmp 48, .tmp 49], argTypes := #[23, 23] } ∧ o.dst = some 50 ∧ o.guard = none := ⟨_, by rw [hops]; rfl, rfl, rfl, rfl⟩
      obtain ⟨o3, po3, q3, d3, gd3⟩ : ∃ o, ops[3]? = some o ∧ o.op = .move (.tmp 50) ∧ o.dst = some 51 ∧ o.guard = none := ⟨_, by rw [hops]; rfl, rfl, rfl, rfl⟩
      obtain ⟨o4, po4, q4, d4, gd4⟩ : ∃ o, ops[4]? = some o ∧ o.op = .load 23 (.tmp 6) ∧ o.dst = some 52 ∧ o.guard = some (3, true) := ⟨_, by rw [hops]; rfl, rfl, rfl, rfl⟩
      obtain ⟨o5, po5, q5, d5, gd5⟩ : ∃ o, ops[5]? = some o ∧ o.op = .load 23 (.tmp 5) ∧ o.dst = some 53 ∧ o.guard = some (3, true) := ⟨_, by rw [hops]; rfl, rfl, rfl, rfl⟩
      obtain ⟨o6, po6, q6, d6, gd6⟩ : ∃ o, ops[6]? = some o ∧ o.op = .call { callee := .value (.func 19), args := #[.tmp 52, .tmp 53], argTypes := #[23, 23] } ∧ o.dst = some 54 ∧ o.guard = some (3, true) := ⟨_, by rw [hops]; rfl, rfl, rfl, rfl⟩
      obtain ⟨o7, po7, q7, d7, gd7⟩ : ∃ o, ops[7]? = some o ∧ o.op = .pick (.tmp 51) (.tmp 54) (.const (.bool false)) ∧ o.dst = some 55 ∧ o.guard = none := ⟨_, by rw [hops]; rfl, rfl, rfl, rfl⟩
      obtain ⟨o8, po8, q8, d8, gd8⟩ : ∃ o, ops[8]? = some o ∧ o.op = .move (.tmp 55) ∧ o.dst = some 56 ∧ o.guard = none := ⟨_, by rw [hops]; rfl, rfl, rfl, rfl⟩
      obtain ⟨o9, po9, q9, d9, gd9⟩ : ∃ o, ops[9]? = some o ∧ o.op = .load 23 (.tmp 5) ∧ o.dst = some 57 ∧ o.guard = some (8, true) := ⟨_, by rw [hops]; rfl, rfl, rfl, rfl⟩
      obtain ⟨o10, po10, q10, d10, gd10⟩ : ∃ o, ops[10]? = some o ∧ o.op = .move (.tmp 3) ∧ o.dst = some 58 ∧ o.guard = some (8, true) := ⟨_, by rw [hops]; rfl, rfl, rfl, rfl⟩
      obtain ⟨o11, po11, q11, d11, gd11⟩ : ∃ o, ops[11]? = some o ∧ o.op = .move (.tmp 4) ∧ o.dst = some 59 ∧ o.guard = some (8, true) := ⟨_, by rw [hops]; rfl, rfl, rfl, rfl⟩
      obtain ⟨o12, po12, q12, d12, gd12⟩ : ∃ o, ops[12]? = some o ∧ o.op = .call { callee := .value (.func 15), args := #[.tmp 57, .tmp 58, .tmp 59], argTypes := #[23, 3, 9] } ∧ o.dst = some 60 ∧ o.guard = some (8, true) := ⟨_, by rw [hops]; rfl, rfl, rfl, rfl⟩
      obtain ⟨o13, po13, q13, d13, gd13⟩ : ∃ o, ops[13]? = some o ∧ o.op = .load 23 (.tmp 6) ∧ o.dst = some 61 ∧ o.guard = some (8, true) := ⟨_, by rw [hops]; rfl, rfl, rfl, rfl⟩
      obtain ⟨o14, po14, q14, d14, gd14⟩ : ∃ o, ops[14]? = some o ∧ o.op = .move (.tmp 3) ∧ o.dst = some 62 ∧ o.guard = some (8, true) := ⟨_, by rw [hops]; rfl, rfl, rfl, rfl⟩
      obtain ⟨o15, po15, q15, d15, gd15⟩ : ∃ o, ops[15]? = some o ∧ o.op = .move (.tmp 4) ∧ o.dst = some 63 ∧ o.guard = some (8, true) := ⟨_, by rw [hops]; rfl, rfl, rfl, rfl⟩
      obtain ⟨o16, po16, q16, d16, gd16⟩ : ∃ o, ops[16]? = some o ∧ o.op = .call { callee := .value (.func 15), args := #[.tmp 61, .tmp 62, .tmp 63], argTypes := #[23, 3, 9] } ∧ o.dst = some 64 ∧ o.guard = some (8, true) := ⟨_, by rw [hops]; rfl, rfl, rfl, rfl⟩
      obtain ⟨o17, po17, q17, d17, gd17⟩ : ∃ o, ops[17]? = some o ∧ o.op = .binOp .neq 4 (.tmp 60) (.tmp 64) 4 ∧ o.dst = some 65 ∧ o.guard = some (8, true) := ⟨_, by rw [hops]; rfl, rfl, rfl, rfl⟩
      obtain ⟨o18, po18, q18, d18, gd18⟩ : ∃ o, ops[18]? = some o ∧ o.op = .pick (.tmp 56) (.tmp 65) (.const (.bool false)) ∧ o.dst = some 66 ∧ o.guard = none := ⟨_, by rw [hops]; rfl, rfl, rfl, rfl⟩
      clear hops
      refine met_free po0 d0 (wanted_of gd0) (fun w' h' => run_loadBlk q0 base5 h'.one (by kernel_rfl) (size_grant _)) ?_
      refine met_free po1 d1 (wanted_of gd1) (fun w' h' => run_loadBlk q1 ((eval_other _ 48 6 _ (by decide)).trans base6) h'.two (by kernel_rfl) (size_grant _)) ?_
      refine m_enter po2 d2 (wanted_of gd2) (run_callf2 q2 rfl ((eval_other _ 49 48 _ (by decide)).trans (eval_same _ _ _ (by rw [hsz]; decide))) (eval_same _ _ _ (by simp only [put_size, hsz]; decide)) Try.func19 (by kernel_rfl) _) ((VAB.out ▸ NAB.out _ : Calls _ _ _ _ (ReturnsG true _))) ?_
      rintro e w7_1 ⟨rfl, hb⟩
      have HSw7_1 := Lib.hid ((HG5.out.step (Below.refl _ _).drew).step hb)
      clear hb
      refine ⟨_, rfl, HSw7_1.out, ?_⟩
      refine met_free po3 d3 (wanted_of gd3) (fun w' h' => run_move q3 (eval_same _ _ _ (by simp only [put_size, hsz]; decide)) w') ?_
      refine met_free po4 d4 (wanted_guard gd4 po3 d3 (eval_same _ _ _ (by simp only [put_size, hsz]; decide))) (fun w' h' => run_loadBlk q4 ((eval_other _ 51 6 _ (by decide)).trans ((eval_other _ 50 6 _ (by decide)).trans ((eval_other _ 49 6 _ (by decide)).trans ((eval_other _ 48 6 _ (by decide)).trans base6)))) h'.two (by kernel_rfl) (size_grant _)) ?_
      refine met_free po5 d5 (wanted_guard gd5 po3 d3 ((eval_other _ 52 51 _ (by decide)).trans (eval_same _ _ _ (by simp only [put_size, hsz]; decide)))) (fun w' h' => run_loadBlk q5 ((eval_other _ 52 5 _ (by decide)).trans ((eval_other _ 51 5 _ (by decide)).trans ((eval_other _ 50 5 _ (by decide)).trans ((eval_other _ 49 5 _ (by decide)).trans ((eval_other _ 48 5 _ (by decide)).trans base5))))) h'.one (by kernel_rfl) (size_grant _)) ?_
      refine m_enter po6 d6 (wanted_guard gd6 po3 d3 ((eval_other _ 53 51 _ (by decide)).trans ((eval_other _ 52 51 _ (by decide)).trans (eval_same _ _ _ (by simp only [put_size, hsz]; decide))))) (run_callf2 q6 rfl ((eval_other _ 53 52 _ (by decide)).trans (eval_same _ _ _ (by simp only [put_size, hsz]; decide))) (eval_same _ _ _ (by simp only [put_size, hsz]; decide)) Try.func19 (by kernel_rfl) _) ((VBA.out ▸ NBA.out _ : Calls _ _ _ _ (ReturnsG true _))) ?_
      rintro e w7_2 ⟨rfl, hb⟩
      have HSw7_2 := Lib.hid (HSw7_1.out.step hb)
      clear hb
      refine ⟨_, rfl, HSw7_2.out, ?_⟩
      refine met_free po7 d7 (wanted_of gd7) (fun w' h' => run_pick_true q7 ((eval_other _ 54 51 _ (by decide)).trans ((eval_other _ 53 51 _ (by decide)).trans ((eval_other _ 52 51 _ (by decide)).trans (eval_same _ _ _ (by simp only [put_size, hsz]; decide))))) (eval_same _ _ _ (by simp only [put_size, hsz]; decide)) w') ?_
      refine met_free po8 d8 (wanted_of gd8) (fun w' h' => run_move q8 (eval_same _ _ _ (by simp only [put_size, hsz]; decide)) w') ?_
      refine met_free po9 d9 (wanted_guard gd9 po8 d8 (eval_same _ _ _ (by simp only [put_size, hsz]; decide))) (fun w' h' => run_loadBlk q9 ((eval_other _ 56 5 _ (by decide)).trans ((eval_other _ 55 5 _ (by decide)).trans ((eval_other _ 54 5 _ (by decide)).trans ((eval_other _ 53 5 _ (by decide)).trans ((eval_other _ 52 5 _ (by decide)).trans ((eval_other _ 51 5 _ (by decide)).trans ((eval_other _ 50 5 _ (by decide)).trans ((eval_other _ 49 5 _ (by decide)).trans ((eval_other _ 48 5 _ (by decide)).trans base5))))))))) h'.one (by kernel_rfl) (size_grant _)) ?_
      refine met_free po10 d10 (wanted_guard gd10 po8 d8 ((eval_other _ 57 56 _ (by decide)).trans (eval_same _ _ _ (by simp only [put_size, hsz]; decide)))) (fun w' h' => run_move q10 ((eval_other _ 57 3 _ (by decide)).trans ((eval_other _ 56 3 _ (by decide)).trans ((eval_other _ 55 3 _ (by decide)).trans ((eval_other _ 54 3 _ (by decide)).trans ((eval_other _ 53 3 _ (by decide)).trans ((eval_other _ 52 3 _ (by decide)).trans ((eval_other _ 51 3 _ (by decide)).trans ((eval_other _ 50 3 _ (by decide)).trans ((eval_other _ 49 3 _ (by decide)).trans ((eval_other _ 48 3 _ (by decide)).trans base3)))))))))) w') ?_
      refine met_free po11 d11 (wanted_guard gd11 po8 d8 ((eval_other _ 58 56 _ (by decide)).trans ((eval_other _ 57 56 _ (by decide)).trans (eval_same _ _ _ (by simp only [put_size, hsz]; decide))))) (fun w' h' => run_move q11 ((eval_other _ 58 4 _ (by decide)).trans ((eval_other _ 57 4 _ (by decide)).trans ((eval_other _ 56 4 _ (by decide)).trans ((eval_other _ 55 4 _ (by decide)).trans ((eval_other _ 54 4 _ (by decide)).trans ((eval_other _ 53 4 _ (by decide)).trans ((eval_other _ 52 4 _ (by decide)).trans ((eval_other _ 51 4 _ (by decide)).trans ((eval_other _ 50 4 _ (by decide)).trans ((eval_other _ 49 4 _ (by decide)).trans ((eval_other _ 48 4 _ (by decide)).trans base4))))))))))) w') ?_
      refine met_free po13 d13 (wanted_guard gd13 po8 d8 ((eval_other _ 59 56 _ (by decide)).trans ((eval_other _ 58 56 _ (by decide)).trans ((eval_other _ 57 56 _ (by decide)).trans (eval_same _ _ _ (by simp only [put_size, hsz]; decide)))))) (fun w' h' => run_loadBlk q13 ((eval_other _ 59 6 _ (by decide)).trans ((eval_other _ 58 6 _ (by decide)).trans ((eval_other _ 57 6 _ (by decide)).trans ((eval_other _ 56 6 _ (by decide)).trans ((eval_other _ 55 6 _ (by decide)).trans ((eval_other _ 54 6 _ (by decide)).trans ((eval_other _ 53 6 _ (by decide)).trans ((eval_other _ 52 6 _ (by decide)).trans ((eval_other _ 51 6 _ (by decide)).trans ((eval_other _ 50 6 _ (by decide)).trans ((eval_other _ 49 6 _ (by decide)).trans ((eval_other _ 48 6 _ (by decide)).trans base6)))))))))))) h'.two (by kernel_rfl) (size_grant _)) ?_
      refine met_free po14 d14 (wanted_guard gd14 po8 d8 ((eval_other _ 61 56 _ (by decide)).trans ((eval_other _ 59 56 _ (by decide)).trans ((eval_other _ 58 56 _ (by decide)).trans ((eval_other _ 57 56 _ (by decide)).trans (eval_same _ _ _ (by simp only [put_size, hsz]; decide))))))) (fun w' h' => run_move q14 ((eval_other _ 61 3 _ (by decide)).trans ((eval_other _ 59 3 _ (by decide)).trans ((eval_other _ 58 3 _ (by decide)).trans ((eval_other _ 57 3 _ (by decide)).trans ((eval_other _ 56 3 _ (by decide)).trans ((eval_other _ 55 3 _ (by decide)).trans ((eval_other _ 54 3 _ (by decide)).trans ((eval_other _ 53 3 _ (by decide)).trans ((eval_other _ 52 3 _ (by decide)).trans ((eval_other _ 51 3 _ (by decide)).trans ((eval_other _ 50 3 _ (by decide)).trans ((eval_other _ 49 3 _ (by decide)).trans ((eval_other _ 48 3 _ (by decide)).trans base3))))))))))))) w') ?_
      refine met_free po15 d15 (wanted_guard gd15 po8 d8 ((eval_other _ 62 56 _ (by decide)).trans ((eval_other _ 61 56 _ (by decide)).trans ((eval_other _ 59 56 _ (by decide)).trans ((eval_other _ 58 56 _ (by decide)).trans ((eval_other _ 57 56 _ (by decide)).trans (eval_same _ _ _ (by simp only [put_size, hsz]; decide)))))))) (fun w' h' => run_move q15 ((eval_other _ 62 4 _ (by decide)).trans ((eval_other _ 61 4 _ (by decide)).trans ((eval_other _ 59 4 _ (by decide)).trans ((eval_other _ 58 4 _ (by decide)).trans ((eval_other _ 57 4 _ (by decide)).trans ((eval_other _ 56 4 _ (by decide)).trans ((eval_other _ 55 4 _ (by decide)).trans ((eval_other _ 54 4 _ (by decide)).trans ((eval_other _ 53 4 _ (by decide)).trans ((eval_other _ 52 4 _ (by decide)).trans ((eval_other _ 51 4 _ (by decide)).trans ((eval_other _ 50 4 _ (by decide)).trans ((eval_other _ 49 4 _ (by decide)).trans ((eval_other _ 48 4 _ (by decide)).trans base4)))))))))))))) w') ?_
      refine m_enter po12 d12 (wanted_guard gd12 po8 d8 ((eval_other _ 63 56 _ (by decide)).trans ((eval_other _ 62 56 _ (by decide)).trans ((eval_other _ 61 56 _ (by decide)).trans ((eval_other _ 59 56 _ (by decide)).trans ((eval_other _ 58 56 _ (by decide)).trans ((eval_other _ 57 56 _ (by decide)).trans (eval_same _ _ _ (by simp only [put_size, hsz]; decide))))))))) (run_callf3 q12 rfl ((eval_other _ 63 57 _ (by decide)).trans ((eval_other _ 62 57 _ (by decide)).trans ((eval_other _ 61 57 _ (by decide)).trans ((eval_other _ 59 57 _ (by decide)).trans ((eval_other _ 58 57 _ (by decide)).trans (eval_same _ _ _ (by simp only [put_size, hsz]; decide))))))) ((eval_other _ 63 58 _ (by decide)).trans ((eval_other _ 62 58 _ (by decide)).trans ((eval_other _ 61 58 _ (by decide)).trans ((eval_other _ 59 58 _ (by decide)).trans (eval_same _ _ _ (by simp only [put_size, hsz]; decide)))))) ((eval_other _ 63 59 _ (by decide)).trans ((eval_other _ 62 59 _ (by decide)).trans ((eval_other _ 61 59 _ (by decide)).trans (eval_same _ _ _ (by simp only [put_size, hsz]; decide))))) Try.func15 (by kernel_rfl) _) (HCA.out _) ?_
      rintro e w7_3 ⟨rfl, hb⟩
      have HSw7_3 := Lib.hid (HSw7_2.out.step hb)
      clear hb
      refine ⟨_, rfl, HSw7_3.out, ?_⟩
      refine m_enter po16 d16 (wanted_guard gd16 po8 d8 ((eval_other _ 60 56 _ (by decide)).trans ((eval_other _ 63 56 _ (by decide)).trans ((eval_other _ 62 56 _ (by decide)).trans ((eval_other _ 61 56 _ (by decide)).trans ((eval_other _ 59 56 _ (by decide)).trans ((eval_other _ 58 56 _ (by decide)).trans ((eval_other _ 57 56 _ (by decide)).trans (eval_same _ _ _ (by simp only [put_size, hsz]; decide)))))))))) (run_callf3 q16 rfl ((eval_other _ 60 61 _ (by decide)).trans ((eval_other _ 63 61 _ (by decide)).trans ((eval_other _ 62 61 _ (by decide)).trans (eval_same _ _ _ (by simp only [put_size, hsz]; decide))))) ((eval_other _ 60 62 _ (by decide)).trans ((eval_other _ 63 62 _ (by decide)).trans (eval_same _ _ _ (by simp only [put_size, hsz]; decide)))) ((eval_other _ 60 63 _ (by decide)).trans (eval_same _ _ _ (by simp only [put_size, hsz]; decide))) Try.func15 (by kernel_rfl) _) ((VCC.out ▸ HCB.out _ : Calls _ _ _ _ (ReturnsG (coversM a r s) _))) ?_
      rintro e w7_4 ⟨rfl, hb⟩
      have HSw7_4 := Lib.hid (HSw7_3.out.step hb)
      clear hb
      refine ⟨_, rfl, HSw7_4.out, ?_⟩
      refine met_free po17 d17 (wanted_guard gd17 po8 d8 ((eval_other _ 64 56 _ (by decide)).trans ((eval_other _ 60 56 _ (by decide)).trans ((eval_other _ 63 56 _ (by decide)).trans ((eval_other _ 62 56 _ (by decide)).trans ((eval_other _ 61 56 _ (by decide)).trans ((eval_other _ 59 56 _ (by decide)).trans ((eval_other _ 58 56 _ (by decide)).trans ((eval_other _ 57 56 _ (by decide)).trans (eval_same _ _ _ (by simp only [put_size, hsz]; decide))))))))))) (fun w' h' => r_neB q17 ((eval_other _ 64 60 _ (by decide)).trans (eval_same _ _ _ (by simp only [put_size, hsz]; decide))) (eval_same _ _ _ (by simp only [put_size, hsz]; decide)) w') ?_
      refine met_free po18 d18 (wanted_of gd18) (fun w' h' => run_pick_true q18 ((eval_other _ 65 56 _ (by decide)).trans ((eval_other _ 64 56 _ (by decide)).trans ((eval_other _ 60 56 _ (by decide)).trans ((eval_other _ 63 56 _ (by decide)).trans ((eval_other _ 62 56 _ (by decide)).trans ((eval_other _ 61 56 _ (by decide)).trans ((eval_other _ 59 56 _ (by decide)).trans ((eval_other _ 58 56 _ (by decide)).trans ((eval_other _ 57 56 _ (by decide)).trans (eval_same _ _ _ (by simp only [put_size, hsz]; decide))))))))))) (eval_same _ _ _ (by simp only [put_size, hsz]; decide)) w') ?_
      show NoPanic _ .normal _ _
      refine NoPanic.normal ?_
      rw [HAA.out]
      go_frame
      clear HAA
      clear po0 q0 d0 gd0 po1 q1 d1 gd1 po2 q2 d2 gd2 po3 q3 d3 gd3 po4 q4 d4 gd4 po5 q5 d5 gd5 po6 q6 d6 gd6 po7 q7 d7 gd7 po8 q8 d8 gd8 po9 q9 d9 gd9 po10 q10 d10 gd10 po11 q11 d11 gd11 po12 q12 d12 gd12 po13 q13 d13 gd13 po14 q14 d14 gd14 po15 q15 d15 gd15 po16 q16 d16 gd16 po17 q17 d17 gd17 po18 q18 d18 gd18
      clear base3 base4 base5 base6 base7 hsz
      go_wp2_with fail
      refine (HKN.out _).mono ?_
      rintro e w99 ⟨rfl, hb⟩
      have HB9 := Lib.hid (HSw7_4.out.below.trans (hb.mono HSw7_4.out.below.size))
      clear hb
      go_wp2_with fail
      go_ret
      exact ⟨rfl, HB9.out⟩
    · skip
      go_wp2_with (first | (show wpList _ _ _ (⟨_, .call { callee := .builtin .max, args := _, argTypes := _ }, _, _, _, _⟩ :: _) _ _; refine wpList_run (by rfl) (run_max4 rfl rfl rfl rfl rfl HM.out _) ?_) | (show wpList _ _ _ (⟨_, .load 23 (.tmp 5), _, _, _, _⟩ :: _) _ _; refine wpList_run (by rfl) (run_loadBlk rfl rfl HG1.out.one (by kernel_rfl) (size_grant _)) ?_))
      refine (CHK2.out _).mono ?_
      rintro e w2 ⟨rfl, hb⟩
      have HG2 := Lib.hid (HG1.out.step hb)
      clear hb
      go_wp2_with (first | (show wpList _ _ _ (⟨_, .load 23 (.tmp 5), _, _, _, _⟩ :: _) _ _; refine wpList_run (by rfl) (run_loadBlk rfl rfl HG2.out.one (by kernel_rfl) (size_grant _)) ?_) | (show wpList _ _ _ (⟨_, .load 23 (.tmp 6), _, _, _, _⟩ :: _) _ _; refine wpList_run (by rfl) (run_loadBlk rfl rfl HG2.out.two (by kernel_rfl) (size_grant _)) ?_))
      refine (NAB.out _).mono ?_
      rw [VAB.out]
      rintro e w3 ⟨rfl, hb⟩
      have HG3 := Lib.hid (HG2.out.step hb)
      clear hb
      go_wp2_with (first | (show wpList _ _ _ (⟨_, .load 23 (.tmp 6), _, _, _, _⟩ :: _) _ _; refine wpList_run (by rfl) (run_loadBlk rfl rfl HG3.out.two (by kernel_rfl) (size_grant _)) ?_) | (show wpList _ _ _ (⟨_, .load 23 (.tmp 7), _, _, _, _⟩ :: _) _ _; refine wpList_run (by rfl) (run_loadBlk rfl rfl HG3.out.three (by kernel_rfl) (size_grant _)) ?_))
      refine (NBC.out _).mono ?_
      rw [VBC.out]
      rintro e w4 ⟨rfl, hb⟩
      have HG4 := Lib.hid (HG3.out.step hb)
      clear hb
      go_upto_region 7 with (fail)
      refine region_phase (fun wr => Gr3 w.heap.size (w.heap.size + 1) (w.heap.size + 2) a b c w wr) (fun _ => True) 99 (HG4.out.step (Below.refl _ _).drew) trivial [(0, .free), (1, .free), (2, .behind), (3, .free), (4, .free), (5, .free), (6, .behind), (7, .free), (8, .free), (9, .free), (10, .free), (11, .free), (13, .free), (14, .free), (15, .free), (12, .behind), (16, .behind), (17, .free), (18, .free)] (by kernel_rfl) (by kernel_rfl) (by kernel_rfl) (by kernel_rfl) (fun ops hops A hA => ?_)
      have hsz : A.tmps.size = 68 := by rw [hA]; rfl
      have base3 : A.eval (.tmp 3) = .int .i64 r := by rw [hA]; rfl
      have base4 : A.eval (.tmp 4) = .string s := by rw [hA]; rfl
      have base5 : A.eval (.tmp 5) = .pointer (some ⟨w.heap.size, 0, none⟩) := by rw [hA]; rfl
      have base6 : A.eval (.tmp 6) = .pointer (some ⟨w.heap.size + 1, 0, none⟩) := by rw [hA]; rfl
      have base7 : A.eval (.tmp 7) = .pointer (some ⟨w.heap.size + 2, 0, none⟩) := by rw [hA]; rfl
      have HAA := Lib.hid hA; clear hA
      obtain ⟨o0, po0, q0, d0, gd0⟩ : ∃ o, ops[0]? = some o ∧ o.op = .load 23 (.tmp 5) ∧ o.dst = some 48 ∧ o.guard = none := ⟨_, by rw [hops]; rfl, rfl, rfl, rfl⟩
      obtain ⟨o1, po1, q1, d1, gd1⟩ : ∃ o, ops[1]? = some o ∧ o.op = .load 23 (.tmp 6) ∧ o.dst = some 49 ∧ o.guard = none := ⟨_, by rw [hops]; rfl, rfl, rfl, rfl⟩
      obtain ⟨o2, po2, q2, d2, gd2⟩ : ∃ o, ops[2]? = some o ∧ o.op = .call { callee := .value (.func 19), args := #[.tmp 48, .tmp 49], argTypes := #[23, 23] } ∧ o.dst = some 50 ∧ o.guard = none := ⟨_, by rw [hops]; rfl, rfl, rfl, rfl⟩
      obtain ⟨o3, po3, q3, d3, gd3⟩ : ∃ o, ops[3]? = some o ∧ o.op = .move (.tmp 50) ∧ o.dst = some 51 ∧ o.guard = none := ⟨_, by rw [hops]; rfl, rfl, rfl, rfl⟩
      obtain ⟨o4, po4, q4, d4, gd4⟩ : ∃ o, ops[4]? = some o ∧ o.op = .load 23 (.tmp 6) ∧ o.dst = some 52 ∧ o.guard = some (3, true) := ⟨_, by rw [hops]; rfl, rfl, rfl, rfl⟩
      obtain ⟨o5, po5, q5, d5, gd5⟩ : ∃ o, ops[5]? = some o ∧ o.op = .load 23 (.tmp 5) ∧ o.dst = some 53 ∧ o.guard = some (3, true) := ⟨_, by rw [hops]; rfl, rfl, rfl, rfl⟩
      obtain ⟨o6, po6, q6, d6, gd6⟩ : ∃ o, ops[6]? = some o ∧ o.op = .call { callee := .value (.func 19), args := #[.tmp 52, .tmp 53], argTypes := #[23, 23] } ∧ o.dst = some 54 ∧ o.guard = some (3, true) := ⟨_, by rw [hops]; rfl, rfl, rfl, rfl⟩
      obtain ⟨o7, po7, q7, d7, gd7⟩ : ∃ o, ops[7]? = some o ∧ o.op = .pick (.tmp 51) (.tmp 54) (.const (.bool false)) ∧ o.dst = some 55 ∧ o.guard = none := ⟨_, by rw [hops]; rfl, rfl, rfl, rfl⟩
      obtain ⟨o8, po8, q8, d8, gd8⟩ : ∃ o, ops[8]? = some o ∧ o.op = .move (.tmp 55) ∧ o.dst = some 56 ∧ o.guard = none := ⟨_, by rw [hops]; rfl, rfl, rfl, rfl⟩
      obtain ⟨o9, po9, q9, d9, gd9⟩ : ∃ o, ops[9]? = some o ∧ o.op = .load 23 (.tmp 5) ∧ o.dst = some 57 ∧ o.guard = some (8, true) := ⟨_, by rw [hops]; rfl, rfl, rfl, rfl⟩
      obtain ⟨o10, po10, q10, d10, gd10⟩ : ∃ o, ops[10]? = some o ∧ o.op = .move (.tmp 3) ∧ o.dst = some 58 ∧ o.guard = some (8, true) := ⟨_, by rw [hops]; rfl, rfl, rfl, rfl⟩
      obtain ⟨o11, po11, q11, d11, gd11⟩ : ∃ o, ops[11]? = some o ∧ o.op = .move (.tmp 4) ∧ o.dst = some 59 ∧ o.guard = some (8, true) := ⟨_, by rw [hops]; rfl, rfl, rfl, rfl⟩
      obtain ⟨o12, po12, q12, d12, gd12⟩ : ∃ o, ops[12]? = some o ∧ o.op = .call { callee := .value (.func 15), args := #[.tmp 57, .tmp 58, .tmp 59], argTypes := #[23, 3, 9] } ∧ o.dst = some 60 ∧ o.guard = some (8, true) := ⟨_, by rw [hops]; rfl, rfl, rfl, rfl⟩
      obtain ⟨o13, po13, q13, d13, gd13⟩ : ∃ o, ops[13]? = some o ∧ o.op = .load 23 (.tmp 6) ∧ o.dst = some 61 ∧ o.guard = some (8, true) := ⟨_, by rw [hops]; rfl, rfl, rfl, rfl⟩
      obtain ⟨o14, po14, q14, d14, gd14⟩ : ∃ o, ops[14]? = some o ∧ o.op = .move (.tmp 3) ∧ o.dst = some 62 ∧ o.guard = some (8, true) := ⟨_, by rw [hops]; rfl, rfl, rfl, rfl⟩
      obtain ⟨o15, po15, q15, d15, gd15⟩ : ∃ o, ops[15]? = some o ∧ o.op = .move (.tmp 4) ∧ o.dst = some 63 ∧ o.guard = some (8, true) := ⟨_, by rw [hops]; rfl, rfl, rfl, rfl⟩
      obtain ⟨o16, po16, q16, d16, gd16⟩ : ∃ o, ops[16]? = some o ∧ o.op = .call { callee := .value (.func 15), args := #[.tmp 61, .tmp 62, .tmp 63], argTypes := #[23, 3, 9] } ∧ o.dst = some 64 ∧ o.guard = some (8, true) := ⟨_, by rw [hops]; rfl, rfl, rfl, rfl⟩
      obtain ⟨o17, po17, q17, d17, gd17⟩ : ∃ o, ops[17]? = some o ∧ o.op = .binOp .neq 4 (.tmp 60) (.tmp 64) 4 ∧ o.dst = some 65 ∧ o.guard = some (8, true) := ⟨_, by rw [hops]; rfl, rfl, rfl, rfl⟩
      obtain ⟨o18, po18, q18, d18, gd18⟩ : ∃ o, ops[18]? = some o ∧ o.op = .pick (.tmp 56) (.tmp 65) (.const (.bool false)) ∧ o.dst = some 66 ∧ o.guard = none := ⟨_, by rw [hops]; rfl, rfl, rfl, rfl⟩
      clear hops
      refine met_free po0 d0 (wanted_of gd0) (fun w' h' => run_loadBlk q0 base5 h'.one (by kernel_rfl) (size_grant _)) ?_
      refine met_free po1 d1 (wanted_of gd1) (fun w' h' => run_loadBlk q1 ((eval_other _ 48 6 _ (by decide)).trans base6) h'.two (by kernel_rfl) (size_grant _)) ?_
      refine m_enter po2 d2 (wanted_of gd2) (run_callf2 q2 rfl ((eval_other _ 49 48 _ (by decide)).trans (eval_same _ _ _ (by rw [hsz]; decide))) (eval_same _ _ _ (by simp only [put_size, hsz]; decide)) Try.func19 (by kernel_rfl) _) ((VAB.out ▸ NAB.out _ : Calls _ _ _ _ (ReturnsG true _))) ?_
      rintro e w7_1 ⟨rfl, hb⟩
      have HSw7_1 := Lib.hid ((HG4.out.step (Below.refl _ _).drew).step hb)
      clear hb
      refine ⟨_, rfl, HSw7_1.out, ?_⟩
      refine met_free po3 d3 (wanted_of gd3) (fun w' h' => run_move q3 (eval_same _ _ _ (by simp only [put_size, hsz]; decide)) w') ?_
      refine met_free po4 d4 (wanted_guard gd4 po3 d3 (eval_same _ _ _ (by simp only [put_size, hsz]; decide))) (fun w' h' => run_loadBlk q4 ((eval_other _ 51 6 _ (by decide)).trans ((eval_other _ 50 6 _ (by decide)).trans ((eval_other _ 49 6 _ (by decide)).trans ((eval_other _ 48 6 _ (by decide)).trans base6)))) h'.two (by kernel_rfl) (size_grant _)) ?_
      refine met_free po5 d5 (wanted_guard gd5 po3 d3 ((eval_other _ 52 51 _ (by decide)).trans (eval_same _ _ _ (by simp only [put_size, hsz]; decide)))) (fun w' h' => run_loadBlk q5 ((eval_other _ 52 5 _ (by decide)).trans ((eval_other _ 51 5 _ (by decide)).trans ((eval_other _ 50 5 _ (by decide)).trans ((eval_other _ 49 5 _ (by decide)).trans ((eval_other _ 48 5 _ (by decide)).trans base5))))) h'.one (by kernel_rfl) (size_grant _)) ?_
      refine m_enter po6 d6 (wanted_guard gd6 po3 d3 ((eval_other _ 53 51 _ (by decide)).trans ((eval_other _ 52 51 _ (by decide)).trans (eval_same _ _ _ (by simp only [put_size, hsz]; decide))))) (run_callf2 q6 rfl ((eval_other _ 53 52 _ (by decide)).trans (eval_same _ _ _ (by simp only [put_size, hsz]; decide))) (eval_same _ _ _ (by simp only [put_size, hsz]; decide)) Try.func19 (by kernel_rfl) _) ((VBA.out ▸ NBA.out _ : Calls _ _ _ _ (ReturnsG true _))) ?_
      rintro e w7_2 ⟨rfl, hb⟩
      have HSw7_2 := Lib.hid (HSw7_1.out.step hb)
      clear hb
      refine ⟨_, rfl, HSw7_2.out, ?_⟩
      refine met_free po7 d7 (wanted_of gd7) (fun w' h' => run_pick_true q7 ((eval_other _ 54 51 _ (by decide)).trans ((eval_other _ 53 51 _ (by decide)).trans ((eval_other _ 52 51 _ (by decide)).trans (eval_same _ _ _ (by simp only [put_size, hsz]; decide))))) (eval_same _ _ _ (by simp only [put_size, hsz]; decide)) w') ?_
      refine met_free po8 d8 (wanted_of gd8) (fun w' h' => run_move q8 (eval_same _ _ _ (by simp only [put_size, hsz]; decide)) w') ?_
      refine met_free po9 d9 (wanted_guard gd9 po8 d8 (eval_same _ _ _ (by simp only [put_size, hsz]; decide))) (fun w' h' => run_loadBlk q9 ((eval_other _ 56 5 _ (by decide)).trans ((eval_other _ 55 5 _ (by decide)).trans ((eval_other _ 54 5 _ (by decide)).trans ((eval_other _ 53 5 _ (by decide)).trans ((eval_other _ 52 5 _ (by decide)).trans ((eval_other _ 51 5 _ (by decide)).trans ((eval_other _ 50 5 _ (by decide)).trans ((eval_other _ 49 5 _ (by decide)).trans ((eval_other _ 48 5 _ (by decide)).trans base5))))))))) h'.one (by kernel_rfl) (size_grant _)) ?_
      refine met_free po10 d10 (wanted_guard gd10 po8 d8 ((eval_other _ 57 56 _ (by decide)).trans (eval_same _ _ _ (by simp only [put_size, hsz]; decide)))) (fun w' h' => run_move q10 ((eval_other _ 57 3 _ (by decide)).trans ((eval_other _ 56 3 _ (by decide)).trans ((eval_other _ 55 3 _ (by decide)).trans ((eval_other _ 54 3 _ (by decide)).trans ((eval_other _ 53 3 _ (by decide)).trans ((eval_other _ 52 3 _ (by decide)).trans ((eval_other _ 51 3 _ (by decide)).trans ((eval_other _ 50 3 _ (by decide)).trans ((eval_other _ 49 3 _ (by decide)).trans ((eval_other _ 48 3 _ (by decide)).trans base3)))))))))) w') ?_
      refine met_free po11 d11 (wanted_guard gd11 po8 d8 ((eval_other _ 58 56 _ (by decide)).trans ((eval_other _ 57 56 _ (by decide)).trans (eval_same _ _ _ (by simp only [put_size, hsz]; decide))))) (fun w' h' => run_move q11 ((eval_other _ 58 4 _ (by decide)).trans ((eval_other _ 57 4 _ (by decide)).trans ((eval_other _ 56 4 _ (by decide)).trans ((eval_other _ 55 4 _ (by decide)).trans ((eval_other _ 54 4 _ (by decide)).trans ((eval_other _ 53 4 _ (by decide)).trans ((eval_other _ 52 4 _ (by decide)).trans ((eval_other _ 51 4 _ (by decide)).trans ((eval_other _ 50 4 _ (by decide)).trans ((eval_other _ 49 4 _ (by decide)).trans ((eval_other _ 48 4 _ (by decide)).trans base4))))))))))) w') ?_
      refine met_free po13 d13 (wanted_guard gd13 po8 d8 ((eval_other _ 59 56 _ (by decide)).trans ((eval_other _ 58 56 _ (by decide)).trans ((eval_other _ 57 56 _ (by decide)).trans (eval_same _ _ _ (by simp only [put_size, hsz]; decide)))))) (fun w' h' => run_loadBlk q13 ((eval_other _ 59 6 _ (by decide)).trans ((eval_other _ 58 6 _ (by decide)).trans ((eval_other _ 57 6 _ (by decide)).trans ((eval_other _ 56 6 _ (by decide)).trans ((eval_other _ 55 6 _ (by decide)).trans ((eval_other _ 54 6 _ (by decide)).trans ((eval_other _ 53 6 _ (by decide)).trans ((eval_other _ 52 6 _ (by decide)).trans ((eval_other _ 51 6 _ (by decide)).trans ((eval_other _ 50 6 _ (by decide)).trans ((eval_other _ 49 6 _ (by decide)).trans ((eval_other _ 48 6 _ (by decide)).trans base6)))))))))))) h'.two (by kernel_rfl) (size_grant _)) ?_
      refine met_free po14 d14 (wanted_guard gd14 po8 d8 ((eval_other _ 61 56 _ (by decide)).trans ((eval_other _ 59 56 _ (by decide)).trans ((eval_other _ 58 56 _ (by decide)).trans ((eval_other _ 57 56 _ (by decide)).trans (eval_same _ _ _ (by simp only [put_size, hsz]; decide))))))) (fun w' h' => run_move q14 ((eval_other _ 61 3 _ (by decide)).trans ((eval_other _ 59 3 _ (by decide)).trans ((eval_other _ 58 3 _ (by decide)).trans ((eval_other _ 57 3 _ (by decide)).trans ((eval_other _ 56 3 _ (by decide)).trans ((eval_other _ 55 3 _ (by decide)).trans ((eval_other _ 54 3 _ (by decide)).trans ((eval_other _ 53 3 _ (by decide)).trans ((eval_other _ 52 3 _ (by decide)).trans ((eval_other _ 51 3 _ (by decide)).trans ((eval_other _ 50 3 _ (by decide)).trans ((eval_other _ 49 3 _ (by decide)).trans ((eval_other _ 48 3 _ (by decide)).trans base3))))))))))))) w') ?_
      refine met_free po15 d15 (wanted_guard gd15 po8 d8 ((eval_other _ 62 56 _ (by decide)).trans ((eval_other _ 61 56 _ (by decide)).trans ((eval_other _ 59 56 _ (by decide)).trans ((eval_other _ 58 56 _ (by decide)).trans ((eval_other _ 57 56 _ (by decide)).trans (eval_same _ _ _ (by simp only [put_size, hsz]; decide)))))))) (fun w' h' => run_move q15 ((eval_other _ 62 4 _ (by decide)).trans ((eval_other _ 61 4 _ (by decide)).trans ((eval_other _ 59 4 _ (by decide)).trans ((eval_other _ 58 4 _ (by decide)).trans ((eval_other _ 57 4 _ (by decide)).trans ((eval_other _ 56 4 _ (by decide)).trans ((eval_other _ 55 4 _ (by decide)).trans ((eval_other _ 54 4 _ (by decide)).trans ((eval_other _ 53 4 _ (by decide)).trans ((eval_other _ 52 4 _ (by decide)).trans ((eval_other _ 51 4 _ (by decide)).trans ((eval_other _ 50 4 _ (by decide)).trans ((eval_other _ 49 4 _ (by decide)).trans ((eval_other _ 48 4 _ (by decide)).trans base4)))))))))))))) w') ?_
      refine m_enter po12 d12 (wanted_guard gd12 po8 d8 ((eval_other _ 63 56 _ (by decide)).trans ((eval_other _ 62 56 _ (by decide)).trans ((eval_other _ 61 56 _ (by decide)).trans ((eval_other _ 59 56 _ (by decide)).trans ((eval_other _ 58 56 _ (by decide)).trans ((eval_other _ 57 56 _ (by decide)).trans (eval_same _ _ _ (by simp only [put_size, hsz]; decide))))))))) (run_callf3 q12 rfl ((eval_other _ 63 57 _ (by decide)).trans ((eval_other _ 62 57 _ (by decide)).trans ((eval_other _ 61 57 _ (by decide)).trans ((eval_other _ 59 57 _ (by decide)).trans ((eval_other _ 58 57 _ (by decide)).trans (eval_same _ _ _ (by simp only [put_size, hsz]; decide))))))) ((eval_other _ 63 58 _ (by decide)).trans ((eval_other _ 62 58 _ (by decide)).trans ((eval_other _ 61 58 _ (by decide)).trans ((eval_other _ 59 58 _ (by decide)).trans (eval_same _ _ _ (by simp only [put_size, hsz]; decide)))))) ((eval_other _ 63 59 _ (by decide)).trans ((eval_other _ 62 59 _ (by decide)).trans ((eval_other _ 61 59 _ (by decide)).trans (eval_same _ _ _ (by simp only [put_size, hsz]; decide))))) Try.func15 (by kernel_rfl) _) (HCA.out _) ?_
      rintro e w7_3 ⟨rfl, hb⟩
      have HSw7_3 := Lib.hid (HSw7_2.out.step hb)
      clear hb
      refine ⟨_, rfl, HSw7_3.out, ?_⟩
      refine m_enter po16 d16 (wanted_guard gd16 po8 d8 ((eval_other _ 60 56 _ (by decide)).trans ((eval_other _ 63 56 _ (by decide)).trans ((eval_other _ 62 56 _ (by decide)).trans ((eval_other _ 61 56 _ (by decide)).trans ((eval_other _ 59 56 _ (by decide)).trans ((eval_other _ 58 56 _ (by decide)).trans ((eval_other _ 57 56 _ (by decide)).trans (eval_same _ _ _ (by simp only [put_size, hsz]; decide)))))))))) (run_callf3 q16 rfl ((eval_other _ 60 61 _ (by decide)).trans ((eval_other _ 63 61 _ (by decide)).trans ((eval_other _ 62 61 _ (by decide)).trans (eval_same _ _ _ (by simp only [put_size, hsz]; decide))))) ((eval_other _ 60 62 _ (by decide)).trans ((eval_other _ 63 62 _ (by decide)).trans (eval_same _ _ _ (by simp only [put_size, hsz]; decide)))) ((eval_other _ 60 63 _ (by decide)).trans (eval_same _ _ _ (by simp only [put_size, hsz]; decide))) Try.func15 (by kernel_rfl) _) ((VCC.out ▸ HCB.out _ : Calls _ _ _ _ (ReturnsG (coversM a r s) _))) ?_
      rintro e w7_4 ⟨rfl, hb⟩
      have HSw7_4 := Lib.hid (HSw7_3.out.step hb)
      clear hb
      refine ⟨_, rfl, HSw7_4.out, ?_⟩
      refine met_free po17 d17 (wanted_guard gd17 po8 d8 ((eval_other _ 64 56 _ (by decide)).trans ((eval_other _ 60 56 _ (by decide)).trans ((eval_other _ 63 56 _ (by decide)).trans ((eval_other _ 62 56 _ (by decide)).trans ((eval_other _ 61 56 _ (by decide)).trans ((eval_other _ 59 56 _ (by decide)).trans ((eval_other _ 58 56 _ (by decide)).trans ((eval_other _ 57 56 _ (by decide)).trans (eval_same _ _ _ (by simp only [put_size, hsz]; decide))))))))))) (fun w' h' => r_neB q17 ((eval_other _ 64 60 _ (by decide)).trans (eval_same _ _ _ (by simp only [put_size, hsz]; decide))) (eval_same _ _ _ (by simp only [put_size, hsz]; decide)) w') ?_
      refine met_free po18 d18 (wanted_of gd18) (fun w' h' => run_pick_true q18 ((eval_other _ 65 56 _ (by decide)).trans ((eval_other _ 64 56 _ (by decide)).trans ((eval_other _ 60 56 _ (by decide)).trans ((eval_other _ 63 56 _ (by decide)).trans ((eval_other _ 62 56 _ (by decide)).trans ((eval_other _ 61 56 _ (by decide)).trans ((eval_other _ 59 56 _ (by decide)).trans ((eval_other _ 58 56 _ (by decide)).trans ((eval_other _ 57 56 _ (by decide)).trans (eval_same _ _ _ (by simp only [put_size, hsz]; decide))))))))))) (eval_same _ _ _ (by simp only [put_size, hsz]; decide)) w') ?_
      show NoPanic _ .normal _ _
      refine NoPanic.normal ?_
      rw [HAA.out]
      go_frame
      clear HAA
      clear po0 q0 d0 gd0 po1 q1 d1 gd1 po2 q2 d2 gd2 po3 q3 d3 gd3 po4 q4 d4 gd4 po5 q5 d5 gd5 po6 q6 d6 gd6 po7 q7 d7 gd7 po8 q8 d8 gd8 po9 q9 d9 gd9 po10 q10 d10 gd10 po11 q11 d11 gd11 po12 q12 d12 gd12 po13 q13 d13 gd13 po14 q14 d14 gd14 po15 q15 d15 gd15 po16 q16 d16 gd16 po17 q17 d17 gd17 po18 q18 d18 gd18
      clear base3 base4 base5 base6 base7 hsz
      go_wp2_with fail
      refine (HKN.out _).mono ?_
      rintro e w99 ⟨rfl, hb⟩
      have HB9 := Lib.hid (HSw7_4.out.below.trans (hb.mono HSw7_4.out.below.size))
      clear hb
      go_wp2_with fail
      go_ret
      exact ⟨rfl, HB9.out⟩
  · have VAB := Lib.hid hab
    have VBC := Lib.hid hbc
    have VBA := Lib.hid hba
    have VAC := Lib.hid (PTR.out hab hbc)
    clear hab hbc hba
    by_cases hz0 : z = 0
    · have VAA := Lib.hid (HSELF.out hz0)
      subst hz0
      go_wp2_with (first | (show wpList _ _ _ (⟨_, .call { callee := .builtin .max, args := _, argTypes := _ }, _, _, _, _⟩ :: _) _ _; refine wpList_run (by rfl) (run_max4 rfl rfl rfl rfl rfl HM.out _) ?_) | (show wpList _ _ _ (⟨_, .load 23 (.tmp 5), _, _, _, _⟩ :: _) _ _; refine wpList_run (by rfl) (run_loadBlk rfl rfl HG1.out.one (by kernel_rfl) (size_grant _)) ?_))
      refine (CHK2.out _).mono ?_
      rintro e w2 ⟨rfl, hb⟩
      have HG2 := Lib.hid (HG1.out.step hb)
      clear hb
      go_wp2_with (first | (show wpList _ _ _ (⟨_, .load 23 (.tmp 5), _, _, _, _⟩ :: _) _ _; refine wpList_run (by rfl) (run_loadBlk rfl rfl HG2.out.one (by kernel_rfl) (size_grant _)) ?_))
      refine (NAA.out _).mono ?_
      rw [VAA.out]
      rintro e w3 ⟨rfl, hb⟩
      have HG3 := Lib.hid (HG2.out.step hb)
      clear hb
      go_wp2_with (first | (show wpList _ _ _ (⟨_, .load 23 (.tmp 5), _, _, _, _⟩ :: _) _ _; refine wpList_run (by rfl) (run_loadBlk rfl rfl HG3.out.one (by kernel_rfl) (size_grant _)) ?_) | (show wpList _ _ _ (⟨_, .load 23 (.tmp 6), _, _, _, _⟩ :: _) _ _; refine wpList_run (by rfl) (run_loadBlk rfl rfl HG3.out.two (by kernel_rfl) (size_grant _)) ?_))
      refine (NAB.out _).mono ?_
      rw [VAB.out]
      rintro e w4 ⟨rfl, hb⟩
      have HG4 := Lib.hid (HG3.out.step hb)
      clear hb
      go_wp2_with (first | (show wpList _ _ _ (⟨_, .load 23 (.tmp 6), _, _, _, _⟩ :: _) _ _; refine wpList_run (by rfl) (run_loadBlk rfl rfl HG4.out.two (by kernel_rfl) (size_grant _)) ?_) | (show wpList _ _ _ (⟨_, .load 23 (.tmp 7), _, _, _, _⟩ :: _) _ _; refine wpList_run (by rfl) (run_loadBlk rfl rfl HG4.out.three (by kernel_rfl) (size_grant _)) ?_))
      refine (NBC.out _).mono ?_
      rw [VBC.out]
      rintro e w5 ⟨rfl, hb⟩
      have HG5 := Lib.hid (HG4.out.step hb)
      clear hb
      go_wp2_with (first | (show wpList _ _ _ (⟨_, .load 23 (.tmp 5), _, _, _, _⟩ :: _) _ _; refine wpList_run (by rfl) (run_loadBlk rfl rfl HG5.out.one (by kernel_rfl) (size_grant _)) ?_) | (show wpList _ _ _ (⟨_, .load 23 (.tmp 7), _, _, _, _⟩ :: _) _ _; refine wpList_run (by rfl) (run_loadBlk rfl rfl HG5.out.three (by kernel_rfl) (size_grant _)) ?_))
      refine (NAC.out _).mono ?_
      rw [VAC.out]
      rintro e w6 ⟨rfl, hb⟩
      have HG6 := Lib.hid (HG5.out.step hb)
      clear hb
      go_upto_region 7 with (fail)
      refine region_phase (fun wr => Gr3 w.heap.size (w.heap.size + 1) (w.heap.size + 2) a b c w wr) (fun _ => True) 99 (HG6.out.step (Below.refl _ _).drew) trivial [(0, .free), (1, .free), (2, .behind), (3, .free), (4, .free), (5, .free), (6, .behind), (7, .free), (8, .free), (9, .free), (10, .free), (11, .free), (13, .free), (14, .free), (15, .free), (12, .behind), (16, .behind), (17, .free), (18, .free)] (by kernel_rfl) (by kernel_rfl) (by kernel_rfl) (by kernel_rfl) (fun ops hops A hA => ?_)
      have hsz : A.tmps.size = 68 := by rw [hA]; rfl
      have base3 : A.eval (.tmp 3) = .int .i64 r := by rw [hA]; rfl
      have base4 : A.eval (.tmp 4) = .string s := by rw [hA]; rfl
      have base5 : A.eval (.tmp 5) = .pointer (some ⟨w.heap.size, 0, none⟩) := by rw [hA]; rfl
      have base6 : A.eval (.tmp 6) = .pointer (some ⟨w.heap.size + 1, 0, none⟩) := by rw [hA]; rfl
      have base7 : A.eval (.tmp 7) = .pointer (some ⟨w.heap.size + 2, 0, none⟩) := by rw [hA]; rfl
      have HAA := Lib.hid hA; clear hA
      obtain ⟨o0, po0, q0, d0, gd0⟩ : ∃ o, ops[0]? = some o ∧ o.op = .load 23 (.tmp 5) ∧ o.dst = some 48 ∧ o.guard = none := ⟨_, by rw [hops]; rfl, rfl, rfl, rfl⟩
      obtain ⟨o1, po1, q1, d1, gd1⟩ : ∃ o, ops[1]? = some o ∧ o.op = .load 23 (.tmp 6) ∧ o.dst = some 49 ∧ o.guard = none := ⟨_, by rw [hops]; rfl, rfl, rfl, rfl⟩
      obtain ⟨o2, po2, q2, d2, gd2⟩ : ∃ o, ops[2]? = some o ∧ o.op = .call { callee := .value (.func 19), args := #[.tmp 48, .tmp 49], argTypes := #[23, 23] } ∧ o.dst = some 50 ∧ o.guard = none := ⟨_, by rw [hops]; rfl, rfl, rfl, rfl⟩
      obtain ⟨o3, po3, q3, d3, gd3⟩ : ∃ o, ops[3]? = some o ∧ o.op = .move (.tmp 50) ∧ o.dst = some 51 ∧ o.guard = none := ⟨_, by rw [hops]; rfl, rfl, rfl, rfl⟩
      obtain ⟨o4, po4, q4, d4, gd4⟩ : ∃ o, ops[4]? = some o ∧ o.op = .load 23 (.tmp 6) ∧ o.dst = some 52 ∧ o.guard = some (3, true) := ⟨_, by rw [hops]; rfl, rfl, rfl, rfl⟩
      obtain ⟨o5, po5, q5, d5, gd5⟩ : ∃ o, ops[5]? = some o ∧ o.op = .load 23 (.tmp 5) ∧ o.dst = some 53 ∧ o.guard = some (3, true) := ⟨_, by rw [hops]; rfl, rfl, rfl, rfl⟩
      obtain ⟨o6, po6, q6, d6, gd6⟩ : ∃ o, ops[6]? = some o ∧ o.op = .call { callee := .value (.func 19), args := #[.tmp 52, .tmp 53], argTypes := #[23, 23] } ∧ o.dst = some 54 ∧ o.guard = some (3, true) := ⟨_, by rw [hops]; rfl, rfl, rfl, rfl⟩
      obtain ⟨o7, po7, q7, d7, gd7⟩ : ∃ o, ops[7]? = some o ∧ o.op = .pick (.tmp 51) (.tmp 54) (.const (.bool false)) ∧ o.dst = some 55 ∧ o.guard = none := ⟨_, by rw [hops]; rfl, rfl, rfl, rfl⟩
      obtain ⟨o8, po8, q8, d8, gd8⟩ : ∃ o, ops[8]? = some o ∧ o.op = .move (.tmp 55) ∧ o.dst = some 56 ∧ o.guard = none := ⟨_, by rw [hops]; rfl, rfl, rfl, rfl⟩
      obtain ⟨o9, po9, q9, d9, gd9⟩ : ∃ o, ops[9]? = some o ∧ o.op = .load 23 (.tmp 5) ∧ o.dst = some 57 ∧ o.guard = some (8, true) := ⟨_, by rw [hops]; rfl, rfl, rfl, rfl⟩
      obtain ⟨o10, po10, q10, d10, gd10⟩ : ∃ o, ops[10]? = some o ∧ o.op = .move (.tmp 3) ∧ o.dst = some 58 ∧ o.guard = some (8, true) := ⟨_, by rw [hops]; rfl, rfl, rfl, rfl⟩
      obtain ⟨o11, po11, q11, d11, gd11⟩ : ∃ o, ops[11]? = some o ∧ o.op = .move (.tmp 4) ∧ o.dst = some 59 ∧ o.guard = some (8, true) := ⟨_, by rw [hops]; rfl, rfl, rfl, rfl⟩
      obtain ⟨o12, po12, q12, d12, gd12⟩ : ∃ o, ops[12]? = some o ∧ o.op = .call { callee := .value (.func 15), args := #[.tmp 57, .tmp 58, .tmp 59], argTypes := #[23, 3, 9] } ∧ o.dst = some 60 ∧ o.guard = some (8, true) := ⟨_, by rw [hops]; rfl, rfl, rfl, rfl⟩
      obtain ⟨o13, po13, q13, d13, gd13⟩ : ∃ o, ops[13]? = some o ∧ o.op = .load 23 (.tmp 6) ∧ o.dst = some 61 ∧ o.guard = some (8, true) := ⟨_, by rw [hops]; rfl, rfl, rfl, rfl⟩
      obtain ⟨o14, po14, q14, d14, gd14⟩ : ∃ o, ops[14]? = some o ∧ o.op = .move (.tmp 3) ∧ o.dst = some 62 ∧ o.guard = some (8, true) := ⟨_, by rw [hops]; rfl, rfl, rfl, rfl⟩
      obtain ⟨o15, po15, q15, d15, gd15⟩ : ∃ o, ops[15]? = some o ∧ o.op = .move (.tmp 4) ∧ o.dst = some 63 ∧ o.guard = some (8, true) := ⟨_, by rw [hops]; rfl, rfl, rfl, rfl⟩
      obtain ⟨o16, po16, q16, d16, gd16⟩ : ∃ o, ops[16]? = some o ∧ o.op = .call { callee := .value (.func 15), args := #[.tmp 61, .tmp 62, .tmp 63], argTypes := #[23, 3, 9] } ∧ o.dst = some 64 ∧ o.guard = some (8, true) := ⟨_, by rw [hops]; rfl, rfl, rfl, rfl⟩
      obtain ⟨o17, po17, q17, d17, gd17⟩ : ∃ o, ops[17]? = some o ∧ o.op = .binOp .neq 4 (.tmp 60) (.tmp 64) 4 ∧ o.dst = some 65 ∧ o.guard = some (8, true) := ⟨_, by rw [hops]; rfl, rfl, rfl, rfl⟩
      obtain ⟨o18, po18, q18, d18, gd18⟩ : ∃ o, ops[18]? = some o ∧ o.op = .pick (.tmp 56) (.tmp 65) (.const (.bool false)) ∧ o.dst = some 66 ∧ o.guard = none := ⟨_, by rw [hops]; rfl, rfl, rfl, rfl⟩
      clear hops
      refine met_free po0 d0 (wanted_of gd0) (fun w' h' => run_loadBlk q0 base5 h'.one (by kernel_rfl) (size_grant _)) ?_
      refine met_free po1 d1 (wanted_of gd1) (fun w' h' => run_loadBlk q1 ((eval_other _ 48 6 _ (by decide)).trans base6) h'.two (by kernel_rfl) (size_grant _)) ?_
      refine m_enter po2 d2 (wanted_of gd2) (run_callf2 q2 rfl ((eval_other _ 49 48 _ (by decide)).trans (eval_same _ _ _ (by rw [hsz]; decide))) (eval_same _ _ _ (by simp only [put_size, hsz]; decide)) Try.func19 (by kernel_rfl) _) ((VAB.out ▸ NAB.out _ : Calls _ _ _ _ (ReturnsG true _))) ?_
      rintro e w7_1 ⟨rfl, hb⟩
      have HSw7_1 := Lib.hid ((HG6.out.step (Below.refl _ _).drew).step hb)
      clear hb
      refine ⟨_, rfl, HSw7_1.out, ?_⟩
      refine met_free po3 d3 (wanted_of gd3) (fun w' h' => run_move q3 (eval_same _ _ _ (by simp only [put_size, hsz]; decide)) w') ?_
      refine met_free po4 d4 (wanted_guard gd4 po3 d3 (eval_same _ _ _ (by simp only [put_size, hsz]; decide))) (fun w' h' => run_loadBlk q4 ((eval_other _ 51 6 _ (by decide)).trans ((eval_other _ 50 6 _ (by decide)).trans ((eval_other _ 49 6 _ (by decide)).trans ((eval_other _ 48 6 _ (by decide)).trans base6)))) h'.two (by kernel_rfl) (size_grant _)) ?_
      refine met_free po5 d5 (wanted_guard gd5 po3 d3 ((eval_other _ 52 51 _ (by decide)).trans (eval_same _ _ _ (by simp only [put_size, hsz]; decide)))) (fun w' h' => run_loadBlk q5 ((eval_other _ 52 5 _ (by decide)).trans ((eval_other _ 51 5 _ (by decide)).trans ((eval_other _ 50 5 _ (by decide)).trans ((eval_other _ 49 5 _ (by decide)).trans ((eval_other _ 48 5 _ (by decide)).trans base5))))) h'.one (by kernel_rfl) (size_grant _)) ?_
      refine m_enter po6 d6 (wanted_guard gd6 po3 d3 ((eval_other _ 53 51 _ (by decide)).trans ((eval_other _ 52 51 _ (by decide)).trans (eval_same _ _ _ (by simp only [put_size, hsz]; decide))))) (run_callf2 q6 rfl ((eval_other _ 53 52 _ (by decide)).trans (eval_same _ _ _ (by simp only [put_size, hsz]; decide))) (eval_same _ _ _ (by simp only [put_size, hsz]; decide)) Try.func19 (by kernel_rfl) _) ((VBA.out ▸ NBA.out _ : Calls _ _ _ _ (ReturnsG false _))) ?_
      rintro e w7_2 ⟨rfl, hb⟩
      have HSw7_2 := Lib.hid (HSw7_1.out.step hb)
      clear hb
      refine ⟨_, rfl, HSw7_2.out, ?_⟩
      refine met_free po7 d7 (wanted_of gd7) (fun w' h' => run_pick_true q7 ((eval_other _ 54 51 _ (by decide)).trans ((eval_other _ 53 51 _ (by decide)).trans ((eval_other _ 52 51 _ (by decide)).trans (eval_same _ _ _ (by simp only [put_size, hsz]; decide))))) (eval_same _ _ _ (by simp only [put_size, hsz]; decide)) w') ?_
      refine met_free po8 d8 (wanted_of gd8) (fun w' h' => run_move q8 (eval_same _ _ _ (by simp only [put_size, hsz]; decide)) w') ?_
      refine m_unwanted po9 d9 (w_not gd9 po8 d8 (eval_same _ _ _ (by simp only [put_size, hsz]; decide))) ?_
      refine m_unwanted po10 d10 (w_not gd10 po8 d8 ((eval_other _ 57 56 _ (by decide)).trans (eval_same _ _ _ (by simp only [put_size, hsz]; decide)))) ?_
      refine m_unwanted po11 d11 (w_not gd11 po8 d8 ((eval_other _ 58 56 _ (by decide)).trans ((eval_other _ 57 56 _ (by decide)).trans (eval_same _ _ _ (by simp only [put_size, hsz]; decide))))) ?_
      refine m_unwanted po13 d13 (w_not gd13 po8 d8 ((eval_other _ 59 56 _ (by decide)).trans ((eval_other _ 58 56 _ (by decide)).trans ((eval_other _ 57 56 _ (by decide)).trans (eval_same _ _ _ (by simp only [put_size, hsz]; decide)))))) ?_
      refine m_unwanted po14 d14 (w_not gd14 po8 d8 ((eval_other _ 61 56 _ (by decide)).trans ((eval_other _ 59 56 _ (by decide)).trans ((eval_other _ 58 56 _ (by decide)).trans ((eval_other _ 57 56 _ (by decide)).trans (eval_same _ _ _ (by simp only [put_size, hsz]; decide))))))) ?_
      refine m_unwanted po15 d15 (w_not gd15 po8 d8 ((eval_other _ 62 56 _ (by decide)).trans ((eval_other _ 61 56 _ (by decide)).trans ((eval_other _ 59 56 _ (by decide)).trans ((eval_other _ 58 56 _ (by decide)).trans ((eval_other _ 57 56 _ (by decide)).trans (eval_same _ _ _ (by simp only [put_size, hsz]; decide)))))))) ?_
      refine m_skipped po12 d12 (w_not gd12 po8 d8 ((eval_other _ 63 56 _ (by decide)).trans ((eval_other _ 62 56 _ (by decide)).trans ((eval_other _ 61 56 _ (by decide)).trans ((eval_other _ 59 56 _ (by decide)).trans ((eval_other _ 58 56 _ (by decide)).trans ((eval_other _ 57 56 _ (by decide)).trans (eval_same _ _ _ (by simp only [put_size, hsz]; decide))))))))) ⟨HSw7_2.out, ?_⟩
      refine m_skipped po16 d16 (w_not gd16 po8 d8 ((eval_other _ 60 56 _ (by decide)).trans ((eval_other _ 63 56 _ (by decide)).trans ((eval_other _ 62 56 _ (by decide)).trans ((eval_other _ 61 56 _ (by decide)).trans ((eval_other _ 59 56 _ (by decide)).trans ((eval_other _ 58 56 _ (by decide)).trans ((eval_other _ 57 56 _ (by decide)).trans (eval_same _ _ _ (by simp only [put_size, hsz]; decide)))))))))) ⟨HSw7_2.out, ?_⟩
      refine m_unwanted po17 d17 (w_not gd17 po8 d8 ((eval_other _ 64 56 _ (by decide)).trans ((eval_other _ 60 56 _ (by decide)).trans ((eval_other _ 63 56 _ (by decide)).trans ((eval_other _ 62 56 _ (by decide)).trans ((eval_other _ 61 56 _ (by decide)).trans ((eval_other _ 59 56 _ (by decide)).trans ((eval_other _ 58 56 _ (by decide)).trans ((eval_other _ 57 56 _ (by decide)).trans (eval_same _ _ _ (by simp only [put_size, hsz]; decide))))))))))) ?_
      refine met_free po18 d18 (wanted_of gd18) (fun w' h' => r_pickF q18 ((eval_other _ 65 56 _ (by decide)).trans ((eval_other _ 64 56 _ (by decide)).trans ((eval_other _ 60 56 _ (by decide)).trans ((eval_other _ 63 56 _ (by decide)).trans ((eval_other _ 62 56 _ (by decide)).trans ((eval_other _ 61 56 _ (by decide)).trans ((eval_other _ 59 56 _ (by decide)).trans ((eval_other _ 58 56 _ (by decide)).trans ((eval_other _ 57 56 _ (by decide)).trans (eval_same _ _ _ (by simp only [put_size, hsz]; decide))))))))))) rfl w') ?_
      show NoPanic _ .normal _ _
      refine NoPanic.normal ?_
      rw [HAA.out]
      go_frame
      clear HAA
      clear po0 q0 d0 gd0 po1 q1 d1 gd1 po2 q2 d2 gd2 po3 q3 d3 gd3 po4 q4 d4 gd4 po5 q5 d5 gd5 po6 q6 d6 gd6 po7 q7 d7 gd7 po8 q8 d8 gd8 po9 q9 d9 gd9 po10 q10 d10 gd10 po11 q11 d11 gd11 po12 q12 d12 gd12 po13 q13 d13 gd13 po14 q14 d14 gd14 po15 q15 d15 gd15 po16 q16 d16 gd16 po17 q17 d17 gd17 po18 q18 d18 gd18
      clear base3 base4 base5 base6 base7 hsz
      go_wp2_with fail
      refine (HKN.out _).mono ?_
      rintro e w99 ⟨rfl, hb⟩
      have HB9 := Lib.hid (HSw7_2.out.below.trans (hb.mono HSw7_2.out.below.size))
      clear hb
      go_wp2_with fail
      go_ret
      exact ⟨rfl, HB9.out⟩
    · skip
      go_wp2_with (first | (show wpList _ _ _ (⟨_, .call { callee := .builtin .max, args := _, argTypes := _ }, _, _, _, _⟩ :: _) _ _; refine wpList_run (by rfl) (run_max4 rfl rfl rfl rfl rfl HM.out _) ?_) | (show wpList _ _ _ (⟨_, .load 23 (.tmp 5), _, _, _, _⟩ :: _) _ _; refine wpList_run (by rfl) (run_loadBlk rfl rfl HG1.out.one (by kernel_rfl) (size_grant _)) ?_))
      refine (CHK2.out _).mono ?_
      rintro e w2 ⟨rfl, hb⟩
      have HG2 := Lib.hid (HG1.out.step hb)
      clear hb
      go_wp2_with (first | (show wpList _ _ _ (⟨_, .load 23 (.tmp 5), _, _, _, _⟩ :: _) _ _; refine wpList_run (by rfl) (run_loadBlk rfl rfl HG2.out.one (by kernel_rfl) (size_grant _)) ?_) | (show wpList _ _ _ (⟨_, .load 23 (.tmp 6), _, _, _, _⟩ :: _) _ _; refine wpList_run (by rfl) (run_loadBlk rfl rfl HG2.out.two (by kernel_rfl) (size_grant _)) ?_))
      refine (NAB.out _).mono ?_
      rw [VAB.out]
      rintro e w3 ⟨rfl, hb⟩
      have HG3 := Lib.hid (HG2.out.step hb)
      clear hb
      go_wp2_with (first | (show wpList _ _ _ (⟨_, .load 23 (.tmp 6), _, _, _, _⟩ :: _) _ _; refine wpList_run (by rfl) (run_loadBlk rfl rfl HG3.out.two (by kernel_rfl) (size_grant _)) ?_) | (show wpList _ _ _ (⟨_, .load 23 (.tmp 7), _, _, _, _⟩ :: _) _ _; refine wpList_run (by rfl) (run_loadBlk rfl rfl HG3.out.three (by kernel_rfl) (size_grant _)) ?_))
      refine (NBC.out _).mono ?_
      rw [VBC.out]
      rintro e w4 ⟨rfl, hb⟩
      have HG4 := Lib.hid (HG3.out.step hb)
      clear hb
      go_wp2_with (first | (show wpList _ _ _ (⟨_, .load 23 (.tmp 5), _, _, _, _⟩ :: _) _ _; refine wpList_run (by rfl) (run_loadBlk rfl rfl HG4.out.one (by kernel_rfl) (size_grant _)) ?_) | (show wpList _ _ _ (⟨_, .load 23 (.tmp 7), _, _, _, _⟩ :: _) _ _; refine wpList_run (by rfl) (run_loadBlk rfl rfl HG4.out.three (by kernel_rfl) (size_grant _)) ?_))
      refine (NAC.out _).mono ?_
      rw [VAC.out]
      rintro e w5 ⟨rfl, hb⟩
      have HG5 := Lib.hid (HG4.out.step hb)
      clear hb
      go_upto_region 7 with (fail)
      refine region_phase (fun wr => Gr3 w.heap.size (w.heap.size + 1) (w.heap.size + 2) a b c w wr) (fun _ => True) 99 (HG5.out.step (Below.refl _ _).drew) trivial [(0, .free), (1, .free), (2, .behind), (3, .free), (4, .free), (5, .free), (6, .behind), (7, .free), (8, .free), (9, .free), (10, .free), (11, .free), (13, .free), (14, .free), (15, .free), (12, .behind), (16, .behind), (17, .free), (18, .free)] (by kernel_rfl) (by kernel_rfl) (by kernel_rfl) (by kernel_rfl) (fun ops hops A hA => ?_)
      have hsz : A.tmps.size = 68 := by rw [hA]; rfl
      have base3 : A.eval (.tmp 3) = .int .i64 r := by rw [hA]; rfl
      have base4 : A.eval (.tmp 4) = .string s := by rw [hA]; rfl
      have base5 : A.eval (.tmp 5) = .pointer (some ⟨w.heap.size, 0, none⟩) := by rw [hA]; rfl
      have base6 : A.eval (.tmp 6) = .pointer (some ⟨w.heap.size + 1, 0, none⟩) := by rw [hA]; rfl
      have base7 : A.eval (.tmp 7) = .pointer (some ⟨w.heap.size + 2, 0, none⟩) := by rw [hA]; rfl
      have HAA := Lib.hid hA; clear hA
      obtain ⟨o0, po0, q0, d0, gd0⟩ : ∃ o, ops[0]? = some o ∧ o.op = .load 23 (.tmp 5) ∧ o.dst = some 48 ∧ o.guard = none := ⟨_, by rw [hops]; rfl, rfl, rfl, rfl⟩
      obtain ⟨o1, po1, q1, d1, gd1⟩ : ∃ o, ops[1]? = some o ∧ o.op = .load 23 (.tmp 6) ∧ o.dst = some 49 ∧ o.guard = none := ⟨_, by rw [hops]; rfl, rfl, rfl, rfl⟩
      obtain ⟨o2, po2, q2, d2, gd2⟩ : ∃ o, ops[2]? = some o ∧ o.op = .call { callee := .value (.func 19), args := #[.tmp 48, .tmp 49], argTypes := #[23, 23] } ∧ o.dst = some 50 ∧ o.guard = none := ⟨_, by rw [hops]; rfl, rfl, rfl, rfl⟩
      obtain ⟨o3, po3, q3, d3, gd3⟩ : ∃ o, ops[3]? = some o ∧ o.op = .move (.tmp 50) ∧ o.dst = some 51 ∧ o.guard = none := ⟨_, by rw [hops]; rfl, rfl, rfl, rfl⟩
      obtain ⟨o4, po4, q4, d4, gd4⟩ : ∃ o, ops[4]? = some o ∧ o.op = .load 23 (.tmp 6) ∧ o.dst = some 52 ∧ o.guard = some (3, true) := ⟨_, by rw [hops]; rfl, rfl, rfl, rfl⟩
      obtain ⟨o5, po5, q5, d5, gd5⟩ : ∃ o, ops[5]? = some o ∧ o.op = .load 23 (.tmp 5) ∧ o.dst = some 53 ∧ o.guard = some (3, true) := ⟨_, by rw [hops]; rfl, rfl, rfl, rfl⟩
      obtain ⟨o6, po6, q6, d6, gd6⟩ : ∃ o, ops[6]? = some o ∧ o.op = .call { callee := .value (.func 19), args := #[.tmp 52, .tmp 53], argTypes := #[23, 23] } ∧ o.dst = some 54 ∧ o.guard = some (3, true) := ⟨_, by rw [hops]; rfl, rfl, rfl, rfl⟩
      obtain ⟨o7, po7, q7, d7, gd7⟩ : ∃ o, ops[7]? = some o ∧ o.op = .pick (.tmp 51) (.tmp 54) (.const (.bool false)) ∧ o.dst = some 55 ∧ o.guard = none := ⟨_, by rw [hops]; rfl, rfl, rfl, rfl⟩
      obtain ⟨o8, po8, q8, d8, gd8⟩ : ∃ o, ops[8]? = some o ∧ o.op = .move (.tmp 55) ∧ o.dst = some 56 ∧ o.guard = none := ⟨_, by rw [hops]; rfl, rfl, rfl, rfl⟩
      obtain ⟨o9, po9, q9, d9, gd9⟩ : ∃ o, ops[9]? = some o ∧ o.op = .load 23 (.tmp 5) ∧ o.dst = some 57 ∧ o.guard = some (8, true) := ⟨_, by rw [hops]; rfl, rfl, rfl, rfl⟩
      obtain ⟨o10, po10, q10, d10, gd10⟩ : ∃ o, ops[10]? = some o ∧ o.op = .move (.tmp 3) ∧ o.dst = some 58 ∧ o.guard = some (8, true) := ⟨_, by rw [hops]; rfl, rfl, rfl, rfl⟩
      obtain ⟨o11, po11, q11, d11, gd11⟩ : ∃ o, ops[11]? = some o ∧ o.op = .move (.tmp 4) ∧ o.dst = some 59 ∧ o.guard = some (8, true) := ⟨_, by rw [hops]; rfl, rfl, rfl, rfl⟩
      obtain ⟨o12, po12, q12, d12, gd12⟩ : ∃ o, ops[12]? = some o ∧ o.op = .call { callee := .value (.func 15), args := #[.tmp 57, .tmp 58, .tmp 59], argTypes := #[23, 3, 9] } ∧ o.dst = some 60 ∧ o.guard = some (8, true) := ⟨_, by rw [hops]; rfl, rfl, rfl, rfl⟩
      obtain ⟨o13, po13, q13, d13, gd13⟩ : ∃ o, ops[13]? = some o ∧ o.op = .load 23 (.tmp 6) ∧ o.dst = some 61 ∧ o.guard = some (8, true) := ⟨_, by rw [hops]; rfl, rfl, rfl, rfl⟩
      obtain ⟨o14, po14, q14, d14, gd14⟩ : ∃ o, ops[14]? = some o ∧ o.op = .move (.tmp 3) ∧ o.dst = some 62 ∧ o.guard = some (8, true) := ⟨_, by rw [hops]; rfl, rfl, rfl, rfl⟩
      obtain ⟨o15, po15, q15, d15, gd15⟩ : ∃ o, ops[15]? = some o ∧ o.op = .move (.tmp 4) ∧ o.dst = some 63 ∧ o.guard = some (8, true) := ⟨_, by rw [hops]; rfl, rfl, rfl, rfl⟩
      obtain ⟨o16, po16, q16, d16, gd16⟩ : ∃ o, ops[16]? = some o ∧ o.op = .call { callee := .value (.func 15), args := #[.tmp 61, .tmp 62, .tmp 63], argTypes := #[23, 3, 9] } ∧ o.dst = some 64 ∧ o.guard = some (8, true) := ⟨_, by rw [hops]; rfl, rfl, rfl, rfl⟩
      obtain ⟨o17, po17, q17, d17, gd17⟩ : ∃ o, ops[17]? = some o ∧ o.op = .binOp .neq 4 (.tmp 60) (.tmp 64) 4 ∧ o.dst = some 65 ∧ o.guard = some (8, true) := ⟨_, by rw [hops]; rfl, rfl, rfl, rfl⟩
      obtain ⟨o18, po18, q18, d18, gd18⟩ : ∃ o, ops[18]? = some o ∧ o.op = .pick (.tmp 56) (.tmp 65) (.const (.bool false)) ∧ o.dst = some 66 ∧ o.guard = none := ⟨_, by rw [hops]; rfl, rfl, rfl, rfl⟩
      clear hops
      refine met_free po0 d0 (wanted_of gd0) (fun w' h' => run_loadBlk q0 base5 h'.one (by kernel_rfl) (size_grant _)) ?_
      refine met_free po1 d1 (wanted_of gd1) (fun w' h' => run_loadBlk q1 ((eval_other _ 48 6 _ (by decide)).trans base6) h'.two (by kernel_rfl) (size_grant _)) ?_
      refine m_enter po2 d2 (wanted_of gd2) (run_callf2 q2 rfl ((eval_other _ 49 48 _ (by decide)).trans (eval_same _ _ _ (by rw [hsz]; decide))) (eval_same _ _ _ (by simp only [put_size, hsz]; decide)) Try.func19 (by kernel_rfl) _) ((VAB.out ▸ NAB.out _ : Calls _ _ _ _ (ReturnsG true _))) ?_
      rintro e w7_1 ⟨rfl, hb⟩
      have HSw7_1 := Lib.hid ((HG5.out.step (Below.refl _ _).drew).step hb)
      clear hb
      refine ⟨_, rfl, HSw7_1.out, ?_⟩
      refine met_free po3 d3 (wanted_of gd3) (fun w' h' => run_move q3 (eval_same _ _ _ (by simp only [put_size, hsz]; decide)) w') ?_
      refine met_free po4 d4 (wanted_guard gd4 po3 d3 (eval_same _ _ _ (by simp only [put_size, hsz]; decide))) (fun w' h' => run_loadBlk q4 ((eval_other _ 51 6 _ (by decide)).trans ((eval_other _ 50 6 _ (by decide)).trans ((eval_other _ 49 6 _ (by decide)).trans ((eval_other _ 48 6 _ (by decide)).trans base6)))) h'.two (by kernel_rfl) (size_grant _)) ?_
      refine met_free po5 d5 (wanted_guard gd5 po3 d3 ((eval_other _ 52 51 _ (by decide)).trans (eval_same _ _ _ (by simp only [put_size, hsz]; decide)))) (fun w' h' => run_loadBlk q5 ((eval_other _ 52 5 _ (by decide)).trans ((eval_other _ 51 5 _ (by decide)).trans ((eval_other _ 50 5 _ (by decide)).trans ((eval_other _ 49 5 _ (by decide)).trans ((eval_other _ 48 5 _ (by decide)).trans base5))))) h'.one (by kernel_rfl) (size_grant _)) ?_
      refine m_enter po6 d6 (wanted_guard gd6 po3 d3 ((eval_other _ 53 51 _ (by decide)).trans ((eval_other _ 52 51 _ (by decide)).trans (eval_same _ _ _ (by simp only [put_size, hsz]; decide))))) (run_callf2 q6 rfl ((eval_other _ 53 52 _ (by decide)).trans (eval_same _ _ _ (by simp only [put_size, hsz]; decide))) (eval_same _ _ _ (by simp only [put_size, hsz]; decide)) Try.func19 (by kernel_rfl) _) ((VBA.out ▸ NBA.out _ : Calls _ _ _ _ (ReturnsG false _))) ?_
      rintro e w7_2 ⟨rfl, hb⟩
      have HSw7_2 := Lib.hid (HSw7_1.out.step hb)
      clear hb
      refine ⟨_, rfl, HSw7_2.out, ?_⟩
      refine met_free po7 d7 (wanted_of gd7) (fun w' h' => run_pick_true q7 ((eval_other _ 54 51 _ (by decide)).trans ((eval_other _ 53 51 _ (by decide)).trans ((eval_other _ 52 51 _ (by decide)).trans (eval_same _ _ _ (by simp only [put_size, hsz]; decide))))) (eval_same _ _ _ (by simp only [put_size, hsz]; decide)) w') ?_
      refine met_free po8 d8 (wanted_of gd8) (fun w' h' => run_move q8 (eval_same _ _ _ (by simp only [put_size, hsz]; decide)) w') ?_
      refine m_unwanted po9 d9 (w_not gd9 po8 d8 (eval_same _ _ _ (by simp only [put_size, hsz]; decide))) ?_
      refine m_unwanted po10 d10 (w_not gd10 po8 d8 ((eval_other _ 57 56 _ (by decide)).trans (eval_same _ _ _ (by simp only [put_size, hsz]; decide)))) ?_
      refine m_unwanted po11 d11 (w_not gd11 po8 d8 ((eval_other _ 58 56 _ (by decide)).trans ((eval_other _ 57 56 _ (by decide)).trans (eval_same _ _ _ (by simp only [put_size, hsz]; decide))))) ?_
      refine m_unwanted po13 d13 (w_not gd13 po8 d8 ((eval_other _ 59 56 _ (by decide)).trans ((eval_other _ 58 56 _ (by decide)).trans ((eval_other _ 57 56 _ (by decide)).trans (eval_same _ _ _ (by simp only [put_size, hsz]; decide)))))) ?_
      refine m_unwanted po14 d14 (w_not gd14 po8 d8 ((eval_other _ 61 56 _ (by decide)).trans ((eval_other _ 59 56 _ (by decide)).trans ((eval_other _ 58 56 _ (by decide)).trans ((eval_other _ 57 56 _ (by decide)).trans (eval_same _ _ _ (by simp only [put_size, hsz]; decide))))))) ?_
      refine m_unwanted po15 d15 (w_not gd15 po8 d8 ((eval_other _ 62 56 _ (by decide)).trans ((eval_other _ 61 56 _ (by decide)).trans ((eval_other _ 59 56 _ (by decide)).trans ((eval_other _ 58 56 _ (by decide)).trans ((eval_other _ 57 56 _ (by decide)).trans (eval_same _ _ _ (by simp only [put_size, hsz]; decide)))))))) ?_
      refine m_skipped po12 d12 (w_not gd12 po8 d8 ((eval_other _ 63 56 _ (by decide)).trans ((eval_other _ 62 56 _ (by decide)).trans ((eval_other _ 61 56 _ (by decide)).trans ((eval_other _ 59 56 _ (by decide)).trans ((eval_other _ 58 56 _ (by decide)).trans ((eval_other _ 57 56 _ (by decide)).trans (eval_same _ _ _ (by simp only [put_size, hsz]; decide))))))))) ⟨HSw7_2.out, ?_⟩
      refine m_skipped po16 d16 (w_not gd16 po8 d8 ((eval_other _ 60 56 _ (by decide)).trans ((eval_other _ 63 56 _ (by decide)).trans ((eval_other _ 62 56 _ (by decide)).trans ((eval_other _ 61 56 _ (by decide)).trans ((eval_other _ 59 56 _ (by decide)).trans ((eval_other _ 58 56 _ (by decide)).trans ((eval_other _ 57 56 _ (by decide)).trans (eval_same _ _ _ (by simp only [put_size, hsz]; decide)))))))))) ⟨HSw7_2.out, ?_⟩
      refine m_unwanted po17 d17 (w_not gd17 po8 d8 ((eval_other _ 64 56 _ (by decide)).trans ((eval_other _ 60 56 _ (by decide)).trans ((eval_other _ 63 56 _ (by decide)).trans ((eval_other _ 62 56 _ (by decide)).trans ((eval_other _ 61 56 _ (by decide)).trans ((eval_other _ 59 56 _ (by decide)).trans ((eval_other _ 58 56 _ (by decide)).trans ((eval_other _ 57 56 _ (by decide)).trans (eval_same _ _ _ (by simp only [put_size, hsz]; decide))))))))))) ?_
      refine met_free po18 d18 (wanted_of gd18) (fun w' h' => r_pickF q18 ((eval_other _ 65 56 _ (by decide)).trans ((eval_other _ 64 56 _ (by decide)).trans ((eval_other _ 60 56 _ (by decide)).trans ((eval_other _ 63 56 _ (by decide)).trans ((eval_other _ 62 56 _ (by decide)).trans ((eval_other _ 61 56 _ (by decide)).trans ((eval_other _ 59 56 _ (by decide)).trans ((eval_other _ 58 56 _ (by decide)).trans ((eval_other _ 57 56 _ (by decide)).trans (eval_same _ _ _ (by simp only [put_size, hsz]; decide))))))))))) rfl w') ?_
      show NoPanic _ .normal _ _
      refine NoPanic.normal ?_
      rw [HAA.out]
      go_frame
      clear HAA
      clear po0 q0 d0 gd0 po1 q1 d1 gd1 po2 q2 d2 gd2 po3 q3 d3 gd3 po4 q4 d4 gd4 po5 q5 d5 gd5 po6 q6 d6 gd6 po7 q7 d7 gd7 po8 q8 d8 gd8 po9 q9 d9 gd9 po10 q10 d10 gd10 po11 q11 d11 gd11 po12 q12 d12 gd12 po13 q13 d13 gd13 po14 q14 d14 gd14 po15 q15 d15 gd15 po16 q16 d16 gd16 po17 q17 d17 gd17 po18 q18 d18 gd18
      clear base3 base4 base5 base6 base7 hsz
      go_wp2_with fail
      refine (HKN.out _).mono ?_
      rintro e w99 ⟨rfl, hb⟩
      have HB9 := Lib.hid (HSw7_2.out.below.trans (hb.mono HSw7_2.out.below.size))
      clear hb
      go_wp2_with fail
      go_ret
      exact ⟨rfl, HB9.out⟩
  · have VAB := Lib.hid hab
    have VBC := Lib.hid hbc
    have VBA := Lib.hid hba
    have VAC := Lib.hid (PTR.out hab hbc)
    have VCC := Lib.hid (PBO.out hab hba).symm
    clear hab hbc hba
    by_cases hz0 : z = 0
    · have VAA := Lib.hid (HSELF.out hz0)
      subst hz0
      go_wp2_with (first | (show wpList _ _ _ (⟨_, .call { callee := .builtin .max, args := _, argTypes := _ }, _, _, _, _⟩ :: _) _ _; refine wpList_run (by rfl) (run_max4 rfl rfl rfl rfl rfl HM.out _) ?_) | (show wpList _ _ _ (⟨_, .load 23 (.tmp 5), _, _, _, _⟩ :: _) _ _; refine wpList_run (by rfl) (run_loadBlk rfl rfl HG1.out.one (by kernel_rfl) (size_grant _)) ?_))
      refine (CHK2.out _).mono ?_
      rintro e w2 ⟨rfl, hb⟩
      have HG2 := Lib.hid (HG1.out.step hb)
      clear hb
      go_wp2_with (first | (show wpList _ _ _ (⟨_, .load 23 (.tmp 5), _, _, _, _⟩ :: _) _ _; refine wpList_run (by rfl) (run_loadBlk rfl rfl HG2.out.one (by kernel_rfl) (size_grant _)) ?_))
      refine (NAA.out _).mono ?_
      rw [VAA.out]
      rintro e w3 ⟨rfl, hb⟩
      have HG3 := Lib.hid (HG2.out.step hb)
      clear hb
      go_wp2_with (first | (show wpList _ _ _ (⟨_, .load 23 (.tmp 5), _, _, _, _⟩ :: _) _ _; refine wpList_run (by rfl) (run_loadBlk rfl rfl HG3.out.one (by kernel_rfl) (size_grant _)) ?_) | (show wpList _ _ _ (⟨_, .load 23 (.tmp 6), _, _, _, _⟩ :: _) _ _; refine wpList_run (by rfl) (run_loadBlk rfl rfl HG3.out.two (by kernel_rfl) (size_grant _)) ?_))
      refine (NAB.out _).mono ?_
      rw [VAB.out]
      rintro e w4 ⟨rfl, hb⟩
      have HG4 := Lib.hid (HG3.out.step hb)
      clear hb
      go_wp2_with (first | (show wpList _ _ _ (⟨_, .load 23 (.tmp 6), _, _, _, _⟩ :: _) _ _; refine wpList_run (by rfl) (run_loadBlk rfl rfl HG4.out.two (by kernel_rfl) (size_grant _)) ?_) | (show wpList _ _ _ (⟨_, .load 23 (.tmp 7), _, _, _, _⟩ :: _) _ _; refine wpList_run (by rfl) (run_loadBlk rfl rfl HG4.out.three (by kernel_rfl) (size_grant _)) ?_))
      refine (NBC.out _).mono ?_
      rw [VBC.out]
      rintro e w5 ⟨rfl, hb⟩
      have HG5 := Lib.hid (HG4.out.step hb)
      clear hb
      go_wp2_with (first | (show wpList _ _ _ (⟨_, .load 23 (.tmp 5), _, _, _, _⟩ :: _) _ _; refine wpList_run (by rfl) (run_loadBlk rfl rfl HG5.out.one (by kernel_rfl) (size_grant _)) ?_) | (show wpList _ _ _ (⟨_, .load 23 (.tmp 7), _, _, _, _⟩ :: _) _ _; refine wpList_run (by rfl) (run_loadBlk rfl rfl HG5.out.three (by kernel_rfl) (size_grant _)) ?_))
      refine (NAC.out _).mono ?_
      rw [VAC.out]
      rintro e w6 ⟨rfl, hb⟩
      have HG6 := Lib.hid (HG5.out.step hb)
      clear hb
      go_upto_region 7 with (fail)
      refine region_phase (fun wr => Gr3 w.heap.size (w.heap.size + 1) (w.heap.size + 2) a b c w wr) (fun _ => True) 99 (HG6.out.step (Below.refl _ _).drew) trivial [(0, .free), (1, .free), (2, .behind), (3, .free), (4, .free), (5, .free), (6, .behind), (7, .free), (8, .free), (9, .free), (10, .free), (11, .free), (13, .free), (14, .free), (15, .free), (12, .behind), (16, .behind), (17, .free), (18, .free)] (by kernel_rfl) (by kernel_rfl) (by kernel_rfl) (by kernel_rfl) (fun ops hops A hA => ?_)
      have hsz : A.tmps.size = 68 := by rw [hA]; rfl
      have base3 : A.eval (.tmp 3) = .int .i64 r := by rw [hA]; rfl
      have base4 : A.eval (.tmp 4) = .string s := by rw [hA]; rfl
      have base5 : A.eval (.tmp 5) = .pointer (some ⟨w.heap.size, 0, none⟩) := by rw [hA]; rfl
      have base6 : A.eval (.tmp 6) = .pointer (some ⟨w.heap.size + 1, 0, none⟩) := by rw [hA]; rfl
      have base7 : A.eval (.tmp 7) = .pointer (some ⟨w.heap.size + 2, 0, none⟩) := by rw [hA]; rfl
      have HAA := Lib.hid hA; clear hA
      obtain ⟨o0, po0, q0, d0, gd0⟩ : ∃ o, ops[0]? = some o ∧ o.op = .load 23 (.tmp 5) ∧ o.dst = some 48 ∧ o.guard = none := ⟨_, by rw [hops]; rfl, rfl, rfl, rfl⟩
      obtain ⟨o1, po1, q1, d1, gd1⟩ : ∃ o, ops[1]? = some o ∧ o.op = .load 23 (.tmp 6) ∧ o.dst = some 49 ∧ o.guard = none := ⟨_, by rw [hops]; rfl, rfl, rfl, rfl⟩
      obtain ⟨o2, po2, q2, d2, gd2⟩ : ∃ o, ops[2]? = some o ∧ o.op = .call { callee := .value (.func 19), args := #[.tmp 48, .tmp 49], argTypes := #[23, 23] } ∧ o.dst = some 50 ∧ o.guard = none := ⟨_, by rw [hops]; rfl, rfl, rfl, rfl⟩
      obtain ⟨o3, po3, q3, d3, gd3⟩ : ∃ o, ops[3]? = some o ∧ o.op = .move (.tmp 50) ∧ o.dst = some 51 ∧ o.guard = none := ⟨_, by rw [hops]; rfl, rfl, rfl, rfl⟩
      obtain ⟨o4, po4, q4, d4, gd4⟩ : ∃ o, ops[4]? = some o ∧ o.op = .load 23 (.tmp 6) ∧ o.dst = some 52 ∧ o.guard = some (3, true) := ⟨_, by rw [hops]; rfl, rfl, rfl, rfl⟩
      obtain ⟨o5, po5, q5, d5, gd5⟩ : ∃ o, ops[5]? = some o ∧ o.op = .load 23 (.tmp 5) ∧ o.dst = some 53 ∧ o.guard = some (3, true) := ⟨_, by rw [hops]; rfl, rfl, rfl, rfl⟩
      obtain ⟨o6, po6, q6, d6, gd6⟩ : ∃ o, ops[6]? = some o ∧ o.op = .call { callee := .value (.func 19), args := #[.tmp 52, .tmp 53], argTypes := #[23, 23] } ∧ o.dst = some 54 ∧ o.guard = some (3, true) := ⟨_, by rw [hops]; rfl, rfl, rfl, rfl⟩
      obtain ⟨o7, po7, q7, d7, gd7⟩ : ∃ o, ops[7]? = some o ∧ o.op = .pick (.tmp 51) (.tmp 54) (.const (.bool false)) ∧ o.dst = some 55 ∧ o.guard = none := ⟨_, by rw [hops]; rfl, rfl, rfl, rfl⟩
      obtain ⟨o8, po8, q8, d8, gd8⟩ : ∃ o, ops[8]? = some o ∧ o.op = .move (.tmp 55) ∧ o.dst = some 56 ∧ o.guard = none := ⟨_, by rw [hops]; rfl, rfl, rfl, rfl⟩
      obtain ⟨o9, po9, q9, d9, gd9⟩ : ∃ o, ops[9]? = some o ∧ o.op = .load 23 (.tmp 5) ∧ o.dst = some 57 ∧ o.guard = some (8, true) := ⟨_, by rw [hops]; rfl, rfl, rfl, rfl⟩
      obtain ⟨o10, po10, q10, d10, gd10⟩ : ∃ o, ops[10]? = some o ∧ o.op = .move (.tmp 3) ∧ o.dst = some 58 ∧ o.guard = some (8, true) := ⟨_, by rw [hops]; rfl, rfl, rfl, rfl⟩
      obtain ⟨o11, po11, q11, d11, gd11⟩ : ∃ o, ops[11]? = some o ∧ o.op = .move (.tmp 4) ∧ o.dst = some 59 ∧ o.guard = some (8, true) := ⟨_, by rw [hops]; rfl, rfl, rfl, rfl⟩
      obtain ⟨o12, po12, q12, d12, gd12⟩ : ∃ o, ops[12]? = some o ∧ o.op = .call { callee := .value (.func 15), args := #[.tmp 57, .tmp 58, .tmp 59], argTypes := #[23, 3, 9] } ∧ o.dst = some 60 ∧ o.guard = some (8, true) := ⟨_, by rw [hops]; rfl, rfl, rfl, rfl⟩
      obtain ⟨o13, po13, q13, d13, gd13⟩ : ∃ o, ops[13]? = some o ∧ o.op = .load 23 (.tmp 6) ∧ o.dst = some 61 ∧ o.guard = some (8, true) := ⟨_, by rw [hops]; rfl, rfl, rfl, rfl⟩
      obtain ⟨o14, po14, q14, d14, gd14⟩ : ∃ o, ops[14]? = some o ∧ o.op = .move (.tmp 3) ∧ o.dst = some 62 ∧ o.guard = some (8, true) := ⟨_, by rw [hops]; rfl, rfl, rfl, rfl⟩
      obtain ⟨o15, po15, q15, d15, gd15⟩ : ∃ o, ops[15]? = some o ∧ o.op = .move (.tmp 4) ∧ o.dst = some 63 ∧ o.guard = some (8, true) := ⟨_, by rw [hops]; rfl, rfl, rfl, rfl⟩
      obtain ⟨o16, po16, q16, d16, gd16⟩ : ∃ o, ops[16]? = some o ∧ o.op = .call { callee := .value (.func 15), args := #[.tmp 61, .tmp 62, .tmp 63], argTypes := #[23, 3, 9] } ∧ o.dst = some 64 ∧ o.guard = some (8, true) := ⟨_, by rw [hops]; rfl, rfl, rfl, rfl⟩
      obtain ⟨o17, po17, q17, d17, gd17⟩ : ∃ o, ops[17]? = some o ∧ o.op = .binOp .neq 4 (.tmp 60) (.tmp 64) 4 ∧ o.dst = some 65 ∧ o.guard = some (8, true) := ⟨_, by rw [hops]; rfl, rfl, rfl, rfl⟩
      obtain ⟨o18, po18, q18, d18, gd18⟩ : ∃ o, ops[18]? = some o ∧ o.op = .pick (.tmp 56) (.tmp 65) (.const (.bool false)) ∧ o.dst = some 66 ∧ o.guard = none := ⟨_, by rw [hops]; rfl, rfl, rfl, rfl⟩
      clear hops
      refine met_free po0 d0 (wanted_of gd0) (fun w' h' => run_loadBlk q0 base5 h'.one (by kernel_rfl) (size_grant _)) ?_
      refine met_free po1 d1 (wanted_of gd1) (fun w' h' => run_loadBlk q1 ((eval_other _ 48 6 _ (by decide)).trans base6) h'.two (by kernel_rfl) (size_grant _)) ?_
      refine m_enter po2 d2 (wanted_of gd2) (run_callf2 q2 rfl ((eval_other _ 49 48 _ (by decide)).trans (eval_same _ _ _ (by rw [hsz]; decide))) (eval_same _ _ _ (by simp only [put_size, hsz]; decide)) Try.func19 (by kernel_rfl) _) ((VAB.out ▸ NAB.out _ : Calls _ _ _ _ (ReturnsG true _))) ?_
      rintro e w7_1 ⟨rfl, hb⟩
      have HSw7_1 := Lib.hid ((HG6.out.step (Below.refl _ _).drew).step hb)
      clear hb
      refine ⟨_, rfl, HSw7_1.out, ?_⟩
      refine met_free po3 d3 (wanted_of gd3) (fun w' h' => run_move q3 (eval_same _ _ _ (by simp only [put_size, hsz]; decide)) w') ?_
      refine met_free po4 d4 (wanted_guard gd4 po3 d3 (eval_same _ _ _ (by simp only [put_size, hsz]; decide))) (fun w' h' => run_loadBlk q4 ((eval_other _ 51 6 _ (by decide)).trans ((eval_other _ 50 6 _ (by decide)).trans ((eval_other _ 49 6 _ (by decide)).trans ((eval_other _ 48 6 _ (by decide)).trans base6)))) h'.two (by kernel_rfl) (size_grant _)) ?_
      refine met_free po5 d5 (wanted_guard gd5 po3 d3 ((eval_other _ 52 51 _ (by decide)).trans (eval_same _ _ _ (by simp only [put_size, hsz]; decide)))) (fun w' h' => run_loadBlk q5 ((eval_other _ 52 5 _ (by decide)).trans ((eval_other _ 51 5 _ (by decide)).trans ((eval_other _ 50 5 _ (by decide)).trans ((eval_other _ 49 5 _ (by decide)).trans ((eval_other _ 48 5 _ (by decide)).trans base5))))) h'.one (by kernel_rfl) (size_grant _)) ?_
      refine m_enter po6 d6 (wanted_guard gd6 po3 d3 ((eval_other _ 53 51 _ (by decide)).trans ((eval_other _ 52 51 _ (by decide)).trans (eval_same _ _ _ (by simp only [put_size, hsz]; decide))))) (run_callf2 q6 rfl ((eval_other _ 53 52 _ (by decide)).trans (eval_same _ _ _ (by simp only [put_size, hsz]; decide))) (eval_same _ _ _ (by simp only [put_size, hsz]; decide)) Try.func19 (by kernel_rfl) _) ((VBA.out ▸ NBA.out _ : Calls _ _ _ _ (ReturnsG true _))) ?_
      rintro e w7_2 ⟨rfl, hb⟩
      have HSw7_2 := Lib.hid (HSw7_1.out.step hb)
      clear hb
      refine ⟨_, rfl, HSw7_2.out, ?_⟩
      refine met_free po7 d7 (wanted_of gd7) (fun w' h' => run_pick_true q7 ((eval_other _ 54 51 _ (by decide)).trans ((eval_other _ 53 51 _ (by decide)).trans ((eval_other _ 52 51 _ (by decide)).trans (eval_same _ _ _ (by simp only [put_size, hsz]; decide))))) (eval_same _ _ _ (by simp only [put_size, hsz]; decide)) w') ?_
      refine met_free po8 d8 (wanted_of gd8) (fun w' h' => run_move q8 (eval_same _ _ _ (by simp only [put_size, hsz]; decide)) w') ?_
      refine met_free po9 d9 (wanted_guard gd9 po8 d8 (eval_same _ _ _ (by simp only [put_size, hsz]; decide))) (fun w' h' => run_loadBlk q9 ((eval_other _ 56 5 _ (by decide)).trans ((eval_other _ 55 5 _ (by decide)).trans ((eval_other _ 54 5 _ (by decide)).trans ((eval_other _ 53 5 _ (by decide)).trans ((eval_other _ 52 5 _ (by decide)).trans ((eval_other _ 51 5 _ (by decide)).trans ((eval_other _ 50 5 _ (by decide)).trans ((eval_other _ 49 5 _ (by decide)).trans ((eval_other _ 48 5 _ (by decide)).trans base5))))))))) h'.one (by kernel_rfl) (size_grant _)) ?_
      refine met_free po10 d10 (wanted_guard gd10 po8 d8 ((eval_other _ 57 56 _ (by decide)).trans (eval_same _ _ _ (by simp only [put_size, hsz]; decide)))) (fun w' h' => run_move q10 ((eval_other _ 57 3 _ (by decide)).trans ((eval_other _ 56 3 _ (by decide)).trans ((eval_other _ 55 3 _ (by decide)).trans ((eval_other _ 54 3 _ (by decide)).trans ((eval_other _ 53 3 _ (by decide)).trans ((eval_other _ 52 3 _ (by decide)).trans ((eval_other _ 51 3 _ (by decide)).trans ((eval_other _ 50 3 _ (by decide)).trans ((eval_other _ 49 3 _ (by decide)).trans ((eval_other _ 48 3 _ (by decide)).trans base3)))))))))) w') ?_
      refine met_free po11 d11 (wanted_guard gd11 po8 d8 ((eval_other _ 58 56 _ (by decide)).trans ((eval_other _ 57 56 _ (by decide)).trans (eval_same _ _ _ (by simp only [put_size, hsz]; decide))))) (fun w' h' => run_move q11 ((eval_other _ 58 4 _ (by decide)).trans ((eval_other _ 57 4 _ (by decide)).trans ((eval_other _ 56 4 _ (by decide)).trans ((eval_other _ 55 4 _ (by decide)).trans ((eval_other _ 54 4 _ (by decide)).trans ((eval_other _ 53 4 _ (by decide)).trans ((eval_other _ 52 4 _ (by decide)).trans ((eval_other _ 51 4 _ (by decide)).trans ((eval_other _ 50 4 _ (by decide)).trans ((eval_other _ 49 4 _ (by decide)).trans ((eval_other _ 48 4 _ (by decide)).trans base4))))))))))) w') ?_
      refine met_free po13 d13 (wanted_guard gd13 po8 d8 ((eval_other _ 59 56 _ (by decide)).trans ((eval_other _ 58 56 _ (by decide)).trans ((eval_other _ 57 56 _ (by decide)).trans (eval_same _ _ _ (by simp only [put_size, hsz]; decide)))))) (fun w' h' => run_loadBlk q13 ((eval_other _ 59 6 _ (by decide)).trans ((eval_other _ 58 6 _ (by decide)).trans ((eval_other _ 57 6 _ (by decide)).trans ((eval_other _ 56 6 _ (by decide)).trans ((eval_other _ 55 6 _ (by decide)).trans ((eval_other _ 54 6 _ (by decide)).trans ((eval_other _ 53 6 _ (by decide)).trans ((eval_other _ 52 6 _ (by decide)).trans ((eval_other _ 51 6 _ (by decide)).trans ((eval_other _ 50 6 _ (by decide)).trans ((eval_other _ 49 6 _ (by decide)).trans ((eval_other _ 48 6 _ (by decide)).trans base6)))))))))))) h'.two (by kernel_rfl) (size_grant _)) ?_
      refine met_free po14 d14 (wanted_guard gd14 po8 d8 ((eval_other _ 61 56 _ (by decide)).trans ((eval_other _ 59 56 _ (by decide)).trans ((eval_other _ 58 56 _ (by decide)).trans ((eval_other _ 57 56 _ (by decide)).trans (eval_same _ _ _ (by simp only [put_size, hsz]; decide))))))) (fun w' h' => run_move q14 ((eval_other _ 61 3 _ (by decide)).trans ((eval_other _ 59 3 _ (by decide)).trans ((eval_other _ 58 3 _ (by decide)).trans ((eval_other _ 57 3 _ (by decide)).trans ((eval_other _ 56 3 _ (by decide)).trans ((eval_other _ 55 3 _ (by decide)).trans ((eval_other _ 54 3 _ (by decide)).trans ((eval_other _ 53 3 _ (by decide)).trans ((eval_other _ 52 3 _ (by decide)).trans ((eval_other _ 51 3 _ (by decide)).trans ((eval_other _ 50 3 _ (by decide)).trans ((eval_other _ 49 3 _ (by decide)).trans ((eval_other _ 48 3 _ (by decide)).trans base3))))))))))))) w') ?_
      refine met_free po15 d15 (wanted_guard gd15 po8 d8 ((eval_other _ 62 56 _ (by decide)).trans ((eval_other _ 61 56 _ (by decide)).trans ((eval_other _ 59 56 _ (by decide)).trans ((eval_other _ 58 56 _ (by decide)).trans ((eval_other _ 57 56 _ (by decide)).trans (eval_same _ _ _ (by simp only [put_size, hsz]; decide)))))))) (fun w' h' => run_move q15 ((eval_other _ 62 4 _ (by decide)).trans ((eval_other _ 61 4 _ (by decide)).trans ((eval_other _ 59 4 _ (by decide)).trans ((eval_other _ 58 4 _ (by decide)).trans ((eval_other _ 57 4 _ (by decide)).trans ((eval_other _ 56 4 _ (by decide)).trans ((eval_other _ 55 4 _ (by decide)).trans ((eval_other _ 54 4 _ (by decide)).trans ((eval_other _ 53 4 _ (by decide)).trans ((eval_other _ 52 4 _ (by decide)).trans ((eval_other _ 51 4 _ (by decide)).trans ((eval_other _ 50 4 _ (by decide)).trans ((eval_other _ 49 4 _ (by decide)).trans ((eval_other _ 48 4 _ (by decide)).trans base4)))))))))))))) w') ?_
      refine m_enter po12 d12 (wanted_guard gd12 po8 d8 ((eval_other _ 63 56 _ (by decide)).trans ((eval_other _ 62 56 _ (by decide)).trans ((eval_other _ 61 56 _ (by decide)).trans ((eval_other _ 59 56 _ (by decide)).trans ((eval_other _ 58 56 _ (by decide)).trans ((eval_other _ 57 56 _ (by decide)).trans (eval_same _ _ _ (by simp only [put_size, hsz]; decide))))))))) (run_callf3 q12 rfl ((eval_other _ 63 57 _ (by decide)).trans ((eval_other _ 62 57 _ (by decide)).trans ((eval_other _ 61 57 _ (by decide)).trans ((eval_other _ 59 57 _ (by decide)).trans ((eval_other _ 58 57 _ (by decide)).trans (eval_same _ _ _ (by simp only [put_size, hsz]; decide))))))) ((eval_other _ 63 58 _ (by decide)).trans ((eval_other _ 62 58 _ (by decide)).trans ((eval_other _ 61 58 _ (by decide)).trans ((eval_other _ 59 58 _ (by decide)).trans (eval_same _ _ _ (by simp only [put_size, hsz]; decide)))))) ((eval_other _ 63 59 _ (by decide)).trans ((eval_other _ 62 59 _ (by decide)).trans ((eval_other _ 61 59 _ (by decide)).trans (eval_same _ _ _ (by simp only [put_size, hsz]; decide))))) Try.func15 (by kernel_rfl) _) (HCA.out _) ?_
      rintro e w7_3 ⟨rfl, hb⟩
      have HSw7_3 := Lib.hid (HSw7_2.out.step hb)
      clear hb
      refine ⟨_, rfl, HSw7_3.out, ?_⟩
      refine m_enter po16 d16 (wanted_guard gd16 po8 d8 ((eval_other _ 60 56 _ (by decide)).trans ((eval_other _ 63 56 _ (by decide)).trans ((eval_other _ 62 56 _ (by decide)).trans ((eval_other _ 61 56 _ (by decide)).trans ((eval_other _ 59 56 _ (by decide)).trans ((eval_other _ 58 56 _ (by decide)).trans ((eval_other _ 57 56 _ (by decide)).trans (eval_same _ _ _ (by simp only [put_size, hsz]; decide)))))))))) (run_callf3 q16 rfl ((eval_other _ 60 61 _ (by decide)).trans ((eval_other _ 63 61 _ (by decide)).trans ((eval_other _ 62 61 _ (by decide)).trans (eval_same _ _ _ (by simp only [put_size, hsz]; decide))))) ((eval_other _ 60 62 _ (by decide)).trans ((eval_other _ 63 62 _ (by decide)).trans (eval_same _ _ _ (by simp only [put_size, hsz]; decide)))) ((eval_other _ 60 63 _ (by decide)).trans (eval_same _ _ _ (by simp only [put_size, hsz]; decide))) Try.func15 (by kernel_rfl) _) ((VCC.out ▸ HCB.out _ : Calls _ _ _ _ (ReturnsG (coversM a r s) _))) ?_
      rintro e w7_4 ⟨rfl, hb⟩
      have HSw7_4 := Lib.hid (HSw7_3.out.step hb)
      clear hb
      refine ⟨_, rfl, HSw7_4.out, ?_⟩
      refine met_free po17 d17 (wanted_guard gd17 po8 d8 ((eval_other _ 64 56 _ (by decide)).trans ((eval_other _ 60 56 _ (by decide)).trans ((eval_other _ 63 56 _ (by decide)).trans ((eval_other _ 62 56 _ (by decide)).trans ((eval_other _ 61 56 _ (by decide)).trans ((eval_other _ 59 56 _ (by decide)).trans ((eval_other _ 58 56 _ (by decide)).trans ((eval_other _ 57 56 _ (by decide)).trans (eval_same _ _ _ (by simp only [put_size, hsz]; decide))))))))))) (fun w' h' => r_neB q17 ((eval_other _ 64 60 _ (by decide)).trans (eval_same _ _ _ (by simp only [put_size, hsz]; decide))) (eval_same _ _ _ (by simp only [put_size, hsz]; decide)) w') ?_
      refine met_free po18 d18 (wanted_of gd18) (fun w' h' => run_pick_true q18 ((eval_other _ 65 56 _ (by decide)).trans ((eval_other _ 64 56 _ (by decide)).trans ((eval_other _ 60 56 _ (by decide)).trans ((eval_other _ 63 56 _ (by decide)).trans ((eval_other _ 62 56 _ (by decide)).trans ((eval_other _ 61 56 _ (by decide)).trans ((eval_other _ 59 56 _ (by decide)).trans ((eval_other _ 58 56 _ (by decide)).trans ((eval_other _ 57 56 _ (by decide)).trans (eval_same _ _ _ (by simp only [put_size, hsz]; decide))))))))))) (eval_same _ _ _ (by simp only [put_size, hsz]; decide)) w') ?_
      show NoPanic _ .normal _ _
      refine NoPanic.normal ?_
      rw [HAA.out]
      go_frame
      clear HAA
      clear po0 q0 d0 gd0 po1 q1 d1 gd1 po2 q2 d2 gd2 po3 q3 d3 gd3 po4 q4 d4 gd4 po5 q5 d5 gd5 po6 q6 d6 gd6 po7 q7 d7 gd7 po8 q8 d8 gd8 po9 q9 d9 gd9 po10 q10 d10 gd10 po11 q11 d11 gd11 po12 q12 d12 gd12 po13 q13 d13 gd13 po14 q14 d14 gd14 po15 q15 d15 gd15 po16 q16 d16 gd16 po17 q17 d17 gd17 po18 q18 d18 gd18
      clear base3 base4 base5 base6 base7 hsz
      go_wp2_with fail
      refine (HKN.out _).mono ?_
      rintro e w99 ⟨rfl, hb⟩
      have HB9 := Lib.hid (HSw7_4.out.below.trans (hb.mono HSw7_4.out.below.size))
      clear hb
      go_wp2_with fail
      go_ret
      exact ⟨rfl, HB9.out⟩
    · skip
      go_wp2_with (first | (show wpList _ _ _ (⟨_, .call { callee := .builtin .max, args := _, argTypes := _ }, _, _, _, _⟩ :: _) _ _; refine wpList_run (by rfl) (run_max4 rfl rfl rfl rfl rfl HM.out _) ?_) | (show wpList _ _ _ (⟨_, .load 23 (.tmp 5), _, _, _, _⟩ :: _) _ _; refine wpList_run (by rfl) (run_loadBlk rfl rfl HG1.out.one (by kernel_rfl) (size_grant _)) ?_))
      refine (CHK2.out _).mono ?_
      rintro e w2 ⟨rfl, hb⟩
      have HG2 := Lib.hid (HG1.out.step hb)
      clear hb
      go_wp2_with (first | (show wpList _ _ _ (⟨_, .load 23 (.tmp 5), _, _, _, _⟩ :: _) _ _; refine wpList_run (by rfl) (run_loadBlk rfl rfl HG2.out.one (by kernel_rfl) (size_grant _)) ?_) | (show wpList _ _ _ (⟨_, .load 23 (.tmp 6), _, _, _, _⟩ :: _) _ _; refine wpList_run (by rfl) (run_loadBlk rfl rfl HG2.out.two (by kernel_rfl) (size_grant _)) ?_))
      refine (NAB.out _).mono ?_
      rw [VAB.out]
      rintro e w3 ⟨rfl, hb⟩
      have HG3 := Lib.hid (HG2.out.step hb)
      clear hb
      go_wp2_with (first | (show wpList _ _ _ (⟨_, .load 23 (.tmp 6), _, _, _, _⟩ :: _) _ _; refine wpList_run (by rfl) (run_loadBlk rfl rfl HG3.out.two (by kernel_rfl) (size_grant _)) ?_) | (show wpList _ _ _ (⟨_, .load 23 (.tmp 7), _, _, _, _⟩ :: _) _ _; refine wpList_run (by rfl) (run_loadBlk rfl rfl HG3.out.three (by kernel_rfl) (size_grant _)) ?_))
      refine (NBC.out _).mono ?_
      rw [VBC.out]
      rintro e w4 ⟨rfl, hb⟩
      have HG4 := Lib.hid (HG3.out.step hb)
      clear hb
      go_wp2_with (first | (show wpList _ _ _ (⟨_, .load 23 (.tmp 5), _, _, _, _⟩ :: _) _ _; refine wpList_run (by rfl) (run_loadBlk rfl rfl HG4.out.one (by kernel_rfl) (size_grant _)) ?_) | (show wpList _ _ _ (⟨_, .load 23 (.tmp 7), _, _, _, _⟩ :: _) _ _; refine wpList_run (by rfl) (run_loadBlk rfl rfl HG4.out.three (by kernel_rfl) (size_grant _)) ?_))
      refine (NAC.out _).mono ?_
      rw [VAC.out]
      rintro e w5 ⟨rfl, hb⟩
      have HG5 := Lib.hid (HG4.out.step hb)
      clear hb
      go_upto_region 7 with (fail)
      refine region_phase (fun wr => Gr3 w.heap.size (w.heap.size + 1) (w.heap.size + 2) a b c w wr) (fun _ => True) 99 (HG5.out.step (Below.refl _ _).drew) trivial [(0, .free), (1, .free), (2, .behind), (3, .free), (4, .free), (5, .free), (6, .behind), (7, .free), (8, .free), (9, .free), (10, .free), (11, .free), (13, .free), (14, .free), (15, .free), (12, .behind), (16, .behind), (17, .free), (18, .free)] (by kernel_rfl) (by kernel_rfl) (by kernel_rfl) (by kernel_rfl) (fun ops hops A hA => ?_)
      have hsz : A.tmps.size = 68 := by rw [hA]; rfl
      have base3 : A.eval (.tmp 3) = .int .i64 r := by rw [hA]; rfl
      have base4 : A.eval (.tmp 4) = .string s := by rw [hA]; rfl
      have base5 : A.eval (.tmp 5) = .pointer (some ⟨w.heap.size, 0, none⟩) := by rw [hA]; rfl
      have base6 : A.eval (.tmp 6) = .pointer (some ⟨w.heap.size + 1, 0, none⟩) := by rw [hA]; rfl
      have base7 : A.eval (.tmp 7) = .pointer (some ⟨w.heap.size + 2, 0, none⟩) := by rw [hA]; rfl
      have HAA := Lib.hid hA; clear hA
      obtain ⟨o0, po0, q0, d0, gd0⟩ : ∃ o, ops[0]? = some o ∧ o.op = .load 23 (.tmp 5) ∧ o.dst = some 48 ∧ o.guard = none := ⟨_, by rw [hops]; rfl, rfl, rfl, rfl⟩
      obtain ⟨o1, po1, q1, d1, gd1⟩ : ∃ o, ops[1]? = some o ∧ o.op = .load 23 (.tmp 6) ∧ o.dst = some 49 ∧ o.guard = none := ⟨_, by rw [hops]; rfl, rfl, rfl, rfl⟩
      obtain ⟨o2, po2, q2, d2, gd2⟩ : ∃ o, ops[2]? = some o ∧ o.op = .call { callee := .value (.func 19), args := #[.tmp 48, .tmp 49], argTypes := #[23, 23] } ∧ o.dst = some 50 ∧ o.guard = none := ⟨_, by rw [hops]; rfl, rfl, rfl, rfl⟩
      obtain ⟨o3, po3, q3, d3, gd3⟩ : ∃ o, ops[3]? = some o ∧ o.op = .move (.tmp 50) ∧ o.dst = some 51 ∧ o.guard = none := ⟨_, by rw [hops]; rfl, rfl, rfl, rfl⟩
      obtain ⟨o4, po4, q4, d4, gd4⟩ : ∃ o, ops[4]? = some o ∧ o.op = .load 23 (.tmp 6) ∧ o.dst = some 52 ∧ o.guard = some (3, true) := ⟨_, by rw [hops]; rfl, rfl, rfl, rfl⟩
      obtain ⟨o5, po5, q5, d5, gd5⟩ : ∃ o, ops[5]? = some o ∧ o.op = .load 23 (.tmp 5) ∧ o.dst = some 53 ∧ o.guard = some (3, true) := ⟨_, by rw [hops]; rfl, rfl, rfl, rfl⟩
      obtain ⟨o6, po6, q6, d6, gd6⟩ : ∃ o, ops[6]? = some o ∧ o.op = .call { callee := .value (.func 19), args := #[.tmp 52, .tmp 53], argTypes := #[23, 23] } ∧ o.dst = some 54 ∧ o.guard = some (3, true) := ⟨_, by rw [hops]; rfl, rfl, rfl, rfl⟩
      obtain ⟨o7, po7, q7, d7, gd7⟩ : ∃ o, ops[7]? = some o ∧ o.op = .pick (.tmp 51) (.tmp 54) (.const (.bool false)) ∧ o.dst = some 55 ∧ o.guard = none := ⟨_, by rw [hops]; rfl, rfl, rfl, rfl⟩
      obtain ⟨o8, po8, q8, d8, gd8⟩ : ∃ o, ops[8]? = some o ∧ o.op = .move (.tmp 55) ∧ o.dst = some 56 ∧ o.guard = none := ⟨_, by rw [hops]; rfl, rfl, rfl, rfl⟩
      obtain ⟨o9, po9, q9, d9, gd9⟩ : ∃ o, ops[9]? = some o ∧ o.op = .load 23 (.tmp 5) ∧ o.dst = some 57 ∧ o.guard = some (8, true) := ⟨_, by rw [hops]; rfl, rfl, rfl, rfl⟩
      obtain ⟨o10, po10, q10, d10, gd10⟩ : ∃ o, ops[10]? = some o ∧ o.op = .move (.tmp 3) ∧ o.dst = some 58 ∧ o.guard = some (8, true) := ⟨_, by rw [hops]; rfl, rfl, rfl, rfl⟩
      obtain ⟨o11, po11, q11, d11, gd11⟩ : ∃ o, ops[11]? = some o ∧ o.op = .move (.tmp 4) ∧ o.dst = some 59 ∧ o.guard = some (8, true) := ⟨_, by rw [hops]; rfl, rfl, rfl, rfl⟩
      obtain ⟨o12, po12, q12, d12, gd12⟩ : ∃ o, ops[12]? = some o ∧ o.op = .call { callee := .value (.func 15), args := #[.tmp 57, .tmp 58, .tmp 59], argTypes := #[23, 3, 9] } ∧ o.dst = some 60 ∧ o.guard = some (8, true) := ⟨_, by rw [hops]; rfl, rfl, rfl, rfl⟩
      obtain ⟨o13, po13, q13, d13, gd13⟩ : ∃ o, ops[13]? = some o ∧ o.op = .load 23 (.tmp 6) ∧ o.dst = some 61 ∧ o.guard = some (8, true) := ⟨_, by rw [hops]; rfl, rfl, rfl, rfl⟩
      obtain ⟨o14, po14, q14, d14, gd14⟩ : ∃ o, ops[14]? = some o ∧ o.op = .move (.tmp 3) ∧ o.dst = some 62 ∧ o.guard = some (8, true) := ⟨_, by rw [hops]; rfl, rfl, rfl, rfl⟩
      obtain ⟨o15, po15, q15, d15, gd15⟩ : ∃ o, ops[15]? = some o ∧ o.op = .move (.tmp 4) ∧ o.dst = some 63 ∧ o.guard = some (8, true) := ⟨_, by rw [hops]; rfl, rfl, rfl, rfl⟩
      obtain ⟨o16, po16, q16, d16, gd16⟩ : ∃ o, ops[16]? = some o ∧ o.op = .call { callee := .value (.func 15), args := #[.tmp 61, .tmp 62, .tmp 63], argTypes := #[23, 3, 9] } ∧ o.dst = some 64 ∧ o.guard = some (8, true) := ⟨_, by rw [hops]; rfl, rfl, rfl, rfl⟩
      obtain ⟨o17, po17, q17, d17, gd17⟩ : ∃ o, ops[17]? = some o ∧ o.op = .binOp .neq 4 (.tmp 60) (.tmp 64) 4 ∧ o.dst = some 65 ∧ o.guard = some (8, true) := ⟨_, by rw [hops]; rfl, rfl, rfl, rfl⟩
      obtain ⟨o18, po18, q18, d18, gd18⟩ : ∃ o, ops[18]? = some o ∧ o.op = .pick (.tmp 56) (.tmp 65) (.const (.bool false)) ∧ o.dst = some 66 ∧ o.guard = none := ⟨_, by rw [hops]; rfl, rfl, rfl, rfl⟩
      clear hops
      refine met_free po0 d0 (wanted_of gd0) (fun w' h' => run_loadBlk q0 base5 h'.one (by kernel_rfl) (size_grant _)) ?_
      refine met_free po1 d1 (wanted_of gd1) (fun w' h' => run_loadBlk q1 ((eval_other _ 48 6 _ (by decide)).trans base6) h'.two (by kernel_rfl) (size_grant _)) ?_
      refine m_enter po2 d2 (wanted_of gd2) (run_callf2 q2 rfl ((eval_other _ 49 48 _ (by decide)).trans (eval_same _ _ _ (by rw [hsz]; decide))) (eval_same _ _ _ (by simp only [put_size, hsz]; decide)) Try.func19 (by kernel_rfl) _) ((VAB.out ▸ NAB.out _ : Calls _ _ _ _ (ReturnsG true _))) ?_
      rintro e w7_1 ⟨rfl, hb⟩
      have HSw7_1 := Lib.hid ((HG5.out.step (Below.refl _ _).drew).step hb)
      clear hb
      refine ⟨_, rfl, HSw7_1.out, ?_⟩
      refine met_free po3 d3 (wanted_of gd3) (fun w' h' => run_move q3 (eval_same _ _ _ (by simp only [put_size, hsz]; decide)) w') ?_
      refine met_free po4 d4 (wanted_guard gd4 po3 d3 (eval_same _ _ _ (by simp only [put_size, hsz]; decide))) (fun w' h' => run_loadBlk q4 ((eval_other _ 51 6 _ (by decide)).trans ((eval_other _ 50 6 _ (by decide)).trans ((eval_other _ 49 6 _ (by decide)).trans ((eval_other _ 48 6 _ (by decide)).trans base6)))) h'.two (by kernel_rfl) (size_grant _)) ?_
      refine met_free po5 d5 (wanted_guard gd5 po3 d3 ((eval_other _ 52 51 _ (by decide)).trans (eval_same _ _ _ (by simp only [put_size, hsz]; decide)))) (fun w' h' => run_loadBlk q5 ((eval_other _ 52 5 _ (by decide)).trans ((eval_other _ 51 5 _ (by decide)).trans ((eval_other _ 50 5 _ (by decide)).trans ((eval_other _ 49 5 _ (by decide)).trans ((eval_other _ 48 5 _ (by decide)).trans base5))))) h'.one (by kernel_rfl) (size_grant _)) ?_
      refine m_enter po6 d6 (wanted_guard gd6 po3 d3 ((eval_other _ 53 51 _ (by decide)).trans ((eval_other _ 52 51 _ (by decide)).trans (eval_same _ _ _ (by simp only [put_size, hsz]; decide))))) (run_callf2 q6 rfl ((eval_other _ 53 52 _ (by decide)).trans (eval_same _ _ _ (by simp only [put_size, hsz]; decide))) (eval_same _ _ _ (by simp only [put_size, hsz]; decide)) Try.func19 (by kernel_rfl) _) ((VBA.out ▸ NBA.out _ : Calls _ _ _ _ (ReturnsG true _))) ?_
      rintro e w7_2 ⟨rfl, hb⟩
      have HSw7_2 := Lib.hid (HSw7_1.out.step hb)
      clear hb
      refine ⟨_, rfl, HSw7_2.out, ?_⟩
      refine met_free po7 d7 (wanted_of gd7) (fun w' h' => run_pick_true q7 ((eval_other _ 54 51 _ (by decide)).trans ((eval_other _ 53 51 _ (by decide)).trans ((eval_other _ 52 51 _ (by decide)).trans (eval_same _ _ _ (by simp only [put_size, hsz]; decide))))) (eval_same _ _ _ (by simp only [put_size, hsz]; decide)) w') ?_
      refine met_free po8 d8 (wanted_of gd8) (fun w' h' => run_move q8 (eval_same _ _ _ (by simp only [put_size, hsz]; decide)) w') ?_
      refine met_free po9 d9 (wanted_guard gd9 po8 d8 (eval_same _ _ _ (by simp only [put_size, hsz]; decide))) (fun w' h' => run_loadBlk q9 ((eval_other _ 56 5 _ (by decide)).trans ((eval_other _ 55 5 _ (by decide)).trans ((eval_other _ 54 5 _ (by decide)).trans ((eval_other _ 53 5 _ (by decide)).trans ((eval_other _ 52 5 _ (by decide)).trans ((eval_other _ 51 5 _ (by decide)).trans ((eval_other _ 50 5 _ (by decide)).trans ((eval_other _ 49 5 _ (by decide)).trans ((eval_other _ 48 5 _ (by decide)).trans base5))))))))) h'.one (by kernel_rfl) (size_grant _)) ?_
      refine met_free po10 d10 (wanted_guard gd10 po8 d8 ((eval_other _ 57 56 _ (by decide)).trans (eval_same _ _ _ (by simp only [put_size, hsz]; decide)))) (fun w' h' => run_move q10 ((eval_other _ 57 3 _ (by decide)).trans ((eval_other _ 56 3 _ (by decide)).trans ((eval_other _ 55 3 _ (by decide)).trans ((eval_other _ 54 3 _ (by decide)).trans ((eval_other _ 53 3 _ (by decide)).trans ((eval_other _ 52 3 _ (by decide)).trans ((eval_other _ 51 3 _ (by decide)).trans ((eval_other _ 50 3 _ (by decide)).trans ((eval_other _ 49 3 _ (by decide)).trans ((eval_other _ 48 3 _ (by decide)).trans base3)))))))))) w') ?_
      refine met_free po11 d11 (wanted_guard gd11 po8 d8 ((eval_other _ 58 56 _ (by decide)).trans ((eval_other _ 57 56 _ (by decide)).trans (eval_same _ _ _ (by simp only [put_size, hsz]; decide))))) (fun w' h' => run_move q11 ((eval_other _ 58 4 _ (by decide)).trans ((eval_other _ 57 4 _ (by decide)).trans ((eval_other _ 56 4 _ (by decide)).trans ((eval_other _ 55 4 _ (by decide)).trans ((eval_other _ 54 4 _ (by decide)).trans ((eval_other _ 53 4 _ (by decide)).trans ((eval_other _ 52 4 _ (by decide)).trans ((eval_other _ 51 4 _ (by decide)).trans ((eval_other _ 50 4 _ (by decide)).trans ((eval_other _ 49 4 _ (by decide)).trans ((eval_other _ 48 4 _ (by decide)).trans base4))))))))))) w') ?_
      refine met_free po13 d13 (wanted_guard gd13 po8 d8 ((eval_other _ 59 56 _ (by decide)).trans ((eval_other _ 58 56 _ (by decide)).trans ((eval_other _ 57 56 _ (by decide)).trans (eval_same _ _ _ (by simp only [put_size, hsz]; decide)))))) (fun w' h' => run_loadBlk q13 ((eval_other _ 59 6 _ (by decide)).trans ((eval_other _ 58 6 _ (by decide)).trans ((eval_other _ 57 6 _ (by decide)).trans ((eval_other _ 56 6 _ (by decide)).trans ((eval_other _ 55 6 _ (by decide)).trans ((eval_other _ 54 6 _ (by decide)).trans ((eval_other _ 53 6 _ (by decide)).trans ((eval_other _ 52 6 _ (by decide)).trans ((eval_other _ 51 6 _ (by decide)).trans ((eval_other _ 50 6 _ (by decide)).trans ((eval_other _ 49 6 _ (by decide)).trans ((eval_other _ 48 6 _ (by decide)).trans base6)))))))))))) h'.two (by kernel_rfl) (size_grant _)) ?_
      refine met_free po14 d14 (wanted_guard gd14 po8 d8 ((eval_other _ 61 56 _ (by decide)).trans ((eval_other _ 59 56 _ (by decide)).trans ((eval_other _ 58 56 _ (by decide)).trans ((eval_other _ 57 56 _ (by decide)).trans (eval_same _ _ _ (by simp only [put_size, hsz]; decide))))))) (fun w' h' => run_move q14 ((eval_other _ 61 3 _ (by decide)).trans ((eval_other _ 59 3 _ (by decide)).trans ((eval_other _ 58 3 _ (by decide)).trans ((eval_other _ 57 3 _ (by decide)).trans ((eval_other _ 56 3 _ (by decide)).trans ((eval_other _ 55 3 _ (by decide)).trans ((eval_other _ 54 3 _ (by decide)).trans ((eval_other _ 53 3 _ (by decide)).trans ((eval_other _ 52 3 _ (by decide)).trans ((eval_other _ 51 3 _ (by decide)).trans ((eval_other _ 50 3 _ (by decide)).trans ((eval_other _ 49 3 _ (by decide)).trans ((eval_other _ 48 3 _ (by decide)).trans base3))))))))))))) w') ?_
      refine met_free po15 d15 (wanted_guard gd15 po8 d8 ((eval_other _ 62 56 _ (by decide)).trans ((eval_other _ 61 56 _ (by decide)).trans ((eval_other _ 59 56 _ (by decide)).trans ((eval_other _ 58 56 _ (by decide)).trans ((eval_other _ 57 56 _ (by decide)).trans (eval_same _ _ _ (by simp only [put_size, hsz]; decide)))))))) (fun w' h' => run_move q15 ((eval_other _ 62 4 _ (by decide)).trans ((eval_other _ 61 4 _ (by decide)).trans ((eval_other _ 59 4 _ (by decide)).trans ((eval_other _ 58 4 _ (by decide)).trans ((eval_other _ 57 4 _ (by decide)).trans ((eval_other _ 56 4 _ (by decide)).trans ((eval_other _ 55 4 _ (by decide)).trans ((eval_other _ 54 4 _ (by decide)).trans ((eval_other _ 53 4 _ (by decide)).trans ((eval_other _ 52 4 _ (by decide)).trans ((eval_other _ 51 4 _ (by decide)).trans ((eval_other _ 50 4 _ (by decide)).trans ((eval_other _ 49 4 _ (by decide)).trans ((eval_other _ 48 4 _ (by decide)).trans base4)))))))))))))) w') ?_
      refine m_enter po12 d12 (wanted_guard gd12 po8 d8 ((eval_other _ 63 56 _ (by decide)).trans ((eval_other _ 62 56 _ (by decide)).trans ((eval_other _ 61 56 _ (by decide)).trans ((eval_other _ 59 56 _ (by decide)).trans ((eval_other _ 58 56 _ (by decide)).trans ((eval_other _ 57 56 _ (by decide)).trans (eval_same _ _ _ (by simp only [put_size, hsz]; decide))))))))) (run_callf3 q12 rfl ((eval_other _ 63 57 _ (by decide)).trans ((eval_other _ 62 57 _ (by decide)).trans ((eval_other _ 61 57 _ (by decide)).trans ((eval_other _ 59 57 _ (by decide)).trans ((eval_other _ 58 57 _ (by decide)).trans (eval_same _ _ _ (by simp only [put_size, hsz]; decide))))))) ((eval_other _ 63 58 _ (by decide)).trans ((eval_other _ 62 58 _ (by decide)).trans ((eval_other _ 61 58 _ (by decide)).trans ((eval_other _ 59 58 _ (by decide)).trans (eval_same _ _ _ (by simp only [put_size, hsz]; decide)))))) ((eval_other _ 63 59 _ (by decide)).trans ((eval_other _ 62 59 _ (by decide)).trans ((eval_other _ 61 59 _ (by decide)).trans (eval_same _ _ _ (by simp only [put_size, hsz]; decide))))) Try.func15 (by kernel_rfl) _) (HCA.out _) ?_
      rintro e w7_3 ⟨rfl, hb⟩
      have HSw7_3 := Lib.hid (HSw7_2.out.step hb)
      clear hb
      refine ⟨_, rfl, HSw7_3.out, ?_⟩
      refine m_enter po16 d16 (wanted_guard gd16 po8 d8 ((eval_other _ 60 56 _ (by decide)).trans ((eval_other _ 63 56 _ (by decide)).trans ((eval_other _ 62 56 _ (by decide)).trans ((eval_other _ 61 56 _ (by decide)).trans ((eval_other _ 59 56 _ (by decide)).trans ((eval_other _ 58 56 _ (by decide)).trans ((eval_other _ 57 56 _ (by decide)).trans (eval_same _ _ _ (by simp only [put_size, hsz]; decide)))))))))) (run_callf3 q16 rfl ((eval_other _ 60 61 _ (by decide)).trans ((eval_other _ 63 61 _ (by decide)).trans ((eval_other _ 62 61 _ (by decide)).trans (eval_same _ _ _ (by simp only [put_size, hsz]; decide))))) ((eval_other _ 60 62 _ (by decide)).trans ((eval_other _ 63 62 _ (by decide)).trans (eval_same _ _ _ (by simp only [put_size, hsz]; decide)))) ((eval_other _ 60 63 _ (by decide)).trans (eval_same _ _ _ (by simp only [put_size, hsz]; decide))) Try.func15 (by kernel_rfl) _) ((VCC.out ▸ HCB.out _ : Calls _ _ _ _ (ReturnsG (coversM a r s) _))) ?_
      rintro e w7_4 ⟨rfl, hb⟩
      have HSw7_4 := Lib.hid (HSw7_3.out.step hb)
      clear hb
      refine ⟨_, rfl, HSw7_4.out, ?_⟩
      refine met_free po17 d17 (wanted_guard gd17 po8 d8 ((eval_other _ 64 56 _ (by decide)).trans ((eval_other _ 60 56 _ (by decide)).trans ((eval_other _ 63 56 _ (by decide)).trans ((eval_other _ 62 56 _ (by decide)).trans ((eval_other _ 61 56 _ (by decide)).trans ((eval_other _ 59 56 _ (by decide)).trans ((eval_other _ 58 56 _ (by decide)).trans ((eval_other _ 57 56 _ (by decide)).trans (eval_same _ _ _ (by simp only [put_size, hsz]; decide))))))))))) (fun w' h' => r_neB q17 ((eval_other _ 64 60 _ (by decide)).trans (eval_same _ _ _ (by simp only [put_size, hsz]; decide))) (eval_same _ _ _ (by simp only [put_size, hsz]; decide)) w') ?_
      refine met_free po18 d18 (wanted_of gd18) (fun w' h' => run_pick_true q18 ((eval_other _ 65 56 _ (by decide)).trans ((eval_other _ 64 56 _ (by decide)).trans ((eval_other _ 60 56 _ (by decide)).trans ((eval_other _ 63 56 _ (by decide)).trans ((eval_other _ 62 56 _ (by decide)).trans ((eval_other _ 61 56 _ (by decide)).trans ((eval_other _ 59 56 _ (by decide)).trans ((eval_other _ 58 56 _ (by decide)).trans ((eval_other _ 57 56 _ (by decide)).trans (eval_same _ _ _ (by simp only [put_size, hsz]; decide))))))))))) (eval_same _ _ _ (by simp only [put_size, hsz]; decide)) w') ?_
      show NoPanic _ .normal _ _
      refine NoPanic.normal ?_
      rw [HAA.out]
      go_frame
      clear HAA
      clear po0 q0 d0 gd0 po1 q1 d1 gd1 po2 q2 d2 gd2 po3 q3 d3 gd3 po4 q4 d4 gd4 po5 q5 d5 gd5 po6 q6 d6 gd6 po7 q7 d7 gd7 po8 q8 d8 gd8 po9 q9 d9 gd9 po10 q10 d10 gd10 po11 q11 d11 gd11 po12 q12 d12 gd12 po13 q13 d13 gd13 po14 q14 d14 gd14 po15 q15 d15 gd15 po16 q16 d16 gd16 po17 q17 d17 gd17 po18 q18 d18 gd18
      clear base3 base4 base5 base6 base7 hsz
      go_wp2_with fail
      refine (HKN.out _).mono ?_
      rintro e w99 ⟨rfl, hb⟩
      have HB9 := Lib.hid (HSw7_4.out.below.trans (hb.mono HSw7_4.out.below.size))
      clear hb
      go_wp2_with fail
      go_ret
      exact ⟨rfl, HB9.out⟩
end Go.Proofs.Ytkfkdomjjepmdaa
