/-
  RingPlays, for any list of calls: the law returns true, and what came in reads afterwards as it read before. Without any condition.
-/
import Derived.Test.YtoidjapenompiaaPkA
import Derived.Test.YtoidjapenompiaaPkZ
import Derived.Test.YtoidjapenompiaaPkB
/-
  RingPlays' walk (gen_krplays.py).
-/
namespace Go.Proofs.Ytoidjapenompiaa
open Go.RowKit Go.Proofs.ShaWords
theorem wanted_guardF {ops : Array Oper} {a : Act} {o : Oper} {j : Nat} {dj : Tmp} {oj : Oper} (hg : o.guard = some (j, false)) (hj : ops[j]? = some oj) (hd : oj.dst = some dj) (he : a.eval (.tmp dj) = .bool false) : Region.wanted o (yielded ops a.tmps) = true := by
  have h2 := tmp_at he
  unfold Region.wanted
  rw [hg]
  simp only [yielded, hj, Option.bind_some, hd, h2]
  rfl
section
variable {ρ : Operand → Value} {o : Oper} {x y : Operand}
theorem run_ixOpK {b off n c i : Nat} (ho : o.op = .indexAddr 22 x y) (hx : ρ x = .slice (some ⟨b, off, none⟩) n c) (hy : ρ y = .int .i64 (i : Int)) (hi : i < n) (w : World) : (execOp ρ o).run Try.prog w = .ok (.value (.pointer (some ⟨b, off + i * 4, none⟩))) w := by
  obtain ⟨dst, op, ty', pos, after, guard⟩ := o
  simp only at ho
  subst ho
  have q : (i : Int) < (n : Int) := by omega
  go_simp
theorem run_fieldOp1 {b off : Nat} (ho : o.op = .fieldAddr 31 x 1) (hx : ρ x = .pointer (some ⟨b, off, none⟩)) (w : World) : (execOp ρ o).run Try.prog w = .ok (.value (.pointer (some ⟨b, off + 1, none⟩))) w := by
  obtain ⟨dst, op, ty', pos, after, guard⟩ := o
  simp only at ho
  subst ho
  go_simp
theorem run_loadOpK {B O : Nat} {op : Op12} {w : World} (ho : o.op = .load 31 x) (hx : ρ x = .pointer (some ⟨B, O, none⟩)) (h : w.rangeAt B O op.cells) : (execOp ρ o).run Try.prog w = .ok (.value (.agg #[.int .i64 op.kind, .int .i64 op.n, .string op.t, .string op.s])) w := by
  have hi : (Try.prog.info? 31).map (·.size) = some op.cells.length := (show (Try.prog.info? 31).map (·.size) = some 4 by kernel_rfl)
  have h2 := run_loadAt_mid (P := Try.prog) w B O 31 op.cells _ h Try.underlying31 rfl hi
  unfold execOp
  simp only [ho, hx, Sem.run_bind, h2, Result.andThen_ok, Sem.run_pure]
  rfl
theorem run_neNonceS {l : List (BitVec 8)} {ty : TypeId} (ho : o.op = .binOp .neq 33 x y ty) (hl : l.length = 12) (hx : ρ x = .agg (bytesV l).toArray) (hy : ρ y = .agg (bytesV l).toArray) (w : World) : (execOp ρ o).run Try.prog w = .ok (.value (.bool false)) w := by
  have hg : Try.prog.eqGuardType Try.prog.depth 33 = false := by kernel_rfl
  have h := (run_neq_struct (P := Try.prog) (w := w) 33 (bytesV l).toArray (bytesV l).toArray)
  have h2 := run_equalIn_bytes (P := Try.prog) w 9998 33 5 12 Try.underlying33 Try.underlying5 (fun w => by kernel_rfl) (l.map UInt8.ofBitVec) (l.map UInt8.ofBitVec) (by simpa using hl) (by simpa using hl)
  rw [← bytesV_cell, beq_self_eq_true] at h2
  rw [h2] at h
  simp only [Result.andThen_ok] at h
  unfold execOp
  simp only [ho, hx, hy, Sem.run_bind, run_eqGuard_agg w .neq 33 x y _ _ hg, Result.andThen_ok, h, Sem.run_pure]
  rfl
end
set_option maxRecDepth 1000000 in
set_option maxHeartbeats 4000000 in
theorem krPlays_any (os : List Op12) (N c : Nat) (p : Option Addr) (W : World) (hN : os.length = N) (_hN2 : N ≤ 140737488351232) (hT : RowOf 4 Op12.cells W p os) (hO : ∀ o ∈ os, o.Ok) :
    Calls Try.prog 3 #[.slice p N c] W fun e w' => e = .returned (.bool true) ∧ Below W.heap.size W w' := by
  have HN := Lib.hid hN
  have HTT := Lib.hid hT
  have HO := Lib.hid hO
  have HKN : Hid (∀ w', Below W.heap.size W w' → Calls Try.prog 13 #[] w' fun e w'' => e = .returned (.bool true) ∧ Below W.heap.size W w'') := show ∀ _, _ → _ from fun w' h => (krKnown_any w').mono fun e w'' ⟨h1, h2⟩ => ⟨h1, h.trans (h2.mono h.size)⟩
  clear hN hT hO
  go_enter Try.func3, Try.ntmps3
  go_wp2_with fail
  refine (krNewX W W.heap.size (Nat.le_refl _)).mono ?_
  rintro e w1 ⟨r, rfl, hx, hb⟩
  have HX1 := Lib.hid hx; have HB1 := Lib.hid hb
  clear hx hb
  go_upto_region 5 with (fail)
  have hba : Below w1.heap.size w1 (w1.alloc (.cells #[.slice none 0 0] 28)) := (Below.refl _ _).alloc (Nat.le_refl _) _
  have HX2 : Hid (X2 (KrAt r []) (RrAt w1.heap.size []) W.heap.size (w1.alloc (.cells #[.slice none 0 0] 28)) []) := show X2 _ _ _ _ _ from by
    obtain ⟨S, U, h1, -, -, h4, -, -⟩ := HX1.out
    have hsd : ∀ k, S k → k < w1.heap.size := (KrAt.part r []).dom S w1 h1
    have h1 := (KrAt.part r []).below h1 hba
    refine ⟨S, fun k => k = w1.heap.size, h1, ⟨_, heap_alloc_new _ _, World.ownsRow_nil _ _ _ _, ⟨rfl, fun g hg => by cases hg⟩, (fun e => by cases e), fun k e => by rw [e]; simp, OkK.nil, by simp⟩, fun k s e => by have := hsd k s; omega, h4, fun k e => by rw [e]; exact HB1.out.size, fun y hy => absurd hy List.not_mem_nil⟩
  have HB2 := Lib.hid (HB1.out.trans (hba.mono HB1.out.size))
  generalize w1.alloc (.cells #[.slice none 0 0] 28) = w2 at HX2 HB2 ⊢
  generalize w1.heap.size = x at HX2 ⊢
  clear hba HX1 HB1
  go_wp2_with fail
  go_loopw [5] (fun i wr => ∃ (k : Nat) (l : List HoldK), k ≤ N ∧ k ≤ 200 ∧ i = .int .i64 (k : Int) ∧ l.length ≤ k ∧ X2 (KrAt r l) (RrAt x l) W.heap.size wr [] ∧ Below W.heap.size W wr) (fun i _ => 201 - (intOf i).toNat)
  case atStart => exact ⟨0, [], by omega, by omega, rfl, by simp, HX2.out, HB2.out⟩
  case round =>
    clear HX2 HB2
    obtain ⟨k, l, hk, hk2, rfl, hlk, hx, hb⟩ := hrel
    have HX := Lib.hid hx
    have HB := Lib.hid hb
    have HLK := Lib.hid hlk
    clear hx hb hlk
    by_cases hlt : k < N ∧ k < 200
    · obtain ⟨hlt, hlt2⟩ := hlt
      have hko : k < os.length := by rw [HN.out]; exact hlt
      have HOK := Lib.hid (HO.out os[k] (List.getElem_mem hko))
      rcases HTT.out.at' with h0 | ⟨b, off, rfl, hr⟩
      · exfalso; rw [h0] at hko; simp at hko
      have hrk := hr k hko
      generalize os[k] = op at HOK hrk
      have HRG : Hid (∀ w', Below W.heap.size W w' → w'.rangeAt b (off + k * 4) op.cells) := show ∀ _, _ → _ from fun w' h => range_keep hrk h
      have HLT := Lib.hid hlt
      have HLF : Hid (l.length + 1 < 1000000) := show _ < _ from by have := HLK.out; omega
      have q1 : (k : Int) < (N : Int) := by omega
      have q2 : (k : Int) < 200 := by omega
      clear hr hrk hko hlt
      go_upto_region 8 with (fail)
      have HBD : Hid (Below W.heap.size W wr.drew) := show Below _ _ _ from ⟨HB.out.os, HB.out.tape, HB.out.output, HB.out.size, HB.out.block⟩
      have HXD := Lib.hid (HX.out.drewK (KrAt.part _ _) (RrAt.part _ _))
      refine region_phase (fun w' => w'.rangeAt b (off + k * 4) op.cells) (fun _ => True) 99 (HRG.out wr.drew HBD.out) trivial [(0, .free), (1, .free), (2, .free), (3, .free), (4, .free), (5, .free), (6, .behind), (7, .free), (8, .free), (9, .free), (10, .free), (11, .free), (12, .free), (13, .free), (14, .free), (15, .behind), (16, .free), (17, .free), (18, .free), (19, .free), (20, .free), (21, .free), (22, .free), (23, .free), (25, .free), (26, .free), (27, .free), (28, .free), (29, .free), (24, .behind), (30, .behind), (31, .free), (32, .free)] (by kernel_rfl) (by kernel_rfl) (by kernel_rfl) (by kernel_rfl) (fun ops hops A8 hA => ?_)
      have hsz : A8.tmps.size = 74 := by rw [hA]; rfl
      have base0 : A8.eval (.tmp 0) = .slice (some ⟨b, off, none⟩) N c := by rw [hA]; rfl
      have base3 : A8.eval (.tmp 3) = .pointer (some ⟨r, 0, none⟩) := by rw [hA]; rfl
      have base4 : A8.eval (.tmp 4) = .pointer (some ⟨x, 0, none⟩) := by rw [hA]; rfl
      have base5 : A8.eval (.tmp 5) = .int .i64 (k : Int) := by rw [hA]; rfl
      have HAA := Lib.hid hA; clear hA
      obtain ⟨o0, po0, q0, d0, gd0⟩ : ∃ o, ops[0]? = some o ∧ o.op = .move (.tmp 3) ∧ o.dst = some 22 ∧ o.guard = none := ⟨_, by rw [hops]; rfl, rfl, rfl, rfl⟩
      obtain ⟨o1, po1, q1, d1, gd1⟩ : ∃ o, ops[1]? = some o ∧ o.op = .move (.tmp 4) ∧ o.dst = some 23 ∧ o.guard = none := ⟨_, by rw [hops]; rfl, rfl, rfl, rfl⟩
      obtain ⟨o2, po2, q2, d2, gd2⟩ : ∃ o, ops[2]? = some o ∧ o.op = .move (.tmp 0) ∧ o.dst = some 24 ∧ o.guard = none := ⟨_, by rw [hops]; rfl, rfl, rfl, rfl⟩
      obtain ⟨o3, po3, q3, d3, gd3⟩ : ∃ o, ops[3]? = some o ∧ o.op = .move (.tmp 5) ∧ o.dst = some 25 ∧ o.guard = none := ⟨_, by rw [hops]; rfl, rfl, rfl, rfl⟩
      obtain ⟨o4, po4, q4, d4, gd4⟩ : ∃ o, ops[4]? = some o ∧ o.op = .indexAddr 22 (.tmp 24) (.tmp 25) ∧ o.dst = some 26 ∧ o.guard = none := ⟨_, by rw [hops]; rfl, rfl, rfl, rfl⟩
      obtain ⟨o5, po5, q5, d5, gd5⟩ : ∃ o, ops[5]? = some o ∧ o.op = .load 31 (.tmp 26) ∧ o.dst = some 27 ∧ o.guard = none := ⟨_, by rw [hops]; rfl, rfl, rfl, rfl⟩
      obtain ⟨o6, po6, q6, d6, gd6⟩ : ∃ o, ops[6]? = some o ∧ o.op = .call { callee := .value (.func 9), args := #[.tmp 22, .tmp 23, .tmp 27], argTypes := #[23, 25, 31] } ∧ o.dst = some 28 ∧ o.guard = none := ⟨_, by rw [hops]; rfl, rfl, rfl, rfl⟩
      obtain ⟨o7, po7, q7, d7, gd7⟩ : ∃ o, ops[7]? = some o ∧ o.op = .unOp .not 4 (.tmp 28) ∧ o.dst = some 29 ∧ o.guard = none := ⟨_, by rw [hops]; rfl, rfl, rfl, rfl⟩
      obtain ⟨o8, po8, q8, d8, gd8⟩ : ∃ o, ops[8]? = some o ∧ o.op = .move (.tmp 29) ∧ o.dst = some 30 ∧ o.guard = none := ⟨_, by rw [hops]; rfl, rfl, rfl, rfl⟩
      obtain ⟨o9, po9, q9, d9, gd9⟩ : ∃ o, ops[9]? = some o ∧ o.op = .move (.tmp 3) ∧ o.dst = some 31 ∧ o.guard = some (8, false) := ⟨_, by rw [hops]; rfl, rfl, rfl, rfl⟩
      obtain ⟨o10, po10, q10, d10, gd10⟩ : ∃ o, ops[10]? = some o ∧ o.op = .move (.tmp 4) ∧ o.dst = some 32 ∧ o.guard = some (8, false) := ⟨_, by rw [hops]; rfl, rfl, rfl, rfl⟩
      obtain ⟨o11, po11, q11, d11, gd11⟩ : ∃ o, ops[11]? = some o ∧ o.op = .move (.tmp 0) ∧ o.dst = some 33 ∧ o.guard = some (8, false) := ⟨_, by rw [hops]; rfl, rfl, rfl, rfl⟩
      obtain ⟨o12, po12, q12, d12, gd12⟩ : ∃ o, ops[12]? = some o ∧ o.op = .move (.tmp 5) ∧ o.dst = some 34 ∧ o.guard = some (8, false) := ⟨_, by rw [hops]; rfl, rfl, rfl, rfl⟩
      obtain ⟨o13, po13, q13, d13, gd13⟩ : ∃ o, ops[13]? = some o ∧ o.op = .indexAddr 22 (.tmp 33) (.tmp 34) ∧ o.dst = some 35 ∧ o.guard = some (8, false) := ⟨_, by rw [hops]; rfl, rfl, rfl, rfl⟩
      obtain ⟨o14, po14, q14, d14, gd14⟩ : ∃ o, ops[14]? = some o ∧ o.op = .load 31 (.tmp 35) ∧ o.dst = some 36 ∧ o.guard = some (8, false) := ⟨_, by rw [hops]; rfl, rfl, rfl, rfl⟩
      obtain ⟨o15, po15, q15, d15, gd15⟩ : ∃ o, ops[15]? = some o ∧ o.op = .call { callee := .value (.func 10), args := #[.tmp 31, .tmp 32, .tmp 36], argTypes := #[23, 25, 31] } ∧ o.dst = some 37 ∧ o.guard = some (8, false) := ⟨_, by rw [hops]; rfl, rfl, rfl, rfl⟩
      obtain ⟨o16, po16, q16, d16, gd16⟩ : ∃ o, ops[16]? = some o ∧ o.op = .unOp .not 4 (.tmp 37) ∧ o.dst = some 38 ∧ o.guard = some (8, false) := ⟨_, by rw [hops]; rfl, rfl, rfl, rfl⟩
      obtain ⟨o17, po17, q17, d17, gd17⟩ : ∃ o, ops[17]? = some o ∧ o.op = .pick (.tmp 30) (.const (.bool true)) (.tmp 38) ∧ o.dst = some 39 ∧ o.guard = none := ⟨_, by rw [hops]; rfl, rfl, rfl, rfl⟩
      obtain ⟨o18, po18, q18, d18, gd18⟩ : ∃ o, ops[18]? = some o ∧ o.op = .move (.tmp 39) ∧ o.dst = some 40 ∧ o.guard = none := ⟨_, by rw [hops]; rfl, rfl, rfl, rfl⟩
      obtain ⟨o19, po19, q19, d19, gd19⟩ : ∃ o, ops[19]? = some o ∧ o.op = .move (.tmp 0) ∧ o.dst = some 41 ∧ o.guard = some (18, false) := ⟨_, by rw [hops]; rfl, rfl, rfl, rfl⟩
      obtain ⟨o20, po20, q20, d20, gd20⟩ : ∃ o, ops[20]? = some o ∧ o.op = .move (.tmp 5) ∧ o.dst = some 42 ∧ o.guard = some (18, false) := ⟨_, by rw [hops]; rfl, rfl, rfl, rfl⟩
      obtain ⟨o21, po21, q21, d21, gd21⟩ : ∃ o, ops[21]? = some o ∧ o.op = .indexAddr 22 (.tmp 41) (.tmp 42) ∧ o.dst = some 43 ∧ o.guard = some (18, false) := ⟨_, by rw [hops]; rfl, rfl, rfl, rfl⟩
      obtain ⟨o22, po22, q22, d22, gd22⟩ : ∃ o, ops[22]? = some o ∧ o.op = .fieldAddr 31 (.tmp 43) 1 ∧ o.dst = some 44 ∧ o.guard = some (18, false) := ⟨_, by rw [hops]; rfl, rfl, rfl, rfl⟩
      obtain ⟨o23, po23, q23, d23, gd23⟩ : ∃ o, ops[23]? = some o ∧ o.op = .load 3 (.tmp 44) ∧ o.dst = some 45 ∧ o.guard = some (18, false) := ⟨_, by rw [hops]; rfl, rfl, rfl, rfl⟩
      obtain ⟨o24, po24, q24, d24, gd24⟩ : ∃ o, ops[24]? = some o ∧ o.op = .call { callee := .value (.func 11), args := #[.tmp 45], argTypes := #[3] } ∧ o.dst = some 46 ∧ o.guard = some (18, false) := ⟨_, by rw [hops]; rfl, rfl, rfl, rfl⟩
      obtain ⟨o25, po25, q25, d25, gd25⟩ : ∃ o, ops[25]? = some o ∧ o.op = .move (.tmp 0) ∧ o.dst = some 47 ∧ o.guard = some (18, false) := ⟨_, by rw [hops]; rfl, rfl, rfl, rfl⟩
      obtain ⟨o26, po26, q26, d26, gd26⟩ : ∃ o, ops[26]? = some o ∧ o.op = .move (.tmp 5) ∧ o.dst = some 48 ∧ o.guard = some (18, false) := ⟨_, by rw [hops]; rfl, rfl, rfl, rfl⟩
      obtain ⟨o27, po27, q27, d27, gd27⟩ : ∃ o, ops[27]? = some o ∧ o.op = .indexAddr 22 (.tmp 47) (.tmp 48) ∧ o.dst = some 49 ∧ o.guard = some (18, false) := ⟨_, by rw [hops]; rfl, rfl, rfl, rfl⟩
      obtain ⟨o28, po28, q28, d28, gd28⟩ : ∃ o, ops[28]? = some o ∧ o.op = .fieldAddr 31 (.tmp 49) 1 ∧ o.dst = some 50 ∧ o.guard = some (18, false) := ⟨_, by rw [hops]; rfl, rfl, rfl, rfl⟩
      obtain ⟨o29, po29, q29, d29, gd29⟩ : ∃ o, ops[29]? = some o ∧ o.op = .load 3 (.tmp 50) ∧ o.dst = some 51 ∧ o.guard = some (18, false) := ⟨_, by rw [hops]; rfl, rfl, rfl, rfl⟩
      obtain ⟨o30, po30, q30, d30, gd30⟩ : ∃ o, ops[30]? = some o ∧ o.op = .call { callee := .value (.func 12), args := #[.tmp 51], argTypes := #[3] } ∧ o.dst = some 52 ∧ o.guard = some (18, false) := ⟨_, by rw [hops]; rfl, rfl, rfl, rfl⟩
      obtain ⟨o31, po31, q31, d31, gd31⟩ : ∃ o, ops[31]? = some o ∧ o.op = .binOp .neq 33 (.tmp 46) (.tmp 52) 33 ∧ o.dst = some 53 ∧ o.guard = some (18, false) := ⟨_, by rw [hops]; rfl, rfl, rfl, rfl⟩
      obtain ⟨o32, po32, q32, d32, gd32⟩ : ∃ o, ops[32]? = some o ∧ o.op = .pick (.tmp 40) (.const (.bool true)) (.tmp 53) ∧ o.dst = some 54 ∧ o.guard = none := ⟨_, by rw [hops]; rfl, rfl, rfl, rfl⟩
      clear hops
      refine met_free po0 d0 (wanted_of gd0) (fun w' h' => run_move q0 base3 w') ?_
      refine met_free po1 d1 (wanted_of gd1) (fun w' h' => run_move q1 ((eval_other _ 22 4 _ (by decide)).trans base4) w') ?_
      refine met_free po2 d2 (wanted_of gd2) (fun w' h' => run_move q2 ((eval_other _ 23 0 _ (by decide)).trans ((eval_other _ 22 0 _ (by decide)).trans base0)) w') ?_
      refine met_free po3 d3 (wanted_of gd3) (fun w' h' => run_move q3 ((eval_other _ 24 5 _ (by decide)).trans ((eval_other _ 23 5 _ (by decide)).trans ((eval_other _ 22 5 _ (by decide)).trans base5))) w') ?_
      refine met_free po4 d4 (wanted_of gd4) (fun w' h' => run_ixOpK q4 ((eval_other _ 25 24 _ (by decide)).trans (eval_same _ _ _ (by simp only [put_size, hsz]; decide))) (eval_same _ _ _ (by simp only [put_size, hsz]; decide)) HLT.out w') ?_
      refine met_free po5 d5 (wanted_of gd5) (fun w' h' => run_loadOpK q5 (eval_same _ _ _ (by simp only [put_size, hsz]; decide)) h') ?_
      refine m_enter po6 d6 (wanted_of gd6) (run_callf3 q6 rfl ((eval_other _ 27 22 _ (by decide)).trans ((eval_other _ 26 22 _ (by decide)).trans ((eval_other _ 25 22 _ (by decide)).trans ((eval_other _ 24 22 _ (by decide)).trans ((eval_other _ 23 22 _ (by decide)).trans (eval_same _ _ _ (by rw [hsz]; decide))))))) ((eval_other _ 27 23 _ (by decide)).trans ((eval_other _ 26 23 _ (by decide)).trans ((eval_other _ 25 23 _ (by decide)).trans ((eval_other _ 24 23 _ (by decide)).trans (eval_same _ _ _ (by simp only [put_size, hsz]; decide)))))) (eval_same _ _ _ (by simp only [put_size, hsz]; decide)) Try.func9 (by kernel_rfl) _) (krDoes_any W.heap.size r x l op.kind op.n op.t op.s wr.drew HXD.out HBD.out.size HOK.out.ts HOK.out.ss HOK.out.nw HLF.out) ?_
      rintro e w3 ⟨rfl, l', hl3, hx3, hb3⟩
      have HX3 := Lib.hid hx3
      have HB3 := Lib.hid (HBD.out.trans hb3)
      have HL3 := Lib.hid hl3
      clear hx3 hb3 hl3
      refine ⟨_, rfl, HRG.out w3 HB3.out, ?_⟩
      refine met_free po7 d7 (wanted_of gd7) (fun w' h' => r_not q7 (eval_same _ _ _ (by simp only [put_size, hsz]; decide)) w') ?_
      refine met_free po8 d8 (wanted_of gd8) (fun w' h' => run_move q8 (eval_same _ _ _ (by simp only [put_size, hsz]; decide)) w') ?_
      refine met_free po9 d9 (wanted_guardF gd9 po8 d8 (eval_same _ _ _ (by simp only [put_size, hsz]; decide))) (fun w' h' => run_move q9 ((eval_other _ 30 3 _ (by decide)).trans ((eval_other _ 29 3 _ (by decide)).trans ((eval_other _ 28 3 _ (by decide)).trans ((eval_other _ 27 3 _ (by decide)).trans ((eval_other _ 26 3 _ (by decide)).trans ((eval_other _ 25 3 _ (by decide)).trans ((eval_other _ 24 3 _ (by decide)).trans ((eval_other _ 23 3 _ (by decide)).trans ((eval_other _ 22 3 _ (by decide)).trans base3))))))))) w') ?_
      refine met_free po10 d10 (wanted_guardF gd10 po8 d8 ((eval_other _ 31 30 _ (by decide)).trans (eval_same _ _ _ (by simp only [put_size, hsz]; decide)))) (fun w' h' => run_move q10 ((eval_other _ 31 4 _ (by decide)).trans ((eval_other _ 30 4 _ (by decide)).trans ((eval_other _ 29 4 _ (by decide)).trans ((eval_other _ 28 4 _ (by decide)).trans ((eval_other _ 27 4 _ (by decide)).trans ((eval_other _ 26 4 _ (by decide)).trans ((eval_other _ 25 4 _ (by decide)).trans ((eval_other _ 24 4 _ (by decide)).trans ((eval_other _ 23 4 _ (by decide)).trans ((eval_other _ 22 4 _ (by decide)).trans base4)))))))))) w') ?_
      refine met_free po11 d11 (wanted_guardF gd11 po8 d8 ((eval_other _ 32 30 _ (by decide)).trans ((eval_other _ 31 30 _ (by decide)).trans (eval_same _ _ _ (by simp only [put_size, hsz]; decide))))) (fun w' h' => run_move q11 ((eval_other _ 32 0 _ (by decide)).trans ((eval_other _ 31 0 _ (by decide)).trans ((eval_other _ 30 0 _ (by decide)).trans ((eval_other _ 29 0 _ (by decide)).trans ((eval_other _ 28 0 _ (by decide)).trans ((eval_other _ 27 0 _ (by decide)).trans ((eval_other _ 26 0 _ (by decide)).trans ((eval_other _ 25 0 _ (by decide)).trans ((eval_other _ 24 0 _ (by decide)).trans ((eval_other _ 23 0 _ (by decide)).trans ((eval_other _ 22 0 _ (by decide)).trans base0))))))))))) w') ?_
      refine met_free po12 d12 (wanted_guardF gd12 po8 d8 ((eval_other _ 33 30 _ (by decide)).trans ((eval_other _ 32 30 _ (by decide)).trans ((eval_other _ 31 30 _ (by decide)).trans (eval_same _ _ _ (by simp only [put_size, hsz]; decide)))))) (fun w' h' => run_move q12 ((eval_other _ 33 5 _ (by decide)).trans ((eval_other _ 32 5 _ (by decide)).trans ((eval_other _ 31 5 _ (by decide)).trans ((eval_other _ 30 5 _ (by decide)).trans ((eval_other _ 29 5 _ (by decide)).trans ((eval_other _ 28 5 _ (by decide)).trans ((eval_other _ 27 5 _ (by decide)).trans ((eval_other _ 26 5 _ (by decide)).trans ((eval_other _ 25 5 _ (by decide)).trans ((eval_other _ 24 5 _ (by decide)).trans ((eval_other _ 23 5 _ (by decide)).trans ((eval_other _ 22 5 _ (by decide)).trans base5)))))))))))) w') ?_
      refine met_free po13 d13 (wanted_guardF gd13 po8 d8 ((eval_other _ 34 30 _ (by decide)).trans ((eval_other _ 33 30 _ (by decide)).trans ((eval_other _ 32 30 _ (by decide)).trans ((eval_other _ 31 30 _ (by decide)).trans (eval_same _ _ _ (by simp only [put_size, hsz]; decide))))))) (fun w' h' => run_ixOpK q13 ((eval_other _ 34 33 _ (by decide)).trans (eval_same _ _ _ (by simp only [put_size, hsz]; decide))) (eval_same _ _ _ (by simp only [put_size, hsz]; decide)) HLT.out w') ?_
      refine met_free po14 d14 (wanted_guardF gd14 po8 d8 ((eval_other _ 35 30 _ (by decide)).trans ((eval_other _ 34 30 _ (by decide)).trans ((eval_other _ 33 30 _ (by decide)).trans ((eval_other _ 32 30 _ (by decide)).trans ((eval_other _ 31 30 _ (by decide)).trans (eval_same _ _ _ (by simp only [put_size, hsz]; decide)))))))) (fun w' h' => run_loadOpK q14 (eval_same _ _ _ (by simp only [put_size, hsz]; decide)) h') ?_
      refine m_enter po15 d15 (wanted_guardF gd15 po8 d8 ((eval_other _ 36 30 _ (by decide)).trans ((eval_other _ 35 30 _ (by decide)).trans ((eval_other _ 34 30 _ (by decide)).trans ((eval_other _ 33 30 _ (by decide)).trans ((eval_other _ 32 30 _ (by decide)).trans ((eval_other _ 31 30 _ (by decide)).trans (eval_same _ _ _ (by simp only [put_size, hsz]; decide))))))))) (run_callf3 q15 rfl ((eval_other _ 36 31 _ (by decide)).trans ((eval_other _ 35 31 _ (by decide)).trans ((eval_other _ 34 31 _ (by decide)).trans ((eval_other _ 33 31 _ (by decide)).trans ((eval_other _ 32 31 _ (by decide)).trans (eval_same _ _ _ (by simp only [put_size, hsz]; decide))))))) ((eval_other _ 36 32 _ (by decide)).trans ((eval_other _ 35 32 _ (by decide)).trans ((eval_other _ 34 32 _ (by decide)).trans ((eval_other _ 33 32 _ (by decide)).trans (eval_same _ _ _ (by simp only [put_size, hsz]; decide)))))) (eval_same _ _ _ (by simp only [put_size, hsz]; decide)) Try.func10 (by kernel_rfl) _) (krAlike_any W.heap.size r x l' op.kind op.n op.t op.s w3 HX3.out HOK.out.ts HOK.out.ss) ?_
      rintro e w4 ⟨rfl, hb4⟩
      have HX4 := Lib.hid (HX3.out.below (KrAt.part _ _) (RrAt.part _ _) hb4)
      have HB4 := Lib.hid (HB3.out.trans (hb4.mono HB3.out.size))
      clear hb4
      refine ⟨_, rfl, HRG.out w4 HB4.out, ?_⟩
      refine met_free po16 d16 (wanted_guardF gd16 po8 d8 ((eval_other _ 37 30 _ (by decide)).trans ((eval_other _ 36 30 _ (by decide)).trans ((eval_other _ 35 30 _ (by decide)).trans ((eval_other _ 34 30 _ (by decide)).trans ((eval_other _ 33 30 _ (by decide)).trans ((eval_other _ 32 30 _ (by decide)).trans ((eval_other _ 31 30 _ (by decide)).trans (eval_same _ _ _ (by simp only [put_size, hsz]; decide)))))))))) (fun w' h' => r_not q16 (eval_same _ _ _ (by simp only [put_size, hsz]; decide)) w') ?_
      refine met_free po17 d17 (wanted_of gd17) (fun w' h' => r_pickF q17 ((eval_other _ 38 30 _ (by decide)).trans ((eval_other _ 37 30 _ (by decide)).trans ((eval_other _ 36 30 _ (by decide)).trans ((eval_other _ 35 30 _ (by decide)).trans ((eval_other _ 34 30 _ (by decide)).trans ((eval_other _ 33 30 _ (by decide)).trans ((eval_other _ 32 30 _ (by decide)).trans ((eval_other _ 31 30 _ (by decide)).trans (eval_same _ _ _ (by simp only [put_size, hsz]; decide)))))))))) (eval_same _ _ _ (by simp only [put_size, hsz]; decide)) w') ?_
      refine met_free po18 d18 (wanted_of gd18) (fun w' h' => run_move q18 (eval_same _ _ _ (by simp only [put_size, hsz]; decide)) w') ?_
      refine met_free po19 d19 (wanted_guardF gd19 po18 d18 (eval_same _ _ _ (by simp only [put_size, hsz]; decide))) (fun w' h' => run_move q19 ((eval_other _ 40 0 _ (by decide)).trans ((eval_other _ 39 0 _ (by decide)).trans ((eval_other _ 38 0 _ (by decide)).trans ((eval_other _ 37 0 _ (by decide)).trans ((eval_other _ 36 0 _ (by decide)).trans ((eval_other _ 35 0 _ (by decide)).trans ((eval_other _ 34 0 _ (by decide)).trans ((eval_other _ 33 0 _ (by decide)).trans ((eval_other _ 32 0 _ (by decide)).trans ((eval_other _ 31 0 _ (by decide)).trans ((eval_other _ 30 0 _ (by decide)).trans ((eval_other _ 29 0 _ (by decide)).trans ((eval_other _ 28 0 _ (by decide)).trans ((eval_other _ 27 0 _ (by decide)).trans ((eval_other _ 26 0 _ (by decide)).trans ((eval_other _ 25 0 _ (by decide)).trans ((eval_other _ 24 0 _ (by decide)).trans ((eval_other _ 23 0 _ (by decide)).trans ((eval_other _ 22 0 _ (by decide)).trans base0))))))))))))))))))) w') ?_
      refine met_free po20 d20 (wanted_guardF gd20 po18 d18 ((eval_other _ 41 40 _ (by decide)).trans (eval_same _ _ _ (by simp only [put_size, hsz]; decide)))) (fun w' h' => run_move q20 ((eval_other _ 41 5 _ (by decide)).trans ((eval_other _ 40 5 _ (by decide)).trans ((eval_other _ 39 5 _ (by decide)).trans ((eval_other _ 38 5 _ (by decide)).trans ((eval_other _ 37 5 _ (by decide)).trans ((eval_other _ 36 5 _ (by decide)).trans ((eval_other _ 35 5 _ (by decide)).trans ((eval_other _ 34 5 _ (by decide)).trans ((eval_other _ 33 5 _ (by decide)).trans ((eval_other _ 32 5 _ (by decide)).trans ((eval_other _ 31 5 _ (by decide)).trans ((eval_other _ 30 5 _ (by decide)).trans ((eval_other _ 29 5 _ (by decide)).trans ((eval_other _ 28 5 _ (by decide)).trans ((eval_other _ 27 5 _ (by decide)).trans ((eval_other _ 26 5 _ (by decide)).trans ((eval_other _ 25 5 _ (by decide)).trans ((eval_other _ 24 5 _ (by decide)).trans ((eval_other _ 23 5 _ (by decide)).trans ((eval_other _ 22 5 _ (by decide)).trans base5)))))))))))))))))))) w') ?_
      refine met_free po21 d21 (wanted_guardF gd21 po18 d18 ((eval_other _ 42 40 _ (by decide)).trans ((eval_other _ 41 40 _ (by decide)).trans (eval_same _ _ _ (by simp only [put_size, hsz]; decide))))) (fun w' h' => run_ixOpK q21 ((eval_other _ 42 41 _ (by decide)).trans (eval_same _ _ _ (by simp only [put_size, hsz]; decide))) (eval_same _ _ _ (by simp only [put_size, hsz]; decide)) HLT.out w') ?_
      refine met_free po22 d22 (wanted_guardF gd22 po18 d18 ((eval_other _ 43 40 _ (by decide)).trans ((eval_other _ 42 40 _ (by decide)).trans ((eval_other _ 41 40 _ (by decide)).trans (eval_same _ _ _ (by simp only [put_size, hsz]; decide)))))) (fun w' h' => run_fieldOp1 q22 (eval_same _ _ _ (by simp only [put_size, hsz]; decide)) w') ?_
      refine met_free po23 d23 (wanted_guardF gd23 po18 d18 ((eval_other _ 44 40 _ (by decide)).trans ((eval_other _ 43 40 _ (by decide)).trans ((eval_other _ 42 40 _ (by decide)).trans ((eval_other _ 41 40 _ (by decide)).trans (eval_same _ _ _ (by simp only [put_size, hsz]; decide))))))) (fun w' h' => run_loadIntK q23 (eval_same _ _ _ (by simp only [put_size, hsz]; decide)) (h' 1 _ rfl)) ?_
      refine met_free po25 d25 (wanted_guardF gd25 po18 d18 ((eval_other _ 45 40 _ (by decide)).trans ((eval_other _ 44 40 _ (by decide)).trans ((eval_other _ 43 40 _ (by decide)).trans ((eval_other _ 42 40 _ (by decide)).trans ((eval_other _ 41 40 _ (by decide)).trans (eval_same _ _ _ (by simp only [put_size, hsz]; decide)))))))) (fun w' h' => run_move q25 ((eval_other _ 45 0 _ (by decide)).trans ((eval_other _ 44 0 _ (by decide)).trans ((eval_other _ 43 0 _ (by decide)).trans ((eval_other _ 42 0 _ (by decide)).trans ((eval_other _ 41 0 _ (by decide)).trans ((eval_other _ 40 0 _ (by decide)).trans ((eval_other _ 39 0 _ (by decide)).trans ((eval_other _ 38 0 _ (by decide)).trans ((eval_other _ 37 0 _ (by decide)).trans ((eval_other _ 36 0 _ (by decide)).trans ((eval_other _ 35 0 _ (by decide)).trans ((eval_other _ 34 0 _ (by decide)).trans ((eval_other _ 33 0 _ (by decide)).trans ((eval_other _ 32 0 _ (by decide)).trans ((eval_other _ 31 0 _ (by decide)).trans ((eval_other _ 30 0 _ (by decide)).trans ((eval_other _ 29 0 _ (by decide)).trans ((eval_other _ 28 0 _ (by decide)).trans ((eval_other _ 27 0 _ (by decide)).trans ((eval_other _ 26 0 _ (by decide)).trans ((eval_other _ 25 0 _ (by decide)).trans ((eval_other _ 24 0 _ (by decide)).trans ((eval_other _ 23 0 _ (by decide)).trans ((eval_other _ 22 0 _ (by decide)).trans base0)))))))))))))))))))))))) w') ?_
      refine met_free po26 d26 (wanted_guardF gd26 po18 d18 ((eval_other _ 47 40 _ (by decide)).trans ((eval_other _ 45 40 _ (by decide)).trans ((eval_other _ 44 40 _ (by decide)).trans ((eval_other _ 43 40 _ (by decide)).trans ((eval_other _ 42 40 _ (by decide)).trans ((eval_other _ 41 40 _ (by decide)).trans (eval_same _ _ _ (by simp only [put_size, hsz]; decide))))))))) (fun w' h' => run_move q26 ((eval_other _ 47 5 _ (by decide)).trans ((eval_other _ 45 5 _ (by decide)).trans ((eval_other _ 44 5 _ (by decide)).trans ((eval_other _ 43 5 _ (by decide)).trans ((eval_other _ 42 5 _ (by decide)).trans ((eval_other _ 41 5 _ (by decide)).trans ((eval_other _ 40 5 _ (by decide)).trans ((eval_other _ 39 5 _ (by decide)).trans ((eval_other _ 38 5 _ (by decide)).trans ((eval_other _ 37 5 _ (by decide)).trans ((eval_other _ 36 5 _ (by decide)).trans ((eval_other _ 35 5 _ (by decide)).trans ((eval_other _ 34 5 _ (by decide)).trans ((eval_other _ 33 5 _ (by decide)).trans ((eval_other _ 32 5 _ (by decide)).trans ((eval_other _ 31 5 _ (by decide)).trans ((eval_other _ 30 5 _ (by decide)).trans ((eval_other _ 29 5 _ (by decide)).trans ((eval_other _ 28 5 _ (by decide)).trans ((eval_other _ 27 5 _ (by decide)).trans ((eval_other _ 26 5 _ (by decide)).trans ((eval_other _ 25 5 _ (by decide)).trans ((eval_other _ 24 5 _ (by decide)).trans ((eval_other _ 23 5 _ (by decide)).trans ((eval_other _ 22 5 _ (by decide)).trans base5))))))))))))))))))))))))) w') ?_
      refine met_free po27 d27 (wanted_guardF gd27 po18 d18 ((eval_other _ 48 40 _ (by decide)).trans ((eval_other _ 47 40 _ (by decide)).trans ((eval_other _ 45 40 _ (by decide)).trans ((eval_other _ 44 40 _ (by decide)).trans ((eval_other _ 43 40 _ (by decide)).trans ((eval_other _ 42 40 _ (by decide)).trans ((eval_other _ 41 40 _ (by decide)).trans (eval_same _ _ _ (by simp only [put_size, hsz]; decide)))))))))) (fun w' h' => run_ixOpK q27 ((eval_other _ 48 47 _ (by decide)).trans (eval_same _ _ _ (by simp only [put_size, hsz]; decide))) (eval_same _ _ _ (by simp only [put_size, hsz]; decide)) HLT.out w') ?_
      refine met_free po28 d28 (wanted_guardF gd28 po18 d18 ((eval_other _ 49 40 _ (by decide)).trans ((eval_other _ 48 40 _ (by decide)).trans ((eval_other _ 47 40 _ (by decide)).trans ((eval_other _ 45 40 _ (by decide)).trans ((eval_other _ 44 40 _ (by decide)).trans ((eval_other _ 43 40 _ (by decide)).trans ((eval_other _ 42 40 _ (by decide)).trans ((eval_other _ 41 40 _ (by decide)).trans (eval_same _ _ _ (by simp only [put_size, hsz]; decide))))))))))) (fun w' h' => run_fieldOp1 q28 (eval_same _ _ _ (by simp only [put_size, hsz]; decide)) w') ?_
      refine met_free po29 d29 (wanted_guardF gd29 po18 d18 ((eval_other _ 50 40 _ (by decide)).trans ((eval_other _ 49 40 _ (by decide)).trans ((eval_other _ 48 40 _ (by decide)).trans ((eval_other _ 47 40 _ (by decide)).trans ((eval_other _ 45 40 _ (by decide)).trans ((eval_other _ 44 40 _ (by decide)).trans ((eval_other _ 43 40 _ (by decide)).trans ((eval_other _ 42 40 _ (by decide)).trans ((eval_other _ 41 40 _ (by decide)).trans (eval_same _ _ _ (by simp only [put_size, hsz]; decide)))))))))))) (fun w' h' => run_loadIntK q29 (eval_same _ _ _ (by simp only [put_size, hsz]; decide)) (h' 1 _ rfl)) ?_
      refine m_enter po24 d24 (wanted_guardF gd24 po18 d18 ((eval_other _ 51 40 _ (by decide)).trans ((eval_other _ 50 40 _ (by decide)).trans ((eval_other _ 49 40 _ (by decide)).trans ((eval_other _ 48 40 _ (by decide)).trans ((eval_other _ 47 40 _ (by decide)).trans ((eval_other _ 45 40 _ (by decide)).trans ((eval_other _ 44 40 _ (by decide)).trans ((eval_other _ 43 40 _ (by decide)).trans ((eval_other _ 42 40 _ (by decide)).trans ((eval_other _ 41 40 _ (by decide)).trans (eval_same _ _ _ (by simp only [put_size, hsz]; decide))))))))))))) (run_callf1 q24 rfl ((eval_other _ 51 45 _ (by decide)).trans ((eval_other _ 50 45 _ (by decide)).trans ((eval_other _ 49 45 _ (by decide)).trans ((eval_other _ 48 45 _ (by decide)).trans ((eval_other _ 47 45 _ (by decide)).trans (eval_same _ _ _ (by simp only [put_size, hsz]; decide))))))) Try.func11 (by kernel_rfl) _) (krNonce_any op.n w4) ?_
      rintro e w5 ⟨rfl, hb5⟩
      have HX5 := Lib.hid (HX4.out.below (KrAt.part _ _) (RrAt.part _ _) hb5)
      have HB5 := Lib.hid (HB4.out.trans (hb5.mono HB4.out.size))
      clear hb5
      refine ⟨_, rfl, HRG.out w5 HB5.out, ?_⟩
      refine m_enter po30 d30 (wanted_guardF gd30 po18 d18 ((eval_other _ 46 40 _ (by decide)).trans ((eval_other _ 51 40 _ (by decide)).trans ((eval_other _ 50 40 _ (by decide)).trans ((eval_other _ 49 40 _ (by decide)).trans ((eval_other _ 48 40 _ (by decide)).trans ((eval_other _ 47 40 _ (by decide)).trans ((eval_other _ 45 40 _ (by decide)).trans ((eval_other _ 44 40 _ (by decide)).trans ((eval_other _ 43 40 _ (by decide)).trans ((eval_other _ 42 40 _ (by decide)).trans ((eval_other _ 41 40 _ (by decide)).trans (eval_same _ _ _ (by simp only [put_size, hsz]; decide)))))))))))))) (run_callf1 q30 rfl ((eval_other _ 46 51 _ (by decide)).trans (eval_same _ _ _ (by simp only [put_size, hsz]; decide))) Try.func12 (by kernel_rfl) _) (rrNonce_any op.n w5) ?_
      rintro e w6 ⟨rfl, hb6⟩
      have HX6 := Lib.hid (HX5.out.below (KrAt.part _ _) (RrAt.part _ _) hb6)
      have HB6 := Lib.hid (HB5.out.trans (hb6.mono HB5.out.size))
      clear hb6
      refine ⟨_, rfl, HRG.out w6 HB6.out, ?_⟩
      refine met_free po31 d31 (wanted_guardF gd31 po18 d18 ((eval_other _ 52 40 _ (by decide)).trans ((eval_other _ 46 40 _ (by decide)).trans ((eval_other _ 51 40 _ (by decide)).trans ((eval_other _ 50 40 _ (by decide)).trans ((eval_other _ 49 40 _ (by decide)).trans ((eval_other _ 48 40 _ (by decide)).trans ((eval_other _ 47 40 _ (by decide)).trans ((eval_other _ 45 40 _ (by decide)).trans ((eval_other _ 44 40 _ (by decide)).trans ((eval_other _ 43 40 _ (by decide)).trans ((eval_other _ 42 40 _ (by decide)).trans ((eval_other _ 41 40 _ (by decide)).trans (eval_same _ _ _ (by simp only [put_size, hsz]; decide))))))))))))))) (fun w' h' => run_neNonceS q31 (nonceB_length op.n) ((eval_other _ 52 46 _ (by decide)).trans (eval_same _ _ _ (by simp only [put_size, hsz]; decide))) (eval_same _ _ _ (by simp only [put_size, hsz]; decide)) w') ?_
      refine met_free po32 d32 (wanted_of gd32) (fun w' h' => r_pickF q32 ((eval_other _ 53 40 _ (by decide)).trans ((eval_other _ 52 40 _ (by decide)).trans ((eval_other _ 46 40 _ (by decide)).trans ((eval_other _ 51 40 _ (by decide)).trans ((eval_other _ 50 40 _ (by decide)).trans ((eval_other _ 49 40 _ (by decide)).trans ((eval_other _ 48 40 _ (by decide)).trans ((eval_other _ 47 40 _ (by decide)).trans ((eval_other _ 45 40 _ (by decide)).trans ((eval_other _ 44 40 _ (by decide)).trans ((eval_other _ 43 40 _ (by decide)).trans ((eval_other _ 42 40 _ (by decide)).trans ((eval_other _ 41 40 _ (by decide)).trans (eval_same _ _ _ (by simp only [put_size, hsz]; decide))))))))))))))) (eval_same _ _ _ (by simp only [put_size, hsz]; decide)) w') ?_
      show NoPanic _ .normal _ _
      refine NoPanic.normal ?_
      rw [HAA.out]
      go_frame
      clear HAA
      clear po0 q0 d0 gd0 po1 q1 d1 gd1 po2 q2 d2 gd2 po3 q3 d3 gd3 po4 q4 d4 gd4 po5 q5 d5 gd5 po6 q6 d6 gd6 po7 q7 d7 gd7 po8 q8 d8 gd8 po9 q9 d9 gd9 po10 q10 d10 gd10 po11 q11 d11 gd11 po12 q12 d12 gd12 po13 q13 d13 gd13 po14 q14 d14 gd14 po15 q15 d15 gd15 po16 q16 d16 gd16 po17 q17 d17 gd17 po18 q18 d18 gd18 po19 q19 d19 gd19 po20 q20 d20 gd20 po21 q21 d21 gd21 po22 q22 d22 gd22 po23 q23 d23 gd23 po24 q24 d24 gd24 po25 q25 d25 gd25 po26 q26 d26 gd26 po27 q27 d27 gd27 po28 q28 d28 gd28 po29 q29 d29 gd29 po30 q30 d30 gd30 po31 q31 d31 gd31 po32 q32 d32 gd32
      clear base0 base3 base4 base5 hsz
      clear HX HB HXD HBD HX3 HB3 HX4 HB4 HX5 HB5
      go_wp2_with fail
      go_roundw
      case rel => exact ⟨k + 1, l', by omega, by omega, by go_num, by have := HL3.out; have := HLK.out; omega, HX6.out, HB6.out⟩
      case measure => simp [intOf]; omega
    · have hdone : ¬ (k < N ∧ k < 200) := hlt
      have HD := Lib.hid hdone
      by_cases hkn : k < N
      · have q1 : (k : Int) < (N : Int) := by omega
        obtain rfl : k = 200 := by omega
        clear hlt hdone HD
        go_wp2_with fail
        go_loopw [6] (fun i wz => ∃ j : Nat, j ≤ N ∧ j ≤ 200 ∧ i = .int .i64 (j : Int) ∧ X2 (KrAt r l) (RrAt x l) W.heap.size wz [] ∧ Below W.heap.size W wz) (fun i _ => 201 - (intOf i).toNat)
        case atStart => exact ⟨0, by omega, by omega, rfl, HX.out, HB.out⟩
        case round =>
          clear HX HB
          obtain ⟨j, hj, hj2, rfl, hx, hb⟩ := hrel
          have HXZ := Lib.hid hx
          have HBZ := Lib.hid hb
          clear hx hb
          by_cases hjt : j < N ∧ j < 200
          · obtain ⟨hjt, hjt2⟩ := hjt
            have hjo : j < os.length := by rw [HN.out]; exact hjt
            have HOK := Lib.hid (HO.out os[j] (List.getElem_mem hjo))
            rcases HTT.out.at' with h0 | ⟨b, off, rfl, hr⟩
            · exfalso; rw [h0] at hjo; simp at hjo
            have hrj := range_keep (hr j hjo) HBZ.out
            generalize os[j] = op at HOK hrj
            have c0 : wr.cell? ⟨b, off + j * 4, none⟩ = some (.int .i64 op.kind) := hrj 0 _ rfl
            have c1 := hrj 1 _ rfl
            have c2 := hrj 2 _ rfl
            have c3 := hrj 3 _ rfl
            have q3 : (j : Int) < (N : Int) := by omega
            have q4 : (j : Int) < 200 := by omega
            clear hr hrj hjo hjt
            go_wp2_with fail
            refine (krAlike_any W.heap.size r x l op.kind op.n op.t op.s _ HXZ.out HOK.out.ts HOK.out.ss).mono ?_
            rintro e w8 ⟨rfl, hb8⟩
            have HX8 := Lib.hid (HXZ.out.below (KrAt.part _ _) (RrAt.part _ _) hb8)
            have HB8 := Lib.hid (HBZ.out.trans (hb8.mono HBZ.out.size))
            clear hb8 HXZ HBZ
            go_wp2_with fail
            go_roundw
            case rel => exact ⟨j + 1, by omega, by omega, by go_num, HX8.out, HB8.out⟩
            case measure => simp [intOf]; omega
          · by_cases hjn : j < N
            · have q3 : (j : Int) < (N : Int) := by omega
              obtain rfl : j = 200 := by omega
              clear hjt
              first
                | (exfalso; omega)
                | (go_wp2_with fail
                   refine (HKN.out _ HBZ.out).mono ?_
                   rintro e w9 ⟨rfl, hb9⟩
                   have HB9 := Lib.hid hb9
                   clear hb9
                   go_wp2_with fail
                   go_ret
                   exact ⟨rfl, HB9.out⟩)
            · have q3 : ¬ (j : Int) < (N : Int) := by omega
              clear hjt
              first
                | (exfalso; omega)
                | (go_wp2_with fail
                   refine (HKN.out _ HBZ.out).mono ?_
                   rintro e w9 ⟨rfl, hb9⟩
                   have HB9 := Lib.hid hb9
                   clear hb9
                   go_wp2_with fail
                   go_ret
                   exact ⟨rfl, HB9.out⟩)
      · have q1 : ¬ (k : Int) < (N : Int) := by omega
        clear hlt hdone HD
        go_wp2_with fail
        go_loopw [6] (fun i wz => ∃ j : Nat, j ≤ N ∧ j ≤ 200 ∧ i = .int .i64 (j : Int) ∧ X2 (KrAt r l) (RrAt x l) W.heap.size wz [] ∧ Below W.heap.size W wz) (fun i _ => 201 - (intOf i).toNat)
        case atStart => exact ⟨0, by omega, by omega, rfl, HX.out, HB.out⟩
        case round =>
          clear HX HB
          obtain ⟨j, hj, hj2, rfl, hx, hb⟩ := hrel
          have HXZ := Lib.hid hx
          have HBZ := Lib.hid hb
          clear hx hb
          by_cases hjt : j < N ∧ j < 200
          · obtain ⟨hjt, hjt2⟩ := hjt
            have hjo : j < os.length := by rw [HN.out]; exact hjt
            have HOK := Lib.hid (HO.out os[j] (List.getElem_mem hjo))
            rcases HTT.out.at' with h0 | ⟨b, off, rfl, hr⟩
            · exfalso; rw [h0] at hjo; simp at hjo
            have hrj := range_keep (hr j hjo) HBZ.out
            generalize os[j] = op at HOK hrj
            have c0 : wr.cell? ⟨b, off + j * 4, none⟩ = some (.int .i64 op.kind) := hrj 0 _ rfl
            have c1 := hrj 1 _ rfl
            have c2 := hrj 2 _ rfl
            have c3 := hrj 3 _ rfl
            have q3 : (j : Int) < (N : Int) := by omega
            have q4 : (j : Int) < 200 := by omega
            clear hr hrj hjo hjt
            go_wp2_with fail
            refine (krAlike_any W.heap.size r x l op.kind op.n op.t op.s _ HXZ.out HOK.out.ts HOK.out.ss).mono ?_
            rintro e w8 ⟨rfl, hb8⟩
            have HX8 := Lib.hid (HXZ.out.below (KrAt.part _ _) (RrAt.part _ _) hb8)
            have HB8 := Lib.hid (HBZ.out.trans (hb8.mono HBZ.out.size))
            clear hb8 HXZ HBZ
            go_wp2_with fail
            go_roundw
            case rel => exact ⟨j + 1, by omega, by omega, by go_num, HX8.out, HB8.out⟩
            case measure => simp [intOf]; omega
          · by_cases hjn : j < N
            · have q3 : (j : Int) < (N : Int) := by omega
              obtain rfl : j = 200 := by omega
              clear hjt
              first
                | (exfalso; omega)
                | (go_wp2_with fail
                   refine (HKN.out _ HBZ.out).mono ?_
                   rintro e w9 ⟨rfl, hb9⟩
                   have HB9 := Lib.hid hb9
                   clear hb9
                   go_wp2_with fail
                   go_ret
                   exact ⟨rfl, HB9.out⟩)
            · have q3 : ¬ (j : Int) < (N : Int) := by omega
              clear hjt
              first
                | (exfalso; omega)
                | (go_wp2_with fail
                   refine (HKN.out _ HBZ.out).mono ?_
                   rintro e w9 ⟨rfl, hb9⟩
                   have HB9 := Lib.hid hb9
                   clear hb9
                   go_wp2_with fail
                   go_ret
                   exact ⟨rfl, HB9.out⟩)
end Go.Proofs.Ytoidjapenompiaa

/-
  RingPlays, for any list of calls: the law returns true, and what came in reads afterwards as it read before. Without any condition.
-/
namespace Go.Proofs.Ytoidjapenompiaa
open Go.ChangeShapes Go.WideShapes Go.ChangeAt Go.RowKit Go.Proofs.ShaWords

set_option maxRecDepth 100000 in
theorem ringPlays_lifted (os : Os) (started : os.Started) (H : Type) (enc : TypeId × Value → H) :
    ReturnsInHanded {} Try.checked os 3 .any (Rows.ringPlaysSpec.pre6 enc Try.prog Try.f3 Rows.ringPlaysRow.domain false)
      (Rows.ringPlaysSpec.post enc Try.prog Try.f3 false true false false) := by
  refine returnsInHanded_of_change_sized (C := Try.checked) own started (by kernel_rfl) Try.func3
    (ChangeSpec.witness6 (enc := enc) (C := Try.checked) false ⟨#[], #[.slice none 0 0], []⟩ 8 (by kernel_rfl) (by kernel_rfl) (by kernel_rfl) (by kernel_rfl)) ?_
  intro W base args ds gs before hval0 hW _ hsz _
  have hW' := hW
  obtain ⟨p, q, hA0, hV, rfl, hfz, hnd⟩ := hW
  have hA : DataW.TrodAll enc Try.prog W 0 (fun _ => true) true Try.f3.params.toList args.toList ds p := hA0
  have hval : ∀ (j : Nat) t v, Try.f3.params[j]? = some t → args[j]? = some v → Value.okWide Try.prog W .any base t v := hval0
  have hsz2 : (DataW.weightsEach Try.prog (Try.f3.params.toList ++ Rows.ringPlaysSpec.plain.varTypes Try.prog) (ds ++ gs)).all (· ≤ reachBytes) = true := hsz
  rw [Try.params3] at hA hval hsz2
  obtain ⟨v0, vs0, d0, ds0, p0, q0, hargs, rfl, rfl, h0, r0⟩ := trodAll_cons hA
  obtain ⟨rfl, rfl, rfl⟩ := trodAll_nil r0
  obtain rfl : args = #[v0] := by cases args; simp_all
  obtain ⟨rfl, rfl⟩ := trodVars_none hV
  obtain ⟨a0, len0, cap0, rfl⟩ := okWide_slice Try.underlying22 (hval 0 22 v0 rfl rfl)
  have k0 := h0
  have lt0 : ∀ x ∈ p0, x.block < W.heap.size := by obtain ⟨m, hm⟩ := k0; exact DataW.trod_lt m _ _ _ hm
  obtain ⟨f0, hf0⟩ := h0
  obtain ⟨ps0, hx0a, hx0b, hx0c, hx0d, hx0e⟩ := open_ops12 hf0 (fun n hn => by have := List.all_eq_true.1 hsz2 n (DataW.weights_mem_each (j := 0) rfl rfl n hn); simpa using this)
  clear hA0 hval0
  refine (krPlays_any ps0 len0 cap0 a0 W hx0a hx0c hx0d hx0e).mono fun e W' ⟨he, bel⟩ => ?_
  subst he
  exact ⟨_, rfl, _, _, _, [], _, [], hW', trodAll_mk1 (shut_bool Try.underlying4 _), (trodAll_cons_mk (Below.trod laidOut (by kernel_rfl) (of_decide_eq_true (by kernel_rfl)) k0 bel lt0) trodAll_mk0), rfl, bel.frame _, fun h => by cases h⟩

theorem ringPlays_holds : Rows.RingPlaysSaid :=
  OpenClaim.holds_of_wide 3 Try.f3 rfl rfl rfl rfl rfl rfl rfl ⟨rfl, rfl, rfl, rfl, rfl⟩ rfl rfl rfl rfl rfl (by kernel_rfl) Try.func3 (by kernel_rfl)
    (of_decide_eq_true (by kernel_rfl)) (by unfold Func.isWrapper; first | (rw [if_pos (by decide +kernel)]; kernel_rfl) | (rw [if_neg (by decide +kernel)]; exact ⟨rfl, rfl⟩))
    (fun os started H enc _ => ringPlays_lifted os started H enc)

#print axioms ringPlays_holds
end Go.Proofs.Ytoidjapenompiaa
