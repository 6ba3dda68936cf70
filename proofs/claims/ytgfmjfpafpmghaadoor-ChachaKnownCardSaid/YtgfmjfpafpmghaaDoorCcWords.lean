/-
  The contract of the law's own words: the bytes of words, the highest first.
-/
import Derived.Test.YtgfmjfpafpmghaaDoorAppendOps
import Derived.Deep.CutRange
namespace Go.Proofs.YtgfmjfpafpmghaaDoor
open Go.RowKit Go.Proofs.ShaWords

/-- A word's four bytes, the highest first. -/
def beBytes (x : BitVec 32) : List (BitVec 8) := [lo8 (x >>> 24), lo8 (x >>> 16), lo8 (x >>> 8), lo8 x]
theorem beFlat_length (l : List (BitVec 32)) : (l.flatMap beBytes).length = 4 * l.length := by
  induction l with
  | nil => rfl
  | cons a r ih => rw [List.flatMap_cons, List.length_append, ih]; simp [beBytes]; omega
theorem beFlat_succ (L : List (BitVec 32)) (k : Nat) (hk : k < L.length) : (L.take (k + 1)).flatMap beBytes = (L.take k).flatMap beBytes ++ beBytes (L.getD k 0#32) := by
  rw [List.take_succ_eq_append_getElem hk, List.flatMap_append]
  simp [List.getD, hk]

set_option maxRecDepth 100000 in
set_option maxHeartbeats 2000000 in
theorem words3_any (L : List (BitVec 32)) (n g c : Nat) (w : World) (hn : L.length = n) (hl : n ≤ 100000) (hr : w.rangeAt g 0 (wordsV L)) :
    Calls Tryd.prog 22 #[.slice (some ⟨g, 0, none⟩) n c] w fun e w' => ∃ v, e = .returned v ∧ Own w.heap.size w' (L.flatMap beBytes) v ∧ Below w.heap.size w w' := by
  have HN := Lib.hid hn; clear hn
  have HR := Lib.hid hr; clear hr
  go_enter Tryd.func22, Tryd.ntmps22
  go_wp2_with fail
  go_loopw [3, 4] (fun v i wr => ∃ k : Nat, k ≤ n ∧ i = .int .i64 k ∧ Own w.heap.size wr ((L.take k).flatMap beBytes) v ∧ Below w.heap.size w wr) (fun _ i _ => n - (intOf i).toNat)
  case atStart => exact ⟨0, Nat.zero_le _, rfl, Own.nil _ _, Below.refl _ _⟩
  case round =>
    obtain ⟨k, hk, rfl, ho, hb⟩ := hrel
    by_cases hlt : k < n
    · have hlk : k < L.length := by rw [HN.out]; exact hlt
      have hv : (wordsV L)[k]? = some (.int .u32 (n32 (L.getD k 0#32))) := by simp [wordsV, List.getD, hlk]
      have hgw := World.block_lt_of_cell? w _ (HR.out k _ hv)
      have hgw : g < w.heap.size := hgw
      have hc := (hb.cell (p := ⟨g, 0 + k, none⟩) hgw).trans (HR.out k _ hv)
      have HTK := Lib.hid (beFlat_succ L k hlk)
      have HLEN : Hid (((L.take k).flatMap beBytes).length + 4 < 1099511627776) := show _ < _ by rw [beFlat_length, List.length_take]; omega
      generalize L.getD k 0#32 = x at hc HTK
      have HO := Lib.hid ho; clear ho
      have HB := Lib.hid hb; clear hb hv
      have hgl : g < wr.heap.size := by have := HB.out.size; omega
      have HGW := Lib.hid hgw
      go_upto_region 5 with (fail)
      have hg0 : g < w.heap.size := HGW.out
      refine region_phase (fun w1 => w1.cell? ⟨g, 0 + k, none⟩ = some (.int .u32 (n32 x))) (fun _ => True) 24 hc trivial [(0, .free), (1, .free), (2, .free), (3, .free), (4, .free), (5, .free), (6, .free), (7, .free), (8, .free), (9, .free), (10, .free), (11, .free), (12, .free), (13, .free), (14, .free), (15, .free), (16, .free), (17, .free), (18, .free), (19, .free), (20, .free), (21, .free), (22, .free), (23, .free), (24, .behind), (25, .behind), (26, .free)] (by kernel_rfl) (by kernel_rfl) (by kernel_rfl) (by kernel_rfl) (fun ops hops A hA => ?_)
      have hsz : A.tmps.size = 38 := by rw [hA]; rfl
      have base0 : A.eval (.tmp 0) = .slice (some ⟨g, 0, none⟩) n c := by rw [hA]; rfl
      have base3 : A.eval (.tmp 3) = u3 := by rw [hA]; rfl
      have base4 : A.eval (.tmp 4) = .int .i64 (k : Int) := by rw [hA]; rfl
      have HAA := Lib.hid hA; clear hA
      obtain ⟨o0, po0, q0, d0, gd0⟩ : ∃ o, ops[0]? = some o ∧ o.op = .move (.tmp 3) ∧ o.dst = some 11 ∧ o.guard = none := ⟨_, by rw [hops]; rfl, rfl, rfl, rfl⟩
      obtain ⟨o1, po1, q1, d1, gd1⟩ : ∃ o, ops[1]? = some o ∧ o.op = .move (.tmp 0) ∧ o.dst = some 12 ∧ o.guard = none := ⟨_, by rw [hops]; rfl, rfl, rfl, rfl⟩
      obtain ⟨o2, po2, q2, d2, gd2⟩ : ∃ o, ops[2]? = some o ∧ o.op = .move (.tmp 4) ∧ o.dst = some 13 ∧ o.guard = none := ⟨_, by rw [hops]; rfl, rfl, rfl, rfl⟩
      obtain ⟨o3, po3, q3, d3, gd3⟩ : ∃ o, ops[3]? = some o ∧ o.op = .indexAddr 22 (.tmp 12) (.tmp 13) ∧ o.dst = some 14 ∧ o.guard = none := ⟨_, by rw [hops]; rfl, rfl, rfl, rfl⟩
      obtain ⟨o4, po4, q4, d4, gd4⟩ : ∃ o, ops[4]? = some o ∧ o.op = .load 25 (.tmp 14) ∧ o.dst = some 15 ∧ o.guard = none := ⟨_, by rw [hops]; rfl, rfl, rfl, rfl⟩
      obtain ⟨o5, po5, q5, d5, gd5⟩ : ∃ o, ops[5]? = some o ∧ o.op = .binOp .shr 25 (.tmp 15) (.const (.int .u64 24)) 62 ∧ o.dst = some 16 ∧ o.guard = none := ⟨_, by rw [hops]; rfl, rfl, rfl, rfl⟩
      obtain ⟨o6, po6, q6, d6, gd6⟩ : ∃ o, ops[6]? = some o ∧ o.op = .convert 25 5 (.tmp 16) ∧ o.dst = some 17 ∧ o.guard = none := ⟨_, by rw [hops]; rfl, rfl, rfl, rfl⟩
      obtain ⟨o7, po7, q7, d7, gd7⟩ : ∃ o, ops[7]? = some o ∧ o.op = .move (.tmp 0) ∧ o.dst = some 18 ∧ o.guard = none := ⟨_, by rw [hops]; rfl, rfl, rfl, rfl⟩
      obtain ⟨o8, po8, q8, d8, gd8⟩ : ∃ o, ops[8]? = some o ∧ o.op = .move (.tmp 4) ∧ o.dst = some 19 ∧ o.guard = none := ⟨_, by rw [hops]; rfl, rfl, rfl, rfl⟩
      obtain ⟨o9, po9, q9, d9, gd9⟩ : ∃ o, ops[9]? = some o ∧ o.op = .indexAddr 22 (.tmp 18) (.tmp 19) ∧ o.dst = some 20 ∧ o.guard = none := ⟨_, by rw [hops]; rfl, rfl, rfl, rfl⟩
      obtain ⟨o10, po10, q10, d10, gd10⟩ : ∃ o, ops[10]? = some o ∧ o.op = .load 25 (.tmp 20) ∧ o.dst = some 21 ∧ o.guard = none := ⟨_, by rw [hops]; rfl, rfl, rfl, rfl⟩
      obtain ⟨o11, po11, q11, d11, gd11⟩ : ∃ o, ops[11]? = some o ∧ o.op = .binOp .shr 25 (.tmp 21) (.const (.int .u64 16)) 62 ∧ o.dst = some 22 ∧ o.guard = none := ⟨_, by rw [hops]; rfl, rfl, rfl, rfl⟩
      obtain ⟨o12, po12, q12, d12, gd12⟩ : ∃ o, ops[12]? = some o ∧ o.op = .convert 25 5 (.tmp 22) ∧ o.dst = some 23 ∧ o.guard = none := ⟨_, by rw [hops]; rfl, rfl, rfl, rfl⟩
      obtain ⟨o13, po13, q13, d13, gd13⟩ : ∃ o, ops[13]? = some o ∧ o.op = .move (.tmp 0) ∧ o.dst = some 24 ∧ o.guard = none := ⟨_, by rw [hops]; rfl, rfl, rfl, rfl⟩
      obtain ⟨o14, po14, q14, d14, gd14⟩ : ∃ o, ops[14]? = some o ∧ o.op = .move (.tmp 4) ∧ o.dst = some 25 ∧ o.guard = none := ⟨_, by rw [hops]; rfl, rfl, rfl, rfl⟩
      obtain ⟨o15, po15, q15, d15, gd15⟩ : ∃ o, ops[15]? = some o ∧ o.op = .indexAddr 22 (.tmp 24) (.tmp 25) ∧ o.dst = some 26 ∧ o.guard = none := ⟨_, by rw [hops]; rfl, rfl, rfl, rfl⟩
      obtain ⟨o16, po16, q16, d16, gd16⟩ : ∃ o, ops[16]? = some o ∧ o.op = .load 25 (.tmp 26) ∧ o.dst = some 27 ∧ o.guard = none := ⟨_, by rw [hops]; rfl, rfl, rfl, rfl⟩
      obtain ⟨o17, po17, q17, d17, gd17⟩ : ∃ o, ops[17]? = some o ∧ o.op = .binOp .shr 25 (.tmp 27) (.const (.int .u64 8)) 62 ∧ o.dst = some 28 ∧ o.guard = none := ⟨_, by rw [hops]; rfl, rfl, rfl, rfl⟩
      obtain ⟨o18, po18, q18, d18, gd18⟩ : ∃ o, ops[18]? = some o ∧ o.op = .convert 25 5 (.tmp 28) ∧ o.dst = some 29 ∧ o.guard = none := ⟨_, by rw [hops]; rfl, rfl, rfl, rfl⟩
      obtain ⟨o19, po19, q19, d19, gd19⟩ : ∃ o, ops[19]? = some o ∧ o.op = .move (.tmp 0) ∧ o.dst = some 30 ∧ o.guard = none := ⟨_, by rw [hops]; rfl, rfl, rfl, rfl⟩
      obtain ⟨o20, po20, q20, d20, gd20⟩ : ∃ o, ops[20]? = some o ∧ o.op = .move (.tmp 4) ∧ o.dst = some 31 ∧ o.guard = none := ⟨_, by rw [hops]; rfl, rfl, rfl, rfl⟩
      obtain ⟨o21, po21, q21, d21, gd21⟩ : ∃ o, ops[21]? = some o ∧ o.op = .indexAddr 22 (.tmp 30) (.tmp 31) ∧ o.dst = some 32 ∧ o.guard = none := ⟨_, by rw [hops]; rfl, rfl, rfl, rfl⟩
      obtain ⟨o22, po22, q22, d22, gd22⟩ : ∃ o, ops[22]? = some o ∧ o.op = .load 25 (.tmp 32) ∧ o.dst = some 33 ∧ o.guard = none := ⟨_, by rw [hops]; rfl, rfl, rfl, rfl⟩
      obtain ⟨o23, po23, q23, d23, gd23⟩ : ∃ o, ops[23]? = some o ∧ o.op = .convert 25 5 (.tmp 33) ∧ o.dst = some 34 ∧ o.guard = none := ⟨_, by rw [hops]; rfl, rfl, rfl, rfl⟩
      obtain ⟨o24, po24, q24, d24, gd24⟩ : ∃ o, ops[24]? = some o ∧ o.op = .buildSlice 26 4 #[(0, (.tmp 17)), (1, (.tmp 23)), (2, (.tmp 29)), (3, (.tmp 34))] ∧ o.dst = some 35 ∧ o.guard = none := ⟨_, by rw [hops]; rfl, rfl, rfl, rfl⟩
      obtain ⟨o25, po25, q25, d25, gd25⟩ : ∃ o, ops[25]? = some o ∧ o.op = .call { callee := .builtin .append, args := #[.tmp 11, .tmp 35], argTypes := #[26, 26] } ∧ o.dst = some 36 ∧ o.guard = none := ⟨_, by rw [hops]; rfl, rfl, rfl, rfl⟩
      obtain ⟨o26, po26, q26, d26, gd26⟩ : ∃ o, ops[26]? = some o ∧ o.op = .assign (.tmp 36) ∧ o.dst = some 3 ∧ o.guard = none := ⟨_, by rw [hops]; rfl, rfl, rfl, rfl⟩
      clear hops
      refine met_free po0 d0 (wanted_of gd0) (fun w' _ => run_move q0 base3 w') ?_
      refine met_free po1 d1 (wanted_of gd1) (fun w' _ => run_move q1 ((eval_other _ 11 0 _ (by decide)).trans base0) w') ?_
      refine met_free po2 d2 (wanted_of gd2) (fun w' _ => run_move q2 ((eval_other _ 12 4 _ (by decide)).trans ((eval_other _ 11 4 _ (by decide)).trans base4)) w') ?_
      refine met_free po3 d3 (wanted_of gd3) (fun w' _ => run_ixWords q3 ((eval_other _ 13 12 _ (by decide)).trans (eval_same _ _ _ (by simp only [put_size, hsz]; decide))) (eval_same _ _ _ (by simp only [put_size, hsz]; decide)) hlt w') ?_
      refine met_free po4 d4 (wanted_of gd4) (fun w' h' => run_ld32 q4 (eval_same _ _ _ (by simp only [put_size, hsz]; decide)) h') ?_
      refine met_free po5 d5 (wanted_of gd5) (fun w' _ => run_shr32 (k := 24) q5 (eval_same _ _ _ (by simp only [put_size, hsz]; decide)) rfl (by decide) w') ?_
      refine met_free po6 d6 (wanted_of gd6) (fun w' _ => run_cut8 q6 (eval_same _ _ _ (by simp only [put_size, hsz]; decide)) w') ?_
      refine met_free po7 d7 (wanted_of gd7) (fun w' _ => run_move q7 ((eval_other _ 17 0 _ (by decide)).trans ((eval_other _ 16 0 _ (by decide)).trans ((eval_other _ 15 0 _ (by decide)).trans ((eval_other _ 14 0 _ (by decide)).trans ((eval_other _ 13 0 _ (by decide)).trans ((eval_other _ 12 0 _ (by decide)).trans ((eval_other _ 11 0 _ (by decide)).trans base0))))))) w') ?_
      refine met_free po8 d8 (wanted_of gd8) (fun w' _ => run_move q8 ((eval_other _ 18 4 _ (by decide)).trans ((eval_other _ 17 4 _ (by decide)).trans ((eval_other _ 16 4 _ (by decide)).trans ((eval_other _ 15 4 _ (by decide)).trans ((eval_other _ 14 4 _ (by decide)).trans ((eval_other _ 13 4 _ (by decide)).trans ((eval_other _ 12 4 _ (by decide)).trans ((eval_other _ 11 4 _ (by decide)).trans base4)))))))) w') ?_
      refine met_free po9 d9 (wanted_of gd9) (fun w' _ => run_ixWords q9 ((eval_other _ 19 18 _ (by decide)).trans (eval_same _ _ _ (by simp only [put_size, hsz]; decide))) (eval_same _ _ _ (by simp only [put_size, hsz]; decide)) hlt w') ?_
      refine met_free po10 d10 (wanted_of gd10) (fun w' h' => run_ld32 q10 (eval_same _ _ _ (by simp only [put_size, hsz]; decide)) h') ?_
      refine met_free po11 d11 (wanted_of gd11) (fun w' _ => run_shr32 (k := 16) q11 (eval_same _ _ _ (by simp only [put_size, hsz]; decide)) rfl (by decide) w') ?_
      refine met_free po12 d12 (wanted_of gd12) (fun w' _ => run_cut8 q12 (eval_same _ _ _ (by simp only [put_size, hsz]; decide)) w') ?_
      refine met_free po13 d13 (wanted_of gd13) (fun w' _ => run_move q13 ((eval_other _ 23 0 _ (by decide)).trans ((eval_other _ 22 0 _ (by decide)).trans ((eval_other _ 21 0 _ (by decide)).trans ((eval_other _ 20 0 _ (by decide)).trans ((eval_other _ 19 0 _ (by decide)).trans ((eval_other _ 18 0 _ (by decide)).trans ((eval_other _ 17 0 _ (by decide)).trans ((eval_other _ 16 0 _ (by decide)).trans ((eval_other _ 15 0 _ (by decide)).trans ((eval_other _ 14 0 _ (by decide)).trans ((eval_other _ 13 0 _ (by decide)).trans ((eval_other _ 12 0 _ (by decide)).trans ((eval_other _ 11 0 _ (by decide)).trans base0))))))))))))) w') ?_
      refine met_free po14 d14 (wanted_of gd14) (fun w' _ => run_move q14 ((eval_other _ 24 4 _ (by decide)).trans ((eval_other _ 23 4 _ (by decide)).trans ((eval_other _ 22 4 _ (by decide)).trans ((eval_other _ 21 4 _ (by decide)).trans ((eval_other _ 20 4 _ (by decide)).trans ((eval_other _ 19 4 _ (by decide)).trans ((eval_other _ 18 4 _ (by decide)).trans ((eval_other _ 17 4 _ (by decide)).trans ((eval_other _ 16 4 _ (by decide)).trans ((eval_other _ 15 4 _ (by decide)).trans ((eval_other _ 14 4 _ (by decide)).trans ((eval_other _ 13 4 _ (by decide)).trans ((eval_other _ 12 4 _ (by decide)).trans ((eval_other _ 11 4 _ (by decide)).trans base4)))))))))))))) w') ?_
      refine met_free po15 d15 (wanted_of gd15) (fun w' _ => run_ixWords q15 ((eval_other _ 25 24 _ (by decide)).trans (eval_same _ _ _ (by simp only [put_size, hsz]; decide))) (eval_same _ _ _ (by simp only [put_size, hsz]; decide)) hlt w') ?_
      refine met_free po16 d16 (wanted_of gd16) (fun w' h' => run_ld32 q16 (eval_same _ _ _ (by simp only [put_size, hsz]; decide)) h') ?_
      refine met_free po17 d17 (wanted_of gd17) (fun w' _ => run_shr32 (k := 8) q17 (eval_same _ _ _ (by simp only [put_size, hsz]; decide)) rfl (by decide) w') ?_
      refine met_free po18 d18 (wanted_of gd18) (fun w' _ => run_cut8 q18 (eval_same _ _ _ (by simp only [put_size, hsz]; decide)) w') ?_
      refine met_free po19 d19 (wanted_of gd19) (fun w' _ => run_move q19 ((eval_other _ 29 0 _ (by decide)).trans ((eval_other _ 28 0 _ (by decide)).trans ((eval_other _ 27 0 _ (by decide)).trans ((eval_other _ 26 0 _ (by decide)).trans ((eval_other _ 25 0 _ (by decide)).trans ((eval_other _ 24 0 _ (by decide)).trans ((eval_other _ 23 0 _ (by decide)).trans ((eval_other _ 22 0 _ (by decide)).trans ((eval_other _ 21 0 _ (by decide)).trans ((eval_other _ 20 0 _ (by decide)).trans ((eval_other _ 19 0 _ (by decide)).trans ((eval_other _ 18 0 _ (by decide)).trans ((eval_other _ 17 0 _ (by decide)).trans ((eval_other _ 16 0 _ (by decide)).trans ((eval_other _ 15 0 _ (by decide)).trans ((eval_other _ 14 0 _ (by decide)).trans ((eval_other _ 13 0 _ (by decide)).trans ((eval_other _ 12 0 _ (by decide)).trans ((eval_other _ 11 0 _ (by decide)).trans base0))))))))))))))))))) w') ?_
      refine met_free po20 d20 (wanted_of gd20) (fun w' _ => run_move q20 ((eval_other _ 30 4 _ (by decide)).trans ((eval_other _ 29 4 _ (by decide)).trans ((eval_other _ 28 4 _ (by decide)).trans ((eval_other _ 27 4 _ (by decide)).trans ((eval_other _ 26 4 _ (by decide)).trans ((eval_other _ 25 4 _ (by decide)).trans ((eval_other _ 24 4 _ (by decide)).trans ((eval_other _ 23 4 _ (by decide)).trans ((eval_other _ 22 4 _ (by decide)).trans ((eval_other _ 21 4 _ (by decide)).trans ((eval_other _ 20 4 _ (by decide)).trans ((eval_other _ 19 4 _ (by decide)).trans ((eval_other _ 18 4 _ (by decide)).trans ((eval_other _ 17 4 _ (by decide)).trans ((eval_other _ 16 4 _ (by decide)).trans ((eval_other _ 15 4 _ (by decide)).trans ((eval_other _ 14 4 _ (by decide)).trans ((eval_other _ 13 4 _ (by decide)).trans ((eval_other _ 12 4 _ (by decide)).trans ((eval_other _ 11 4 _ (by decide)).trans base4)))))))))))))))))))) w') ?_
      refine met_free po21 d21 (wanted_of gd21) (fun w' _ => run_ixWords q21 ((eval_other _ 31 30 _ (by decide)).trans (eval_same _ _ _ (by simp only [put_size, hsz]; decide))) (eval_same _ _ _ (by simp only [put_size, hsz]; decide)) hlt w') ?_
      refine met_free po22 d22 (wanted_of gd22) (fun w' h' => run_ld32 q22 (eval_same _ _ _ (by simp only [put_size, hsz]; decide)) h') ?_
      refine met_free po23 d23 (wanted_of gd23) (fun w' _ => run_cut8 q23 (eval_same _ _ _ (by simp only [put_size, hsz]; decide)) w') ?_
      refine met_op po24 d24 (wanted_of gd24) (run_build4 q24 ((eval_other _ 34 17 _ (by decide)).trans ((eval_other _ 33 17 _ (by decide)).trans ((eval_other _ 32 17 _ (by decide)).trans ((eval_other _ 31 17 _ (by decide)).trans ((eval_other _ 30 17 _ (by decide)).trans ((eval_other _ 29 17 _ (by decide)).trans ((eval_other _ 28 17 _ (by decide)).trans ((eval_other _ 27 17 _ (by decide)).trans ((eval_other _ 26 17 _ (by decide)).trans ((eval_other _ 25 17 _ (by decide)).trans ((eval_other _ 24 17 _ (by decide)).trans ((eval_other _ 23 17 _ (by decide)).trans ((eval_other _ 22 17 _ (by decide)).trans ((eval_other _ 21 17 _ (by decide)).trans ((eval_other _ 20 17 _ (by decide)).trans ((eval_other _ 19 17 _ (by decide)).trans ((eval_other _ 18 17 _ (by decide)).trans (eval_same _ _ _ (by simp only [put_size, hsz]; decide))))))))))))))))))) ((eval_other _ 34 23 _ (by decide)).trans ((eval_other _ 33 23 _ (by decide)).trans ((eval_other _ 32 23 _ (by decide)).trans ((eval_other _ 31 23 _ (by decide)).trans ((eval_other _ 30 23 _ (by decide)).trans ((eval_other _ 29 23 _ (by decide)).trans ((eval_other _ 28 23 _ (by decide)).trans ((eval_other _ 27 23 _ (by decide)).trans ((eval_other _ 26 23 _ (by decide)).trans ((eval_other _ 25 23 _ (by decide)).trans ((eval_other _ 24 23 _ (by decide)).trans (eval_same _ _ _ (by simp only [put_size, hsz]; decide))))))))))))) ((eval_other _ 34 29 _ (by decide)).trans ((eval_other _ 33 29 _ (by decide)).trans ((eval_other _ 32 29 _ (by decide)).trans ((eval_other _ 31 29 _ (by decide)).trans ((eval_other _ 30 29 _ (by decide)).trans (eval_same _ _ _ (by simp only [put_size, hsz]; decide))))))) (eval_same _ _ _ (by simp only [put_size, hsz]; decide)) _) (((Below.refl _ _).alloc (Nat.le_refl _) _).cell (p := ⟨g, 0 + k, none⟩) hgl |>.trans hc) ?_
      refine met_wp po25 (wanted_of gd25) (wp_append_bytes (.tmp 11) (.tmp 35) q25 w.heap.size u3 ((L.take k).flatMap beBytes) (beBytes x) wr.heap.size 0 4 ((eval_other _ 35 11 _ (by decide)).trans ((eval_other _ 34 11 _ (by decide)).trans ((eval_other _ 33 11 _ (by decide)).trans ((eval_other _ 32 11 _ (by decide)).trans ((eval_other _ 31 11 _ (by decide)).trans ((eval_other _ 30 11 _ (by decide)).trans ((eval_other _ 29 11 _ (by decide)).trans ((eval_other _ 28 11 _ (by decide)).trans ((eval_other _ 27 11 _ (by decide)).trans ((eval_other _ 26 11 _ (by decide)).trans ((eval_other _ 25 11 _ (by decide)).trans ((eval_other _ 24 11 _ (by decide)).trans ((eval_other _ 23 11 _ (by decide)).trans ((eval_other _ 22 11 _ (by decide)).trans ((eval_other _ 21 11 _ (by decide)).trans ((eval_other _ 20 11 _ (by decide)).trans ((eval_other _ 19 11 _ (by decide)).trans ((eval_other _ 18 11 _ (by decide)).trans ((eval_other _ 17 11 _ (by decide)).trans ((eval_other _ 16 11 _ (by decide)).trans ((eval_other _ 15 11 _ (by decide)).trans ((eval_other _ 14 11 _ (by decide)).trans ((eval_other _ 13 11 _ (by decide)).trans ((eval_other _ 12 11 _ (by decide)).trans (eval_same _ _ _ (by rw [hsz]; decide)))))))))))))))))))))))))) (HO.out.below (((Below.refl _ _).drew).alloc (Nat.le_refl _) _)) (eval_same _ _ _ (by simp only [put_size, hsz]; decide)) (range_bytesV (t := 5) (fr := (0, 0)) (l := beBytes x) (heap_new_at rfl)) (by simp [beBytes]) HLEN.out (by have := HB.out.size; rw [size_alloc]; show w.heap.size ≤ wr.heap.size + 1; omega) (fun v' w' ho' hb' => ?_))
      rw [d25]
      have HO' := Lib.hid ho'; have HB' := Lib.hid hb'; clear ho' hb'
      refine ⟨(HB'.out.cell (p := ⟨g, 0 + k, none⟩) hg0).trans ((((Below.refl wr.drew.heap.size wr.drew).alloc (Nat.le_refl _) _).cell (p := ⟨g, 0 + k, none⟩) hgl).trans hc), ?_⟩
      refine met_free po26 d26 (wanted_of gd26) (fun w' _ => run_assign q26 (eval_same _ _ _ (by simp only [put_size, hsz]; decide)) w') ?_
      show NoPanic _ .normal _ _
      refine NoPanic.normal ?_
      rw [HAA.out]
      go_frame
      rw [← HTK.out] at HO'
      go_wp2_with fail
      go_roundw
      case rel => exact ⟨k + 1, by omega, by go_num, HO'.out, HB.out.trans ((((Below.refl _ _).drew).alloc (by show w.heap.size ≤ wr.heap.size; exact HB.out.size) _).trans HB'.out)⟩
      case measure => simp [intOf]; omega
    · have HO := Lib.hid ho; clear ho
      have HB := Lib.hid hb; clear hb
      have HK : Hid (k = n) := show k = n by omega
      go_wp2_with fail
      go_ret
      refine ⟨_, rfl, ?_, HB.out⟩
      have h1 := HO.out
      rw [List.take_of_length_le (by rw [HN.out, HK.out]; exact Nat.le_refl _)] at h1
      exact h1
end Go.Proofs.YtgfmjfpafpmghaaDoor
