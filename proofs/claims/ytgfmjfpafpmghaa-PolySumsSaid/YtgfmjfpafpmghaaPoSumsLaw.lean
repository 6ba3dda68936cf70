/-
  The walk of the law PolySums: for any key and any bytes it returns true, and nothing that was there changes.
-/
import Derived.Test.YtgfmjfpafpmghaaPoRef9
import Derived.Test.YtgfmjfpafpmghaaPoGoesLaw
namespace Go.Proofs.Ytgfmjfpafpmghaa
open Go.RowKit Go.Proofs.ShaWords
theorem run_toN {ρ : Operand → Value} {o : Oper} {x y : Operand} {p : Option Addr} {n c k : Nat} (ho : o.op = .slice 24 x none (some y) none) (hk : k ≤ c) (hx : ρ x = .slice p n c) (hy : ρ y = .int .i64 (k : Int)) (w : World) :
    (execOp ρ o).run Try.prog w = .ok (.value (.slice p k c)) w := by
  obtain ⟨dst, op, ty, pos, after, guard⟩ := o
  simp only at ho
  subst ho
  have h0 : (0 : Int) ≤ (k : Int) := by omega
  have h1 : (k : Int) ≤ (c : Int) := by omega
  go_simp
theorem lies_head {w : World} {p : Option Addr} {l r : List (BitVec 8)} (h : Lies w p (l ++ r)) : Lies w p l := by
  rcases h with h | ⟨b, off, hp, hr⟩
  · exact Or.inl (List.append_eq_nil_iff.1 h).1
  · exact Or.inr ⟨b, off, hp, range_front hr⟩
/-- The key's block, the bytes that were lent. -/
structure SmW (w : World) (key bs : List (BitVec 8)) (p5 : Option Addr) (wr : World) : Prop where
  key : BytesAt wr w.heap.size 23 key
  all : Lies wr p5 (bs ++ marks 5)
  below : Below w.heap.size w wr
theorem SmW.on {w wr w' : World} {key bs : List (BitVec 8)} {p5 : Option Addr} (h : SmW w key bs p5 wr) (hb : Below wr.heap.size wr w') : SmW w key bs p5 w' := ⟨h.key.keep hb, h.all.below hb, h.below.trans (hb.mono h.below.size)⟩
attribute [local irreducible] polyTag marks
set_option maxRecDepth 100000 in
set_option maxHeartbeats 4000000 in
theorem sums_any (key bs : List (BitVec 8)) (m : Nat) (p : Option Addr) (cap : Nat) (w : World) (hk : key.length = 32) (hm : bs.length = m) (hc : m ≤ cap) (_hcm : cap ≤ 140737488355328) (hL : Lies w p bs) :
    Calls Try.prog 3 #[.agg (bytesV key).toArray, .slice p m cap] w fun e w' => e = .returned (.bool true) ∧ Below w.heap.size w w' := by
  have HKL := Lib.hid hk; clear hk
  have HM := Lib.hid hm; clear hm
  have HL := Lib.hid hL; clear hL
  by_cases hbig : 1024 < m
  · go_enter Try.func3, Try.ntmps3
    have p0 : (1024 : Int) < (m : Int) := by omega
    go_wp2_with fail
    refine calls_gen (fun w1 => Below w.heap.size w w1) ((Below.refl _ _).alloc (Nat.le_refl _) _) ?_
    intro w1 hb1
    refine (known_any w1).mono ?_
    rintro e w2 ⟨rfl, hb2⟩
    have HB2 := Lib.hid (hb1.trans (hb2.mono hb1.size)); clear hb1 hb2
    go_wp2_with fail
    go_ret
    exact ⟨rfl, HB2.out⟩
  · go_enter Try.func3, Try.ntmps3
    have p0 : ¬ (1024 : Int) < (m : Int) := by omega
    go_wp2_with fail
    refine calls_gen (fun w1 => BytesAt w1 w.heap.size 23 key ∧ Below w.heap.size w w1) ⟨heap_alloc_new w _, (Below.refl _ _).alloc (Nat.le_refl _) _⟩ ?_
    rintro w1 ⟨hk1, hb1⟩
    have hlent := lent_any bs p cap w1 (by rw [HM.out]; omega) (HL.out.below hb1)
    rw [HM.out] at hlent
    refine hlent.mono ?_
    rintro e w2 ⟨v, rfl, ho, hb2⟩
    obtain ⟨p5, c5, hv, hc5, hm5, hl5⟩ := ho.lies
    have hln : (bs ++ marks 5).length = m + 5 := by rw [List.length_append, marks_length, HM.out]
    rw [hln] at hv hc5
    subst hv
    unfold maxLen at hm5
    have HW2 : Hid (SmW w key bs p5 w2) := show SmW _ _ _ _ _ from ⟨hk1.keep hb2, hl5, hb1.trans (hb2.mono hb1.size)⟩
    clear hk1 hb1 hlent ho hb2 hl5 hln
    obtain ⟨m5, he5⟩ : ∃ m5, m5 = m + 5 := ⟨_, rfl⟩
    rw [← he5] at hc5 ⊢
    have HE5 := Lib.hid he5
    have h5a : m5 ≤ m + 5 := by omega
    have h5b : m + 5 ≤ m5 := by omega
    clear he5
    go_upto_region 4 with (fail)
    have HSD : Hid (SmW w key bs p5 w2.drew) := show SmW _ _ _ _ _ from HW2.out.on ((Below.refl _ _).drew)
    clear HW2
    refine region_phase (SmW w key bs p5) (fun _ => True) 5 HSD.out trivial [(0, .free), (1, .free), (2, .free), (3, .free), (4, .free), (6, .free), (7, .free), (5, .behind), (8, .behind), (9, .free), (10, .free), (11, .free), (12, .free), (13, .behind), (14, .free), (15, .free), (16, .behind), (17, .free), (18, .free)] (by kernel_rfl) (by kernel_rfl) (by kernel_rfl) (by kernel_rfl) (fun ops hops A2 hA => ?_)
    have hsz : A2.tmps.size = 30 := by rw [hA]; rfl
    have base1 : A2.eval (.tmp 1) = .slice p m cap := by rw [hA]; rfl
    have base2 : A2.eval (.tmp 2) = .pointer (some ⟨w.heap.size, 0, none⟩) := by rw [hA]; rfl
    have base5 : A2.eval (.tmp 5) = .slice p5 m5 c5 := by rw [hA]; rfl
    have HAA := Lib.hid hA; clear hA
    obtain ⟨o0, po0, q0, d0, gd0⟩ : ∃ o, ops[0]? = some o ∧ o.op = .load 23 (.tmp 2) ∧ o.dst = some 12 ∧ o.guard = none := ⟨_, by rw [hops]; rfl, rfl, rfl, rfl⟩
    obtain ⟨o1, po1, q1, d1, gd1⟩ : ∃ o, ops[1]? = some o ∧ o.op = .move (.tmp 5) ∧ o.dst = some 13 ∧ o.guard = none := ⟨_, by rw [hops]; rfl, rfl, rfl, rfl⟩
    obtain ⟨o2, po2, q2, d2, gd2⟩ : ∃ o, ops[2]? = some o ∧ o.op = .move (.tmp 1) ∧ o.dst = some 14 ∧ o.guard = none := ⟨_, by rw [hops]; rfl, rfl, rfl, rfl⟩
    obtain ⟨o3, po3, q3, d3, gd3⟩ : ∃ o, ops[3]? = some o ∧ o.op = .call { callee := .builtin .len, args := #[.tmp 14], argTypes := #[24] } ∧ o.dst = some 15 ∧ o.guard = none := ⟨_, by rw [hops]; rfl, rfl, rfl, rfl⟩
    obtain ⟨o4, po4, q4, d4, gd4⟩ : ∃ o, ops[4]? = some o ∧ o.op = .slice 24 (.tmp 13) none (some (.tmp 15)) none ∧ o.dst = some 16 ∧ o.guard = none := ⟨_, by rw [hops]; rfl, rfl, rfl, rfl⟩
    obtain ⟨o5, po5, q5, d5, gd5⟩ : ∃ o, ops[5]? = some o ∧ o.op = .call { callee := .value (.func 10), args := #[.tmp 12, .tmp 16], argTypes := #[23, 24] } ∧ o.dst = some 17 ∧ o.guard = none := ⟨_, by rw [hops]; rfl, rfl, rfl, rfl⟩
    obtain ⟨o6, po6, q6, d6, gd6⟩ : ∃ o, ops[6]? = some o ∧ o.op = .load 23 (.tmp 2) ∧ o.dst = some 18 ∧ o.guard = none := ⟨_, by rw [hops]; rfl, rfl, rfl, rfl⟩
    obtain ⟨o7, po7, q7, d7, gd7⟩ : ∃ o, ops[7]? = some o ∧ o.op = .move (.tmp 1) ∧ o.dst = some 19 ∧ o.guard = none := ⟨_, by rw [hops]; rfl, rfl, rfl, rfl⟩
    obtain ⟨o8, po8, q8, d8, gd8⟩ : ∃ o, ops[8]? = some o ∧ o.op = .call { callee := .value (.func 11), args := #[.tmp 18, .tmp 19], argTypes := #[23, 24] } ∧ o.dst = some 20 ∧ o.guard = none := ⟨_, by rw [hops]; rfl, rfl, rfl, rfl⟩
    obtain ⟨o9, po9, q9, d9, gd9⟩ : ∃ o, ops[9]? = some o ∧ o.op = .binOp .eql 28 (.tmp 17) (.tmp 20) 28 ∧ o.dst = some 21 ∧ o.guard = none := ⟨_, by rw [hops]; rfl, rfl, rfl, rfl⟩
    obtain ⟨o10, po10, q10, d10, gd10⟩ : ∃ o, ops[10]? = some o ∧ o.op = .move (.tmp 21) ∧ o.dst = some 22 ∧ o.guard = none := ⟨_, by rw [hops]; rfl, rfl, rfl, rfl⟩
    obtain ⟨o11, po11, q11, d11, gd11⟩ : ∃ o, ops[11]? = some o ∧ o.op = .move (.tmp 5) ∧ o.dst = some 23 ∧ o.guard = some (10, true) := ⟨_, by rw [hops]; rfl, rfl, rfl, rfl⟩
    obtain ⟨o12, po12, q12, d12, gd12⟩ : ∃ o, ops[12]? = some o ∧ o.op = .move (.tmp 1) ∧ o.dst = some 24 ∧ o.guard = some (10, true) := ⟨_, by rw [hops]; rfl, rfl, rfl, rfl⟩
    obtain ⟨o13, po13, q13, d13, gd13⟩ : ∃ o, ops[13]? = some o ∧ o.op = .call { callee := .value (.func 12), args := #[.tmp 23, .tmp 24], argTypes := #[24, 24] } ∧ o.dst = some 25 ∧ o.guard = some (10, true) := ⟨_, by rw [hops]; rfl, rfl, rfl, rfl⟩
    obtain ⟨o14, po14, q14, d14, gd14⟩ : ∃ o, ops[14]? = some o ∧ o.op = .pick (.tmp 22) (.tmp 25) (.const (.bool false)) ∧ o.dst = some 26 ∧ o.guard = none := ⟨_, by rw [hops]; rfl, rfl, rfl, rfl⟩
    obtain ⟨o15, po15, q15, d15, gd15⟩ : ∃ o, ops[15]? = some o ∧ o.op = .move (.tmp 26) ∧ o.dst = some 27 ∧ o.guard = none := ⟨_, by rw [hops]; rfl, rfl, rfl, rfl⟩
    obtain ⟨o16, po16, q16, d16, gd16⟩ : ∃ o, ops[16]? = some o ∧ o.op = .call { callee := .value (.func 8), args := #[], argTypes := #[] } ∧ o.dst = some 28 ∧ o.guard = some (15, true) := ⟨_, by rw [hops]; rfl, rfl, rfl, rfl⟩
    obtain ⟨o17, po17, q17, d17, gd17⟩ : ∃ o, ops[17]? = some o ∧ o.op = .pick (.tmp 27) (.tmp 28) (.const (.bool false)) ∧ o.dst = some 29 ∧ o.guard = none := ⟨_, by rw [hops]; rfl, rfl, rfl, rfl⟩
    obtain ⟨o18, po18, q18, d18, gd18⟩ : ∃ o, ops[18]? = some o ∧ o.op = .assign (.tmp 29) ∧ o.dst = some 4 ∧ o.guard = none := ⟨_, by rw [hops]; rfl, rfl, rfl, rfl⟩
    clear hops
    refine met_free po0 d0 (wanted_of gd0) (fun w' h' => run_loadKey q0 base2 HKL.out h'.key) ?_
    refine met_free po1 d1 (wanted_of gd1) (fun w' _ => run_move q1 ((eval_other _ 12 5 _ (by decide)).trans base5) w') ?_
    refine met_free po2 d2 (wanted_of gd2) (fun w' _ => run_move q2 ((eval_other _ 13 1 _ (by decide)).trans ((eval_other _ 12 1 _ (by decide)).trans base1)) w') ?_
    refine met_free po3 d3 (wanted_of gd3) (fun w' _ => run_len26 q3 (eval_same _ _ _ (by simp only [put_size, hsz]; decide)) w') ?_
    refine met_free po4 d4 (wanted_of gd4) (fun w' _ => run_toN q4 (by omega) ((eval_other _ 15 13 _ (by decide)).trans ((eval_other _ 14 13 _ (by decide)).trans (eval_same _ _ _ (by simp only [put_size, hsz]; decide)))) (eval_same _ _ _ (by simp only [put_size, hsz]; decide)) w') ?_
    refine met_free po6 d6 (wanted_of gd6) (fun w' h' => run_loadKey q6 ((eval_other _ 16 2 _ (by decide)).trans ((eval_other _ 15 2 _ (by decide)).trans ((eval_other _ 14 2 _ (by decide)).trans ((eval_other _ 13 2 _ (by decide)).trans ((eval_other _ 12 2 _ (by decide)).trans base2))))) HKL.out h'.key) ?_
    refine met_free po7 d7 (wanted_of gd7) (fun w' _ => run_move q7 ((eval_other _ 18 1 _ (by decide)).trans ((eval_other _ 16 1 _ (by decide)).trans ((eval_other _ 15 1 _ (by decide)).trans ((eval_other _ 14 1 _ (by decide)).trans ((eval_other _ 13 1 _ (by decide)).trans ((eval_other _ 12 1 _ (by decide)).trans base1)))))) w') ?_
    refine met_enterA po5 d5 (wanted_of gd5) (run_callf2 q5 rfl ((eval_other _ 19 12 _ (by decide)).trans ((eval_other _ 18 12 _ (by decide)).trans ((eval_other _ 16 12 _ (by decide)).trans ((eval_other _ 15 12 _ (by decide)).trans ((eval_other _ 14 12 _ (by decide)).trans ((eval_other _ 13 12 _ (by decide)).trans (eval_same _ _ _ (by rw [hsz]; decide)))))))) ((eval_other _ 19 16 _ (by decide)).trans ((eval_other _ 18 16 _ (by decide)).trans (eval_same _ _ _ (by simp only [put_size, hsz]; decide)))) Try.func10 (by kernel_rfl) _) (polySum_wide key bs m p5 c5 _ HKL.out HM.out (by omega) (by omega) (lies_head HSD.out.all)) ?_
    rintro e w5 ⟨rfl, hb5⟩
    have H5 := Lib.hid (HSD.out.on hb5); clear hb5
    refine ⟨_, rfl, H5.out, ?_⟩
    refine met_enterA po8 d8 (wanted_of gd8) (run_callf2 q8 rfl ((eval_other _ 17 18 _ (by decide)).trans ((eval_other _ 19 18 _ (by decide)).trans (eval_same _ _ _ (by simp only [put_size, hsz]; decide)))) ((eval_other _ 17 19 _ (by decide)).trans (eval_same _ _ _ (by simp only [put_size, hsz]; decide))) Try.func11 (by kernel_rfl) _) (refSum_any key bs m p cap _ HKL.out HM.out (by omega) hc (HL.out.below H5.out.below)) ?_
    rintro e w6 ⟨rfl, hb6⟩
    have H6 := Lib.hid (H5.out.on hb6); clear hb6
    refine ⟨_, rfl, H6.out, ?_⟩
    refine met_free po9 d9 (wanted_of gd9) (fun w' _ => run_eql_tag q9 (polyTag_length _ _) ((eval_other _ 20 17 _ (by decide)).trans (eval_same _ _ _ (by simp only [put_size, hsz]; decide))) (eval_same _ _ _ (by simp only [put_size, hsz]; decide)) w') ?_
    refine met_free po10 d10 (wanted_of gd10) (fun w' _ => run_move q10 (eval_same _ _ _ (by simp only [put_size, hsz]; decide)) w') ?_
    refine met_free po11 d11 (wanted_guard gd11 po10 d10 (eval_same _ _ _ (by simp only [put_size, hsz]; decide))) (fun w' _ => run_move q11 ((eval_other _ 22 5 _ (by decide)).trans ((eval_other _ 21 5 _ (by decide)).trans ((eval_other _ 20 5 _ (by decide)).trans ((eval_other _ 17 5 _ (by decide)).trans ((eval_other _ 19 5 _ (by decide)).trans ((eval_other _ 18 5 _ (by decide)).trans ((eval_other _ 16 5 _ (by decide)).trans ((eval_other _ 15 5 _ (by decide)).trans ((eval_other _ 14 5 _ (by decide)).trans ((eval_other _ 13 5 _ (by decide)).trans ((eval_other _ 12 5 _ (by decide)).trans base5))))))))))) w') ?_
    refine met_free po12 d12 (wanted_guard gd12 po10 d10 ((eval_other _ 23 22 _ (by decide)).trans (eval_same _ _ _ (by simp only [put_size, hsz]; decide)))) (fun w' _ => run_move q12 ((eval_other _ 23 1 _ (by decide)).trans ((eval_other _ 22 1 _ (by decide)).trans ((eval_other _ 21 1 _ (by decide)).trans ((eval_other _ 20 1 _ (by decide)).trans ((eval_other _ 17 1 _ (by decide)).trans ((eval_other _ 19 1 _ (by decide)).trans ((eval_other _ 18 1 _ (by decide)).trans ((eval_other _ 16 1 _ (by decide)).trans ((eval_other _ 15 1 _ (by decide)).trans ((eval_other _ 14 1 _ (by decide)).trans ((eval_other _ 13 1 _ (by decide)).trans ((eval_other _ 12 1 _ (by decide)).trans base1)))))))))))) w') ?_
    refine met_enterA po13 d13 (wanted_guard gd13 po10 d10 ((eval_other _ 24 22 _ (by decide)).trans ((eval_other _ 23 22 _ (by decide)).trans (eval_same _ _ _ (by simp only [put_size, hsz]; decide))))) (run_callf2 q13 rfl ((eval_other _ 24 23 _ (by decide)).trans (eval_same _ _ _ (by simp only [put_size, hsz]; decide))) (eval_same _ _ _ (by simp only [put_size, hsz]; decide)) Try.func12 (by kernel_rfl) _) (kept_any bs m m5 p5 p c5 cap _ HM.out (by omega) (by omega) (by omega) (by omega) H6.out.all (HL.out.below H6.out.below)) ?_
    rintro e w7 ⟨rfl, hb7⟩
    have H7 := Lib.hid (H6.out.on hb7); clear hb7
    refine ⟨_, rfl, H7.out, ?_⟩
    refine met_free po14 d14 (wanted_of gd14) (fun w' _ => run_pick_true q14 ((eval_other _ 25 22 _ (by decide)).trans ((eval_other _ 24 22 _ (by decide)).trans ((eval_other _ 23 22 _ (by decide)).trans (eval_same _ _ _ (by simp only [put_size, hsz]; decide))))) (eval_same _ _ _ (by simp only [put_size, hsz]; decide)) w') ?_
    refine met_free po15 d15 (wanted_of gd15) (fun w' _ => run_move q15 (eval_same _ _ _ (by simp only [put_size, hsz]; decide)) w') ?_
    refine met_enterA po16 d16 (wanted_guard gd16 po15 d15 (eval_same _ _ _ (by simp only [put_size, hsz]; decide))) (run_callf0 q16 rfl Try.func8 (by kernel_rfl) _) (known_any _) ?_
    rintro e w8 ⟨rfl, hb8⟩
    have H8 := Lib.hid (H7.out.on hb8); clear hb8
    refine ⟨_, rfl, H8.out, ?_⟩
    refine met_free po17 d17 (wanted_of gd17) (fun w' _ => run_pick_true q17 ((eval_other _ 28 27 _ (by decide)).trans (eval_same _ _ _ (by simp only [put_size, hsz]; decide))) (eval_same _ _ _ (by simp only [put_size, hsz]; decide)) w') ?_
    refine met_free po18 d18 (wanted_of gd18) (fun w' _ => run_assign q18 (eval_same _ _ _ (by simp only [put_size, hsz]; decide)) w') ?_
    show NoPanic _ .normal _ _
    refine NoPanic.normal ?_
    rw [HAA.out]
    go_frame
    clear HAA
    go_wp2_with fail
    go_ret
    exact ⟨rfl, H8.out.below⟩
end Go.Proofs.Ytgfmjfpafpmghaa
