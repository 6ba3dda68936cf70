/-
  AeadSeals, for any key, nonce, head and bytes: the law returns true, and what came in reads afterwards as it read before; the package's table starts as the program's own text lays it (the tie is given).
-/
import Derived.Test.YtagkkihnfipfeaaDoorPkE
import Derived.Test.YtagkkihnfipfeaaDoorPkS
import Derived.Test.YtagkkihnfipfeaaDoorPkU
import Derived.Test.YtagkkihnfipfeaaDoorTie
import Derived.Test.YtagkkihnfipfeaaDoorCards
import Derived.SevenTiedAt
/-
  The walk of the law AeadSeals: for any key, nonce, head and bytes it returns true, and nothing that was there changes.
-/
namespace Go.Proofs.YtagkkihnfipfeaaDoor
open Go.RowKit Go.Proofs.ShaWords

attribute [local irreducible] sealOf openOf openIs xorKs
set_option maxRecDepth 100000 in
set_option maxHeartbeats 4000000 in
theorem aeSeals_any (key nonce head b : List (BitVec 8)) (n m : Nat) (p q : Option Addr) (cp cq : Nat) (w : World) (hk : key.length = 32) (hn : nonce.length = 12) (hhl : head.length = n) (hml : b.length = m) (_ : n ≤ cp) (_ : m ≤ cq) (hp : Lies w p head) (hb : Lies w q b) (hq : Quads w) :
    Calls Tryd.prog 3 #[.agg (bytesV key).toArray, .agg (bytesV nonce).toArray, .slice p n cp, .slice q m cq] w fun e w' => e = .returned (.bool true) ∧ Below w.heap.size w w' := by
  have hqs := hq.size
  have HQ := Lib.hid hq; clear hq
  have HKL := Lib.hid hk; clear hk
  have HNL := Lib.hid hn; clear hn
  have HHL := Lib.hid hhl
  have HML := Lib.hid hml
  have HP := Lib.hid hp
  have HB := Lib.hid hb
  have HLI : Hid (∀ x ∈ [(p, head), (q, b)], Lies w x.1 x.2) := show ∀ x ∈ _, _ from by
    intro x hx
    simp only [List.mem_cons, List.not_mem_nil, or_false] at hx
    rcases hx with rfl | rfl
    · exact hp
    · exact hb
  clear hp hb
  have HIK := Lib.hid (infoKey key HKL.out)
  have HIN := Lib.hid (infoNonce nonce HNL.out)
  obtain ⟨mx, hmx⟩ : ∃ mx, mx = max n m := ⟨_, rfl⟩
  have HMX := Lib.hid hmx
  by_cases hbig : 4096 < mx
  · have p0 : (4096 : Int) < (mx : Int) := by omega
    clear hmx hhl hml
    go_enter Tryd.func3, Tryd.ntmps3
    go_upto_region 1 with (fail)
    refine wp_gen (KnL w key nonce [(p, head), (q, b)]) (knl_start w key nonce _ HLI.out) ?_
    intro w0 hw0
    have HW0 := Lib.hid hw0; clear hw0
    go_wp2_with (refine wpList_max2 rfl (.tmp 16) (.tmp 18) rfl n m mx rfl rfl HMX.out ?_)
    refine (works5_any w0 (HQ.out.below HW0.out.below hqs)).mono ?_
    rintro e w1 ⟨rfl, hb1⟩
    have HW1 := Lib.hid (HW0.out.on hb1); clear hb1 HW0
    go_wp2_with fail
    go_ret
    exact ⟨rfl, HW1.out.below⟩
  · have p0 : ¬ (4096 : Int) < (mx : Int) := by omega
    have b1 : n ≤ 4096 := by omega
    have b3 : m ≤ 4096 := by omega
    obtain ⟨s, hs⟩ : ∃ s, s = sealOf key nonce head b := ⟨_, rfl⟩
    have HS := Lib.hid hs
    obtain ⟨N, hN⟩ : ∃ N, N = m + 16 := ⟨_, rfl⟩
    have HN := Lib.hid hN
    have HSL : Hid (s.length = N) := show _ = _ by rw [hs, sealOf_length, hml, hN]
    have hN2 : N ≤ 5000 := by omega
    have HX5 : Hid ((head ++ marks 5).length = n + 5) := show _ = _ by rw [List.length_append, marks_length, hhl]
    have HY5 : Hid ((b ++ marks 5).length = m + 5) := show _ = _ by rw [List.length_append, marks_length, hml]
    have HXT : Hid ((head ++ marks 5).take n = head) := show _ = _ by rw [← hhl, List.take_left]
    have HYT : Hid ((b ++ marks 5).take m = b) := show _ = _ by rw [← hml, List.take_left]
    clear hmx hhl hml hbig hs hN
    go_enter Tryd.func3, Tryd.ntmps3
    go_upto_region 1 with (fail)
    refine wp_gen (KnL w key nonce [(p, head), (q, b)]) (knl_start w key nonce _ HLI.out) ?_
    intro w0 hw0
    have HW0 := Lib.hid hw0; clear hw0
    have sz0 : w.heap.size + 1 < w0.heap.size := HW0.out.nonce.size
    go_wp2_with (refine wpList_max2 rfl (.tmp 16) (.tmp 18) rfl n m mx rfl rfl HMX.out ?_)
    refine (lent_len head n p cp w0 HHL.out (by omega) (HW0.out.lies (p, head) (by simp))).mono ?_
    rintro e w1 ⟨v1, rfl, ho1, hb1⟩
    obtain ⟨gx, cx, hvx, hgx, hgx2, hcx, hcx2, -, -⟩ := ho1.form8 (by rw [HX5.out]; omega)
    rw [HX5.out] at hvx hcx
    subst hvx
    have sz1 : w0.heap.size ≤ w1.heap.size := hb1.size
    have HW1 := Lib.hid ((HW0.out.on hb1).add (some ⟨gx, 0, none⟩, head ++ marks 5) ho1.liesOf); clear ho1 hb1 HW0
    go_wp2_with fail
    refine (lent_len b m q cq w1 HML.out (by omega) (HW1.out.lies (q, b) (by simp))).mono ?_
    rintro e w2 ⟨v2, rfl, ho2, hb2⟩
    obtain ⟨gy, cy, hvy, hgy, hgy2, hcy, hcy2, -, -⟩ := ho2.form8 (by rw [HY5.out]; omega)
    rw [HY5.out] at hvy hcy
    subst hvy
    have sz2 : w1.heap.size ≤ w2.heap.size := hb2.size
    have HW2 := Lib.hid ((HW1.out.on hb2).add (some ⟨gy, 0, none⟩, b ++ marks 5) ho2.liesOf); clear ho2 hb2 HW1
    go_wp2_with fail
    refine (new_any _).mono ?_
    rintro e w3 ⟨v3, rfl, hb3⟩
    have sz3 : w2.heap.size ≤ w3.heap.size := hb3.size
    have HW3 := Lib.hid (HW2.out.on hb3); clear hb3 HW2
    go_upto_region 6 with (fail)
    refine region_phase (KnL w key nonce [(some ⟨gy, 0, none⟩, b ++ marks 5), (some ⟨gx, 0, none⟩, head ++ marks 5), (p, head), (q, b)]) (fun _ => True) 11 (HW3.out.on ((Below.refl _ _).drew)) trivial [(0, .free), (1, .free), (2, .free), (3, .free), (4, .free), (5, .free), (6, .free), (7, .free), (8, .free), (9, .free), (10, .free), (11, .behind), (12, .free)] (by kernel_rfl) (by kernel_rfl) (by kernel_rfl) (by kernel_rfl) (fun ops hops A hA => ?_)
    have hsz : A.tmps.size = 90 := by rw [hA]; rfl
    have base2 : A.eval (.tmp 2) = .slice p n cp := by rw [hA]; rfl
    have base3 : A.eval (.tmp 3) = .slice q m cq := by rw [hA]; rfl
    have base4 : A.eval (.tmp 4) = .pointer (some ⟨w.heap.size, 0, none⟩) := by rw [hA]; rfl
    have base5 : A.eval (.tmp 5) = .pointer (some ⟨w.heap.size + 1, 0, none⟩) := by rw [hA]; rfl
    have base9 : A.eval (.tmp 9) = .slice (some ⟨gx, 0, none⟩) (n + 5) cx := by rw [hA]; rfl
    have base10 : A.eval (.tmp 10) = .slice (some ⟨gy, 0, none⟩) (m + 5) cy := by rw [hA]; rfl
    have base11 : A.eval (.tmp 11) = v3 := by rw [hA]; rfl
    have HAA := Lib.hid hA; clear hA
    obtain ⟨o0, po0, q0, d0, gd0⟩ : ∃ o, ops[0]? = some o ∧ o.op = .move (.tmp 11) ∧ o.dst = some 27 ∧ o.guard = none := ⟨_, by rw [hops]; rfl, rfl, rfl, rfl⟩
    obtain ⟨o1, po1, q1, d1, gd1⟩ : ∃ o, ops[1]? = some o ∧ o.op = .load 23 (.tmp 4) ∧ o.dst = some 28 ∧ o.guard = none := ⟨_, by rw [hops]; rfl, rfl, rfl, rfl⟩
    obtain ⟨o2, po2, q2, d2, gd2⟩ : ∃ o, ops[2]? = some o ∧ o.op = .load 25 (.tmp 5) ∧ o.dst = some 29 ∧ o.guard = none := ⟨_, by rw [hops]; rfl, rfl, rfl, rfl⟩
    obtain ⟨o3, po3, q3, d3, gd3⟩ : ∃ o, ops[3]? = some o ∧ o.op = .move (.tmp 9) ∧ o.dst = some 30 ∧ o.guard = none := ⟨_, by rw [hops]; rfl, rfl, rfl, rfl⟩
    obtain ⟨o4, po4, q4, d4, gd4⟩ : ∃ o, ops[4]? = some o ∧ o.op = .move (.tmp 2) ∧ o.dst = some 31 ∧ o.guard = none := ⟨_, by rw [hops]; rfl, rfl, rfl, rfl⟩
    obtain ⟨o5, po5, q5, d5, gd5⟩ : ∃ o, ops[5]? = some o ∧ o.op = .call { callee := .builtin .len, args := #[.tmp 31], argTypes := #[26] } ∧ o.dst = some 32 ∧ o.guard = none := ⟨_, by rw [hops]; rfl, rfl, rfl, rfl⟩
    obtain ⟨o6, po6, q6, d6, gd6⟩ : ∃ o, ops[6]? = some o ∧ o.op = .slice 26 (.tmp 30) none (some (.tmp 32)) none ∧ o.dst = some 33 ∧ o.guard = none := ⟨_, by rw [hops]; rfl, rfl, rfl, rfl⟩
    obtain ⟨o7, po7, q7, d7, gd7⟩ : ∃ o, ops[7]? = some o ∧ o.op = .move (.tmp 10) ∧ o.dst = some 34 ∧ o.guard = none := ⟨_, by rw [hops]; rfl, rfl, rfl, rfl⟩
    obtain ⟨o8, po8, q8, d8, gd8⟩ : ∃ o, ops[8]? = some o ∧ o.op = .move (.tmp 3) ∧ o.dst = some 35 ∧ o.guard = none := ⟨_, by rw [hops]; rfl, rfl, rfl, rfl⟩
    obtain ⟨o9, po9, q9, d9, gd9⟩ : ∃ o, ops[9]? = some o ∧ o.op = .call { callee := .builtin .len, args := #[.tmp 35], argTypes := #[26] } ∧ o.dst = some 36 ∧ o.guard = none := ⟨_, by rw [hops]; rfl, rfl, rfl, rfl⟩
    obtain ⟨o10, po10, q10, d10, gd10⟩ : ∃ o, ops[10]? = some o ∧ o.op = .slice 26 (.tmp 34) none (some (.tmp 36)) none ∧ o.dst = some 37 ∧ o.guard = none := ⟨_, by rw [hops]; rfl, rfl, rfl, rfl⟩
    obtain ⟨o11, po11, q11, d11, gd11⟩ : ∃ o, ops[11]? = some o ∧ o.op = .call { callee := .value (.func 12), args := #[.tmp 27, .tmp 28, .tmp 29, .tmp 33, .tmp 37], argTypes := #[29, 23, 25, 26, 26] } ∧ o.dst = some 38 ∧ o.guard = none := ⟨_, by rw [hops]; rfl, rfl, rfl, rfl⟩
    obtain ⟨o12, po12, q12, d12, gd12⟩ : ∃ o, ops[12]? = some o ∧ o.op = .assign (.tmp 38) ∧ o.dst = some 12 ∧ o.guard = none := ⟨_, by rw [hops]; rfl, rfl, rfl, rfl⟩
    clear hops
    refine met_free po0 d0 (wanted_of gd0) (fun w' h' => run_move q0 base11 w') ?_
    refine met_free po1 d1 (wanted_of gd1) (fun w' h' => run_loadKey q1 ((eval_other _ 27 4 _ (by decide)).trans base4) HKL.out h'.key) ?_
    refine met_free po2 d2 (wanted_of gd2) (fun w' h' => run_loadNonce q2 ((eval_other _ 28 5 _ (by decide)).trans ((eval_other _ 27 5 _ (by decide)).trans base5)) HNL.out h'.nonce) ?_
    refine met_free po3 d3 (wanted_of gd3) (fun w' h' => run_move q3 ((eval_other _ 29 9 _ (by decide)).trans ((eval_other _ 28 9 _ (by decide)).trans ((eval_other _ 27 9 _ (by decide)).trans base9))) w') ?_
    refine met_free po4 d4 (wanted_of gd4) (fun w' h' => run_move q4 ((eval_other _ 30 2 _ (by decide)).trans ((eval_other _ 29 2 _ (by decide)).trans ((eval_other _ 28 2 _ (by decide)).trans ((eval_other _ 27 2 _ (by decide)).trans base2)))) w') ?_
    refine met_free po5 d5 (wanted_of gd5) (fun w' h' => run_len26 q5 (eval_same _ _ _ (by simp only [put_size, hsz]; decide)) w') ?_
    refine met_free po6 d6 (wanted_of gd6) (fun w' h' => r_to q6 (by omega) ((eval_other _ 32 30 _ (by decide)).trans ((eval_other _ 31 30 _ (by decide)).trans (eval_same _ _ _ (by simp only [put_size, hsz]; decide)))) (eval_same _ _ _ (by simp only [put_size, hsz]; decide)) w') ?_
    refine met_free po7 d7 (wanted_of gd7) (fun w' h' => run_move q7 ((eval_other _ 33 10 _ (by decide)).trans ((eval_other _ 32 10 _ (by decide)).trans ((eval_other _ 31 10 _ (by decide)).trans ((eval_other _ 30 10 _ (by decide)).trans ((eval_other _ 29 10 _ (by decide)).trans ((eval_other _ 28 10 _ (by decide)).trans ((eval_other _ 27 10 _ (by decide)).trans base10))))))) w') ?_
    refine met_free po8 d8 (wanted_of gd8) (fun w' h' => run_move q8 ((eval_other _ 34 3 _ (by decide)).trans ((eval_other _ 33 3 _ (by decide)).trans ((eval_other _ 32 3 _ (by decide)).trans ((eval_other _ 31 3 _ (by decide)).trans ((eval_other _ 30 3 _ (by decide)).trans ((eval_other _ 29 3 _ (by decide)).trans ((eval_other _ 28 3 _ (by decide)).trans ((eval_other _ 27 3 _ (by decide)).trans base3)))))))) w') ?_
    refine met_free po9 d9 (wanted_of gd9) (fun w' h' => run_len26 q9 (eval_same _ _ _ (by simp only [put_size, hsz]; decide)) w') ?_
    refine met_free po10 d10 (wanted_of gd10) (fun w' h' => r_to q10 (by omega) ((eval_other _ 36 34 _ (by decide)).trans ((eval_other _ 35 34 _ (by decide)).trans (eval_same _ _ _ (by simp only [put_size, hsz]; decide)))) (eval_same _ _ _ (by simp only [put_size, hsz]; decide)) w') ?_
    refine m_enter po11 d11 (wanted_of gd11) (run_callf5 q11 rfl ((eval_other _ 37 27 _ (by decide)).trans ((eval_other _ 36 27 _ (by decide)).trans ((eval_other _ 35 27 _ (by decide)).trans ((eval_other _ 34 27 _ (by decide)).trans ((eval_other _ 33 27 _ (by decide)).trans ((eval_other _ 32 27 _ (by decide)).trans ((eval_other _ 31 27 _ (by decide)).trans ((eval_other _ 30 27 _ (by decide)).trans ((eval_other _ 29 27 _ (by decide)).trans ((eval_other _ 28 27 _ (by decide)).trans (eval_same _ _ _ (by rw [hsz]; decide)))))))))))) ((eval_other _ 37 28 _ (by decide)).trans ((eval_other _ 36 28 _ (by decide)).trans ((eval_other _ 35 28 _ (by decide)).trans ((eval_other _ 34 28 _ (by decide)).trans ((eval_other _ 33 28 _ (by decide)).trans ((eval_other _ 32 28 _ (by decide)).trans ((eval_other _ 31 28 _ (by decide)).trans ((eval_other _ 30 28 _ (by decide)).trans ((eval_other _ 29 28 _ (by decide)).trans (eval_same _ _ _ (by simp only [put_size, hsz]; decide))))))))))) ((eval_other _ 37 29 _ (by decide)).trans ((eval_other _ 36 29 _ (by decide)).trans ((eval_other _ 35 29 _ (by decide)).trans ((eval_other _ 34 29 _ (by decide)).trans ((eval_other _ 33 29 _ (by decide)).trans ((eval_other _ 32 29 _ (by decide)).trans ((eval_other _ 31 29 _ (by decide)).trans ((eval_other _ 30 29 _ (by decide)).trans (eval_same _ _ _ (by simp only [put_size, hsz]; decide)))))))))) ((eval_other _ 37 33 _ (by decide)).trans ((eval_other _ 36 33 _ (by decide)).trans ((eval_other _ 35 33 _ (by decide)).trans ((eval_other _ 34 33 _ (by decide)).trans (eval_same _ _ _ (by simp only [put_size, hsz]; decide)))))) (eval_same _ _ _ (by simp only [put_size, hsz]; decide)) Tryd.func12 (by kernel_rfl) _) (seal_any v3 key nonce head b n m (some ⟨gx, 0, none⟩) (some ⟨gy, 0, none⟩) cx cy _ HKL.out HNL.out HHL.out HML.out (by omega) (by omega) (by have h := lies_take ((HW3.out.on ((Below.refl _ _).drew)).lies (some ⟨gx, 0, none⟩, head ++ marks 5) (by simp)) n; rw [HXT.out] at h; exact h) (by have h := lies_take ((HW3.out.on ((Below.refl _ _).drew)).lies (some ⟨gy, 0, none⟩, b ++ marks 5) (by simp)) m; rw [HYT.out] at h; exact h) (HQ.out.below (HW3.out.on ((Below.refl _ _).drew)).below hqs)) ?_
    rintro e w4 ⟨r4, c1, rfl, hr4, hm4, ho4, hb4⟩
    rw [← HS.out] at ho4
    rw [← HN.out] at ho4 hr4 ⊢
    obtain ⟨g1, cc4, hv4, hg1l, hg1h, -, -, -, -⟩ := ho4.form8 (by rw [HSL.out, HN.out]; omega)
    rw [HSL.out] at hv4
    cases hv4
    have hg1L : w3.heap.size ≤ g1 := hg1l
    have sz4 : w3.heap.size ≤ w4.heap.size := hb4.size
    have HO4 := Lib.hid ho4
    have HW4 := Lib.hid (((HW3.out.on ((Below.refl _ _).drew)).on hb4).add (some ⟨g1, 0, none⟩, s) ho4.liesOf); clear ho4 hb4
    refine ⟨_, rfl, HW4.out.drop, ?_⟩
    refine met_free po12 d12 (wanted_of gd12) (fun w' h' => run_assign q12 (eval_same _ _ _ (by simp only [put_size, hsz]; decide)) w') ?_
    show NoPanic _ .normal _ _
    refine NoPanic.normal ?_
    rw [HAA.out]
    go_frame
    clear HAA
    go_upto_region 7 with (fail)
    refine region_phase (KnL w key nonce [(some ⟨g1, 0, none⟩, s), (some ⟨gy, 0, none⟩, b ++ marks 5), (some ⟨gx, 0, none⟩, head ++ marks 5), (p, head), (q, b)]) (fun _ => True) 11 (HW4.out.on ((Below.refl _ _).drew)) trivial [(0, .free), (1, .free), (2, .free), (3, .free), (4, .free), (5, .free), (6, .free), (7, .free), (8, .free), (9, .free), (10, .free), (11, .behind), (12, .free)] (by kernel_rfl) (by kernel_rfl) (by kernel_rfl) (by kernel_rfl) (fun ops hops A2 hA => ?_)
    have hsz : A2.tmps.size = 90 := by rw [hA]; rfl
    have base2 : A2.eval (.tmp 2) = .slice p n cp := by rw [hA]; rfl
    have base3 : A2.eval (.tmp 3) = .slice q m cq := by rw [hA]; rfl
    have base4 : A2.eval (.tmp 4) = .pointer (some ⟨w.heap.size, 0, none⟩) := by rw [hA]; rfl
    have base5 : A2.eval (.tmp 5) = .pointer (some ⟨w.heap.size + 1, 0, none⟩) := by rw [hA]; rfl
    have base9 : A2.eval (.tmp 9) = .slice (some ⟨gx, 0, none⟩) (n + 5) cx := by rw [hA]; rfl
    have base10 : A2.eval (.tmp 10) = .slice (some ⟨gy, 0, none⟩) (m + 5) cy := by rw [hA]; rfl
    have base11 : A2.eval (.tmp 11) = v3 := by rw [hA]; rfl
    have HAA := Lib.hid hA; clear hA
    obtain ⟨o0, po0, q0, d0, gd0⟩ : ∃ o, ops[0]? = some o ∧ o.op = .move (.tmp 11) ∧ o.dst = some 39 ∧ o.guard = none := ⟨_, by rw [hops]; rfl, rfl, rfl, rfl⟩
    obtain ⟨o1, po1, q1, d1, gd1⟩ : ∃ o, ops[1]? = some o ∧ o.op = .load 23 (.tmp 4) ∧ o.dst = some 40 ∧ o.guard = none := ⟨_, by rw [hops]; rfl, rfl, rfl, rfl⟩
    obtain ⟨o2, po2, q2, d2, gd2⟩ : ∃ o, ops[2]? = some o ∧ o.op = .load 25 (.tmp 5) ∧ o.dst = some 41 ∧ o.guard = none := ⟨_, by rw [hops]; rfl, rfl, rfl, rfl⟩
    obtain ⟨o3, po3, q3, d3, gd3⟩ : ∃ o, ops[3]? = some o ∧ o.op = .move (.tmp 9) ∧ o.dst = some 42 ∧ o.guard = none := ⟨_, by rw [hops]; rfl, rfl, rfl, rfl⟩
    obtain ⟨o4, po4, q4, d4, gd4⟩ : ∃ o, ops[4]? = some o ∧ o.op = .move (.tmp 2) ∧ o.dst = some 43 ∧ o.guard = none := ⟨_, by rw [hops]; rfl, rfl, rfl, rfl⟩
    obtain ⟨o5, po5, q5, d5, gd5⟩ : ∃ o, ops[5]? = some o ∧ o.op = .call { callee := .builtin .len, args := #[.tmp 43], argTypes := #[26] } ∧ o.dst = some 44 ∧ o.guard = none := ⟨_, by rw [hops]; rfl, rfl, rfl, rfl⟩
    obtain ⟨o6, po6, q6, d6, gd6⟩ : ∃ o, ops[6]? = some o ∧ o.op = .slice 26 (.tmp 42) none (some (.tmp 44)) none ∧ o.dst = some 45 ∧ o.guard = none := ⟨_, by rw [hops]; rfl, rfl, rfl, rfl⟩
    obtain ⟨o7, po7, q7, d7, gd7⟩ : ∃ o, ops[7]? = some o ∧ o.op = .move (.tmp 10) ∧ o.dst = some 46 ∧ o.guard = none := ⟨_, by rw [hops]; rfl, rfl, rfl, rfl⟩
    obtain ⟨o8, po8, q8, d8, gd8⟩ : ∃ o, ops[8]? = some o ∧ o.op = .move (.tmp 3) ∧ o.dst = some 47 ∧ o.guard = none := ⟨_, by rw [hops]; rfl, rfl, rfl, rfl⟩
    obtain ⟨o9, po9, q9, d9, gd9⟩ : ∃ o, ops[9]? = some o ∧ o.op = .call { callee := .builtin .len, args := #[.tmp 47], argTypes := #[26] } ∧ o.dst = some 48 ∧ o.guard = none := ⟨_, by rw [hops]; rfl, rfl, rfl, rfl⟩
    obtain ⟨o10, po10, q10, d10, gd10⟩ : ∃ o, ops[10]? = some o ∧ o.op = .slice 26 (.tmp 46) none (some (.tmp 48)) none ∧ o.dst = some 49 ∧ o.guard = none := ⟨_, by rw [hops]; rfl, rfl, rfl, rfl⟩
    obtain ⟨o11, po11, q11, d11, gd11⟩ : ∃ o, ops[11]? = some o ∧ o.op = .call { callee := .value (.func 12), args := #[.tmp 39, .tmp 40, .tmp 41, .tmp 45, .tmp 49], argTypes := #[29, 23, 25, 26, 26] } ∧ o.dst = some 50 ∧ o.guard = none := ⟨_, by rw [hops]; rfl, rfl, rfl, rfl⟩
    obtain ⟨o12, po12, q12, d12, gd12⟩ : ∃ o, ops[12]? = some o ∧ o.op = .assign (.tmp 50) ∧ o.dst = some 13 ∧ o.guard = none := ⟨_, by rw [hops]; rfl, rfl, rfl, rfl⟩
    clear hops
    refine met_free po0 d0 (wanted_of gd0) (fun w' h' => run_move q0 base11 w') ?_
    refine met_free po1 d1 (wanted_of gd1) (fun w' h' => run_loadKey q1 ((eval_other _ 39 4 _ (by decide)).trans base4) HKL.out h'.key) ?_
    refine met_free po2 d2 (wanted_of gd2) (fun w' h' => run_loadNonce q2 ((eval_other _ 40 5 _ (by decide)).trans ((eval_other _ 39 5 _ (by decide)).trans base5)) HNL.out h'.nonce) ?_
    refine met_free po3 d3 (wanted_of gd3) (fun w' h' => run_move q3 ((eval_other _ 41 9 _ (by decide)).trans ((eval_other _ 40 9 _ (by decide)).trans ((eval_other _ 39 9 _ (by decide)).trans base9))) w') ?_
    refine met_free po4 d4 (wanted_of gd4) (fun w' h' => run_move q4 ((eval_other _ 42 2 _ (by decide)).trans ((eval_other _ 41 2 _ (by decide)).trans ((eval_other _ 40 2 _ (by decide)).trans ((eval_other _ 39 2 _ (by decide)).trans base2)))) w') ?_
    refine met_free po5 d5 (wanted_of gd5) (fun w' h' => run_len26 q5 (eval_same _ _ _ (by simp only [put_size, hsz]; decide)) w') ?_
    refine met_free po6 d6 (wanted_of gd6) (fun w' h' => r_to q6 (by omega) ((eval_other _ 44 42 _ (by decide)).trans ((eval_other _ 43 42 _ (by decide)).trans (eval_same _ _ _ (by simp only [put_size, hsz]; decide)))) (eval_same _ _ _ (by simp only [put_size, hsz]; decide)) w') ?_
    refine met_free po7 d7 (wanted_of gd7) (fun w' h' => run_move q7 ((eval_other _ 45 10 _ (by decide)).trans ((eval_other _ 44 10 _ (by decide)).trans ((eval_other _ 43 10 _ (by decide)).trans ((eval_other _ 42 10 _ (by decide)).trans ((eval_other _ 41 10 _ (by decide)).trans ((eval_other _ 40 10 _ (by decide)).trans ((eval_other _ 39 10 _ (by decide)).trans base10))))))) w') ?_
    refine met_free po8 d8 (wanted_of gd8) (fun w' h' => run_move q8 ((eval_other _ 46 3 _ (by decide)).trans ((eval_other _ 45 3 _ (by decide)).trans ((eval_other _ 44 3 _ (by decide)).trans ((eval_other _ 43 3 _ (by decide)).trans ((eval_other _ 42 3 _ (by decide)).trans ((eval_other _ 41 3 _ (by decide)).trans ((eval_other _ 40 3 _ (by decide)).trans ((eval_other _ 39 3 _ (by decide)).trans base3)))))))) w') ?_
    refine met_free po9 d9 (wanted_of gd9) (fun w' h' => run_len26 q9 (eval_same _ _ _ (by simp only [put_size, hsz]; decide)) w') ?_
    refine met_free po10 d10 (wanted_of gd10) (fun w' h' => r_to q10 (by omega) ((eval_other _ 48 46 _ (by decide)).trans ((eval_other _ 47 46 _ (by decide)).trans (eval_same _ _ _ (by simp only [put_size, hsz]; decide)))) (eval_same _ _ _ (by simp only [put_size, hsz]; decide)) w') ?_
    refine m_enter po11 d11 (wanted_of gd11) (run_callf5 q11 rfl ((eval_other _ 49 39 _ (by decide)).trans ((eval_other _ 48 39 _ (by decide)).trans ((eval_other _ 47 39 _ (by decide)).trans ((eval_other _ 46 39 _ (by decide)).trans ((eval_other _ 45 39 _ (by decide)).trans ((eval_other _ 44 39 _ (by decide)).trans ((eval_other _ 43 39 _ (by decide)).trans ((eval_other _ 42 39 _ (by decide)).trans ((eval_other _ 41 39 _ (by decide)).trans ((eval_other _ 40 39 _ (by decide)).trans (eval_same _ _ _ (by rw [hsz]; decide)))))))))))) ((eval_other _ 49 40 _ (by decide)).trans ((eval_other _ 48 40 _ (by decide)).trans ((eval_other _ 47 40 _ (by decide)).trans ((eval_other _ 46 40 _ (by decide)).trans ((eval_other _ 45 40 _ (by decide)).trans ((eval_other _ 44 40 _ (by decide)).trans ((eval_other _ 43 40 _ (by decide)).trans ((eval_other _ 42 40 _ (by decide)).trans ((eval_other _ 41 40 _ (by decide)).trans (eval_same _ _ _ (by simp only [put_size, hsz]; decide))))))))))) ((eval_other _ 49 41 _ (by decide)).trans ((eval_other _ 48 41 _ (by decide)).trans ((eval_other _ 47 41 _ (by decide)).trans ((eval_other _ 46 41 _ (by decide)).trans ((eval_other _ 45 41 _ (by decide)).trans ((eval_other _ 44 41 _ (by decide)).trans ((eval_other _ 43 41 _ (by decide)).trans ((eval_other _ 42 41 _ (by decide)).trans (eval_same _ _ _ (by simp only [put_size, hsz]; decide)))))))))) ((eval_other _ 49 45 _ (by decide)).trans ((eval_other _ 48 45 _ (by decide)).trans ((eval_other _ 47 45 _ (by decide)).trans ((eval_other _ 46 45 _ (by decide)).trans (eval_same _ _ _ (by simp only [put_size, hsz]; decide)))))) (eval_same _ _ _ (by simp only [put_size, hsz]; decide)) Tryd.func12 (by kernel_rfl) _) (seal_any v3 key nonce head b n m (some ⟨gx, 0, none⟩) (some ⟨gy, 0, none⟩) cx cy _ HKL.out HNL.out HHL.out HML.out (by omega) (by omega) (by have h := lies_take ((HW4.out.on ((Below.refl _ _).drew)).lies (some ⟨gx, 0, none⟩, head ++ marks 5) (by simp)) n; rw [HXT.out] at h; exact h) (by have h := lies_take ((HW4.out.on ((Below.refl _ _).drew)).lies (some ⟨gy, 0, none⟩, b ++ marks 5) (by simp)) m; rw [HYT.out] at h; exact h) (HQ.out.below (HW4.out.on ((Below.refl _ _).drew)).below hqs)) ?_
    rintro e w5 ⟨r5, c2, rfl, hr5, hm5, ho5, hb5⟩
    rw [← HS.out] at ho5
    rw [← HN.out] at ho5 hr5 ⊢
    obtain ⟨g2, cc5, hv5, hg2l, hg2h, -, -, -, -⟩ := ho5.form8 (by rw [HSL.out, HN.out]; omega)
    rw [HSL.out] at hv5
    cases hv5
    have hg2L : w4.heap.size ≤ g2 := hg2l
    have sz5 : w4.heap.size ≤ w5.heap.size := hb5.size
    have HO5 := Lib.hid (HO4.out.below (((Below.refl _ _).drew).trans (hb5.mono (Nat.le_refl _)))); clear HO4
    have HW5 := Lib.hid (((HW4.out.on ((Below.refl _ _).drew)).on hb5).add (some ⟨g2, 0, none⟩, s) ho5.liesOf); clear ho5 hb5
    refine ⟨_, rfl, HW5.out.drop, ?_⟩
    refine met_free po12 d12 (wanted_of gd12) (fun w' h' => run_assign q12 (eval_same _ _ _ (by simp only [put_size, hsz]; decide)) w') ?_
    show NoPanic _ .normal _ _
    refine NoPanic.normal ?_
    rw [HAA.out]
    go_frame
    clear HAA
    have HWA : Hid (∀ o, KnL w key nonce [(some ⟨g2, 0, none⟩, s), (some ⟨g1, 0, none⟩, s), (some ⟨gy, 0, none⟩, b ++ marks 5), (some ⟨gx, 0, none⟩, head ++ marks 5), (p, head), (q, b)] (w5.alloc o)) := show ∀ o, _ from fun o => HW5.out.on ((Below.refl _ _).alloc (Nat.le_refl _) _)
    go_wp2_with (first
      | (refine wpList_load_row rfl 23 (.tmp 4) rfl w.heap.size rfl 23 (bytesV key).toArray (0, 0) _ (HWA.out _).key Tryd.underlying23 rfl HIK.out ?_)
      | (refine wpList_load_row rfl 25 (.tmp 5) rfl (w.heap.size + 1) rfl 25 (bytesV nonce).toArray (0, 0) _ (HWA.out _).nonce Tryd.underlying25 rfl HIN.out ?_))
    refine calls_gen (fun w' => KnL w key nonce [(some ⟨g2, 0, none⟩, s), (some ⟨g1, 0, none⟩, s), (some ⟨gy, 0, none⟩, b ++ marks 5), (some ⟨gx, 0, none⟩, head ++ marks 5), (p, head), (q, b)] w' ∧ Own w3.heap.size w' s (.slice (some ⟨g1, 0, none⟩) N c1) ∧ g2 < w'.heap.size) ⟨HWA.out _, HO5.out.below ((Below.refl _ _).alloc (Nat.le_refl _) _), by rw [size_alloc]; omega⟩ ?_
    rintro w6 ⟨hw6, ho6, sz6⟩
    have HW6 := Lib.hid hw6; clear hw6 HWA HW5 HO5
    have HO6 := Lib.hid ho6; clear ho6
    refine (refSeal_any _ key nonce head b n m p q cp cq w6 HKL.out HNL.out HHL.out HML.out (by omega) (by omega) (HW6.out.lies (p, head) (by simp)) (HW6.out.lies (q, b) (by simp))).mono ?_
    rintro e w7 ⟨v7, rfl, ho7, hb7⟩
    rw [← HS.out] at ho7
    obtain ⟨g3, c3, hv7, hg3, hg32, -, -, -, -⟩ := ho7.form8 (by rw [HSL.out, HN.out]; omega)
    rw [HSL.out] at hv7
    subst hv7
    have sz7 : w6.heap.size ≤ w7.heap.size := hb7.size
    have HO7 := Lib.hid (HO6.out.below hb7); clear HO6
    have HW7 := Lib.hid ((HW6.out.on hb7).add (some ⟨g3, 0, none⟩, s) ho7.liesOf); clear ho7 hb7 HW6
    go_wp2_with fail
    refine (same_any s N _ _ c1 c3 w7 HSL.out (by omega) (HW7.out.lies (some ⟨g1, 0, none⟩, s) (by simp)) (HW7.out.lies (some ⟨g3, 0, none⟩, s) (by simp))).mono ?_
    rintro e w8 ⟨rfl, hb8⟩
    have sz8 : w7.heap.size ≤ w8.heap.size := hb8.size
    have HO8 := Lib.hid (HO7.out.below hb8); clear HO7
    have HW8 := Lib.hid (HW7.out.on hb8); clear hb8 HW7
    go_wp2_with fail
    refine (spoil_own s _ N c1 (some ⟨g1, 0, none⟩) w8 HSL.out (by omega) HO8.out).mono ?_
    rintro e w9 ⟨rfl, hg9⟩
    have HW9 : Hid (KnL w key nonce [(some ⟨g3, 0, none⟩, s), (some ⟨g2, 0, none⟩, s), (some ⟨gy, 0, none⟩, b ++ marks 5), (some ⟨gx, 0, none⟩, head ++ marks 5), (p, head), (q, b)] w9) := show KnL _ _ _ _ _ by
      refine HW8.out.past (g := g1) hg9 (by omega) (fun x hx => ?_)
      simp only [List.mem_cons, List.not_mem_nil, or_false] at hx
      rcases hx with rfl | rfl | rfl | rfl | rfl | rfl
      · exact lies_apart (HW8.out.lies (some ⟨g3, 0, none⟩, s) (by simp)) rfl (by omega)
      · exact lies_apart (HW8.out.lies (some ⟨g2, 0, none⟩, s) (by simp)) rfl (by omega)
      · exact lies_apart (HW8.out.lies (some ⟨gy, 0, none⟩, b ++ marks 5) (by simp)) rfl (by omega)
      · exact lies_apart (HW8.out.lies (some ⟨gx, 0, none⟩, head ++ marks 5) (by simp)) rfl (by omega)
      · exact lies_low HP.out HW8.out.below (by omega)
      · exact lies_low HB.out HW8.out.below (by omega)
    clear HW8 HO8 hg9
    go_upto_region 12 with (fail)
    refine region_phase (KnL w key nonce [(some ⟨g3, 0, none⟩, s), (some ⟨g2, 0, none⟩, s), (some ⟨gy, 0, none⟩, b ++ marks 5), (some ⟨gx, 0, none⟩, head ++ marks 5), (p, head), (q, b)]) (fun _ => True) 2 (HW9.out.on ((Below.refl _ _).drew)) trivial [(0, .free), (1, .free), (2, .behind), (3, .free), (5, .free), (6, .free), (7, .free), (8, .free), (10, .free), (4, .behind), (9, .behind), (11, .behind), (12, .free), (13, .free), (14, .free), (15, .free), (16, .behind), (17, .free), (18, .free), (19, .free), (20, .free), (21, .behind), (22, .free), (23, .free), (24, .behind), (25, .free), (26, .free)] (by kernel_rfl) (by kernel_rfl) (by kernel_rfl) (by kernel_rfl) (fun ops hops A3 hA => ?_)
    have hsz : A3.tmps.size = 90 := by rw [hA]; rfl
    have base2 : A3.eval (.tmp 2) = .slice p n cp := by rw [hA]; rfl
    have base3 : A3.eval (.tmp 3) = .slice q m cq := by rw [hA]; rfl
    have base4 : A3.eval (.tmp 4) = .pointer (some ⟨w.heap.size, 0, none⟩) := by rw [hA]; rfl
    have base5 : A3.eval (.tmp 5) = .pointer (some ⟨w.heap.size + 1, 0, none⟩) := by rw [hA]; rfl
    have base9 : A3.eval (.tmp 9) = .slice (some ⟨gx, 0, none⟩) (n + 5) cx := by rw [hA]; rfl
    have base10 : A3.eval (.tmp 10) = .slice (some ⟨gy, 0, none⟩) (m + 5) cy := by rw [hA]; rfl
    have base13 : A3.eval (.tmp 13) = .slice (some ⟨g2, 0, none⟩) N c2 := by rw [hA]; rfl
    have base14 : A3.eval (.tmp 14) = .slice (some ⟨g3, 0, none⟩) N c3 := by rw [hA]; rfl
    have HAA := Lib.hid hA; clear hA
    obtain ⟨o0, po0, q0, d0, gd0⟩ : ∃ o, ops[0]? = some o ∧ o.op = .move (.tmp 13) ∧ o.dst = some 64 ∧ o.guard = none := ⟨_, by rw [hops]; rfl, rfl, rfl, rfl⟩
    obtain ⟨o1, po1, q1, d1, gd1⟩ : ∃ o, ops[1]? = some o ∧ o.op = .move (.tmp 14) ∧ o.dst = some 65 ∧ o.guard = none := ⟨_, by rw [hops]; rfl, rfl, rfl, rfl⟩
    obtain ⟨o2, po2, q2, d2, gd2⟩ : ∃ o, ops[2]? = some o ∧ o.op = .call { callee := .value (.func 14), args := #[.tmp 64, .tmp 65], argTypes := #[26, 26] } ∧ o.dst = some 66 ∧ o.guard = none := ⟨_, by rw [hops]; rfl, rfl, rfl, rfl⟩
    obtain ⟨o3, po3, q3, d3, gd3⟩ : ∃ o, ops[3]? = some o ∧ o.op = .move (.tmp 66) ∧ o.dst = some 67 ∧ o.guard = none := ⟨_, by rw [hops]; rfl, rfl, rfl, rfl⟩
    obtain ⟨o4, po4, q4, d4, gd4⟩ : ∃ o, ops[4]? = some o ∧ o.op = .call { callee := .value (.func 11), args := #[], argTypes := #[] } ∧ o.dst = some 68 ∧ o.guard = some (3, true) := ⟨_, by rw [hops]; rfl, rfl, rfl, rfl⟩
    obtain ⟨o5, po5, q5, d5, gd5⟩ : ∃ o, ops[5]? = some o ∧ o.op = .load 23 (.tmp 4) ∧ o.dst = some 69 ∧ o.guard = some (3, true) := ⟨_, by rw [hops]; rfl, rfl, rfl, rfl⟩
    obtain ⟨o6, po6, q6, d6, gd6⟩ : ∃ o, ops[6]? = some o ∧ o.op = .load 25 (.tmp 5) ∧ o.dst = some 70 ∧ o.guard = some (3, true) := ⟨_, by rw [hops]; rfl, rfl, rfl, rfl⟩
    obtain ⟨o7, po7, q7, d7, gd7⟩ : ∃ o, ops[7]? = some o ∧ o.op = .move (.tmp 2) ∧ o.dst = some 71 ∧ o.guard = some (3, true) := ⟨_, by rw [hops]; rfl, rfl, rfl, rfl⟩
    obtain ⟨o8, po8, q8, d8, gd8⟩ : ∃ o, ops[8]? = some o ∧ o.op = .move (.tmp 3) ∧ o.dst = some 72 ∧ o.guard = some (3, true) := ⟨_, by rw [hops]; rfl, rfl, rfl, rfl⟩
    obtain ⟨o9, po9, q9, d9, gd9⟩ : ∃ o, ops[9]? = some o ∧ o.op = .call { callee := .value (.func 12), args := #[.tmp 68, .tmp 69, .tmp 70, .tmp 71, .tmp 72], argTypes := #[29, 23, 25, 26, 26] } ∧ o.dst = some 73 ∧ o.guard = some (3, true) := ⟨_, by rw [hops]; rfl, rfl, rfl, rfl⟩
    obtain ⟨o10, po10, q10, d10, gd10⟩ : ∃ o, ops[10]? = some o ∧ o.op = .move (.tmp 14) ∧ o.dst = some 74 ∧ o.guard = some (3, true) := ⟨_, by rw [hops]; rfl, rfl, rfl, rfl⟩
    obtain ⟨o11, po11, q11, d11, gd11⟩ : ∃ o, ops[11]? = some o ∧ o.op = .call { callee := .value (.func 14), args := #[.tmp 73, .tmp 74], argTypes := #[26, 26] } ∧ o.dst = some 75 ∧ o.guard = some (3, true) := ⟨_, by rw [hops]; rfl, rfl, rfl, rfl⟩
    obtain ⟨o12, po12, q12, d12, gd12⟩ : ∃ o, ops[12]? = some o ∧ o.op = .pick (.tmp 67) (.tmp 75) (.const (.bool false)) ∧ o.dst = some 76 ∧ o.guard = none := ⟨_, by rw [hops]; rfl, rfl, rfl, rfl⟩
    obtain ⟨o13, po13, q13, d13, gd13⟩ : ∃ o, ops[13]? = some o ∧ o.op = .move (.tmp 76) ∧ o.dst = some 77 ∧ o.guard = none := ⟨_, by rw [hops]; rfl, rfl, rfl, rfl⟩
    obtain ⟨o14, po14, q14, d14, gd14⟩ : ∃ o, ops[14]? = some o ∧ o.op = .move (.tmp 9) ∧ o.dst = some 78 ∧ o.guard = some (13, true) := ⟨_, by rw [hops]; rfl, rfl, rfl, rfl⟩
    obtain ⟨o15, po15, q15, d15, gd15⟩ : ∃ o, ops[15]? = some o ∧ o.op = .move (.tmp 2) ∧ o.dst = some 79 ∧ o.guard = some (13, true) := ⟨_, by rw [hops]; rfl, rfl, rfl, rfl⟩
    obtain ⟨o16, po16, q16, d16, gd16⟩ : ∃ o, ops[16]? = some o ∧ o.op = .call { callee := .value (.func 16), args := #[.tmp 78, .tmp 79], argTypes := #[26, 26] } ∧ o.dst = some 80 ∧ o.guard = some (13, true) := ⟨_, by rw [hops]; rfl, rfl, rfl, rfl⟩
    obtain ⟨o17, po17, q17, d17, gd17⟩ : ∃ o, ops[17]? = some o ∧ o.op = .pick (.tmp 77) (.tmp 80) (.const (.bool false)) ∧ o.dst = some 81 ∧ o.guard = none := ⟨_, by rw [hops]; rfl, rfl, rfl, rfl⟩
    obtain ⟨o18, po18, q18, d18, gd18⟩ : ∃ o, ops[18]? = some o ∧ o.op = .move (.tmp 81) ∧ o.dst = some 82 ∧ o.guard = none := ⟨_, by rw [hops]; rfl, rfl, rfl, rfl⟩
    obtain ⟨o19, po19, q19, d19, gd19⟩ : ∃ o, ops[19]? = some o ∧ o.op = .move (.tmp 10) ∧ o.dst = some 83 ∧ o.guard = some (18, true) := ⟨_, by rw [hops]; rfl, rfl, rfl, rfl⟩
    obtain ⟨o20, po20, q20, d20, gd20⟩ : ∃ o, ops[20]? = some o ∧ o.op = .move (.tmp 3) ∧ o.dst = some 84 ∧ o.guard = some (18, true) := ⟨_, by rw [hops]; rfl, rfl, rfl, rfl⟩
    obtain ⟨o21, po21, q21, d21, gd21⟩ : ∃ o, ops[21]? = some o ∧ o.op = .call { callee := .value (.func 16), args := #[.tmp 83, .tmp 84], argTypes := #[26, 26] } ∧ o.dst = some 85 ∧ o.guard = some (18, true) := ⟨_, by rw [hops]; rfl, rfl, rfl, rfl⟩
    obtain ⟨o22, po22, q22, d22, gd22⟩ : ∃ o, ops[22]? = some o ∧ o.op = .pick (.tmp 82) (.tmp 85) (.const (.bool false)) ∧ o.dst = some 86 ∧ o.guard = none := ⟨_, by rw [hops]; rfl, rfl, rfl, rfl⟩
    obtain ⟨o23, po23, q23, d23, gd23⟩ : ∃ o, ops[23]? = some o ∧ o.op = .move (.tmp 86) ∧ o.dst = some 87 ∧ o.guard = none := ⟨_, by rw [hops]; rfl, rfl, rfl, rfl⟩
    obtain ⟨o24, po24, q24, d24, gd24⟩ : ∃ o, ops[24]? = some o ∧ o.op = .call { callee := .value (.func 9), args := #[], argTypes := #[] } ∧ o.dst = some 88 ∧ o.guard = some (23, true) := ⟨_, by rw [hops]; rfl, rfl, rfl, rfl⟩
    obtain ⟨o25, po25, q25, d25, gd25⟩ : ∃ o, ops[25]? = some o ∧ o.op = .pick (.tmp 87) (.tmp 88) (.const (.bool false)) ∧ o.dst = some 89 ∧ o.guard = none := ⟨_, by rw [hops]; rfl, rfl, rfl, rfl⟩
    obtain ⟨o26, po26, q26, d26, gd26⟩ : ∃ o, ops[26]? = some o ∧ o.op = .assign (.tmp 89) ∧ o.dst = some 8 ∧ o.guard = none := ⟨_, by rw [hops]; rfl, rfl, rfl, rfl⟩
    clear hops
    refine met_free po0 d0 (wanted_of gd0) (fun w' h' => run_move q0 base13 w') ?_
    refine met_free po1 d1 (wanted_of gd1) (fun w' h' => run_move q1 ((eval_other _ 64 14 _ (by decide)).trans base14) w') ?_
    refine m_enter po2 d2 (wanted_of gd2) (run_callf2 q2 rfl ((eval_other _ 65 64 _ (by decide)).trans (eval_same _ _ _ (by rw [hsz]; decide))) (eval_same _ _ _ (by simp only [put_size, hsz]; decide)) Tryd.func14 (by kernel_rfl) _) (same_any s N _ _ c2 c3 _ HSL.out (by omega) ((HW9.out.on ((Below.refl _ _).drew)).lies (some ⟨g2, 0, none⟩, s) (by simp)) ((HW9.out.on ((Below.refl _ _).drew)).lies (some ⟨g3, 0, none⟩, s) (by simp))) ?_
    rintro e w10 ⟨rfl, hb10⟩
    have HW10 := Lib.hid ((HW9.out.on ((Below.refl _ _).drew)).on hb10); clear hb10
    refine ⟨_, rfl, HW10.out, ?_⟩
    refine met_free po3 d3 (wanted_of gd3) (fun w' h' => run_move q3 (eval_same _ _ _ (by simp only [put_size, hsz]; decide)) w') ?_
    refine met_free po5 d5 (wanted_guard gd5 po3 d3 (eval_same _ _ _ (by simp only [put_size, hsz]; decide))) (fun w' h' => run_loadKey q5 ((eval_other _ 67 4 _ (by decide)).trans ((eval_other _ 66 4 _ (by decide)).trans ((eval_other _ 65 4 _ (by decide)).trans ((eval_other _ 64 4 _ (by decide)).trans base4)))) HKL.out h'.key) ?_
    refine met_free po6 d6 (wanted_guard gd6 po3 d3 ((eval_other _ 69 67 _ (by decide)).trans (eval_same _ _ _ (by simp only [put_size, hsz]; decide)))) (fun w' h' => run_loadNonce q6 ((eval_other _ 69 5 _ (by decide)).trans ((eval_other _ 67 5 _ (by decide)).trans ((eval_other _ 66 5 _ (by decide)).trans ((eval_other _ 65 5 _ (by decide)).trans ((eval_other _ 64 5 _ (by decide)).trans base5))))) HNL.out h'.nonce) ?_
    refine met_free po7 d7 (wanted_guard gd7 po3 d3 ((eval_other _ 70 67 _ (by decide)).trans ((eval_other _ 69 67 _ (by decide)).trans (eval_same _ _ _ (by simp only [put_size, hsz]; decide))))) (fun w' h' => run_move q7 ((eval_other _ 70 2 _ (by decide)).trans ((eval_other _ 69 2 _ (by decide)).trans ((eval_other _ 67 2 _ (by decide)).trans ((eval_other _ 66 2 _ (by decide)).trans ((eval_other _ 65 2 _ (by decide)).trans ((eval_other _ 64 2 _ (by decide)).trans base2)))))) w') ?_
    refine met_free po8 d8 (wanted_guard gd8 po3 d3 ((eval_other _ 71 67 _ (by decide)).trans ((eval_other _ 70 67 _ (by decide)).trans ((eval_other _ 69 67 _ (by decide)).trans (eval_same _ _ _ (by simp only [put_size, hsz]; decide)))))) (fun w' h' => run_move q8 ((eval_other _ 71 3 _ (by decide)).trans ((eval_other _ 70 3 _ (by decide)).trans ((eval_other _ 69 3 _ (by decide)).trans ((eval_other _ 67 3 _ (by decide)).trans ((eval_other _ 66 3 _ (by decide)).trans ((eval_other _ 65 3 _ (by decide)).trans ((eval_other _ 64 3 _ (by decide)).trans base3))))))) w') ?_
    refine met_free po10 d10 (wanted_guard gd10 po3 d3 ((eval_other _ 72 67 _ (by decide)).trans ((eval_other _ 71 67 _ (by decide)).trans ((eval_other _ 70 67 _ (by decide)).trans ((eval_other _ 69 67 _ (by decide)).trans (eval_same _ _ _ (by simp only [put_size, hsz]; decide))))))) (fun w' h' => run_move q10 ((eval_other _ 72 14 _ (by decide)).trans ((eval_other _ 71 14 _ (by decide)).trans ((eval_other _ 70 14 _ (by decide)).trans ((eval_other _ 69 14 _ (by decide)).trans ((eval_other _ 67 14 _ (by decide)).trans ((eval_other _ 66 14 _ (by decide)).trans ((eval_other _ 65 14 _ (by decide)).trans ((eval_other _ 64 14 _ (by decide)).trans base14)))))))) w') ?_
    refine m_enter po4 d4 (wanted_guard gd4 po3 d3 ((eval_other _ 74 67 _ (by decide)).trans ((eval_other _ 72 67 _ (by decide)).trans ((eval_other _ 71 67 _ (by decide)).trans ((eval_other _ 70 67 _ (by decide)).trans ((eval_other _ 69 67 _ (by decide)).trans (eval_same _ _ _ (by simp only [put_size, hsz]; decide)))))))) (run_callf0 q4 rfl Tryd.func11 (by kernel_rfl) _) (new_any _) ?_
    rintro e w11 ⟨v11, rfl, hb11⟩
    have HW11 := Lib.hid ((HW10.out).on hb11); clear hb11
    refine ⟨_, rfl, HW11.out, ?_⟩
    refine m_enter po9 d9 (wanted_guard gd9 po3 d3 ((eval_other _ 68 67 _ (by decide)).trans ((eval_other _ 74 67 _ (by decide)).trans ((eval_other _ 72 67 _ (by decide)).trans ((eval_other _ 71 67 _ (by decide)).trans ((eval_other _ 70 67 _ (by decide)).trans ((eval_other _ 69 67 _ (by decide)).trans (eval_same _ _ _ (by simp only [put_size, hsz]; decide))))))))) (run_callf5 q9 rfl (eval_same _ _ _ (by simp only [put_size, hsz]; decide)) ((eval_other _ 68 69 _ (by decide)).trans ((eval_other _ 74 69 _ (by decide)).trans ((eval_other _ 72 69 _ (by decide)).trans ((eval_other _ 71 69 _ (by decide)).trans ((eval_other _ 70 69 _ (by decide)).trans (eval_same _ _ _ (by simp only [put_size, hsz]; decide))))))) ((eval_other _ 68 70 _ (by decide)).trans ((eval_other _ 74 70 _ (by decide)).trans ((eval_other _ 72 70 _ (by decide)).trans ((eval_other _ 71 70 _ (by decide)).trans (eval_same _ _ _ (by simp only [put_size, hsz]; decide)))))) ((eval_other _ 68 71 _ (by decide)).trans ((eval_other _ 74 71 _ (by decide)).trans ((eval_other _ 72 71 _ (by decide)).trans (eval_same _ _ _ (by simp only [put_size, hsz]; decide))))) ((eval_other _ 68 72 _ (by decide)).trans ((eval_other _ 74 72 _ (by decide)).trans (eval_same _ _ _ (by simp only [put_size, hsz]; decide)))) Tryd.func12 (by kernel_rfl) _) (seal_any v11 key nonce head b n m p q cp cq w11 HKL.out HNL.out HHL.out HML.out (by omega) (by omega) (HW11.out.lies (p, head) (by simp)) (HW11.out.lies (q, b) (by simp)) (HQ.out.below HW11.out.below hqs)) ?_
    rintro e w12 ⟨r12, c12, rfl, hr12, hm12, ho12, hb12⟩
    rw [← HS.out] at ho12
    rw [← HN.out] at ho12 ⊢
    have HL12 := Lib.hid ho12.liesOf
    have HW12 := Lib.hid (HW11.out.on hb12); clear hb12 ho12
    refine ⟨_, rfl, HW12.out, ?_⟩
    refine m_enter po11 d11 (wanted_guard gd11 po3 d3 ((eval_other _ 73 67 _ (by decide)).trans ((eval_other _ 68 67 _ (by decide)).trans ((eval_other _ 74 67 _ (by decide)).trans ((eval_other _ 72 67 _ (by decide)).trans ((eval_other _ 71 67 _ (by decide)).trans ((eval_other _ 70 67 _ (by decide)).trans ((eval_other _ 69 67 _ (by decide)).trans (eval_same _ _ _ (by simp only [put_size, hsz]; decide)))))))))) (run_callf2 q11 rfl (eval_same _ _ _ (by simp only [put_size, hsz]; decide)) ((eval_other _ 73 74 _ (by decide)).trans ((eval_other _ 68 74 _ (by decide)).trans (eval_same _ _ _ (by simp only [put_size, hsz]; decide)))) Tryd.func14 (by kernel_rfl) _) (same_any s N _ _ c12 c3 w12 HSL.out (by omega) HL12.out (HW12.out.lies (some ⟨g3, 0, none⟩, s) (by simp))) ?_
    rintro e w13 ⟨rfl, hb13⟩
    have HW13 := Lib.hid ((HW12.out).on hb13); clear hb13
    refine ⟨_, rfl, HW13.out, ?_⟩
    refine met_free po12 d12 (wanted_of gd12) (fun w' h' => run_pick_true q12 ((eval_other _ 75 67 _ (by decide)).trans ((eval_other _ 73 67 _ (by decide)).trans ((eval_other _ 68 67 _ (by decide)).trans ((eval_other _ 74 67 _ (by decide)).trans ((eval_other _ 72 67 _ (by decide)).trans ((eval_other _ 71 67 _ (by decide)).trans ((eval_other _ 70 67 _ (by decide)).trans ((eval_other _ 69 67 _ (by decide)).trans (eval_same _ _ _ (by simp only [put_size, hsz]; decide)))))))))) (eval_same _ _ _ (by simp only [put_size, hsz]; decide)) w') ?_
    refine met_free po13 d13 (wanted_of gd13) (fun w' h' => run_move q13 (eval_same _ _ _ (by simp only [put_size, hsz]; decide)) w') ?_
    refine met_free po14 d14 (wanted_guard gd14 po13 d13 (eval_same _ _ _ (by simp only [put_size, hsz]; decide))) (fun w' h' => run_move q14 ((eval_other _ 77 9 _ (by decide)).trans ((eval_other _ 76 9 _ (by decide)).trans ((eval_other _ 75 9 _ (by decide)).trans ((eval_other _ 73 9 _ (by decide)).trans ((eval_other _ 68 9 _ (by decide)).trans ((eval_other _ 74 9 _ (by decide)).trans ((eval_other _ 72 9 _ (by decide)).trans ((eval_other _ 71 9 _ (by decide)).trans ((eval_other _ 70 9 _ (by decide)).trans ((eval_other _ 69 9 _ (by decide)).trans ((eval_other _ 67 9 _ (by decide)).trans ((eval_other _ 66 9 _ (by decide)).trans ((eval_other _ 65 9 _ (by decide)).trans ((eval_other _ 64 9 _ (by decide)).trans base9)))))))))))))) w') ?_
    refine met_free po15 d15 (wanted_guard gd15 po13 d13 ((eval_other _ 78 77 _ (by decide)).trans (eval_same _ _ _ (by simp only [put_size, hsz]; decide)))) (fun w' h' => run_move q15 ((eval_other _ 78 2 _ (by decide)).trans ((eval_other _ 77 2 _ (by decide)).trans ((eval_other _ 76 2 _ (by decide)).trans ((eval_other _ 75 2 _ (by decide)).trans ((eval_other _ 73 2 _ (by decide)).trans ((eval_other _ 68 2 _ (by decide)).trans ((eval_other _ 74 2 _ (by decide)).trans ((eval_other _ 72 2 _ (by decide)).trans ((eval_other _ 71 2 _ (by decide)).trans ((eval_other _ 70 2 _ (by decide)).trans ((eval_other _ 69 2 _ (by decide)).trans ((eval_other _ 67 2 _ (by decide)).trans ((eval_other _ 66 2 _ (by decide)).trans ((eval_other _ 65 2 _ (by decide)).trans ((eval_other _ 64 2 _ (by decide)).trans base2))))))))))))))) w') ?_
    refine m_enter po16 d16 (wanted_guard gd16 po13 d13 ((eval_other _ 79 77 _ (by decide)).trans ((eval_other _ 78 77 _ (by decide)).trans (eval_same _ _ _ (by simp only [put_size, hsz]; decide))))) (run_callf2 q16 rfl ((eval_other _ 79 78 _ (by decide)).trans (eval_same _ _ _ (by simp only [put_size, hsz]; decide))) (eval_same _ _ _ (by simp only [put_size, hsz]; decide)) Tryd.func16 (by kernel_rfl) _) (kept_any head n (n + 5) (some ⟨gx, 0, none⟩) p cx cp w13 HHL.out (by omega) (by omega) (by omega) (by omega) (HW13.out.lies (some ⟨gx, 0, none⟩, head ++ marks 5) (by simp)) (HW13.out.lies (p, head) (by simp))) ?_
    rintro e w14 ⟨rfl, hb14⟩
    have HW14 := Lib.hid ((HW13.out).on hb14); clear hb14
    refine ⟨_, rfl, HW14.out, ?_⟩
    refine met_free po17 d17 (wanted_of gd17) (fun w' h' => run_pick_true q17 ((eval_other _ 80 77 _ (by decide)).trans ((eval_other _ 79 77 _ (by decide)).trans ((eval_other _ 78 77 _ (by decide)).trans (eval_same _ _ _ (by simp only [put_size, hsz]; decide))))) (eval_same _ _ _ (by simp only [put_size, hsz]; decide)) w') ?_
    refine met_free po18 d18 (wanted_of gd18) (fun w' h' => run_move q18 (eval_same _ _ _ (by simp only [put_size, hsz]; decide)) w') ?_
    refine met_free po19 d19 (wanted_guard gd19 po18 d18 (eval_same _ _ _ (by simp only [put_size, hsz]; decide))) (fun w' h' => run_move q19 ((eval_other _ 82 10 _ (by decide)).trans ((eval_other _ 81 10 _ (by decide)).trans ((eval_other _ 80 10 _ (by decide)).trans ((eval_other _ 79 10 _ (by decide)).trans ((eval_other _ 78 10 _ (by decide)).trans ((eval_other _ 77 10 _ (by decide)).trans ((eval_other _ 76 10 _ (by decide)).trans ((eval_other _ 75 10 _ (by decide)).trans ((eval_other _ 73 10 _ (by decide)).trans ((eval_other _ 68 10 _ (by decide)).trans ((eval_other _ 74 10 _ (by decide)).trans ((eval_other _ 72 10 _ (by decide)).trans ((eval_other _ 71 10 _ (by decide)).trans ((eval_other _ 70 10 _ (by decide)).trans ((eval_other _ 69 10 _ (by decide)).trans ((eval_other _ 67 10 _ (by decide)).trans ((eval_other _ 66 10 _ (by decide)).trans ((eval_other _ 65 10 _ (by decide)).trans ((eval_other _ 64 10 _ (by decide)).trans base10))))))))))))))))))) w') ?_
    refine met_free po20 d20 (wanted_guard gd20 po18 d18 ((eval_other _ 83 82 _ (by decide)).trans (eval_same _ _ _ (by simp only [put_size, hsz]; decide)))) (fun w' h' => run_move q20 ((eval_other _ 83 3 _ (by decide)).trans ((eval_other _ 82 3 _ (by decide)).trans ((eval_other _ 81 3 _ (by decide)).trans ((eval_other _ 80 3 _ (by decide)).trans ((eval_other _ 79 3 _ (by decide)).trans ((eval_other _ 78 3 _ (by decide)).trans ((eval_other _ 77 3 _ (by decide)).trans ((eval_other _ 76 3 _ (by decide)).trans ((eval_other _ 75 3 _ (by decide)).trans ((eval_other _ 73 3 _ (by decide)).trans ((eval_other _ 68 3 _ (by decide)).trans ((eval_other _ 74 3 _ (by decide)).trans ((eval_other _ 72 3 _ (by decide)).trans ((eval_other _ 71 3 _ (by decide)).trans ((eval_other _ 70 3 _ (by decide)).trans ((eval_other _ 69 3 _ (by decide)).trans ((eval_other _ 67 3 _ (by decide)).trans ((eval_other _ 66 3 _ (by decide)).trans ((eval_other _ 65 3 _ (by decide)).trans ((eval_other _ 64 3 _ (by decide)).trans base3)))))))))))))))))))) w') ?_
    refine m_enter po21 d21 (wanted_guard gd21 po18 d18 ((eval_other _ 84 82 _ (by decide)).trans ((eval_other _ 83 82 _ (by decide)).trans (eval_same _ _ _ (by simp only [put_size, hsz]; decide))))) (run_callf2 q21 rfl ((eval_other _ 84 83 _ (by decide)).trans (eval_same _ _ _ (by simp only [put_size, hsz]; decide))) (eval_same _ _ _ (by simp only [put_size, hsz]; decide)) Tryd.func16 (by kernel_rfl) _) (kept_any b m (m + 5) (some ⟨gy, 0, none⟩) q cy cq w14 HML.out (by omega) (by omega) (by omega) (by omega) (HW14.out.lies (some ⟨gy, 0, none⟩, b ++ marks 5) (by simp)) (HW14.out.lies (q, b) (by simp))) ?_
    rintro e w14b ⟨rfl, hb14b⟩
    have HW14b := Lib.hid (HW14.out.on hb14b); clear hb14b
    refine ⟨_, rfl, HW14b.out, ?_⟩
    refine met_free po22 d22 (wanted_of gd22) (fun w' h' => run_pick_true q22 ((eval_other _ 85 82 _ (by decide)).trans ((eval_other _ 84 82 _ (by decide)).trans ((eval_other _ 83 82 _ (by decide)).trans (eval_same _ _ _ (by simp only [put_size, hsz]; decide))))) (eval_same _ _ _ (by simp only [put_size, hsz]; decide)) w') ?_
    refine met_free po23 d23 (wanted_of gd23) (fun w' h' => run_move q23 (eval_same _ _ _ (by simp only [put_size, hsz]; decide)) w') ?_
    refine m_enter po24 d24 (wanted_guard gd24 po23 d23 (eval_same _ _ _ (by simp only [put_size, hsz]; decide))) (run_callf0 q24 rfl Tryd.func9 (by kernel_rfl) _) (works5_any w14b (HQ.out.below HW14b.out.below hqs)) ?_
    rintro e w15 ⟨rfl, hb15⟩
    have HW15 := Lib.hid ((HW14b.out).on hb15); clear hb15
    refine ⟨_, rfl, HW15.out, ?_⟩
    refine met_free po25 d25 (wanted_of gd25) (fun w' h' => run_pick_true q25 ((eval_other _ 88 87 _ (by decide)).trans (eval_same _ _ _ (by simp only [put_size, hsz]; decide))) (eval_same _ _ _ (by simp only [put_size, hsz]; decide)) w') ?_
    refine met_free po26 d26 (wanted_of gd26) (fun w' h' => run_assign q26 (eval_same _ _ _ (by simp only [put_size, hsz]; decide)) w') ?_
    show NoPanic _ .normal _ _
    refine NoPanic.normal ?_
    rw [HAA.out]
    go_frame
    clear HAA
    go_wp2_with fail
    go_ret
    exact ⟨rfl, HW15.out.below⟩
end Go.Proofs.YtagkkihnfipfeaaDoor

/-
  AeadSeals, for any key, nonce, head and bytes: the law returns true, and what came in reads afterwards as it read before; the package's table starts as the program's own text lays it (the tie is given).
-/
namespace Go.Proofs.YtagkkihnfipfeaaDoor
open Go.ChangeShapes Go.WideShapes Go.ChangeAt Go.RowKit Go.Proofs.ShaWords

set_option maxRecDepth 100000 in
theorem aeadSeals_lifted (os : Os) (started : os.Started) (H : Type) (enc : TypeId × Value → H) :
    ReturnsInHanded {} Tryd.checked os 3 .any (fun w args => (Rows.aeadSealsSpec.pre enc Tryd.prog Tryd.f3 [] false w args ∧ laidMetH Tryd.prog laid3 w) ∧ sizedMet enc Tryd.prog Tryd.f3 (OpenSpec.ofChange Rows.aeadSealsSpec) false w args)
      (Rows.aeadSealsSpec.post enc Tryd.prog Tryd.f3 false true false false) := by
  refine returnsInHanded_of_change_and (C := Tryd.checked) (X := fun w _ => laidMetH Tryd.prog laid3 w) (fun _ _ _ hh h => h.of_heap hh) own started (by kernel_rfl) Tryd.func3
    (ChangeSpec.witness_shaped (enc := enc) (C := Tryd.checked) (os := os) (X := fun w _ => laidMetH Tryd.prog laid3 w) false (World.doorLaid Tryd.prog 400 os) #[.agg (Array.replicate 32 (.int .u8 0)), .agg (Array.replicate 12 (.int .u8 0)), .slice none 0 0, .slice none 0 0] 8 rfl (World.shaped_of_RefB (by kernel_rfl) (by kernel_rfl)) (by kernel_rfl) (by kernel_rfl) (by kernel_rfl) (door_met3 os _)) ?_
  intro W base args ds gs before hval0 hW _ hsz hL _
  have hW' := hW
  obtain ⟨p, q, hA0, hV, rfl, hfz, hnd⟩ := hW
  have hA : DataW.TrodAll enc Tryd.prog W 0 (fun _ => true) true Tryd.f3.params.toList args.toList ds p := hA0
  have hval : ∀ (j : Nat) t v, Tryd.f3.params[j]? = some t → args[j]? = some v → Value.okWide Tryd.prog W .any base t v := hval0
  have hsz2 : (DataW.weightsEach Tryd.prog (Tryd.f3.params.toList ++ Rows.aeadSealsSpec.plain.varTypes Tryd.prog) (ds ++ gs)).all (· ≤ reachBytes) = true := hsz
  rw [Tryd.params3] at hA hval hsz2
  obtain ⟨v0, vs0, d0, ds0, p0, q0, hargs, rfl, rfl, h0, r0⟩ := trodAll_cons hA
  obtain ⟨v1, vs1, d1, ds1, p1, q1, rfl, rfl, rfl, h1, r1⟩ := trodAll_cons r0
  obtain ⟨v2, vs2, d2, ds2, p2, q2, rfl, rfl, rfl, h2, r2⟩ := trodAll_cons r1
  obtain ⟨v3, vs3, d3, ds3, p3, q3, rfl, rfl, rfl, h3, r3⟩ := trodAll_cons r2
  obtain ⟨rfl, rfl, rfl⟩ := trodAll_nil r3
  obtain rfl : args = #[v0, v1, v2, v3] := by cases args; simp_all
  obtain ⟨rfl, rfl⟩ := trodVars_none hV
  have hb5 : Tryd.prog.bytesOf 5 = 1 := by kernel_rfl
  obtain ⟨cs0, rfl⟩ := okWide_key (hval 0 23 v0 rfl rfl)
  have k0 := h0
  have lt0 : ∀ x ∈ p0, x.block < W.heap.size := by obtain ⟨m, hm⟩ := k0; exact DataW.trod_lt m _ _ _ hm
  obtain ⟨f0, hf0⟩ := h0
  obtain ⟨xs0, hx0a, hx0b⟩ := open_key hf0
  obtain rfl : cs0 = (bytesV xs0).toArray := by rw [← hx0b]; rfl
  obtain ⟨cs1, rfl⟩ := okWide_nonce (hval 1 25 v1 rfl rfl)
  have k1 := h1
  have lt1 : ∀ x ∈ p1, x.block < W.heap.size := by obtain ⟨m, hm⟩ := k1; exact DataW.trod_lt m _ _ _ hm
  obtain ⟨f1, hf1⟩ := h1
  obtain ⟨xs1, hx1a, hx1b⟩ := open_nonce hf1
  obtain rfl : cs1 = (bytesV xs1).toArray := by rw [← hx1b]; rfl
  obtain ⟨a2, len2, cap2, rfl⟩ := okWide_slice Tryd.underlying26 (hval 2 26 v2 rfl rfl)
  have k2 := h2
  have lt2 : ∀ x ∈ p2, x.block < W.heap.size := by obtain ⟨m, hm⟩ := k2; exact DataW.trod_lt m _ _ _ hm
  obtain ⟨f2, hf2⟩ := h2
  obtain ⟨xs2, hx2a, hx2b, hx2c, hx2d⟩ := open_bytes hf2
  have hc2 : cap2 ≤ 140737488351232 := by
    rcases hx2d with ⟨_, h⟩ | ⟨e, sp, he, hl⟩
    · omega
    · have h := sized_slice hsz2 (j := 2) (t := 26) (elems := e) (spare := sp) rfl (by rw [← he]; rfl) Tryd.underlying26
      rw [hb5] at h; unfold reachBytes at h; omega
  obtain ⟨a3, len3, cap3, rfl⟩ := okWide_slice Tryd.underlying26 (hval 3 26 v3 rfl rfl)
  have k3 := h3
  have lt3 : ∀ x ∈ p3, x.block < W.heap.size := by obtain ⟨m, hm⟩ := k3; exact DataW.trod_lt m _ _ _ hm
  obtain ⟨f3, hf3⟩ := h3
  obtain ⟨xs3, hx3a, hx3b, hx3c, hx3d⟩ := open_bytes hf3
  have hc3 : cap3 ≤ 140737488351232 := by
    rcases hx3d with ⟨_, h⟩ | ⟨e, sp, he, hl⟩
    · omega
    · have h := sized_slice hsz2 (j := 3) (t := 26) (elems := e) (spare := sp) rfl (by rw [← he]; rfl) Tryd.underlying26
      rw [hb5] at h; unfold reachBytes at h; omega
  have hQ := of_laid3 hL
  clear hA0 hval0
  refine (aeSeals_any xs0 xs1 xs2 xs3 len2 len3 a2 a3 cap2 cap3 W hx0a hx1a hx2a hx3a hx2b hx3b hx2c hx3c hQ).mono fun e W' ⟨he, bel⟩ => ?_
  subst he
  exact ⟨_, rfl, _, _, _, [], _, [], hW', trodAll_mk1 (shut_bool Tryd.underlying4 _), (trodAll_cons_mk (Below.trod laidOut (by kernel_rfl) (of_decide_eq_true (by kernel_rfl)) k0 bel lt0) (trodAll_cons_mk (Below.trod laidOut (by kernel_rfl) (of_decide_eq_true (by kernel_rfl)) k1 bel lt1) (trodAll_cons_mk (Below.trod laidOut (by kernel_rfl) (of_decide_eq_true (by kernel_rfl)) k2 bel lt2) (trodAll_cons_mk (Below.trod laidOut (by kernel_rfl) (of_decide_eq_true (by kernel_rfl)) k3 bel lt3) trodAll_mk0)))), rfl, bel.frame _, fun h => by cases h⟩

theorem aeadSeals_holds : Rows.AeadSealsSaid :=
  OpenClaim.holds_of_wide 3 Tryd.f3 rfl rfl rfl rfl rfl rfl rfl ⟨rfl, rfl, rfl, rfl, rfl⟩ rfl rfl rfl rfl rfl (by kernel_rfl) Tryd.func3 (by kernel_rfl)
    (of_decide_eq_true (by kernel_rfl)) (by unfold Func.isWrapper; first | (rw [if_pos (by decide +kernel)]; kernel_rfl) | (rw [if_neg (by decide +kernel)]; exact ⟨rfl, rfl⟩))
    (fun os started H enc _ => aeadSeals_lifted os started H enc)

theorem aeadSeals_card : Rows.AeadSealsCardSaid :=
  Claim7.holds_tied_plain_at .later [] [.data] true Rows.aeadSealsCard.stood.harness false
    aeadSeals_holds (fun _ h => by cases h) (by kernel_rfl) (fun _ h => by cases h) aeadSeals_row_tie rfl ⟨rfl, rfl⟩ (by kernel_rfl) rfl
    (fun f fn hf hfn => by
      obtain rfl : f = 3 := Option.some.inj (hf.symm.trans (show _ = some 3 by kernel_rfl))
      obtain rfl : fn = Tryd.f3 := (Option.some.inj (Tryd.func3.symm.trans hfn)).symm
      exact ⟨by kernel_rfl, fun j t ht => by
        rw [Tryd.params3] at ht
        have hm : t ∈ [23, 25, 26, 26] := by simpa using Array.mem_of_getElem? ht
        have hall : ([23, 25, 26, 26].all fun u => !Tryd.prog.wantsStandIn u) = true := by kernel_rfl
        exact (show Tryd.prog.wantsStandIn t = false by simpa using List.all_eq_true.1 hall t hm)⟩)
    (by kernel_rfl)
#print axioms aeadSeals_card
end Go.Proofs.YtagkkihnfipfeaaDoor
