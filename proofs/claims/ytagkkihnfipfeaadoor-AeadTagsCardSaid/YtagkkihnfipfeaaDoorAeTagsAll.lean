/-
  AeadTags, for any key, nonce, head, bytes and tag: the law returns true, and what came in reads afterwards as it read before; the package's table starts as the program's own text lays it (the tie is given).
-/
import Derived.Test.YtagkkihnfipfeaaDoorPkE
import Derived.Test.YtagkkihnfipfeaaDoorTie
import Derived.Test.YtagkkihnfipfeaaDoorCards
import Derived.SevenTiedAt
/-
  The walk of the law AeadTags: for any key, nonce, head, bytes and tag it returns true, and nothing that was there changes.
-/
namespace Go.Proofs.YtagkkihnfipfeaaDoor
open Go.RowKit Go.Proofs.ShaWords

theorem knl_start3 (w : World) (key nonce t : List (BitVec 8)) (L : List (Option Addr × List (BitVec 8))) (hL : ∀ x ∈ L, Lies w x.1 x.2) : KnL w key nonce ((some ⟨w.heap.size + 1 + 1, 0, none⟩, t) :: L) (((w.alloc (.cells (bytesV key).toArray 23)).alloc (.cells (bytesV nonce).toArray 25)).alloc (.cells (bytesV t).toArray 46)) :=
  KnL.add ⟨alloc3_1 _ _ _ _, alloc3_2 _ _ _ _, fun x hx => (hL x hx).below (alloc3_below _ _ _ _), alloc3_below _ _ _ _⟩ (_, t) (Or.inr ⟨_, _, rfl, BytesAt.range (alloc3_3 _ _ _ _)⟩)
attribute [local irreducible] sealOf openOf openIs xorKs
set_option maxRecDepth 100000 in
set_option maxHeartbeats 4000000 in
theorem aeTags_any (key nonce head b t : List (BitVec 8)) (n m : Nat) (p q : Option Addr) (cp cq : Nat) (w : World) (hk : key.length = 32) (hn : nonce.length = 12) (hhl : head.length = n) (hml : b.length = m) (htl : t.length = 16) (_ : m ≤ cq) (hp : Lies w p head) (hb : Lies w q b) (hq : Quads w) :
    Calls Tryd.prog 6 #[.agg (bytesV key).toArray, .agg (bytesV nonce).toArray, .slice p n cp, .slice q m cq, .agg (bytesV t).toArray] w fun e w' => e = .returned (.bool true) ∧ Below w.heap.size w w' := by
  have hqs := hq.size
  have HQ := Lib.hid hq; clear hq
  have HKL := Lib.hid hk; clear hk
  have HNL := Lib.hid hn; clear hn
  have HHL := Lib.hid hhl
  have HML := Lib.hid hml
  have HTL := Lib.hid htl; clear htl
  have HLI : Hid (∀ x ∈ [(p, head), (q, b)], Lies w x.1 x.2) := show ∀ x ∈ _, _ from by
    intro x hx
    simp only [List.mem_cons, List.not_mem_nil, or_false] at hx
    rcases hx with rfl | rfl
    · exact hp
    · exact hb
  clear hp hb
  have HIK := Lib.hid (infoKey key HKL.out)
  have HIN := Lib.hid (infoNonce nonce HNL.out)
  obtain ⟨mx, hmx⟩ : ∃ mx, mx = max n m := ⟨_, rfl⟩
  have HMX := Lib.hid hmx
  obtain ⟨gt, hgt⟩ : ∃ gt, gt = w.heap.size + 1 + 1 := ⟨_, rfl⟩
  have HGT := Lib.hid hgt; clear hgt
  have HST : Hid (KnL w key nonce [(some ⟨gt, 0, none⟩, t), (p, head), (q, b)] (((w.alloc (.cells (bytesV key).toArray 23)).alloc (.cells (bytesV nonce).toArray 25)).alloc (.cells (bytesV t).toArray 46))) := show KnL _ _ _ _ _ by rw [HGT.out]; exact knl_start3 w key nonce t _ HLI.out
  by_cases hbig : 4096 < mx
  · have p0 : (4096 : Int) < (mx : Int) := by omega
    clear hmx hhl hml
    go_enter Tryd.func6, Tryd.ntmps6
    go_upto_region 1 with (fail)
    refine wp_gen (KnL w key nonce [(some ⟨gt, 0, none⟩, t), (p, head), (q, b)]) HST.out ?_
    intro w0 hw0
    have HW0 := Lib.hid hw0; clear hw0
    go_wp2_with (refine wpList_max2 rfl (.tmp 19) (.tmp 21) rfl n m mx rfl rfl HMX.out ?_)
    refine (works5_any w0 (HQ.out.below HW0.out.below hqs)).mono ?_
    rintro e w1 ⟨rfl, hb1⟩
    have HW1 := Lib.hid (HW0.out.on hb1); clear hb1 HW0
    go_wp2_with fail
    go_ret
    exact ⟨rfl, HW1.out.below⟩
  · have p0 : ¬ (4096 : Int) < (mx : Int) := by omega
    have b1 : n ≤ 4096 := by omega
    have b3 : m ≤ 4096 := by omega
    obtain ⟨s, hs⟩ : ∃ s, s = sealOf key nonce head b := ⟨_, rfl⟩
    have HS := Lib.hid hs
    have hsl : s.length = m + 16 := by rw [hs, sealOf_length, hml]
    obtain ⟨N, hN⟩ : ∃ N, N = m + 16 := ⟨_, rfl⟩
    have HN := Lib.hid hN
    have HSL := Lib.hid (hsl.trans hN.symm)
    obtain ⟨x, hx⟩ : ∃ x, x = s.take m ++ t := ⟨_, rfl⟩
    have hxl : x.length = N := by rw [hx, List.length_append, List.length_take, HTL.out, hsl]; omega
    have HXL := Lib.hid hxl
    have HX := Lib.hid hx
    have HOX : Hid (openIs key nonce head x = decide (x = s)) := show _ = _ by rw [hx, hs, ← hml]; exact openIs_tag key nonce head b t HTL.out
    have HKL2 : Hid ((s.take m).length = m) := show _ = _ by rw [List.length_take, hsl]; omega
    have HDL : Hid ((s.drop (m + 1)).length = 15) := show _ = _ by rw [List.length_drop, hsl]; omega
    have HDI : Hid (openIs key nonce head (s.drop (m + 1)) = false) := show _ = _ from openIs_short (by rw [HDL.out]; omega)
    have HDO := Lib.hid (openOf_not HDI.out)
    have m0 : IntKind.i64.wrap ((N : Int) - 16) = (m : Int) := by rw [IntWalk.i64_in _ (by omega)]; omega
    have hN2 : N ≤ 5000 := by omega
    have p1 : ¬ (N : Int) < 16 := by omega
    have p2 : 0 ≤ (m : Int) := by omega
    clear hmx hhl hbig hs hsl hx hxl hN
    go_enter Tryd.func6, Tryd.ntmps6
    go_upto_region 1 with (fail)
    refine wp_gen (KnL w key nonce [(some ⟨gt, 0, none⟩, t), (p, head), (q, b)]) HST.out ?_
    intro w0 hw0
    have HW0 := Lib.hid hw0; clear hw0
    go_wp2_with (refine wpList_max2 rfl (.tmp 19) (.tmp 21) rfl n m mx rfl rfl HMX.out ?_)
    refine (new_any _).mono ?_
    rintro e w1 ⟨v1, rfl, hb1⟩
    have HW1 := Lib.hid (HW0.out.on hb1); clear hb1 HW0
    go_wp2_with (first
      | (refine wpList_load_row rfl 23 (.tmp 5) rfl w.heap.size rfl 23 (bytesV key).toArray (0, 0) _ HW1.out.key Tryd.underlying23 rfl HIK.out ?_)
      | (refine wpList_load_row rfl 25 (.tmp 6) rfl (w.heap.size + 1) rfl 25 (bytesV nonce).toArray (0, 0) _ HW1.out.nonce Tryd.underlying25 rfl HIN.out ?_))
    refine (seal_any v1 key nonce head b n m p q cp cq w1 HKL.out HNL.out HHL.out HML.out (by omega) (by omega) (HW1.out.lies (p, head) (by simp)) (HW1.out.lies (q, b) (by simp)) (HQ.out.below HW1.out.below hqs)).mono ?_
    rintro e w2 ⟨r2, c2, rfl, hr2, hm2, ho2, hb2⟩
    rw [← HS.out] at ho2
    rw [← HN.out] at hr2 ho2 ⊢
    obtain ⟨gs, cc, hv, hgs, hgs2, -, -, -, -⟩ := ho2.form8 (by rw [HSL.out]; omega)
    rw [HSL.out] at hv
    cases hv
    have HW2 := Lib.hid ((HW1.out.on hb2).add (some ⟨gs, 0, none⟩, s) ho2.liesOf); clear ho2 hb2 HW1
    have HR2 := Lib.hid hr2
    have p3 : (m : Int) ≤ (c2 : Int) := by have := HN.out; omega
    have p4 : ¬ c2 = m + 1 := by have := HN.out; omega
    have sz2 : w.heap.size ≤ w2.heap.size := HW2.out.below.size
    go_wp2_with fail
    refine (copy_len (s.take m) m (some ⟨gs, 0, none⟩) c2 w2 HKL2.out (by omega) (lies_take (HW2.out.lies (some ⟨gs, 0, none⟩, s) (by simp)) m)).mono ?_
    rintro e w3 ⟨v3, rfl, ho3, hb3⟩
    have HO3 := Lib.hid ho3; clear ho3
    have HW3 := Lib.hid (HW2.out.on hb3)
    have HB3 := Lib.hid hb3; clear hb3
    go_upto_region 9 with (refine wpList_append_list rfl (.tmp 41) (.tmp 42) rfl w2.heap.size _ (s.take m) t (some ⟨w.heap.size + 1 + 1, 0, none⟩) 16 rfl HO3.out (by rw [HTL.out]; rfl) (by rw [← HGT.out]; exact HW3.out.lies (some ⟨gt, 0, none⟩, t) (by simp)) (by rw [HTL.out, HKL2.out]; omega) HB3.out.size ?_; intro v4 w4 h4 b4; have HO4 := Lib.hid h4; have HB4 := Lib.hid (HB3.out.trans b4); clear h4 b4)
    rw [← HX.out] at HO4
    obtain ⟨v4p, c4, hv4, hc4, -, hl4⟩ := HO4.out.lies
    subst hv4
    rw [HXL.out] at hc4 ⊢
    have HW4 := Lib.hid ((HW2.out.on (HB4.out)).add (v4p, x) hl4); clear HO4 HB4 HB3 HO3 hl4 HW3 HW2
    go_wp2_with (first
      | (refine wpList_load_row rfl 23 (.tmp 5) rfl w.heap.size rfl 23 (bytesV key).toArray (0, 0) _ HW4.out.key Tryd.underlying23 rfl HIK.out ?_)
      | (refine wpList_load_row rfl 25 (.tmp 6) rfl (w.heap.size + 1) rfl 25 (bytesV nonce).toArray (0, 0) _ HW4.out.nonce Tryd.underlying25 rfl HIN.out ?_))
    refine (open_any v1 key nonce head x n N p v4p cp c4 w4 HKL.out HNL.out HHL.out HXL.out (by omega) (by omega) hc4 (HW4.out.lies (p, head) (by simp)) (HW4.out.lies (v4p, x) (by simp)) (HQ.out.below HW4.out.below hqs)).mono ?_
    rintro e w5 ⟨v5, rfl, ho5, hb5⟩
    rw [HOX.out]
    have HW5 := Lib.hid (HW4.out.on hb5); clear hb5 ho5 HW4
    have HK15 : Hid ((N : Int) - 15 = ((m + 1 : Nat) : Int)) := show _ = _ by have := HN.out; omega
    have HN15 : Hid (N = (m + 1) + 15) := show _ = _ by have := HN.out; omega
    obtain ⟨d, hd⟩ : ∃ d, d = decide (x = s) := ⟨_, rfl⟩
    have HD := Lib.hid hd
    rw [← hd]; clear hd
    go_upto_region 10 with (fail)
    refine region_phase (KnL w key nonce [(v4p, x), (some ⟨gs, 0, none⟩, s), (some ⟨gt, 0, none⟩, t), (p, head), (q, b)]) (fun _ => True) 9 (HW5.out.on ((Below.refl _ _).drew)) trivial [(0, .free), (1, .free), (2, .free), (3, .free), (4, .free), (5, .free), (6, .free), (7, .free), (8, .free), (9, .behind), (10, .free), (11, .free), (12, .free), (13, .free), (14, .free)] (by kernel_rfl) (by kernel_rfl) (by kernel_rfl) (by kernel_rfl) (fun ops hops A hA => ?_)
    have hsz : A.tmps.size = 78 := by rw [hA]; rfl
    have base2 : A.eval (.tmp 2) = .slice p n cp := by rw [hA]; rfl
    have base5 : A.eval (.tmp 5) = .pointer (some ⟨w.heap.size, 0, none⟩) := by rw [hA]; rfl
    have base6 : A.eval (.tmp 6) = .pointer (some ⟨w.heap.size + 1, 0, none⟩) := by rw [hA]; rfl
    have base11 : A.eval (.tmp 11) = v1 := by rw [hA]; rfl
    have base12 : A.eval (.tmp 12) = .slice (some ⟨gs, 0, none⟩) N c2 := by rw [hA]; rfl
    have HAA := Lib.hid hA; clear hA
    obtain ⟨o0, po0, q0, d0, gd0⟩ : ∃ o, ops[0]? = some o ∧ o.op = .move (.tmp 11) ∧ o.dst = some 54 ∧ o.guard = none := ⟨_, by rw [hops]; rfl, rfl, rfl, rfl⟩
    obtain ⟨o1, po1, q1, d1, gd1⟩ : ∃ o, ops[1]? = some o ∧ o.op = .load 23 (.tmp 5) ∧ o.dst = some 55 ∧ o.guard = none := ⟨_, by rw [hops]; rfl, rfl, rfl, rfl⟩
    obtain ⟨o2, po2, q2, d2, gd2⟩ : ∃ o, ops[2]? = some o ∧ o.op = .load 25 (.tmp 6) ∧ o.dst = some 56 ∧ o.guard = none := ⟨_, by rw [hops]; rfl, rfl, rfl, rfl⟩
    obtain ⟨o3, po3, q3, d3, gd3⟩ : ∃ o, ops[3]? = some o ∧ o.op = .move (.tmp 2) ∧ o.dst = some 57 ∧ o.guard = none := ⟨_, by rw [hops]; rfl, rfl, rfl, rfl⟩
    obtain ⟨o4, po4, q4, d4, gd4⟩ : ∃ o, ops[4]? = some o ∧ o.op = .move (.tmp 12) ∧ o.dst = some 58 ∧ o.guard = none := ⟨_, by rw [hops]; rfl, rfl, rfl, rfl⟩
    obtain ⟨o5, po5, q5, d5, gd5⟩ : ∃ o, ops[5]? = some o ∧ o.op = .move (.tmp 12) ∧ o.dst = some 59 ∧ o.guard = none := ⟨_, by rw [hops]; rfl, rfl, rfl, rfl⟩
    obtain ⟨o6, po6, q6, d6, gd6⟩ : ∃ o, ops[6]? = some o ∧ o.op = .call { callee := .builtin .len, args := #[.tmp 59], argTypes := #[26] } ∧ o.dst = some 60 ∧ o.guard = none := ⟨_, by rw [hops]; rfl, rfl, rfl, rfl⟩
    obtain ⟨o7, po7, q7, d7, gd7⟩ : ∃ o, ops[7]? = some o ∧ o.op = .binOp .sub 3 (.tmp 60) (.const (.int .i64 15)) 3 ∧ o.dst = some 61 ∧ o.guard = none := ⟨_, by rw [hops]; rfl, rfl, rfl, rfl⟩
    obtain ⟨o8, po8, q8, d8, gd8⟩ : ∃ o, ops[8]? = some o ∧ o.op = .slice 26 (.tmp 58) (some (.tmp 61)) none none ∧ o.dst = some 62 ∧ o.guard = none := ⟨_, by rw [hops]; rfl, rfl, rfl, rfl⟩
    obtain ⟨o9, po9, q9, d9, gd9⟩ : ∃ o, ops[9]? = some o ∧ o.op = .call { callee := .value (.func 18), args := #[.tmp 54, .tmp 55, .tmp 56, .tmp 57, .tmp 62], argTypes := #[29, 23, 25, 26, 26] } ∧ o.dst = some 63 ∧ o.guard = none := ⟨_, by rw [hops]; rfl, rfl, rfl, rfl⟩
    obtain ⟨o10, po10, q10, d10, gd10⟩ : ∃ o, ops[10]? = some o ∧ o.op = .move (.tmp 63) ∧ o.dst = some 53 ∧ o.guard = none := ⟨_, by rw [hops]; rfl, rfl, rfl, rfl⟩
    obtain ⟨o11, po11, q11, d11, gd11⟩ : ∃ o, ops[11]? = some o ∧ o.op = .extract (.tmp 53) 0 ∧ o.dst = some 64 ∧ o.guard = none := ⟨_, by rw [hops]; rfl, rfl, rfl, rfl⟩
    obtain ⟨o12, po12, q12, d12, gd12⟩ : ∃ o, ops[12]? = some o ∧ o.op = .extract (.tmp 53) 1 ∧ o.dst = some 65 ∧ o.guard = none := ⟨_, by rw [hops]; rfl, rfl, rfl, rfl⟩
    obtain ⟨o13, po13, q13, d13, gd13⟩ : ∃ o, ops[13]? = some o ∧ o.op = .assign (.tmp 64) ∧ o.dst = some 16 ∧ o.guard = none := ⟨_, by rw [hops]; rfl, rfl, rfl, rfl⟩
    obtain ⟨o14, po14, q14, d14, gd14⟩ : ∃ o, ops[14]? = some o ∧ o.op = .assign (.tmp 65) ∧ o.dst = some 17 ∧ o.guard = none := ⟨_, by rw [hops]; rfl, rfl, rfl, rfl⟩
    clear hops
    refine met_free po0 d0 (wanted_of gd0) (fun w' h' => run_move q0 base11 w') ?_
    refine met_free po1 d1 (wanted_of gd1) (fun w' h' => run_loadKey q1 ((eval_other _ 54 5 _ (by decide)).trans base5) HKL.out h'.key) ?_
    refine met_free po2 d2 (wanted_of gd2) (fun w' h' => run_loadNonce q2 ((eval_other _ 55 6 _ (by decide)).trans ((eval_other _ 54 6 _ (by decide)).trans base6)) HNL.out h'.nonce) ?_
    refine met_free po3 d3 (wanted_of gd3) (fun w' h' => run_move q3 ((eval_other _ 56 2 _ (by decide)).trans ((eval_other _ 55 2 _ (by decide)).trans ((eval_other _ 54 2 _ (by decide)).trans base2))) w') ?_
    refine met_free po4 d4 (wanted_of gd4) (fun w' h' => run_move q4 ((eval_other _ 57 12 _ (by decide)).trans ((eval_other _ 56 12 _ (by decide)).trans ((eval_other _ 55 12 _ (by decide)).trans ((eval_other _ 54 12 _ (by decide)).trans base12)))) w') ?_
    refine met_free po5 d5 (wanted_of gd5) (fun w' h' => run_move q5 ((eval_other _ 58 12 _ (by decide)).trans ((eval_other _ 57 12 _ (by decide)).trans ((eval_other _ 56 12 _ (by decide)).trans ((eval_other _ 55 12 _ (by decide)).trans ((eval_other _ 54 12 _ (by decide)).trans base12))))) w') ?_
    refine met_free po6 d6 (wanted_of gd6) (fun w' h' => run_len26 q6 (eval_same _ _ _ (by simp only [put_size, hsz]; decide)) w') ?_
    refine met_free po7 d7 (wanted_of gd7) (fun w' h' => r_subC q7 rfl (eval_same _ _ _ (by simp only [put_size, hsz]; decide)) HK15.out (by omega) w') ?_
    refine met_free po8 d8 (wanted_of gd8) (fun w' h' => r_fromK (j := 15) q8 HN15.out (by omega) HR2.out ((eval_other _ 61 58 _ (by decide)).trans ((eval_other _ 60 58 _ (by decide)).trans ((eval_other _ 59 58 _ (by decide)).trans (eval_same _ _ _ (by simp only [put_size, hsz]; decide))))) (eval_same _ _ _ (by simp only [put_size, hsz]; decide)) w') ?_
    refine m_enter po9 d9 (wanted_of gd9) (run_callf5 q9 rfl ((eval_other _ 62 54 _ (by decide)).trans ((eval_other _ 61 54 _ (by decide)).trans ((eval_other _ 60 54 _ (by decide)).trans ((eval_other _ 59 54 _ (by decide)).trans ((eval_other _ 58 54 _ (by decide)).trans ((eval_other _ 57 54 _ (by decide)).trans ((eval_other _ 56 54 _ (by decide)).trans ((eval_other _ 55 54 _ (by decide)).trans (eval_same _ _ _ (by rw [hsz]; decide)))))))))) ((eval_other _ 62 55 _ (by decide)).trans ((eval_other _ 61 55 _ (by decide)).trans ((eval_other _ 60 55 _ (by decide)).trans ((eval_other _ 59 55 _ (by decide)).trans ((eval_other _ 58 55 _ (by decide)).trans ((eval_other _ 57 55 _ (by decide)).trans ((eval_other _ 56 55 _ (by decide)).trans (eval_same _ _ _ (by simp only [put_size, hsz]; decide))))))))) ((eval_other _ 62 56 _ (by decide)).trans ((eval_other _ 61 56 _ (by decide)).trans ((eval_other _ 60 56 _ (by decide)).trans ((eval_other _ 59 56 _ (by decide)).trans ((eval_other _ 58 56 _ (by decide)).trans ((eval_other _ 57 56 _ (by decide)).trans (eval_same _ _ _ (by simp only [put_size, hsz]; decide)))))))) ((eval_other _ 62 57 _ (by decide)).trans ((eval_other _ 61 57 _ (by decide)).trans ((eval_other _ 60 57 _ (by decide)).trans ((eval_other _ 59 57 _ (by decide)).trans ((eval_other _ 58 57 _ (by decide)).trans (eval_same _ _ _ (by simp only [put_size, hsz]; decide))))))) (eval_same _ _ _ (by simp only [put_size, hsz]; decide)) Tryd.func18 (by kernel_rfl) _) (open_any v1 key nonce head (s.drop (m + 1)) n 15 p (some ⟨gs, 0 + (m + 1), none⟩) cp (c2 - (m + 1)) _ HKL.out HNL.out HHL.out HDL.out (by omega) (by omega) (by have := HN.out; omega) ((HW5.out.on ((Below.refl _ _).drew)).lies (p, head) (by simp)) (lies_drop ((HW5.out.on ((Below.refl _ _).drew)).lies (some ⟨gs, 0, none⟩, s) (by simp)) _) (HQ.out.below (HW5.out.on ((Below.refl _ _).drew)).below hqs)) ?_
    rintro e w6 ⟨v6, rfl, ho6, hb6⟩
    rw [HDI.out]
    have HW6 := Lib.hid ((HW5.out.on ((Below.refl _ _).drew)).on hb6); clear hb6 ho6
    refine ⟨_, rfl, HW6.out, ?_⟩
    refine met_free po10 d10 (wanted_of gd10) (fun w' h' => run_move q10 (eval_same _ _ _ (by simp only [put_size, hsz]; decide)) w') ?_
    refine met_free po11 d11 (wanted_of gd11) (fun w' h' => run_extract q11 (eval_same _ _ _ (by simp only [put_size, hsz]; decide)) rfl w') ?_
    refine met_free po12 d12 (wanted_of gd12) (fun w' h' => run_extract q12 ((eval_other _ 64 53 _ (by decide)).trans (eval_same _ _ _ (by simp only [put_size, hsz]; decide))) rfl w') ?_
    refine met_free po13 d13 (wanted_of gd13) (fun w' h' => run_assign q13 ((eval_other _ 65 64 _ (by decide)).trans (eval_same _ _ _ (by simp only [put_size, hsz]; decide))) w') ?_
    refine met_free po14 d14 (wanted_of gd14) (fun w' h' => run_assign q14 ((eval_other _ 16 65 _ (by decide)).trans (eval_same _ _ _ (by simp only [put_size, hsz]; decide))) w') ?_
    show NoPanic _ .normal _ _
    refine NoPanic.normal ?_
    rw [HAA.out]
    go_frame
    clear HAA
    go_wp2_with fail
    refine (sameBytes_any x s N N v4p (some ⟨gs, 0, none⟩) c4 c2 w6 HXL.out HSL.out (by omega) (by omega) (HW6.out.lies (v4p, x) (by simp)) (HW6.out.lies (some ⟨gs, 0, none⟩, s) (by simp))).mono ?_
    rintro e w7 ⟨rfl, hb7⟩
    rw [← HD.out]
    have HW7 := Lib.hid (HW6.out.on hb7); clear hb7 HW6
    cases d
    all_goals
      go_wp2_with fail
      refine (works5_any w7 (HQ.out.below HW7.out.below hqs)).mono ?_
      rintro e w8 ⟨rfl, hb8⟩
      have HW8 := Lib.hid (HW7.out.on hb8); clear hb8 HW7
      go_wp2_with fail
      go_ret
      exact ⟨rfl, HW8.out.below⟩
end Go.Proofs.YtagkkihnfipfeaaDoor

/-
  AeadTags, for any key, nonce, head, bytes and tag: the law returns true, and what came in reads afterwards as it read before; the package's table starts as the program's own text lays it (the tie is given).
-/
namespace Go.Proofs.YtagkkihnfipfeaaDoor
open Go.ChangeShapes Go.WideShapes Go.ChangeAt Go.RowKit Go.Proofs.ShaWords

set_option maxRecDepth 100000 in
theorem aeadTags_lifted (os : Os) (started : os.Started) (H : Type) (enc : TypeId × Value → H) :
    ReturnsInHanded {} Tryd.checked os 6 .any (fun w args => (Rows.aeadTagsSpec.pre enc Tryd.prog Tryd.f6 [] false w args ∧ laidMetH Tryd.prog laid3 w) ∧ sizedMet enc Tryd.prog Tryd.f6 (OpenSpec.ofChange Rows.aeadTagsSpec) false w args)
      (Rows.aeadTagsSpec.post enc Tryd.prog Tryd.f6 false true false false) := by
  refine returnsInHanded_of_change_and (C := Tryd.checked) (X := fun w _ => laidMetH Tryd.prog laid3 w) (fun _ _ _ hh h => h.of_heap hh) own started (by kernel_rfl) Tryd.func6
    (ChangeSpec.witness_shaped (enc := enc) (C := Tryd.checked) (os := os) (X := fun w _ => laidMetH Tryd.prog laid3 w) false (World.doorLaid Tryd.prog 400 os) #[.agg (Array.replicate 32 (.int .u8 0)), .agg (Array.replicate 12 (.int .u8 0)), .slice none 0 0, .slice none 0 0, .agg (Array.replicate 16 (.int .u8 0))] 8 rfl (World.shaped_of_RefB (by kernel_rfl) (by kernel_rfl)) (by kernel_rfl) (by kernel_rfl) (by kernel_rfl) (door_met3 os _)) ?_
  intro W base args ds gs before hval0 hW _ hsz hL _
  have hW' := hW
  obtain ⟨p, q, hA0, hV, rfl, hfz, hnd⟩ := hW
  have hA : DataW.TrodAll enc Tryd.prog W 0 (fun _ => true) true Tryd.f6.params.toList args.toList ds p := hA0
  have hval : ∀ (j : Nat) t v, Tryd.f6.params[j]? = some t → args[j]? = some v → Value.okWide Tryd.prog W .any base t v := hval0
  have hsz2 : (DataW.weightsEach Tryd.prog (Tryd.f6.params.toList ++ Rows.aeadTagsSpec.plain.varTypes Tryd.prog) (ds ++ gs)).all (· ≤ reachBytes) = true := hsz
  rw [Tryd.params6] at hA hval hsz2
  obtain ⟨v0, vs0, d0, ds0, p0, q0, hargs, rfl, rfl, h0, r0⟩ := trodAll_cons hA
  obtain ⟨v1, vs1, d1, ds1, p1, q1, rfl, rfl, rfl, h1, r1⟩ := trodAll_cons r0
  obtain ⟨v2, vs2, d2, ds2, p2, q2, rfl, rfl, rfl, h2, r2⟩ := trodAll_cons r1
  obtain ⟨v3, vs3, d3, ds3, p3, q3, rfl, rfl, rfl, h3, r3⟩ := trodAll_cons r2
  obtain ⟨v4, vs4, d4, ds4, p4, q4, rfl, rfl, rfl, h4, r4⟩ := trodAll_cons r3
  obtain ⟨rfl, rfl, rfl⟩ := trodAll_nil r4
  obtain rfl : args = #[v0, v1, v2, v3, v4] := by cases args; simp_all
  obtain ⟨rfl, rfl⟩ := trodVars_none hV
  have hb5 : Tryd.prog.bytesOf 5 = 1 := by kernel_rfl
  obtain ⟨cs0, rfl⟩ := okWide_key (hval 0 23 v0 rfl rfl)
  have k0 := h0
  have lt0 : ∀ x ∈ p0, x.block < W.heap.size := by obtain ⟨m, hm⟩ := k0; exact DataW.trod_lt m _ _ _ hm
  obtain ⟨f0, hf0⟩ := h0
  obtain ⟨xs0, hx0a, hx0b⟩ := open_key hf0
  obtain rfl : cs0 = (bytesV xs0).toArray := by rw [← hx0b]; rfl
  obtain ⟨cs1, rfl⟩ := okWide_nonce (hval 1 25 v1 rfl rfl)
  have k1 := h1
  have lt1 : ∀ x ∈ p1, x.block < W.heap.size := by obtain ⟨m, hm⟩ := k1; exact DataW.trod_lt m _ _ _ hm
  obtain ⟨f1, hf1⟩ := h1
  obtain ⟨xs1, hx1a, hx1b⟩ := open_nonce hf1
  obtain rfl : cs1 = (bytesV xs1).toArray := by rw [← hx1b]; rfl
  obtain ⟨a2, len2, cap2, rfl⟩ := okWide_slice Tryd.underlying26 (hval 2 26 v2 rfl rfl)
  have k2 := h2
  have lt2 : ∀ x ∈ p2, x.block < W.heap.size := by obtain ⟨m, hm⟩ := k2; exact DataW.trod_lt m _ _ _ hm
  obtain ⟨f2, hf2⟩ := h2
  obtain ⟨xs2, hx2a, hx2b, hx2c, hx2d⟩ := open_bytes hf2
  have hc2 : cap2 ≤ 140737488351232 := by
    rcases hx2d with ⟨_, h⟩ | ⟨e, sp, he, hl⟩
    · omega
    · have h := sized_slice hsz2 (j := 2) (t := 26) (elems := e) (spare := sp) rfl (by rw [← he]; rfl) Tryd.underlying26
      rw [hb5] at h; unfold reachBytes at h; omega
  obtain ⟨a3, len3, cap3, rfl⟩ := okWide_slice Tryd.underlying26 (hval 3 26 v3 rfl rfl)
  have k3 := h3
  have lt3 : ∀ x ∈ p3, x.block < W.heap.size := by obtain ⟨m, hm⟩ := k3; exact DataW.trod_lt m _ _ _ hm
  obtain ⟨f3, hf3⟩ := h3
  obtain ⟨xs3, hx3a, hx3b, hx3c, hx3d⟩ := open_bytes hf3
  have hc3 : cap3 ≤ 140737488351232 := by
    rcases hx3d with ⟨_, h⟩ | ⟨e, sp, he, hl⟩
    · omega
    · have h := sized_slice hsz2 (j := 3) (t := 26) (elems := e) (spare := sp) rfl (by rw [← he]; rfl) Tryd.underlying26
      rw [hb5] at h; unfold reachBytes at h; omega
  obtain ⟨cs4, rfl⟩ := okWide_tag (hval 4 46 v4 rfl rfl)
  have k4 := h4
  have lt4 : ∀ x ∈ p4, x.block < W.heap.size := by obtain ⟨m, hm⟩ := k4; exact DataW.trod_lt m _ _ _ hm
  obtain ⟨f4, hf4⟩ := h4
  obtain ⟨xs4, hx4a, hx4b⟩ := open_tag hf4
  obtain rfl : cs4 = (bytesV xs4).toArray := by rw [← hx4b]; rfl
  have hQ := of_laid3 hL
  clear hA0 hval0
  refine (aeTags_any xs0 xs1 xs2 xs3 xs4 len2 len3 a2 a3 cap2 cap3 W hx0a hx1a hx2a hx3a hx4a hx3b hx2c hx3c hQ).mono fun e W' ⟨he, bel⟩ => ?_
  subst he
  exact ⟨_, rfl, _, _, _, [], _, [], hW', trodAll_mk1 (shut_bool Tryd.underlying4 _), (trodAll_cons_mk (Below.trod laidOut (by kernel_rfl) (of_decide_eq_true (by kernel_rfl)) k0 bel lt0) (trodAll_cons_mk (Below.trod laidOut (by kernel_rfl) (of_decide_eq_true (by kernel_rfl)) k1 bel lt1) (trodAll_cons_mk (Below.trod laidOut (by kernel_rfl) (of_decide_eq_true (by kernel_rfl)) k2 bel lt2) (trodAll_cons_mk (Below.trod laidOut (by kernel_rfl) (of_decide_eq_true (by kernel_rfl)) k3 bel lt3) (trodAll_cons_mk (Below.trod laidOut (by kernel_rfl) (of_decide_eq_true (by kernel_rfl)) k4 bel lt4) trodAll_mk0))))), rfl, bel.frame _, fun h => by cases h⟩

theorem aeadTags_holds : Rows.AeadTagsSaid :=
  OpenClaim.holds_of_wide 6 Tryd.f6 rfl rfl rfl rfl rfl rfl rfl ⟨rfl, rfl, rfl, rfl, rfl⟩ rfl rfl rfl rfl rfl (by kernel_rfl) Tryd.func6 (by kernel_rfl)
    (of_decide_eq_true (by kernel_rfl)) (by unfold Func.isWrapper; first | (rw [if_pos (by decide +kernel)]; kernel_rfl) | (rw [if_neg (by decide +kernel)]; exact ⟨rfl, rfl⟩))
    (fun os started H enc _ => aeadTags_lifted os started H enc)

theorem aeadTags_card : Rows.AeadTagsCardSaid :=
  Claim7.holds_tied_plain_at .later [] [.data] true Rows.aeadTagsCard.stood.harness false
    aeadTags_holds (fun _ h => by cases h) (by kernel_rfl) (fun _ h => by cases h) aeadTags_row_tie rfl ⟨rfl, rfl⟩ (by kernel_rfl) rfl
    (fun f fn hf hfn => by
      obtain rfl : f = 6 := Option.some.inj (hf.symm.trans (show _ = some 6 by kernel_rfl))
      obtain rfl : fn = Tryd.f6 := (Option.some.inj (Tryd.func6.symm.trans hfn)).symm
      exact ⟨by kernel_rfl, fun j t ht => by
        rw [Tryd.params6] at ht
        have hm : t ∈ [23, 25, 26, 26, 46] := by simpa using Array.mem_of_getElem? ht
        have hall : ([23, 25, 26, 26, 46].all fun u => !Tryd.prog.wantsStandIn u) = true := by kernel_rfl
        exact (show Tryd.prog.wantsStandIn t = false by simpa using List.all_eq_true.1 hall t hm)⟩)
    (by kernel_rfl)
#print axioms aeadTags_card
end Go.Proofs.YtagkkihnfipfeaaDoor
