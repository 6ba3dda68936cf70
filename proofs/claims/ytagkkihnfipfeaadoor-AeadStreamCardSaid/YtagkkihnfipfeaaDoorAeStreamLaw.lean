/-
  The walk of the law AeadStream: for any key, nonce, heads and bytes it returns true, and nothing that was there changes.
-/
import Derived.Test.YtagkkihnfipfeaaDoorAeWorks
import Derived.Test.YtagkkihnfipfeaaDoorSameB
import Derived.Test.YtagkkihnfipfeaaDoorMaxMin
namespace Go.Proofs.YtagkkihnfipfeaaDoor
open Go.RowKit Go.Proofs.ShaWords

/-- The key, the nonce, bytes that lie somewhere. -/
structure KnL (w : World) (key nonce : List (BitVec 8)) (L : List (Option Addr × List (BitVec 8))) (wr : World) : Prop where
  key : BytesAt wr w.heap.size 23 key
  nonce : BytesAt wr (w.heap.size + 1) 25 nonce
  lies : ∀ x ∈ L, Lies wr x.1 x.2
  below : Below w.heap.size w wr
theorem KnL.on {w wr w' : World} {key nonce : List (BitVec 8)} {L : List (Option Addr × List (BitVec 8))} (h : KnL w key nonce L wr) (hb : Below wr.heap.size wr w') : KnL w key nonce L w' := ⟨h.key.keep hb, h.nonce.keep hb, fun x hx => (h.lies x hx).below hb, h.below.trans (hb.mono h.below.size)⟩
theorem KnL.add {w wr : World} {key nonce : List (BitVec 8)} {L : List (Option Addr × List (BitVec 8))} (h : KnL w key nonce L wr) (x : Option Addr × List (BitVec 8)) (hx : Lies wr x.1 x.2) : KnL w key nonce (x :: L) wr := ⟨h.key, h.nonce, fun y hy => by
  rcases List.mem_cons.1 hy with rfl | hy
  · exact hx
  · exact h.lies y hy, h.below⟩
theorem KnL.drop {w wr : World} {key nonce : List (BitVec 8)} {x : Option Addr × List (BitVec 8)} {L : List (Option Addr × List (BitVec 8))} (h : KnL w key nonce (x :: L) wr) : KnL w key nonce L wr := ⟨h.key, h.nonce, fun y hy => h.lies y (List.mem_cons_of_mem _ hy), h.below⟩
theorem knl_start (w : World) (key nonce : List (BitVec 8)) (L : List (Option Addr × List (BitVec 8))) (hL : ∀ x ∈ L, Lies w x.1 x.2) : KnL w key nonce L ((w.alloc (.cells (bytesV key).toArray 23)).alloc (.cells (bytesV nonce).toArray 25)) :=
  ⟨(knb_start w key nonce).key, (knb_start w key nonce).nonce, fun x hx => (hL x hx).below (knb_start w key nonce).below, (knb_start w key nonce).below⟩
theorem seal_take (key nonce head b : List (BitVec 8)) : (sealOf key nonce head b).take b.length = xorKs key 1#32 nonce b := by
  have h := openC_seal key nonce head b
  unfold openC at h
  rwa [sealOf_length, Nat.add_sub_cancel] at h
attribute [local irreducible] sealOf openOf openIs xorKs
set_option maxRecDepth 100000 in
set_option maxHeartbeats 4000000 in
theorem aeStream_any (key nonce head other b : List (BitVec 8)) (n n2 m : Nat) (p p2 q : Option Addr) (cp cp2 cq : Nat) (w : World) (hk : key.length = 32) (hn : nonce.length = 12) (hhl : head.length = n) (hol : other.length = n2) (hml : b.length = m) (hp : Lies w p head) (hp2 : Lies w p2 other) (hb : Lies w q b) (hq : Quads w) :
    Calls Tryd.prog 7 #[.agg (bytesV key).toArray, .agg (bytesV nonce).toArray, .slice p n cp, .slice p2 n2 cp2, .slice q m cq] w fun e w' => e = .returned (.bool true) ∧ Below w.heap.size w w' := by
  have hqs := hq.size
  have HQ := Lib.hid hq; clear hq
  have HKL := Lib.hid hk; clear hk
  have HNL := Lib.hid hn; clear hn
  have HHL := Lib.hid hhl
  have HOL := Lib.hid hol
  have HML := Lib.hid hml
  have HLI : Hid (∀ x ∈ [(p, head), (p2, other), (q, b)], Lies w x.1 x.2) := show ∀ x ∈ _, _ from by
    intro x hx
    simp only [List.mem_cons, List.not_mem_nil, or_false] at hx
    rcases hx with rfl | rfl | rfl
    · exact hp
    · exact hp2
    · exact hb
  clear hp hp2 hb
  have HIK := Lib.hid (infoKey key HKL.out)
  have HIN := Lib.hid (infoNonce nonce HNL.out)
  obtain ⟨mx, hmx⟩ : ∃ mx, mx = max (max n n2) m := ⟨_, rfl⟩
  have HMX := Lib.hid hmx
  by_cases hbig : 4096 < mx
  · have p0 : (4096 : Int) < (mx : Int) := by omega
    clear hmx hhl hol hml
    go_enter Tryd.func7, Tryd.ntmps7
    go_upto_region 1 with (fail)
    refine wp_gen (KnL w key nonce [(p, head), (p2, other), (q, b)]) (knl_start w key nonce _ HLI.out) ?_
    intro w0 hw0
    have HW0 := Lib.hid hw0; clear hw0
    go_wp2_with (refine wpList_max3 rfl (.tmp 15) (.tmp 17) (.tmp 19) rfl n n2 m mx rfl rfl rfl HMX.out ?_)
    refine (works5_any w0 (HQ.out.below HW0.out.below hqs)).mono ?_
    rintro e w1 ⟨rfl, hb1⟩
    have HW1 := Lib.hid (HW0.out.on hb1); clear hb1 HW0
    go_wp2_with fail
    go_ret
    exact ⟨rfl, HW1.out.below⟩
  · have p0 : ¬ (4096 : Int) < (mx : Int) := by omega
    have b1 : n ≤ 4096 := by omega
    have b2 : n2 ≤ 4096 := by omega
    have b3 : m ≤ 4096 := by omega
    have HXL := Lib.hid ((xorKs_length key 1#32 nonce b).trans hml)
    have HT1 : Hid ((sealOf key nonce head b).take m = xorKs key 1#32 nonce b) := show _ = _ by rw [← hml]; exact seal_take _ _ _ _
    have HT2 : Hid ((sealOf key nonce other b).take m = xorKs key 1#32 nonce b) := show _ = _ by rw [← hml]; exact seal_take _ _ _ _
    have HS1 : Hid ((sealOf key nonce head b).length = m + 16) := show _ = _ by rw [sealOf_length, hml]
    have HS2 : Hid ((sealOf key nonce other b).length = m + 16) := show _ = _ by rw [sealOf_length, hml]
    clear hmx hhl hol hml hbig
    go_enter Tryd.func7, Tryd.ntmps7
    go_upto_region 1 with (fail)
    refine wp_gen (KnL w key nonce [(p, head), (p2, other), (q, b)]) (knl_start w key nonce _ HLI.out) ?_
    intro w0 hw0
    have HW0 := Lib.hid hw0; clear hw0
    go_upto_region 3 with (refine wpList_max3 rfl (.tmp 15) (.tmp 17) (.tmp 19) rfl n n2 m mx rfl rfl rfl HMX.out ?_)
    refine region_phase (KnL w key nonce [(p, head), (p2, other), (q, b)]) (fun _ => True) 0 (HW0.out.on ((Below.refl _ _).drew)) trivial [(1, .free), (2, .free), (3, .free), (4, .free), (0, .behind), (5, .behind), (6, .free)] (by kernel_rfl) (by kernel_rfl) (by kernel_rfl) (by kernel_rfl) (fun ops hops A hA => ?_)
    have hsz : A.tmps.size = 81 := by rw [hA]; rfl
    have base2 : A.eval (.tmp 2) = .slice p n cp := by rw [hA]; rfl
    have base3 : A.eval (.tmp 3) = .slice p2 n2 cp2 := by rw [hA]; rfl
    have base4 : A.eval (.tmp 4) = .slice q m cq := by rw [hA]; rfl
    have base5 : A.eval (.tmp 5) = .pointer (some ⟨w.heap.size, 0, none⟩) := by rw [hA]; rfl
    have base6 : A.eval (.tmp 6) = .pointer (some ⟨w.heap.size + 1, 0, none⟩) := by rw [hA]; rfl
    have HAA := Lib.hid hA; clear hA
    obtain ⟨o0, po0, q0, d0, gd0⟩ : ∃ o, ops[0]? = some o ∧ o.op = .call { callee := .value (.func 11), args := #[], argTypes := #[] } ∧ o.dst = some 23 ∧ o.guard = none := ⟨_, by rw [hops]; rfl, rfl, rfl, rfl⟩
    obtain ⟨o1, po1, q1, d1, gd1⟩ : ∃ o, ops[1]? = some o ∧ o.op = .load 23 (.tmp 5) ∧ o.dst = some 24 ∧ o.guard = none := ⟨_, by rw [hops]; rfl, rfl, rfl, rfl⟩
    obtain ⟨o2, po2, q2, d2, gd2⟩ : ∃ o, ops[2]? = some o ∧ o.op = .load 25 (.tmp 6) ∧ o.dst = some 25 ∧ o.guard = none := ⟨_, by rw [hops]; rfl, rfl, rfl, rfl⟩
    obtain ⟨o3, po3, q3, d3, gd3⟩ : ∃ o, ops[3]? = some o ∧ o.op = .move (.tmp 2) ∧ o.dst = some 26 ∧ o.guard = none := ⟨_, by rw [hops]; rfl, rfl, rfl, rfl⟩
    obtain ⟨o4, po4, q4, d4, gd4⟩ : ∃ o, ops[4]? = some o ∧ o.op = .move (.tmp 4) ∧ o.dst = some 27 ∧ o.guard = none := ⟨_, by rw [hops]; rfl, rfl, rfl, rfl⟩
    obtain ⟨o5, po5, q5, d5, gd5⟩ : ∃ o, ops[5]? = some o ∧ o.op = .call { callee := .value (.func 12), args := #[.tmp 23, .tmp 24, .tmp 25, .tmp 26, .tmp 27], argTypes := #[29, 23, 25, 26, 26] } ∧ o.dst = some 28 ∧ o.guard = none := ⟨_, by rw [hops]; rfl, rfl, rfl, rfl⟩
    obtain ⟨o6, po6, q6, d6, gd6⟩ : ∃ o, ops[6]? = some o ∧ o.op = .assign (.tmp 28) ∧ o.dst = some 11 ∧ o.guard = none := ⟨_, by rw [hops]; rfl, rfl, rfl, rfl⟩
    clear hops
    refine met_free po1 d1 (wanted_of gd1) (fun w' h' => run_loadKey q1 base5 HKL.out h'.key) ?_
    refine met_free po2 d2 (wanted_of gd2) (fun w' h' => run_loadNonce q2 ((eval_other _ 24 6 _ (by decide)).trans base6) HNL.out h'.nonce) ?_
    refine met_free po3 d3 (wanted_of gd3) (fun w' h' => run_move q3 ((eval_other _ 25 2 _ (by decide)).trans ((eval_other _ 24 2 _ (by decide)).trans base2)) w') ?_
    refine met_free po4 d4 (wanted_of gd4) (fun w' h' => run_move q4 ((eval_other _ 26 4 _ (by decide)).trans ((eval_other _ 25 4 _ (by decide)).trans ((eval_other _ 24 4 _ (by decide)).trans base4))) w') ?_
    refine m_enter po0 d0 (wanted_of gd0) (run_callf0 q0 rfl Tryd.func11 (by kernel_rfl) _) (new_any _) ?_
    rintro e w1a ⟨v1, rfl, hb1⟩
    have HA1 := Lib.hid ((HW0.out.on ((Below.refl _ _).drew)).on hb1); clear hb1
    refine ⟨_, rfl, HA1.out, ?_⟩
    refine m_enter po5 d5 (wanted_of gd5) (run_callf5 q5 rfl (eval_same _ _ _ (by simp only [put_size, hsz]; decide)) ((eval_other _ 23 24 _ (by decide)).trans ((eval_other _ 27 24 _ (by decide)).trans ((eval_other _ 26 24 _ (by decide)).trans ((eval_other _ 25 24 _ (by decide)).trans (eval_same _ _ _ (by rw [hsz]; decide)))))) ((eval_other _ 23 25 _ (by decide)).trans ((eval_other _ 27 25 _ (by decide)).trans ((eval_other _ 26 25 _ (by decide)).trans (eval_same _ _ _ (by simp only [put_size, hsz]; decide))))) ((eval_other _ 23 26 _ (by decide)).trans ((eval_other _ 27 26 _ (by decide)).trans (eval_same _ _ _ (by simp only [put_size, hsz]; decide)))) ((eval_other _ 23 27 _ (by decide)).trans (eval_same _ _ _ (by simp only [put_size, hsz]; decide))) Tryd.func12 (by kernel_rfl) _) (seal_any v1 key nonce head b n m p q cp cq w1a HKL.out HNL.out HHL.out HML.out (by omega) (by omega) (HA1.out.lies (p, head) (by simp)) (HA1.out.lies (q, b) (by simp)) (HQ.out.below HA1.out.below hqs)) ?_
    rintro e w1 ⟨r1, c1, rfl, hr1, hm1, ho1, hb1⟩
    have HW1 := Lib.hid ((HA1.out.on hb1).add (r1, sealOf key nonce head b) ho1.liesOf); clear ho1 hb1 HA1
    refine ⟨_, rfl, HW1.out.drop, ?_⟩
    refine met_free po6 d6 (wanted_of gd6) (fun w' h' => run_assign q6 (eval_same _ _ _ (by simp only [put_size, hsz]; decide)) w') ?_
    show NoPanic _ .normal _ _
    refine NoPanic.normal ?_
    rw [HAA.out]
    go_frame
    clear HAA
    go_upto_region 4 with (fail)
    refine region_phase (KnL w key nonce [(r1, sealOf key nonce head b), (p, head), (p2, other), (q, b)]) (fun _ => True) 0 (HW1.out.on ((Below.refl _ _).drew)) trivial [(1, .free), (2, .free), (3, .free), (4, .free), (0, .behind), (5, .behind), (6, .free)] (by kernel_rfl) (by kernel_rfl) (by kernel_rfl) (by kernel_rfl) (fun ops hops A2 hA => ?_)
    have hsz : A2.tmps.size = 81 := by rw [hA]; rfl
    have base2 : A2.eval (.tmp 2) = .slice p n cp := by rw [hA]; rfl
    have base3 : A2.eval (.tmp 3) = .slice p2 n2 cp2 := by rw [hA]; rfl
    have base4 : A2.eval (.tmp 4) = .slice q m cq := by rw [hA]; rfl
    have base5 : A2.eval (.tmp 5) = .pointer (some ⟨w.heap.size, 0, none⟩) := by rw [hA]; rfl
    have base6 : A2.eval (.tmp 6) = .pointer (some ⟨w.heap.size + 1, 0, none⟩) := by rw [hA]; rfl
    have HAA := Lib.hid hA; clear hA
    obtain ⟨o0, po0, q0, d0, gd0⟩ : ∃ o, ops[0]? = some o ∧ o.op = .call { callee := .value (.func 11), args := #[], argTypes := #[] } ∧ o.dst = some 29 ∧ o.guard = none := ⟨_, by rw [hops]; rfl, rfl, rfl, rfl⟩
    obtain ⟨o1, po1, q1, d1, gd1⟩ : ∃ o, ops[1]? = some o ∧ o.op = .load 23 (.tmp 5) ∧ o.dst = some 30 ∧ o.guard = none := ⟨_, by rw [hops]; rfl, rfl, rfl, rfl⟩
    obtain ⟨o2, po2, q2, d2, gd2⟩ : ∃ o, ops[2]? = some o ∧ o.op = .load 25 (.tmp 6) ∧ o.dst = some 31 ∧ o.guard = none := ⟨_, by rw [hops]; rfl, rfl, rfl, rfl⟩
    obtain ⟨o3, po3, q3, d3, gd3⟩ : ∃ o, ops[3]? = some o ∧ o.op = .move (.tmp 3) ∧ o.dst = some 32 ∧ o.guard = none := ⟨_, by rw [hops]; rfl, rfl, rfl, rfl⟩
    obtain ⟨o4, po4, q4, d4, gd4⟩ : ∃ o, ops[4]? = some o ∧ o.op = .move (.tmp 4) ∧ o.dst = some 33 ∧ o.guard = none := ⟨_, by rw [hops]; rfl, rfl, rfl, rfl⟩
    obtain ⟨o5, po5, q5, d5, gd5⟩ : ∃ o, ops[5]? = some o ∧ o.op = .call { callee := .value (.func 12), args := #[.tmp 29, .tmp 30, .tmp 31, .tmp 32, .tmp 33], argTypes := #[29, 23, 25, 26, 26] } ∧ o.dst = some 34 ∧ o.guard = none := ⟨_, by rw [hops]; rfl, rfl, rfl, rfl⟩
    obtain ⟨o6, po6, q6, d6, gd6⟩ : ∃ o, ops[6]? = some o ∧ o.op = .assign (.tmp 34) ∧ o.dst = some 12 ∧ o.guard = none := ⟨_, by rw [hops]; rfl, rfl, rfl, rfl⟩
    clear hops
    refine met_free po1 d1 (wanted_of gd1) (fun w' h' => run_loadKey q1 base5 HKL.out h'.key) ?_
    refine met_free po2 d2 (wanted_of gd2) (fun w' h' => run_loadNonce q2 ((eval_other _ 30 6 _ (by decide)).trans base6) HNL.out h'.nonce) ?_
    refine met_free po3 d3 (wanted_of gd3) (fun w' h' => run_move q3 ((eval_other _ 31 3 _ (by decide)).trans ((eval_other _ 30 3 _ (by decide)).trans base3)) w') ?_
    refine met_free po4 d4 (wanted_of gd4) (fun w' h' => run_move q4 ((eval_other _ 32 4 _ (by decide)).trans ((eval_other _ 31 4 _ (by decide)).trans ((eval_other _ 30 4 _ (by decide)).trans base4))) w') ?_
    refine m_enter po0 d0 (wanted_of gd0) (run_callf0 q0 rfl Tryd.func11 (by kernel_rfl) _) (new_any _) ?_
    rintro e w2a ⟨v2, rfl, hb2⟩
    have HA2 := Lib.hid ((HW1.out.on ((Below.refl _ _).drew)).on hb2); clear hb2
    refine ⟨_, rfl, HA2.out, ?_⟩
    refine m_enter po5 d5 (wanted_of gd5) (run_callf5 q5 rfl (eval_same _ _ _ (by simp only [put_size, hsz]; decide)) ((eval_other _ 29 30 _ (by decide)).trans ((eval_other _ 33 30 _ (by decide)).trans ((eval_other _ 32 30 _ (by decide)).trans ((eval_other _ 31 30 _ (by decide)).trans (eval_same _ _ _ (by rw [hsz]; decide)))))) ((eval_other _ 29 31 _ (by decide)).trans ((eval_other _ 33 31 _ (by decide)).trans ((eval_other _ 32 31 _ (by decide)).trans (eval_same _ _ _ (by simp only [put_size, hsz]; decide))))) ((eval_other _ 29 32 _ (by decide)).trans ((eval_other _ 33 32 _ (by decide)).trans (eval_same _ _ _ (by simp only [put_size, hsz]; decide)))) ((eval_other _ 29 33 _ (by decide)).trans (eval_same _ _ _ (by simp only [put_size, hsz]; decide))) Tryd.func12 (by kernel_rfl) _) (seal_any v2 key nonce other b n2 m p2 q cp2 cq w2a HKL.out HNL.out HOL.out HML.out (by omega) (by omega) (HA2.out.lies (p2, other) (by simp)) (HA2.out.lies (q, b) (by simp)) (HQ.out.below HA2.out.below hqs)) ?_
    rintro e w2 ⟨r2, c2, rfl, hr2, hm2, ho2, hb2⟩
    have HW2 := Lib.hid ((HA2.out.on hb2).add (r2, sealOf key nonce other b) ho2.liesOf); clear ho2 hb2 HA2
    refine ⟨_, rfl, HW2.out.drop, ?_⟩
    refine met_free po6 d6 (wanted_of gd6) (fun w' h' => run_assign q6 (eval_same _ _ _ (by simp only [put_size, hsz]; decide)) w') ?_
    show NoPanic _ .normal _ _
    refine NoPanic.normal ?_
    rw [HAA.out]
    go_frame
    clear HAA
    obtain ⟨N, hN⟩ : ∃ N, N = m + 16 := ⟨_, rfl⟩
    have HN := Lib.hid hN
    rw [← hN] at HS1 HS2 hr1 hr2 ⊢
    have m0 : IntKind.i64.wrap ((m : Int) + 16) = (N : Int) := by rw [IntWalk.i64_in _ (by omega)]; omega
    have m1 : (m : Int) ≤ (c1 : Int) := by omega
    have m2 : (m : Int) ≤ (c2 : Int) := by omega
    have m3 : 0 ≤ (m : Int) := by omega
    have hN2 : N ≤ 5000 := by omega
    clear hN
    go_wp2_with (first
      | (refine wpList_load_row rfl 23 (.tmp 5) rfl w.heap.size rfl 23 (bytesV key).toArray (0, 0) _ HW2.out.key Tryd.underlying23 rfl HIK.out ?_)
      | (refine wpList_load_row rfl 25 (.tmp 6) rfl (w.heap.size + 1) rfl 25 (bytesV nonce).toArray (0, 0) _ HW2.out.nonce Tryd.underlying25 rfl HIN.out ?_))
    refine (ccXor_len key nonce b m 1#32 q cq w2 HML.out HKL.out HNL.out (by omega) (HW2.out.lies (q, b) (by simp)) (HQ.out.below HW2.out.below hqs)).mono ?_
    rintro e w3 ⟨r3, c3, rfl, hr3, ho3, hb3⟩
    have HW3 := Lib.hid ((HW2.out.on hb3).add (r3, xorKs key 1#32 nonce b) ho3.liesOf); clear ho3 hb3 HW2
    go_wp2_with fail
    refine (same_any (xorKs key 1#32 nonce b) m _ _ _ _ w3 HXL.out (by omega) (by have h := lies_take (HW3.out.lies (r1, sealOf key nonce head b) (by simp)) m; rw [HT1.out] at h; exact h) (HW3.out.lies (r3, xorKs key 1#32 nonce b) (by simp))).mono ?_
    rintro e w4 ⟨rfl, hb4⟩
    have HW4 := Lib.hid (HW3.out.on hb4); clear hb4 HW3
    go_wp2_with fail
    refine (same_any (xorKs key 1#32 nonce b) m _ _ _ _ w4 HXL.out (by omega) (by have h := lies_take (HW4.out.lies (r2, sealOf key nonce other b) (by simp)) m; rw [HT2.out] at h; exact h) (HW4.out.lies (r3, xorKs key 1#32 nonce b) (by simp))).mono ?_
    rintro e w5 ⟨rfl, hb5⟩
    have HW5 := Lib.hid (HW4.out.on hb5); clear hb5 HW4
    go_wp2_with fail
    by_cases hho : head = other
    · subst hho
      have hnn : n2 = n := by rw [← HHL.out, ← HOL.out]
      subst hnn
      refine (same_any head n2 p p2 cp cp2 w5 HHL.out (by omega) (HW5.out.lies (p, head) (by simp)) (HW5.out.lies (p2, head) (by simp))).mono ?_
      rintro e w6 ⟨rfl, hb6⟩
      have HW6 := Lib.hid (HW5.out.on hb6); clear hb6 HW5
      go_wp2_with fail
      refine (same_any (sealOf key nonce head b) N r1 r2 c1 c2 w6 HS1.out (by omega) (HW6.out.lies (r1, sealOf key nonce head b) (by simp)) (HW6.out.lies (r2, sealOf key nonce head b) (by simp))).mono ?_
      rintro e w7 ⟨rfl, hb7⟩
      have HW7 := Lib.hid (HW6.out.on hb7); clear hb7 HW6
      go_wp2_with fail
      refine (works5_any w7 (HQ.out.below HW7.out.below hqs)).mono ?_
      rintro e w8 ⟨rfl, hb8⟩
      have HW8 := Lib.hid (HW7.out.on hb8); clear hb8 HW7
      go_wp2_with fail
      go_ret
      exact ⟨rfl, HW8.out.below⟩
    · refine (sameBytes_any head other n n2 p p2 cp cp2 w5 HHL.out HOL.out (by omega) (by omega) (HW5.out.lies (p, head) (by simp)) (HW5.out.lies (p2, other) (by simp))).mono ?_
      rintro e w6 ⟨rfl, hb6⟩
      rw [decide_eq_false hho]
      have HW6 := Lib.hid (HW5.out.on hb6); clear hb6 HW5
      go_wp2_with fail
      refine (works5_any w6 (HQ.out.below HW6.out.below hqs)).mono ?_
      rintro e w8 ⟨rfl, hb8⟩
      have HW8 := Lib.hid (HW6.out.on hb8); clear hb8 HW6
      go_wp2_with fail
      go_ret
      exact ⟨rfl, HW8.out.below⟩
end Go.Proofs.YtagkkihnfipfeaaDoor
