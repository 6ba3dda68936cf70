/-
  The contract of (*aead.Aead).Open.
-/
import Derived.Test.YtagkkihnfipfeaaDoorAeSeal
import Derived.Test.YtagkkihnfipfeaaDoorCcOps
import Derived.Test.YtagkkihnfipfeaaDoorMet
namespace Go.Proofs.YtagkkihnfipfeaaDoor
open Go.RowKit Go.Proofs.ShaWords

/-- Does it open? What is ahead of the tag; what it opens to. -/
def openC (s : List (BitVec 8)) : List (BitVec 8) := s.take (s.length - 16)
def openIs (key nonce head s : List (BitVec 8)) : Bool := decide (16 ≤ s.length) && decide (s.drop (s.length - 16) = aeadTag key nonce head (openC s))
def openOf (key nonce head s : List (BitVec 8)) : List (BitVec 8) := if openIs key nonce head s then xorKs key 1#32 nonce (openC s) else []
section
variable {ρ : Operand → Value} {o : Oper} {x y c : Operand} {w : World}
theorem r_toArr {g off c : Nat} (ho : o.op = .sliceToArrayPointer 46 x) (hx : ρ x = .slice (some ⟨g, off, none⟩) 16 c) (w : World) : (execOp ρ o).run Tryd.prog w = .ok (.value (.pointer (some ⟨g, off, none⟩))) w := by
  unfold execOp
  simp [ho, hx, Instr.arrayAt, run_underlying Tryd.underlying46, Sem.run_bind, Result.andThen]
theorem r_loadTag {l : List (BitVec 8)} {b off : Nat} (ho : o.op = .load 46 x) (hx : ρ x = .pointer (some ⟨b, off, none⟩)) (hl : l.length = 16) (hr : w.rangeAt b off (bytesV l)) : (execOp ρ o).run Tryd.prog w = .ok (.value (.agg (bytesV l).toArray)) w := by
  have h := run_loadAt_mid (P := Tryd.prog) w b off 46 (bytesV l) _ hr Tryd.underlying46 rfl (by rw [bytesV_length, hl]; kernel_rfl)
  unfold execOp
  simp only [ho, hx, Sem.run_bind, h, Result.andThen_ok, Sem.run_pure]
theorem r_fromTag {b off n cap k : Nat} (ho : o.op = .slice 26 x (some y) none none) (hk : n = k + 16) (hn : n ≤ cap) (hx : ρ x = .slice (some ⟨b, off, none⟩) n cap) (hy : ρ y = .int .i64 (k : Int)) (w : World) :
    (execOp ρ o).run Tryd.prog w = .ok (.value (.slice (some ⟨b, off + k, none⟩) 16 (cap - k))) w := by
  have h := run_sliceFrom (ρ := ρ) ho hx hy (by omega) (by omega) hn w
  rw [h, show n - k = 16 by omega]
end
/-- What Open has at hand: the key, the nonce, the head, the bytes ahead of the tag, the tag. -/
structure OpW (w : World) (key nonce head c tg : List (BitVec 8)) (b off k : Nat) (p : Option Addr) (wr : World) : Prop where
  key : BytesAt wr w.heap.size 23 key
  nonce : BytesAt wr (w.heap.size + 1) 25 nonce
  head : Lies wr p head
  body : Lies wr (some ⟨b, off, none⟩) c
  tag : wr.rangeAt b (off + k) (bytesV tg)
  below : Below w.heap.size w wr
theorem OpW.on {w wr w' : World} {key nonce head c tg : List (BitVec 8)} {b off k : Nat} {p : Option Addr} (h : OpW w key nonce head c tg b off k p wr) (hb : Below wr.heap.size wr w') : OpW w key nonce head c tg b off k p w' :=
  ⟨h.key.keep hb, h.nonce.keep hb, h.head.below hb, h.body.below hb, range_keep h.tag hb, h.below.trans (hb.mono h.below.size)⟩
attribute [local irreducible] ccBlock xorKs aeadTag
set_option maxRecDepth 100000 in
set_option maxHeartbeats 4000000 in
theorem open_any (a : Value) (key nonce head s : List (BitVec 8)) (n m : Nat) (p q : Option Addr) (cp cq : Nat) (w : World) (hk : key.length = 32) (hn : nonce.length = 12) (hhn : head.length = n) (hcm : s.length = m) (hH : n ≤ 300000) (hC : m ≤ 300000) (hmc : m ≤ cq) (hp : Lies w p head) (hc : Lies w q s) (hq : Quads w) :
    Calls Tryd.prog 18 #[a, .agg (bytesV key).toArray, .agg (bytesV nonce).toArray, .slice p n cp, .slice q m cq] w fun e w' => ∃ v, e = .returned (.tuple #[v, .bool (openIs key nonce head s)]) ∧ Own w.heap.size w' (openOf key nonce head s) v ∧ Below w.heap.size w w' := by
  have hqs := hq.size
  have HQ := Lib.hid hq; clear hq
  have HP := Lib.hid hp; clear hp
  have HKL := Lib.hid hk; clear hk
  have HNL := Lib.hid hn; clear hn
  have HHN := Lib.hid hhn
  have HIK := Lib.hid (infoKey key HKL.out)
  have HIN := Lib.hid (infoNonce nonce HNL.out)
  clear hhn
  by_cases hsm : m < 16
  · have HIS : Hid (openIs key nonce head s = false) := show _ = _ by unfold openIs; rw [decide_eq_false (by omega)]; rfl
    have HOF : Hid (openOf key nonce head s = []) := show _ = _ by unfold openOf; rw [HIS.out]; rfl
    clear hcm
    go_enter Tryd.func18, Tryd.ntmps18
    go_upto_region 1 with (fail)
    refine wp_gen (KnB w key nonce) (knb_start w key nonce) ?_
    intro w0 hw0
    have HW0 := Lib.hid hw0; clear hw0
    have m0 : IntKind.i64.wrap ((m : Int) - 16) = (m : Int) - 16 := IntWalk.i64_in _ (by omega)
    have m1 : (m : Int) - 16 < 0 := by omega
    go_wp2_with fail
    refine bodyPost_ret (v := .tuple #[.slice none 0 0, .bool false]) (by simp [results, Tryd.results18, go_sem]) rfl ?_
    exact ⟨_, by rw [HIS.out], by rw [HOF.out]; exact Own.nil _ _, HW0.out.below⟩
  · obtain ⟨k, rfl⟩ : ∃ k, m = k + 16 := ⟨m - 16, by omega⟩
    obtain ⟨b, off, rfl, hr⟩ : ∃ b off, q = some ⟨b, off, none⟩ ∧ w.rangeAt b off (bytesV s) := by
      rcases hc with h0 | h0
      · rw [h0] at hcm; simp at hcm
      · exact h0
    obtain ⟨m, hm⟩ : ∃ m, m = k + 16 := ⟨_, rfl⟩
    rw [← hm] at hcm hC hmc ⊢
    have hk16 : s.length - 16 = k := by omega
    obtain ⟨c, hcc⟩ : ∃ c, c = openC s := ⟨_, rfl⟩
    obtain ⟨tg, htg⟩ : ∃ tg, tg = s.drop (s.length - 16) := ⟨_, rfl⟩
    have hbody : Lies w (some ⟨b, off, none⟩) c := Or.inr ⟨b, off, rfl, fun j v hv => by
      refine hr j v ?_
      rw [hcc] at hv
      unfold openC at hv
      rw [bytesV_take, List.getElem?_take] at hv
      split at hv
      · exact hv
      · cases hv⟩
    have htag : w.rangeAt b (off + k) (bytesV tg) := by rw [htg, hk16]; exact range_drop hr
    have HOPW : Hid (OpW w key nonce head c tg b off k p ((w.alloc (.cells (bytesV key).toArray 23)).alloc (.cells (bytesV nonce).toArray 25))) :=
      show OpW _ _ _ _ _ _ _ _ _ _ _ from
      ⟨(knb_start w key nonce).key, (knb_start w key nonce).nonce, HP.out.below (knb_start w key nonce).below, hbody.below (knb_start w key nonce).below, range_keep htag (knb_start w key nonce).below, (knb_start w key nonce).below⟩
    have HK2 := Lib.hid hm
    have HMC := Lib.hid hmc
    have HCL : Hid (c.length = k) := show _ = _ by rw [hcc, openC, List.length_take]; omega
    have HTL : Hid (tg.length = 16) := show _ = _ by rw [htg, List.length_drop]; omega
    have HIS : Hid (openIs key nonce head s = decide (tg = aeadTag key nonce head c)) := show _ = _ by unfold openIs; rw [decide_eq_true (by omega), ← hcc, ← htg]; rfl
    have HOF : Hid (openOf key nonce head s = if openIs key nonce head s then xorKs key 1#32 nonce c else []) := show _ = _ by rw [hcc]; rfl
    clear hr hbody htag hcc htg hc hcm hk16
    have hkk : k ≤ 299984 := by omega
    have m0 : IntKind.i64.wrap ((m : Int) - 16) = (k : Int) := by rw [IntWalk.i64_in _ (by omega)]; omega
    have m1 : ¬ (k : Int) < 0 := by omega
    have m2 : (k : Int) ≤ (cq : Int) := by omega
    have m3 : 0 ≤ (k : Int) := by omega
    clear hm
    go_enter Tryd.func18, Tryd.ntmps18
    go_upto_region 1 with (fail)
    refine wp_gen (OpW w key nonce head c tg b off k p) HOPW.out ?_
    intro w0 hw0
    have HW0 := Lib.hid hw0; clear hw0 HOPW
    go_upto_region 5 with (fail)
    refine region_phase (OpW w key nonce head c tg b off k p) (fun _ => True) 9 (HW0.out.on ((Below.refl _ _).drew)) trivial [(0, .free), (1, .free), (2, .free), (3, .free), (4, .free), (5, .free), (6, .free), (7, .free), (8, .free), (9, .behind), (10, .behind), (11, .free)] (by kernel_rfl) (by kernel_rfl) (by kernel_rfl) (by kernel_rfl) (fun ops hops A hA => ?_)
    have hsz : A.tmps.size = 38 := by rw [hA]; rfl
    have base3 : A.eval (.tmp 3) = .slice p n cp := by rw [hA]; rfl
    have base4 : A.eval (.tmp 4) = .slice (some ⟨b, off, none⟩) m cq := by rw [hA]; rfl
    have base6 : A.eval (.tmp 6) = .pointer (some ⟨w.heap.size, 0, none⟩) := by rw [hA]; rfl
    have base7 : A.eval (.tmp 7) = .pointer (some ⟨w.heap.size + 1, 0, none⟩) := by rw [hA]; rfl
    have base12 : A.eval (.tmp 12) = .int .i64 (k : Int) := by rw [hA]; rfl
    have base13 : A.eval (.tmp 13) = .slice (some ⟨b, off, none⟩) k cq := by rw [hA]; rfl
    have HAA := Lib.hid hA; clear hA
    obtain ⟨o0, po0, q0, d0, gd0⟩ : ∃ o, ops[0]? = some o ∧ o.op = .move (.tmp 4) ∧ o.dst = some 22 ∧ o.guard = none := ⟨_, by rw [hops]; rfl, rfl, rfl, rfl⟩
    obtain ⟨o1, po1, q1, d1, gd1⟩ : ∃ o, ops[1]? = some o ∧ o.op = .move (.tmp 12) ∧ o.dst = some 23 ∧ o.guard = none := ⟨_, by rw [hops]; rfl, rfl, rfl, rfl⟩
    obtain ⟨o2, po2, q2, d2, gd2⟩ : ∃ o, ops[2]? = some o ∧ o.op = .slice 26 (.tmp 22) (some (.tmp 23)) none none ∧ o.dst = some 24 ∧ o.guard = none := ⟨_, by rw [hops]; rfl, rfl, rfl, rfl⟩
    obtain ⟨o3, po3, q3, d3, gd3⟩ : ∃ o, ops[3]? = some o ∧ o.op = .sliceToArrayPointer 46 (.tmp 24) ∧ o.dst = some 25 ∧ o.guard = none := ⟨_, by rw [hops]; rfl, rfl, rfl, rfl⟩
    obtain ⟨o4, po4, q4, d4, gd4⟩ : ∃ o, ops[4]? = some o ∧ o.op = .load 46 (.tmp 25) ∧ o.dst = some 26 ∧ o.guard = none := ⟨_, by rw [hops]; rfl, rfl, rfl, rfl⟩
    obtain ⟨o5, po5, q5, d5, gd5⟩ : ∃ o, ops[5]? = some o ∧ o.op = .load 23 (.tmp 6) ∧ o.dst = some 27 ∧ o.guard = none := ⟨_, by rw [hops]; rfl, rfl, rfl, rfl⟩
    obtain ⟨o6, po6, q6, d6, gd6⟩ : ∃ o, ops[6]? = some o ∧ o.op = .load 25 (.tmp 7) ∧ o.dst = some 28 ∧ o.guard = none := ⟨_, by rw [hops]; rfl, rfl, rfl, rfl⟩
    obtain ⟨o7, po7, q7, d7, gd7⟩ : ∃ o, ops[7]? = some o ∧ o.op = .move (.tmp 3) ∧ o.dst = some 29 ∧ o.guard = none := ⟨_, by rw [hops]; rfl, rfl, rfl, rfl⟩
    obtain ⟨o8, po8, q8, d8, gd8⟩ : ∃ o, ops[8]? = some o ∧ o.op = .move (.tmp 13) ∧ o.dst = some 30 ∧ o.guard = none := ⟨_, by rw [hops]; rfl, rfl, rfl, rfl⟩
    obtain ⟨o9, po9, q9, d9, gd9⟩ : ∃ o, ops[9]? = some o ∧ o.op = .call { callee := .value (.func 25), args := #[.tmp 27, .tmp 28, .tmp 29, .tmp 30], argTypes := #[23, 25, 26, 26] } ∧ o.dst = some 31 ∧ o.guard = none := ⟨_, by rw [hops]; rfl, rfl, rfl, rfl⟩
    obtain ⟨o10, po10, q10, d10, gd10⟩ : ∃ o, ops[10]? = some o ∧ o.op = .call { callee := .value (.func 28), args := #[.tmp 26, .tmp 31], argTypes := #[46, 46] } ∧ o.dst = some 32 ∧ o.guard = none := ⟨_, by rw [hops]; rfl, rfl, rfl, rfl⟩
    obtain ⟨o11, po11, q11, d11, gd11⟩ : ∃ o, ops[11]? = some o ∧ o.op = .unOp .not 4 (.tmp 32) ∧ o.dst = some 33 ∧ o.guard = none := ⟨_, by rw [hops]; rfl, rfl, rfl, rfl⟩
    clear hops
    refine met_free po0 d0 (wanted_of gd0) (fun w' h' => run_move q0 base4 w') ?_
    refine met_free po1 d1 (wanted_of gd1) (fun w' h' => run_move q1 ((eval_other _ 22 12 _ (by decide)).trans base12) w') ?_
    refine met_free po2 d2 (wanted_of gd2) (fun w' h' => r_fromTag q2 HK2.out HMC.out ((eval_other _ 23 22 _ (by decide)).trans (eval_same _ _ _ (by rw [hsz]; decide))) (eval_same _ _ _ (by simp only [put_size, hsz]; decide)) w') ?_
    refine met_free po3 d3 (wanted_of gd3) (fun w' h' => r_toArr q3 (eval_same _ _ _ (by simp only [put_size, hsz]; decide)) w') ?_
    refine met_free po4 d4 (wanted_of gd4) (fun w' h' => r_loadTag q4 (eval_same _ _ _ (by simp only [put_size, hsz]; decide)) HTL.out h'.tag) ?_
    refine met_free po5 d5 (wanted_of gd5) (fun w' h' => run_loadKey q5 ((eval_other _ 26 6 _ (by decide)).trans ((eval_other _ 25 6 _ (by decide)).trans ((eval_other _ 24 6 _ (by decide)).trans ((eval_other _ 23 6 _ (by decide)).trans ((eval_other _ 22 6 _ (by decide)).trans base6))))) HKL.out h'.key) ?_
    refine met_free po6 d6 (wanted_of gd6) (fun w' h' => run_loadNonce q6 ((eval_other _ 27 7 _ (by decide)).trans ((eval_other _ 26 7 _ (by decide)).trans ((eval_other _ 25 7 _ (by decide)).trans ((eval_other _ 24 7 _ (by decide)).trans ((eval_other _ 23 7 _ (by decide)).trans ((eval_other _ 22 7 _ (by decide)).trans base7)))))) HNL.out h'.nonce) ?_
    refine met_free po7 d7 (wanted_of gd7) (fun w' h' => run_move q7 ((eval_other _ 28 3 _ (by decide)).trans ((eval_other _ 27 3 _ (by decide)).trans ((eval_other _ 26 3 _ (by decide)).trans ((eval_other _ 25 3 _ (by decide)).trans ((eval_other _ 24 3 _ (by decide)).trans ((eval_other _ 23 3 _ (by decide)).trans ((eval_other _ 22 3 _ (by decide)).trans base3))))))) w') ?_
    refine met_free po8 d8 (wanted_of gd8) (fun w' h' => run_move q8 ((eval_other _ 29 13 _ (by decide)).trans ((eval_other _ 28 13 _ (by decide)).trans ((eval_other _ 27 13 _ (by decide)).trans ((eval_other _ 26 13 _ (by decide)).trans ((eval_other _ 25 13 _ (by decide)).trans ((eval_other _ 24 13 _ (by decide)).trans ((eval_other _ 23 13 _ (by decide)).trans ((eval_other _ 22 13 _ (by decide)).trans base13)))))))) w') ?_
    refine m_enter po9 d9 (wanted_of gd9) (run_callf4 q9 rfl ((eval_other _ 30 27 _ (by decide)).trans ((eval_other _ 29 27 _ (by decide)).trans ((eval_other _ 28 27 _ (by decide)).trans (eval_same _ _ _ (by simp only [put_size, hsz]; decide))))) ((eval_other _ 30 28 _ (by decide)).trans ((eval_other _ 29 28 _ (by decide)).trans (eval_same _ _ _ (by simp only [put_size, hsz]; decide)))) ((eval_other _ 30 29 _ (by decide)).trans (eval_same _ _ _ (by simp only [put_size, hsz]; decide))) (eval_same _ _ _ (by simp only [put_size, hsz]; decide)) Tryd.func25 (by kernel_rfl) _) (tagOf_any key nonce head c n k p (some ⟨b, off, none⟩) cp cq _ HKL.out HNL.out HHN.out HCL.out hH (by omega) ((HW0.out.on ((Below.refl _ _).drew)).head) (HW0.out.on ((Below.refl _ _).drew)).body (HQ.out.below (HW0.out.on ((Below.refl _ _).drew)).below hqs)) ?_
    rintro e w1 ⟨rfl, hb1⟩
    have HW1 := Lib.hid ((HW0.out.on ((Below.refl _ _).drew)).on hb1); clear hb1
    refine ⟨_, rfl, HW1.out, ?_⟩
    refine m_enter po10 d10 (wanted_of gd10) (run_callf2 q10 rfl ((eval_other _ 31 26 _ (by decide)).trans ((eval_other _ 30 26 _ (by decide)).trans ((eval_other _ 29 26 _ (by decide)).trans ((eval_other _ 28 26 _ (by decide)).trans ((eval_other _ 27 26 _ (by decide)).trans (eval_same _ _ _ (by simp only [put_size, hsz]; decide))))))) (eval_same _ _ _ (by simp only [put_size, hsz]; decide)) Tryd.func28 (by kernel_rfl) _) (sameTag_any tg (aeadTag key nonce head c) _ HTL.out (aeadTag_length _ _ _ _)) ?_
    rintro e w2 ⟨rfl, hb2⟩
    have HW2 := Lib.hid (HW1.out.on hb2); clear hb2
    refine ⟨_, rfl, HW2.out, ?_⟩
    refine met_free po11 d11 (wanted_of gd11) (fun w' h' => r_not q11 (eval_same _ _ _ (by simp only [put_size, hsz]; decide)) w') ?_
    show NoPanic _ .normal _ _
    refine NoPanic.normal ?_
    rw [HAA.out]
    go_frame
    clear HAA
    have HSB : Hid (sameB tg (aeadTag key nonce head c) = openIs key nonce head s) := show _ = _ by rw [HIS.out]; rfl
    rw [HSB.out]
    by_cases his : openIs key nonce head s = true
    · have HOY : Hid (openOf key nonce head s = xorKs key 1#32 nonce c) := show _ = _ by rw [HOF.out, if_pos his]
      have HIT := Lib.hid his
      rw [his]
      clear his HOF HIS HSB
      go_wp2_with (first
        | (refine wpList_load_row rfl 23 (.tmp 6) rfl w.heap.size rfl 23 (bytesV key).toArray (0, 0) _ HW2.out.key Tryd.underlying23 rfl HIK.out ?_)
        | (refine wpList_load_row rfl 25 (.tmp 7) rfl (w.heap.size + 1) rfl 25 (bytesV nonce).toArray (0, 0) _ HW2.out.nonce Tryd.underlying25 rfl HIN.out ?_))
      refine (ccXor_len key nonce c k 1#32 (some ⟨b, off, none⟩) cq w2 HCL.out HKL.out HNL.out (by omega) HW2.out.body (HQ.out.below HW2.out.below hqs)).mono ?_
      rintro e w3 ⟨r, cr, rfl, hr1, ho3, hb3⟩
      have HO3 := Lib.hid (ho3.lower HW2.out.below.size); clear ho3
      have HW3 := Lib.hid (HW2.out.on hb3); clear hb3
      go_wp2_with fail
      refine bodyPost_ret (v := .tuple #[.slice r k cr, .bool true]) (by simp [results, Tryd.results18, go_sem]) rfl ?_
      exact ⟨_, by rw [HIT.out], by rw [HOY.out]; exact HO3.out, HW3.out.below⟩
    · have hif : openIs key nonce head s = false := by simpa using his
      have HON : Hid (openOf key nonce head s = []) := show _ = _ by rw [HOF.out, hif]; rfl
      have HIT := Lib.hid hif
      rw [hif]
      clear his hif HOF HIS HSB
      go_wp2_with fail
      refine bodyPost_ret (v := .tuple #[.slice none 0 0, .bool false]) (by simp [results, Tryd.results18, go_sem]) rfl ?_
      exact ⟨_, by rw [HIT.out], by rw [HON.out]; exact Own.nil _ _, HW2.out.below⟩
end Go.Proofs.YtagkkihnfipfeaaDoor
