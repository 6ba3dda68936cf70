/-
  The contract of the statements' own works: the published row, and back: it returns true, and nothing that was there changes.
-/
import Derived.Test.YtagkkihnfipfeaaDoorAePubK
import Derived.Test.YtagkkihnfipfeaaDoorOwnBytes
namespace Go.Proofs.YtagkkihnfipfeaaDoor
open Go.RowKit Go.Proofs.ShaWords

theorem run_callf5 {P : Program} {ρ : Operand → Value} {o : Oper} {f : FuncId} {fn : Func} {T : Array TypeId} {x0 x1 x2 x3 x4 : Operand} {v0 v1 v2 v3 v4 : Value} (ho : o.op = .call { callee := .value (.func f), args := #[x0, x1, x2, x3, x4], argTypes := T }) (hf : ρ (.func f) = .func (.func f) #[] #[]) (h0 : ρ x0 = v0) (h1 : ρ x1 = v1) (h2 : ρ x2 = v2) (h3 : ρ x3 = v3) (h4 : ρ x4 = v4) (hfn : P.funcs[f]? = some fn) (hb : (fn.name == "runtime.NumGoroutine" || fn.body.isNone) = false) (w : World) : (execOp ρ o).run P w = .ok (.enter f #[v0, v1, v2, v3, v4]) w := by
  obtain ⟨dst, op, ty, pos, after, guard⟩ := o
  simp only at ho
  subst ho
  have h := callFunc_body hfn hb #[v0, v1, v2, v3, v4] w
  go_simp
set_option maxRecDepth 100000 in
theorem new_any (w : World) : Calls Tryd.prog 11 #[] w fun e w' => ∃ v, e = .returned v ∧ Below w.heap.size w w' := by
  go_enter Tryd.func11, Tryd.ntmps11
  go_wp2_with fail
  go_ret
  exact ⟨_, rfl, (Below.refl _ _).alloc (Nat.le_refl _) _⟩
theorem alloc2_1 (w : World) (a b : Obj) : ((w.alloc a).alloc b).heap[w.heap.size]? = some a := by
  rw [Below.heap_alloc _ _ _ (by rw [size_alloc]; omega)]; exact heap_new_at rfl
theorem alloc2_2 (w : World) (a b : Obj) : ((w.alloc a).alloc b).heap[w.heap.size + 1]? = some b := heap_new_at (by rw [size_alloc])
theorem Row5.lies {W : World} {g : Nat} {l : List (BitVec 8)} (h : Row5 W g l) : Lies W (some ⟨g, 0, none⟩) l := by
  obtain ⟨fr, h⟩ := h
  exact Or.inr ⟨g, 0, rfl, range_bytesV h⟩
/-- The key, the nonce, the head, the text. -/
structure WkW (w : World) (G gh gt : Nat) (wr : World) : Prop where
  key : BytesAt wr G 23 pubKey
  nonce : BytesAt wr (G + 1) 25 pubNonce
  head : Lies wr (some ⟨gh, 0, none⟩) pubHead
  text : Lies wr (some ⟨gt, 0, none⟩) pubText
  below : Below w.heap.size w wr
theorem WkW.on {w wr w' : World} {G gh gt : Nat} (h : WkW w G gh gt wr) (hb : Below wr.heap.size wr w') : WkW w G gh gt w' := ⟨h.key.keep hb, h.nonce.keep hb, h.head.below hb, h.text.below hb, h.below.trans (hb.mono h.below.size)⟩
/-- And what was sealed. -/
structure WkS (w : World) (G gh gt gs : Nat) (wr : World) : Prop where
  wk : WkW w G gh gt wr
  sealed : Lies wr (some ⟨gs, 0, none⟩) (sealOf pubKey pubNonce pubHead pubText)
theorem WkS.on {w wr w' : World} {G gh gt gs : Nat} (h : WkS w G gh gt gs wr) (hb : Below wr.heap.size wr w') : WkS w G gh gt gs w' := ⟨h.wk.on hb, h.sealed.below hb⟩
theorem pubFirst_vals : (bytesV pubFirst).toArray = #[.int .u8 211, .int .u8 26, .int .u8 141, .int .u8 52, .int .u8 100, .int .u8 142, .int .u8 96, .int .u8 219, .int .u8 123, .int .u8 134, .int .u8 175, .int .u8 188, .int .u8 83, .int .u8 239, .int .u8 126, .int .u8 194] := by kernel_rfl
theorem pubLast_vals : (bytesV pubLast).toArray = #[.int .u8 26, .int .u8 225, .int .u8 11, .int .u8 89, .int .u8 79, .int .u8 9, .int .u8 226, .int .u8 106, .int .u8 126, .int .u8 144, .int .u8 46, .int .u8 203, .int .u8 208, .int .u8 96, .int .u8 6, .int .u8 145] := by kernel_rfl
theorem lies_take {W : World} {p : Option Addr} {l : List (BitVec 8)} (h : Lies W p l) (k : Nat) : Lies W p (l.take k) := by
  rcases h with h0 | ⟨b, off, rfl, hr⟩
  · exact Or.inl (by rw [h0]; simp)
  · refine Or.inr ⟨b, off, rfl, fun j v hv => hr j v ?_⟩
    rw [bytesV_take, List.getElem?_take] at hv
    split at hv
    · exact hv
    · cases hv
theorem lies_drop {W : World} {b off : Nat} {l : List (BitVec 8)} (h : Lies W (some ⟨b, off, none⟩) l) (k : Nat) : Lies W (some ⟨b, off + k, none⟩) (l.drop k) := by
  rcases h with h0 | ⟨b2, off2, h1, hr⟩
  · exact Or.inl (by rw [h0]; simp)
  · cases h1
    exact Or.inr ⟨b, off + k, rfl, range_drop hr⟩
attribute [local irreducible] pubKey pubText pubHead pubNonce sealOf openOf openIs pubFirst pubLast
set_option maxRecDepth 100000 in
set_option maxHeartbeats 4000000 in
theorem works5_any (w : World) (hq : Quads w) : Calls Tryd.prog 9 #[] w fun e w' => e = .returned (.bool true) ∧ Below w.heap.size w w' := by
  have hqs := hq.size
  have HQ := Lib.hid hq; clear hq
  have HNL : Hid (pubNonce.length = 12) := show _ = _ by unfold pubNonce; rfl
  have HKL : Hid (pubKey.length = 32) := show _ = _ by unfold pubKey; rfl
  have HHL : Hid (pubHead.length = 12) := show _ = _ by unfold pubHead; rfl
  have HTL : Hid (pubText.length = 114) := show _ = _ by unfold pubText; rfl
  have HSL : Hid ((sealOf pubKey pubNonce pubHead pubText).length = 130) := show _ = _ by rw [sealOf_length, HTL.out]
  have HFL : Hid (pubFirst.length = 16) := show _ = _ by unfold pubFirst; rfl
  have HLL : Hid (pubLast.length = 16) := show _ = _ by unfold pubLast; rfl
  have HF := Lib.hid pub_first
  have HL := Lib.hid pub_last
  have HIS := Lib.hid (openIs_seal pubKey pubNonce pubHead pubText)
  have HOF := Lib.hid (openOf_seal pubKey pubNonce pubHead pubText)
  have HI := Lib.hid (infoNonce _ HNL.out)
  have HIK := Lib.hid (infoKey _ HKL.out)
  have HK2 := Lib.hid (show (bytesV (noughts 32)).toArray.size = (bytesV pubKey).toArray.size by rw [bytesV_size _ 32 HKL.out, bytesV_size _ 32 (noughts_length 32)])
  have HN2 := Lib.hid (show (bytesV (noughts 12)).toArray.size = (bytesV pubNonce).toArray.size by rw [bytesV_size _ 12 HNL.out, bytesV_size _ 12 (noughts_length 12)])
  have HONE := Lib.hid (bytesV_one pubKey)
  have HONE2 := Lib.hid (bytesV_one pubNonce)
  go_enter Tryd.func9, Tryd.ntmps9
  go_upto_region 2 with (first
    | (go_at_call 22; refine (aePub_any _).mono ?_; rintro e w1 ⟨gh, gt, rfl, hh1, ht1, hgh, hgt, hb1⟩; have HH1 := Lib.hid hh1.lies; have HT1 := Lib.hid ht1.lies; have HB1 := Lib.hid hb1; clear hh1 ht1 hb1)
    | (refine wpList_store_row rfl 23 (.tmp 1) (.tmp 10) rfl w1.heap.size (bytesV pubKey).toArray rfl rfl 23 (bytesV (noughts 32)).toArray (by exact alloc2_1 _ _ _) HIK.out (by exact HK2.out) HONE.out ?_)
    | (refine wpList_store_row rfl 25 (.tmp 2) (.tmp 11) rfl (w1.heap.size + 1) (bytesV pubNonce).toArray rfl rfl 25 (bytesV (noughts 12)).toArray (by rw [setRow_other _ _ _ _ (by omega)]; exact alloc2_2 _ _ _) HI.out (by exact HN2.out) HONE2.out ?_))
  have sz1 : w.heap.size ≤ w1.heap.size := HB1.out.size
  refine wp_gen (WkW w w1.heap.size gh gt) ⟨?_, ?_, ?_, ?_, ?_⟩ ?_
  · show _ = _
    rw [setRow_other _ _ _ _ (by omega)]
    exact setRow_heap _ _ _ _ _ _ (alloc2_1 _ _ _)
  · exact setRow_heap _ _ _ _ _ _ (by rw [setRow_other _ _ _ _ (by omega)]; exact alloc2_2 _ _ _)
  · exact HH1.out.below (below_setRow (below_setRow (((Below.refl _ _).alloc (Nat.le_refl _) _).alloc (by rw [size_alloc]; omega) _) (Nat.le_refl _) _) (by omega) _)
  · exact HT1.out.below (below_setRow (below_setRow (((Below.refl _ _).alloc (Nat.le_refl _) _).alloc (by rw [size_alloc]; omega) _) (Nat.le_refl _) _) (by omega) _)
  · exact HB1.out.trans ((below_setRow (below_setRow (((Below.refl _ _).alloc (Nat.le_refl _) _).alloc (by rw [size_alloc]; omega) _) (Nat.le_refl _) _) (by omega) _).mono sz1)
  intro w2 hw2
  have HW2 := Lib.hid hw2; clear hw2 HB1 HH1 HT1
  generalize w1.heap.size = G at HW2 sz1 ⊢
  refine region_phase (WkW w G gh gt) (fun _ => True) 0 (HW2.out.on ((Below.refl _ _).drew)) trivial [(1, .free), (2, .free), (3, .free), (4, .free), (0, .behind), (5, .behind), (6, .free)] (by kernel_rfl) (by kernel_rfl) (by kernel_rfl) (by kernel_rfl) (fun ops hops A hA => ?_)
  have hsz : A.tmps.size = 51 := by rw [hA]; rfl
  have base1 : A.eval (.tmp 1) = .pointer (some ⟨G, 0, none⟩) := by rw [hA]; rfl
  have base2 : A.eval (.tmp 2) = .pointer (some ⟨G + 1, 0, none⟩) := by rw [hA]; rfl
  have base3 : A.eval (.tmp 3) = .slice (some ⟨gh, 0, none⟩) 12 12 := by rw [hA]; rfl
  have base4 : A.eval (.tmp 4) = .slice (some ⟨gt, 0, none⟩) 114 114 := by rw [hA]; rfl
  have HAA := Lib.hid hA; clear hA
  obtain ⟨o0, po0, q0, d0, gd0⟩ : ∃ o, ops[0]? = some o ∧ o.op = .call { callee := .value (.func 11), args := #[], argTypes := #[] } ∧ o.dst = some 14 ∧ o.guard = none := ⟨_, by rw [hops]; rfl, rfl, rfl, rfl⟩
  obtain ⟨o1, po1, q1, d1, gd1⟩ : ∃ o, ops[1]? = some o ∧ o.op = .load 23 (.tmp 1) ∧ o.dst = some 15 ∧ o.guard = none := ⟨_, by rw [hops]; rfl, rfl, rfl, rfl⟩
  obtain ⟨o2, po2, q2, d2, gd2⟩ : ∃ o, ops[2]? = some o ∧ o.op = .load 25 (.tmp 2) ∧ o.dst = some 16 ∧ o.guard = none := ⟨_, by rw [hops]; rfl, rfl, rfl, rfl⟩
  obtain ⟨o3, po3, q3, d3, gd3⟩ : ∃ o, ops[3]? = some o ∧ o.op = .move (.tmp 3) ∧ o.dst = some 17 ∧ o.guard = none := ⟨_, by rw [hops]; rfl, rfl, rfl, rfl⟩
  obtain ⟨o4, po4, q4, d4, gd4⟩ : ∃ o, ops[4]? = some o ∧ o.op = .move (.tmp 4) ∧ o.dst = some 18 ∧ o.guard = none := ⟨_, by rw [hops]; rfl, rfl, rfl, rfl⟩
  obtain ⟨o5, po5, q5, d5, gd5⟩ : ∃ o, ops[5]? = some o ∧ o.op = .call { callee := .value (.func 12), args := #[.tmp 14, .tmp 15, .tmp 16, .tmp 17, .tmp 18], argTypes := #[29, 23, 25, 26, 26] } ∧ o.dst = some 19 ∧ o.guard = none := ⟨_, by rw [hops]; rfl, rfl, rfl, rfl⟩
  obtain ⟨o6, po6, q6, d6, gd6⟩ : ∃ o, ops[6]? = some o ∧ o.op = .assign (.tmp 19) ∧ o.dst = some 5 ∧ o.guard = none := ⟨_, by rw [hops]; rfl, rfl, rfl, rfl⟩
  clear hops
  refine met_free po1 d1 (wanted_of gd1) (fun w' h' => run_loadKey q1 base1 HKL.out h'.key) ?_
  refine met_free po2 d2 (wanted_of gd2) (fun w' h' => run_loadNonce q2 ((eval_other _ 15 2 _ (by decide)).trans base2) HNL.out h'.nonce) ?_
  refine met_free po3 d3 (wanted_of gd3) (fun w' h' => run_move q3 ((eval_other _ 16 3 _ (by decide)).trans ((eval_other _ 15 3 _ (by decide)).trans base3)) w') ?_
  refine met_free po4 d4 (wanted_of gd4) (fun w' h' => run_move q4 ((eval_other _ 17 4 _ (by decide)).trans ((eval_other _ 16 4 _ (by decide)).trans ((eval_other _ 15 4 _ (by decide)).trans base4))) w') ?_
  refine m_enter po0 d0 (wanted_of gd0) (run_callf0 q0 rfl Tryd.func11 (by kernel_rfl) _) (new_any _) ?_
  rintro e w3 ⟨v3, rfl, hb3⟩
  have HW3 := Lib.hid ((HW2.out.on ((Below.refl _ _).drew)).on hb3); clear hb3
  refine ⟨_, rfl, HW3.out, ?_⟩
  refine m_enter po5 d5 (wanted_of gd5) (run_callf5 q5 rfl (eval_same _ _ _ (by simp only [put_size, hsz]; decide)) ((eval_other _ 14 15 _ (by decide)).trans ((eval_other _ 18 15 _ (by decide)).trans ((eval_other _ 17 15 _ (by decide)).trans ((eval_other _ 16 15 _ (by decide)).trans (eval_same _ _ _ (by rw [hsz]; decide)))))) ((eval_other _ 14 16 _ (by decide)).trans ((eval_other _ 18 16 _ (by decide)).trans ((eval_other _ 17 16 _ (by decide)).trans (eval_same _ _ _ (by simp only [put_size, hsz]; decide))))) ((eval_other _ 14 17 _ (by decide)).trans ((eval_other _ 18 17 _ (by decide)).trans (eval_same _ _ _ (by simp only [put_size, hsz]; decide)))) ((eval_other _ 14 18 _ (by decide)).trans (eval_same _ _ _ (by simp only [put_size, hsz]; decide))) Tryd.func12 (by kernel_rfl) _) (seal_any v3 pubKey pubNonce pubHead pubText 12 114 (some ⟨gh, 0, none⟩) (some ⟨gt, 0, none⟩) 12 114 w3 HKL.out HNL.out HHL.out HTL.out (by omega) (by omega) HW3.out.head HW3.out.text (HQ.out.below HW3.out.below hqs)) ?_
  rintro e w4 ⟨r4, c4, he4, hr4, hm4, ho4, hb4⟩
  rw [show 114 + 16 = 130 from rfl] at he4 ho4 hr4
  subst he4
  have HO4 := Lib.hid ho4; clear ho4
  have HW4 := Lib.hid (HW3.out.on hb4); clear hb4
  refine ⟨_, rfl, HW4.out, ?_⟩
  refine met_free po6 d6 (wanted_of gd6) (fun w' h' => run_assign q6 (eval_same _ _ _ (by simp only [put_size, hsz]; decide)) w') ?_
  show NoPanic _ .normal _ _
  refine NoPanic.normal ?_
  rw [HAA.out]
  go_frame
  clear HAA
  obtain ⟨gs, c, hv, hgs, hgs2, hc1, hc2, -, -⟩ := HO4.out.form8 (by rw [HSL.out]; omega)
  rw [HSL.out] at hv hc1
  cases hv
  have HS4 := Lib.hid HO4.out.liesOf
  clear HO4
  unfold maxLen at hc2
  have k1 : ¬ c4 = 114 := by omega
  have k2 : (114 : Int) ≤ (c4 : Int) := by omega
  have k3 : (16 : Int) ≤ (c4 : Int) := by omega
  have k4 : (130 : Int) ≤ (c4 : Int) := by omega
  have HS0 : Hid (WkS w G gh gt gs w4) := show WkS _ _ _ _ _ _ from ⟨HW4.out, HS4.out⟩
  clear HW4 HS4 HW2 HW3
  have sz4 : w.heap.size ≤ w4.heap.size := HS0.out.wk.below.size
  go_wp2_with fail
  refine calls_gen (fun w5 => WkS w G gh gt gs w5 ∧ Lies w5 (some ⟨w4.heap.size, 0, none⟩) pubFirst) ⟨HS0.out.on ((Below.refl _ _).alloc (Nat.le_refl _) _), lies_new (by rw [pubFirst_vals])⟩ ?_
  rintro w5 ⟨hs5, hl5⟩
  have HS5 := Lib.hid hs5; clear hs5 HS0
  refine (same_any pubFirst 16 _ _ c4 16 w5 HFL.out (by omega) (by have h := lies_take HS5.out.sealed 16; rw [HF.out] at h; exact h) hl5).mono ?_
  rintro e w5' ⟨rfl, hb5⟩
  have HW5 := Lib.hid (HS5.out.on hb5); clear hb5 HS5 hl5
  go_wp2_with fail
  refine region_phase (WkS w G gh gt gs) (fun _ => True) 0 (HW5.out.on ((Below.refl _ _).drew)) trivial [(1, .free), (2, .free), (3, .free), (4, .free), (0, .behind), (5, .behind), (6, .free), (7, .free), (8, .free), (9, .free), (10, .free)] (by kernel_rfl) (by kernel_rfl) (by kernel_rfl) (by kernel_rfl) (fun ops hops A2 hA => ?_)
  have hsz : A2.tmps.size = 51 := by rw [hA]; rfl
  have base1 : A2.eval (.tmp 1) = .pointer (some ⟨G, 0, none⟩) := by rw [hA]; rfl
  have base2 : A2.eval (.tmp 2) = .pointer (some ⟨G + 1, 0, none⟩) := by rw [hA]; rfl
  have base3 : A2.eval (.tmp 3) = .slice (some ⟨gh, 0, none⟩) 12 12 := by rw [hA]; rfl
  have base4 : A2.eval (.tmp 4) = .slice (some ⟨gt, 0, none⟩) 114 114 := by rw [hA]; rfl
  have base5 : A2.eval (.tmp 5) = .slice (some ⟨gs, 0, none⟩) 130 c4 := by rw [hA]; rfl
  have HAA := Lib.hid hA; clear hA
  obtain ⟨o0, po0, q0, d0, gd0⟩ : ∃ o, ops[0]? = some o ∧ o.op = .call { callee := .value (.func 11), args := #[], argTypes := #[] } ∧ o.dst = some 31 ∧ o.guard = none := ⟨_, by rw [hops]; rfl, rfl, rfl, rfl⟩
  obtain ⟨o1, po1, q1, d1, gd1⟩ : ∃ o, ops[1]? = some o ∧ o.op = .load 23 (.tmp 1) ∧ o.dst = some 32 ∧ o.guard = none := ⟨_, by rw [hops]; rfl, rfl, rfl, rfl⟩
  obtain ⟨o2, po2, q2, d2, gd2⟩ : ∃ o, ops[2]? = some o ∧ o.op = .load 25 (.tmp 2) ∧ o.dst = some 33 ∧ o.guard = none := ⟨_, by rw [hops]; rfl, rfl, rfl, rfl⟩
  obtain ⟨o3, po3, q3, d3, gd3⟩ : ∃ o, ops[3]? = some o ∧ o.op = .move (.tmp 3) ∧ o.dst = some 34 ∧ o.guard = none := ⟨_, by rw [hops]; rfl, rfl, rfl, rfl⟩
  obtain ⟨o4, po4, q4, d4, gd4⟩ : ∃ o, ops[4]? = some o ∧ o.op = .move (.tmp 5) ∧ o.dst = some 35 ∧ o.guard = none := ⟨_, by rw [hops]; rfl, rfl, rfl, rfl⟩
  obtain ⟨o5, po5, q5, d5, gd5⟩ : ∃ o, ops[5]? = some o ∧ o.op = .call { callee := .value (.func 18), args := #[.tmp 31, .tmp 32, .tmp 33, .tmp 34, .tmp 35], argTypes := #[29, 23, 25, 26, 26] } ∧ o.dst = some 36 ∧ o.guard = none := ⟨_, by rw [hops]; rfl, rfl, rfl, rfl⟩
  obtain ⟨o6, po6, q6, d6, gd6⟩ : ∃ o, ops[6]? = some o ∧ o.op = .move (.tmp 36) ∧ o.dst = some 30 ∧ o.guard = none := ⟨_, by rw [hops]; rfl, rfl, rfl, rfl⟩
  obtain ⟨o7, po7, q7, d7, gd7⟩ : ∃ o, ops[7]? = some o ∧ o.op = .extract (.tmp 30) 0 ∧ o.dst = some 37 ∧ o.guard = none := ⟨_, by rw [hops]; rfl, rfl, rfl, rfl⟩
  obtain ⟨o8, po8, q8, d8, gd8⟩ : ∃ o, ops[8]? = some o ∧ o.op = .extract (.tmp 30) 1 ∧ o.dst = some 38 ∧ o.guard = none := ⟨_, by rw [hops]; rfl, rfl, rfl, rfl⟩
  obtain ⟨o9, po9, q9, d9, gd9⟩ : ∃ o, ops[9]? = some o ∧ o.op = .assign (.tmp 37) ∧ o.dst = some 6 ∧ o.guard = none := ⟨_, by rw [hops]; rfl, rfl, rfl, rfl⟩
  obtain ⟨o10, po10, q10, d10, gd10⟩ : ∃ o, ops[10]? = some o ∧ o.op = .assign (.tmp 38) ∧ o.dst = some 7 ∧ o.guard = none := ⟨_, by rw [hops]; rfl, rfl, rfl, rfl⟩
  clear hops
  refine met_free po1 d1 (wanted_of gd1) (fun w' h' => run_loadKey q1 base1 HKL.out h'.wk.key) ?_
  refine met_free po2 d2 (wanted_of gd2) (fun w' h' => run_loadNonce q2 ((eval_other _ 32 2 _ (by decide)).trans base2) HNL.out h'.wk.nonce) ?_
  refine met_free po3 d3 (wanted_of gd3) (fun w' h' => run_move q3 ((eval_other _ 33 3 _ (by decide)).trans ((eval_other _ 32 3 _ (by decide)).trans base3)) w') ?_
  refine met_free po4 d4 (wanted_of gd4) (fun w' h' => run_move q4 ((eval_other _ 34 5 _ (by decide)).trans ((eval_other _ 33 5 _ (by decide)).trans ((eval_other _ 32 5 _ (by decide)).trans base5))) w') ?_
  refine m_enter po0 d0 (wanted_of gd0) (run_callf0 q0 rfl Tryd.func11 (by kernel_rfl) _) (new_any _) ?_
  rintro e w6 ⟨v6, rfl, hb6⟩
  have HW6 := Lib.hid ((HW5.out.on ((Below.refl _ _).drew)).on hb6); clear hb6
  refine ⟨_, rfl, HW6.out, ?_⟩
  refine m_enter po5 d5 (wanted_of gd5) (run_callf5 q5 rfl (eval_same _ _ _ (by simp only [put_size, hsz]; decide)) ((eval_other _ 31 32 _ (by decide)).trans ((eval_other _ 35 32 _ (by decide)).trans ((eval_other _ 34 32 _ (by decide)).trans ((eval_other _ 33 32 _ (by decide)).trans (eval_same _ _ _ (by rw [hsz]; decide)))))) ((eval_other _ 31 33 _ (by decide)).trans ((eval_other _ 35 33 _ (by decide)).trans ((eval_other _ 34 33 _ (by decide)).trans (eval_same _ _ _ (by simp only [put_size, hsz]; decide))))) ((eval_other _ 31 34 _ (by decide)).trans ((eval_other _ 35 34 _ (by decide)).trans (eval_same _ _ _ (by simp only [put_size, hsz]; decide)))) ((eval_other _ 31 35 _ (by decide)).trans (eval_same _ _ _ (by simp only [put_size, hsz]; decide))) Tryd.func18 (by kernel_rfl) _) (open_any v6 pubKey pubNonce pubHead (sealOf pubKey pubNonce pubHead pubText) 12 130 (some ⟨gh, 0, none⟩) (some ⟨gs, 0, none⟩) 12 c4 w6 HKL.out HNL.out HHL.out HSL.out (by omega) (by omega) hr4 HW6.out.wk.head HW6.out.sealed (HQ.out.below HW6.out.wk.below hqs)) ?_
  rintro e w7 ⟨v7, rfl, ho7, hb7⟩
  rw [HOF.out] at ho7
  rw [HIS.out]
  obtain ⟨p7, c7, hv7, -, -, hl7⟩ := ho7.lies
  rw [HTL.out] at hv7
  subst hv7
  have HL7 := Lib.hid hl7; clear hl7 ho7
  have HW7 := Lib.hid (HW6.out.on hb7); clear hb7
  refine ⟨_, rfl, HW7.out, ?_⟩
  refine met_free po6 d6 (wanted_of gd6) (fun w' h' => run_move q6 (eval_same _ _ _ (by simp only [put_size, hsz]; decide)) w') ?_
  refine met_free po7 d7 (wanted_of gd7) (fun w' h' => run_extract q7 (eval_same _ _ _ (by simp only [put_size, hsz]; decide)) rfl w') ?_
  refine met_free po8 d8 (wanted_of gd8) (fun w' h' => run_extract q8 ((eval_other _ 37 30 _ (by decide)).trans (eval_same _ _ _ (by simp only [put_size, hsz]; decide))) rfl w') ?_
  refine met_free po9 d9 (wanted_of gd9) (fun w' h' => run_assign q9 ((eval_other _ 38 37 _ (by decide)).trans (eval_same _ _ _ (by simp only [put_size, hsz]; decide))) w') ?_
  refine met_free po10 d10 (wanted_of gd10) (fun w' h' => run_assign q10 ((eval_other _ 6 38 _ (by decide)).trans (eval_same _ _ _ (by simp only [put_size, hsz]; decide))) w') ?_
  show NoPanic _ .normal _ _
  refine NoPanic.normal ?_
  rw [HAA.out]
  go_frame
  clear HAA
  go_wp2_with fail
  refine (same_any pubText 114 _ _ c7 114 w7 HTL.out (by omega) HL7.out HW7.out.wk.text).mono ?_
  rintro e w8 ⟨rfl, hb8⟩
  have HW8 := Lib.hid (HW7.out.on hb8); clear hb8 HW7 HL7
  have sz8 : w.heap.size ≤ w8.heap.size := HW8.out.wk.below.size
  go_wp2_with fail
  refine calls_gen (fun w9 => WkS w G gh gt gs w9 ∧ Lies w9 (some ⟨w8.heap.size, 0, none⟩) pubLast) ⟨HW8.out.on ((Below.refl _ _).alloc (Nat.le_refl _) _), lies_new (by rw [pubLast_vals])⟩ ?_
  rintro w9 ⟨hs9, hl9⟩
  have HS9 := Lib.hid hs9; clear hs9 HW8
  refine (same_any pubLast 16 _ _ _ 16 w9 HLL.out (by omega) (by have h := lies_drop HS9.out.sealed 114; rw [HL.out] at h; exact h) hl9).mono ?_
  rintro e w10 ⟨rfl, hb10⟩
  have HW10 := Lib.hid (HS9.out.on hb10); clear hb10 HS9 hl9
  go_wp2_with fail
  go_ret
  exact ⟨rfl, HW10.out.wk.below⟩
end Go.Proofs.YtagkkihnfipfeaaDoor
