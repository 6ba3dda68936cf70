/-
  FrameForm, for any bytes: the law returns true, and what came in reads afterwards as it read before; the package's table starts as the program's own text lays it (the tie is given).
-/
import Derived.Test.YtejekgceompjpaaDoorPkA
import Derived.Test.YtejekgceompjpaaDoorPkD
import Derived.Stop.BytesEq
import Derived.Test.YtejekgceompjpaaDoorTie
import Derived.Test.YtejekgceompjpaaDoorCards
import Derived.SevenTiedAt
/-
  Two arrays of bytes compared; a step of a region by what it yields.
-/
namespace Go.Proofs.YtejekgceompjpaaDoor
open Go.RowKit Go.Proofs.ShaWords
theorem wpList_run {P : Program} {ops : Array Oper} {rest : List Oper} {o : Oper} {a : Act} {w : World} {Q : Exit → Act → World → Prop} {v : Value} (hw : Region.wanted o (yielded ops a.tmps) = true) (hr : (execOp a.eval o).run P w = .ok (.value v) w)
    (h : wpList P ops Q rest (a.put o.dst v) w) : wpList P ops Q (o :: rest) a w := by
  unfold wpList
  rw [if_pos hw]
  refine .inl ?_
  unfold Oper.wp
  rw [hr, Oper.upon_value]
  exact h
theorem bytesV_cell (l : List (BitVec 8)) : bytesV l = (l.map UInt8.ofBitVec).map Go.Extern.Stop.cell := by
  simp [bytesV, Go.Extern.Stop.cell, n8, UInt8.toNat]
theorem run_eqArr {ρ : Operand → Value} {o : Oper} {x y : Operand} {T ty : TypeId} {N : Nat} {l m : List (BitVec 8)} (ho : o.op = .binOp .eql T x y ty) (hT : Tryd.prog.underlying T = some (.array N 5)) (hg : Tryd.prog.eqGuardType Tryd.prog.depth T = false)
    (hl : l.length = N) (hm : m.length = N) (hx : ρ x = .agg (bytesV l).toArray) (hy : ρ y = .agg (bytesV m).toArray) (w : World) :
    (execOp ρ o).run Tryd.prog w = .ok (.value (.bool (decide (l = m)))) w := by
  have h := run_eql_bytes (P := Tryd.prog) w T 5 N hT Tryd.underlying5 (fun w => by kernel_rfl) (l.map UInt8.ofBitVec) (m.map UInt8.ofBitVec) (by simpa using hl) (by simpa using hm)
  rw [← bytesV_cell, ← bytesV_cell] at h
  have e : (l.map UInt8.ofBitVec == m.map UInt8.ofBitVec) = decide (l = m) := by
    rw [Bool.eq_iff_iff]
    simp only [beq_iff_eq, decide_eq_true_eq]
    exact List.map_inj_right (fun a b e => by simpa using congrArg UInt8.toBitVec e)
  rw [e] at h
  unfold execOp
  simp only [ho, hx, hy, Sem.run_bind, run_eqGuard_agg w .eql T x y _ _ hg, Result.andThen_ok, h, Sem.run_pure]
theorem run_loadArr {ρ : Operand → Value} {o : Oper} {x : Operand} {w : World} {T : TypeId} {N b off : Nat} {l : List (BitVec 8)} (ho : o.op = .load T x) (hx : ρ x = .pointer (some ⟨b, off, none⟩)) (hT : Tryd.prog.underlying T = some (.array N 5)) (hi : (Tryd.prog.info? T).map (·.size) = some (bytesV l).length) (hr : w.rangeAt b off (bytesV l)) :
    (execOp ρ o).run Tryd.prog w = .ok (.value (.agg (bytesV l).toArray)) w := by
  have h := run_loadAt_mid (P := Tryd.prog) w b off T (bytesV l) _ hr hT rfl hi
  unfold execOp
  simp only [ho, hx, Sem.run_bind, h, Result.andThen_ok, Sem.run_pure]
end Go.Proofs.YtejekgceompjpaaDoor

/-
  FrameForm: what is scanned, put again, is the bytes that it tells of; from there on nothing is got.
-/
namespace Go.Proofs.YtejekgceompjpaaDoor
open Go.RowKit Go.Proofs.ShaWords
set_option maxRecDepth 100000 in
set_option maxHeartbeats 4000000 in
theorem frForm_any (l : List (BitVec 8)) (n : Nat) (p : Option Addr) (c : Nat) (w : World) (hl : l.length = n) (hc : n ≤ c) (hc1 : c ≤ 140737488351232) (hp : 0 < c → ∃ b off, p = some ⟨b, off, none⟩) (hL : Lies w p l) (hR : Rem w) :
    Calls Tryd.prog 8 #[.slice p n c] w fun e w' => e = .returned (.bool true) ∧ Below w.heap.size w w' := by
  have HL := Lib.hid hL
  have HR := Lib.hid hR
  have HN := Lib.hid hl
  have HP := Lib.hid hp
  clear hL hR hl hp
  by_cases h8 : 8192 < n
  · have h8a : (8192 : Int) < (n : Int) := by omega
    go_enter Tryd.func8, Tryd.ntmps8
    go_wp2_with fail
    refine (works9_any w HR.out).mono ?_
    rintro e w1 ⟨rfl, b1⟩
    have HB1 := Lib.hid b1
    clear b1
    go_wp2_with fail
    go_ret
    exact ⟨rfl, HB1.out⟩
  have h8a : ¬ (8192 : Int) < (n : Int) := by omega
  have hn1 : n ≤ 8192 := by omega
  clear h8
  obtain ⟨fs, r, hS⟩ := scan_ex l.length l (Nat.le_refl _)
  have HS := Lib.hid hS
  have hSn : (framesB fs).length + r.length = n := by rw [← HN.out, hS.eq, List.length_append]
  obtain ⟨S, hSS⟩ : ∃ S, (framesB fs).length = S := ⟨_, rfl⟩
  rw [hSS] at hSn
  have HSS := Lib.hid hSS
  have HFM := Lib.hid (framesB_many fs)
  rw [hSS] at HFM
  have hfm := HFM.out
  have hSle : S ≤ n := by omega
  clear hS hSS
  go_enter Tryd.func8, Tryd.ntmps8
  go_wp2_with fail
  refine (scan_any l n p c w fs r HN.out hc (by omega) HL.out HR.out HS.out).mono ?_
  rintro e w1 ⟨hv, vs, rfl, hl1, b1⟩
  rw [HSS.out]
  obtain ⟨qv, cv, rfl, -⟩ := hl1.sl (n := fs.length) rfl
  have HL1 := Lib.hid hl1
  have HB1 := Lib.hid b1
  obtain ⟨N, hN⟩ : ∃ N, fs.length = N := ⟨_, rfl⟩
  rw [hN] at hfm ⊢
  have HNN := Lib.hid hN
  clear hl1 b1 hN HFM
  go_wp2_with fail
  go_loopw [5, 6] (fun v i wr => ∃ k : Nat, k ≤ N ∧ i = .int .i64 (k : Int) ∧ Own w1.heap.size wr (framesB (fs.take k)) v ∧ Below w1.heap.size w1 wr) (fun _ i _ => N - (intOf i).toNat)
  case atStart => exact ⟨0, Nat.zero_le _, rfl, Own.nil _ _, Below.refl _ _⟩
  case round =>
    obtain ⟨k, hk, rfl, ho, hb⟩ := hrel
    have HO := Lib.hid ho
    have HB := Lib.hid hb
    by_cases hlt : k < N
    · have q1 : (k : Int) < (N : Int) := by omega
      have hkl : k < fs.length := by rw [HNN.out]; exact hlt
      obtain ⟨f, hf⟩ : ∃ f, fs[k]? = some f := ⟨_, List.getElem?_eq_getElem hkl⟩
      obtain ⟨v, hvk⟩ : ∃ v, vs[k]? = some v := ⟨_, List.getElem?_eq_getElem (by rw [HL1.out.len]; exact hkl)⟩
      obtain ⟨g, cc, he, hg1, hg2, hg3, hcell⟩ := HL1.out.cell (by omega)
      rw [HNN.out] at he
      cases he
      obtain ⟨hk1, hk2⟩ := hcell k f v hf hvk
      have hov := HL1.out.each k v f hvk hf
      obtain ⟨qb, cb, rfl, -, -, l2⟩ := hov.slN (n := f.2.length) rfl
      have hfo := HS.out.ok f (List.mem_of_getElem? hf)
      have HC1 : Hid (∀ w', Below w1.heap.size w1 w' → w'.cell? ⟨g, 0 + k * 2 + 0, none⟩ = some (.int .i64 (n8 f.1))) := show _ from fun w' h => by rw [Nat.zero_add]; exact (h.cell (p := ⟨g, k * 2, none⟩) hg2).trans hk1
      have HC2 : Hid (∀ w', Below w1.heap.size w1 w' → w'.cell? ⟨g, 0 + k * 2 + 1, none⟩ = some (.slice qb f.2.length cb)) := show _ from fun w' h => by rw [Nat.zero_add]; exact (h.cell (p := ⟨g, k * 2 + 1, none⟩) hg2).trans hk2
      have HL2 := Lib.hid l2
      have HPE := Lib.hid (putE_ok (z := n8 f.1) (l := f.2) (n8_kind hfo.1).1 (n8_kind hfo.1).2 hfo.2)
      have hf2 : f.2.length ≤ 2039 := hfo.2
      have HTK := Lib.hid (framesB_take hf)
      have HFL := Lib.hid (frameB_length f.1 f.2)
      have hTL : (framesB (fs.take k)).length ≤ 10000 := by
        have h3 : (framesB (fs.take k)).length ≤ (framesB fs).length := by
          conv => rhs; rw [← List.take_append_drop k fs, framesB_append, List.length_append]
          omega
        rw [HSS.out] at h3; omega
      clear ho hb hcell hk1 hk2 hov l2 hfo hf hvk hkl
      go_upto_region 8 with (fail)
      have HD : Hid (Below w1.heap.size w1 wr.drew) := show Below _ _ _ from HB.out.trans ((Below.refl wr.heap.size wr).drew.mono HB.out.size)
      have HOD : Hid (Own w1.heap.size wr.drew (framesB (fs.take k)) u5) := show Own _ _ _ _ from HO.out.below (Below.refl _ _).drew
      refine region_phase (fun w' => Below w1.heap.size w1 w') (fun _ => True) 10 (HD.out) trivial [(0, .free), (1, .free), (2, .free), (3, .free), (4, .free), (5, .free), (6, .free), (7, .free), (8, .free), (9, .free), (10, .behind), (11, .free), (12, .free), (13, .free), (14, .free), (15, .free)] (by kernel_rfl) (by kernel_rfl) (by kernel_rfl) (by kernel_rfl) (fun ops hops A hA => ?_)
      have hsz : A.tmps.size = 77 := by rw [hA]; rfl
      have base3 : A.eval (.tmp 3) = .slice (some ⟨g, 0, none⟩) N cv := by rw [hA]; rfl
      have base5 : A.eval (.tmp 5) = u5 := by rw [hA]; rfl
      have base6 : A.eval (.tmp 6) = .int .i64 (k : Int) := by rw [hA]; rfl
      have HAA := Lib.hid hA; clear hA
      obtain ⟨o0, po0, q0, d0, gd0⟩ : ∃ o, ops[0]? = some o ∧ o.op = .move (.tmp 3) ∧ o.dst = some 28 ∧ o.guard = none := ⟨_, by rw [hops]; rfl, rfl, rfl, rfl⟩
      obtain ⟨o1, po1, q1, d1, gd1⟩ : ∃ o, ops[1]? = some o ∧ o.op = .move (.tmp 6) ∧ o.dst = some 29 ∧ o.guard = none := ⟨_, by rw [hops]; rfl, rfl, rfl, rfl⟩
      obtain ⟨o2, po2, q2, d2, gd2⟩ : ∃ o, ops[2]? = some o ∧ o.op = .indexAddr 37 (.tmp 28) (.tmp 29) ∧ o.dst = some 30 ∧ o.guard = none := ⟨_, by rw [hops]; rfl, rfl, rfl, rfl⟩
      obtain ⟨o3, po3, q3, d3, gd3⟩ : ∃ o, ops[3]? = some o ∧ o.op = .fieldAddr 34 (.tmp 30) 0 ∧ o.dst = some 31 ∧ o.guard = none := ⟨_, by rw [hops]; rfl, rfl, rfl, rfl⟩
      obtain ⟨o4, po4, q4, d4, gd4⟩ : ∃ o, ops[4]? = some o ∧ o.op = .load 3 (.tmp 31) ∧ o.dst = some 32 ∧ o.guard = none := ⟨_, by rw [hops]; rfl, rfl, rfl, rfl⟩
      obtain ⟨o5, po5, q5, d5, gd5⟩ : ∃ o, ops[5]? = some o ∧ o.op = .move (.tmp 3) ∧ o.dst = some 33 ∧ o.guard = none := ⟨_, by rw [hops]; rfl, rfl, rfl, rfl⟩
      obtain ⟨o6, po6, q6, d6, gd6⟩ : ∃ o, ops[6]? = some o ∧ o.op = .move (.tmp 6) ∧ o.dst = some 34 ∧ o.guard = none := ⟨_, by rw [hops]; rfl, rfl, rfl, rfl⟩
      obtain ⟨o7, po7, q7, d7, gd7⟩ : ∃ o, ops[7]? = some o ∧ o.op = .indexAddr 37 (.tmp 33) (.tmp 34) ∧ o.dst = some 35 ∧ o.guard = none := ⟨_, by rw [hops]; rfl, rfl, rfl, rfl⟩
      obtain ⟨o8, po8, q8, d8, gd8⟩ : ∃ o, ops[8]? = some o ∧ o.op = .fieldAddr 34 (.tmp 35) 1 ∧ o.dst = some 36 ∧ o.guard = none := ⟨_, by rw [hops]; rfl, rfl, rfl, rfl⟩
      obtain ⟨o9, po9, q9, d9, gd9⟩ : ∃ o, ops[9]? = some o ∧ o.op = .load 22 (.tmp 36) ∧ o.dst = some 37 ∧ o.guard = none := ⟨_, by rw [hops]; rfl, rfl, rfl, rfl⟩
      obtain ⟨o10, po10, q10, d10, gd10⟩ : ∃ o, ops[10]? = some o ∧ o.op = .call { callee := .value (.func 13), args := #[.tmp 32, .tmp 37], argTypes := #[3, 22] } ∧ o.dst = some 38 ∧ o.guard = none := ⟨_, by rw [hops]; rfl, rfl, rfl, rfl⟩
      obtain ⟨o11, po11, q11, d11, gd11⟩ : ∃ o, ops[11]? = some o ∧ o.op = .move (.tmp 38) ∧ o.dst = some 27 ∧ o.guard = none := ⟨_, by rw [hops]; rfl, rfl, rfl, rfl⟩
      obtain ⟨o12, po12, q12, d12, gd12⟩ : ∃ o, ops[12]? = some o ∧ o.op = .extract (.tmp 27) 0 ∧ o.dst = some 39 ∧ o.guard = none := ⟨_, by rw [hops]; rfl, rfl, rfl, rfl⟩
      obtain ⟨o13, po13, q13, d13, gd13⟩ : ∃ o, ops[13]? = some o ∧ o.op = .extract (.tmp 27) 1 ∧ o.dst = some 40 ∧ o.guard = none := ⟨_, by rw [hops]; rfl, rfl, rfl, rfl⟩
      obtain ⟨o14, po14, q14, d14, gd14⟩ : ∃ o, ops[14]? = some o ∧ o.op = .assign (.tmp 39) ∧ o.dst = some 7 ∧ o.guard = none := ⟨_, by rw [hops]; rfl, rfl, rfl, rfl⟩
      obtain ⟨o15, po15, q15, d15, gd15⟩ : ∃ o, ops[15]? = some o ∧ o.op = .assign (.tmp 40) ∧ o.dst = some 8 ∧ o.guard = none := ⟨_, by rw [hops]; rfl, rfl, rfl, rfl⟩
      clear hops
      refine met_free po0 d0 (wanted_of gd0) (fun w' h' => run_move q0 base3 w') ?_
      refine met_free po1 d1 (wanted_of gd1) (fun w' h' => run_move q1 ((eval_other _ 28 6 _ (by decide)).trans base6) w') ?_
      refine met_free po2 d2 (wanted_of gd2) (fun w' h' => run_ixFr q2 ((eval_other _ 29 28 _ (by decide)).trans (eval_same _ _ _ (by rw [hsz]; decide))) (eval_same _ _ _ (by simp only [put_size, hsz]; decide)) hlt w') ?_
      refine met_free po3 d3 (wanted_of gd3) (fun w' h' => run_fieldFr q3 (by decide) (eval_same _ _ _ (by simp only [put_size, hsz]; decide)) w') ?_
      refine met_free po4 d4 (wanted_of gd4) (fun w' h' => run_loadKind q4 (eval_same _ _ _ (by simp only [put_size, hsz]; decide)) (HC1.out _ h')) ?_
      refine met_free po5 d5 (wanted_of gd5) (fun w' h' => run_move q5 ((eval_other _ 32 3 _ (by decide)).trans ((eval_other _ 31 3 _ (by decide)).trans ((eval_other _ 30 3 _ (by decide)).trans ((eval_other _ 29 3 _ (by decide)).trans ((eval_other _ 28 3 _ (by decide)).trans base3))))) w') ?_
      refine met_free po6 d6 (wanted_of gd6) (fun w' h' => run_move q6 ((eval_other _ 33 6 _ (by decide)).trans ((eval_other _ 32 6 _ (by decide)).trans ((eval_other _ 31 6 _ (by decide)).trans ((eval_other _ 30 6 _ (by decide)).trans ((eval_other _ 29 6 _ (by decide)).trans ((eval_other _ 28 6 _ (by decide)).trans base6)))))) w') ?_
      refine met_free po7 d7 (wanted_of gd7) (fun w' h' => run_ixFr q7 ((eval_other _ 34 33 _ (by decide)).trans (eval_same _ _ _ (by simp only [put_size, hsz]; decide))) (eval_same _ _ _ (by simp only [put_size, hsz]; decide)) hlt w') ?_
      refine met_free po8 d8 (wanted_of gd8) (fun w' h' => run_fieldFr q8 (by decide) (eval_same _ _ _ (by simp only [put_size, hsz]; decide)) w') ?_
      refine met_free po9 d9 (wanted_of gd9) (fun w' h' => run_loadSlice q9 (eval_same _ _ _ (by simp only [put_size, hsz]; decide)) (HC2.out _ h')) ?_
      refine m_enter po10 d10 (wanted_of gd10) (run_callf2 q10 rfl ((eval_other _ 37 32 _ (by decide)).trans ((eval_other _ 36 32 _ (by decide)).trans ((eval_other _ 35 32 _ (by decide)).trans ((eval_other _ 34 32 _ (by decide)).trans ((eval_other _ 33 32 _ (by decide)).trans (eval_same _ _ _ (by simp only [put_size, hsz]; decide))))))) (eval_same _ _ _ (by simp only [put_size, hsz]; decide)) Tryd.func13 (by kernel_rfl) _) (put_any (n8 f.1) f.2 f.2.length qb cb _ rfl (by omega) (HL2.out.below HD.out) (HR.out.on (HB1.out.trans (HD.out.mono HB1.out.size)))) ?_
      rintro e w5 ⟨b5, v5, rfl, ho5⟩
      rw [HPE.out.2, kb_n8] at ho5
      have HOP := Lib.hid ho5
      have HBP : Hid (Below w1.heap.size w1 w5) := show Below _ _ _ from HD.out.trans (b5.mono HD.out.size)
      have HOR := Lib.hid (HOD.out.below b5)
      clear ho5 b5
      refine ⟨_, rfl, HBP.out, ?_⟩
      refine met_free po11 d11 (wanted_of gd11) (fun w' h' => run_move q11 (eval_same _ _ _ (by simp only [put_size, hsz]; decide)) w') ?_
      refine met_free po12 d12 (wanted_of gd12) (fun w' h' => run_extract q12 (eval_same _ _ _ (by simp only [put_size, hsz]; decide)) rfl w') ?_
      refine met_free po13 d13 (wanted_of gd13) (fun w' h' => run_extract q13 ((eval_other _ 39 27 _ (by decide)).trans (eval_same _ _ _ (by simp only [put_size, hsz]; decide))) rfl w') ?_
      refine met_free po14 d14 (wanted_of gd14) (fun w' h' => run_assign q14 ((eval_other _ 40 39 _ (by decide)).trans (eval_same _ _ _ (by simp only [put_size, hsz]; decide))) w') ?_
      refine met_free po15 d15 (wanted_of gd15) (fun w' h' => run_assign q15 ((eval_other _ 7 40 _ (by decide)).trans (eval_same _ _ _ (by simp only [put_size, hsz]; decide))) w') ?_
      show NoPanic _ .normal _ _
      refine NoPanic.normal ?_
      rw [HAA.out]
      go_frame
      clear HAA
      clear po0 q0 d0 gd0 po1 q1 d1 gd1 po2 q2 d2 gd2 po3 q3 d3 gd3 po4 q4 d4 gd4 po5 q5 d5 gd5 po6 q6 d6 gd6 po7 q7 d7 gd7 po8 q8 d8 gd8 po9 q9 d9 gd9 po10 q10 d10 gd10 po11 q11 d11 gd11 po12 q12 d12 gd12 po13 q13 d13 gd13 po14 q14 d14 gd14 po15 q15 d15 gd15
      clear base3 base5 base6 hsz
      rw [HPE.out.1]
      obtain ⟨qp, cp, rfl, -, -, lp⟩ := HOP.out.slN HFL.out
      have HLP := Lib.hid lp
      have sp := HBP.out.size
      clear lp
      go_wp2_with (at_builtin; refine wpList_append_listB rfl (.tmp 43) (.tmp 44) rfl w1.heap.size _ (framesB (fs.take k)) (frameB f.1 f.2) _ _ rfl HOR.out (by rw [HFL.out]; rfl) HLP.out (by rw [HFL.out]; omega) sp ?_; intro v7 w7 h7 b7; rw [← HTK.out] at h7; have HO7 := Lib.hid h7; have HB7 := Lib.hid (HBP.out.trans b7); clear h7 b7)
      go_roundw
      case rel => exact ⟨k + 1, by omega, by go_num, HO7.out, HB7.out⟩
      case measure => simp [intOf]; omega
    · have hkn : k = N := by omega
      have q1 : ¬ (k : Int) < (N : Int) := by omega
      rw [hkn, ← HNN.out, List.take_length] at ho
      obtain ⟨q8, c8, rfl, -, -, l8⟩ := ho.slN HSS.out
      have HL8 := Lib.hid l8
      have HW8 : Hid (Below w.heap.size w wr) := show Below _ _ _ from HB1.out.trans (hb.mono HB1.out.size)
      clear ho hb l8 HO HB
      obtain ⟨p2, hrun, hlies⟩ := run_fromP (p := p) (n := n) (c := c) (k := S) HP.out hSle hc
      have HRUN : Hid (∀ {ρ : Operand → Value} {o : Oper} {x y : Operand}, o.op = .slice 22 x (some y) none none → ρ x = .slice p n c → ρ y = .int .i64 (S : Int) → ∀ w, (execOp ρ o).run Tryd.prog w = .ok (.value (.slice p2 (n - S) (c - S))) w) := show _ from hrun
      have HLIE := Lib.hid hlies
      have z1 : (S : Int) ≤ (n : Int) := by omega
      have z2 : ¬ (n : Int) < (S : Int) := by omega
      have z3 : (S : Int) ≤ (c : Int) := by omega
      have HTS : Hid (l.take S = framesB fs) := show _ = _ by rw [HS.out.eq, ← HSS.out, List.take_append_of_le_length (Nat.le_refl _), List.take_length]
      have HDS : Hid (l.drop S = r) := show _ = _ by rw [HS.out.eq, ← HSS.out, List.drop_append_of_le_length (Nat.le_refl _), List.drop_length, List.nil_append]
      clear hrun hlies
      go_wp2_with fail
      have hlt8 : Lies wr p (framesB fs) := by have := lies_takeF (HL.out.below HW8.out) S; rwa [HTS.out] at this
      refine (same_big (framesB fs) S q8 p c8 c wr HSS.out (by omega) HL8.out hlt8).mono ?_
      rintro e w9 ⟨rfl, b9⟩
      have HW9 : Hid (Below w.heap.size w w9) := show Below _ _ _ from HW8.out.trans (b9.mono HW8.out.size)
      clear b9 hlt8
      go_upto_region 14 with (fail)
      refine wp_region_lit ?_
      refine wpList_run (by rfl) (run_move rfl rfl _) ?_
      refine wpList_run (by rfl) (run_move rfl rfl _) ?_
      refine wpList_run (by rfl) (HRUN.out rfl rfl rfl _) ?_
      go_frame
      go_wp2_with fail
      have hlr := HLIE.out w9 l HN.out (HL.out.below HW9.out)
      rw [HDS.out] at hlr
      have hrl : r.length = n - S := by omega
      obtain ⟨E, hE⟩ : ∃ E, getE r = E := ⟨_, rfl⟩
      have hne : E ≠ 0 := by rw [← hE]; exact HS.out.last
      have HGE := Lib.hid (get_err hE hne)
      have HEE := Lib.hid hE
      have hEi : ¬ (E : Int) = 0 := by omega
      have HEB : Hid (((E : Int) != 0) = true) := show _ = _ by simpa using hne
      clear hE hne
      refine (get_any r (n - S) p2 (c - S) w9 hrl (by omega) (by omega) hlr (HR.out.on HW9.out)).mono ?_
      rintro e w10 ⟨b10, v10, rfl, ho10⟩
      rw [HGE.out.1, HGE.out.2.1, HEE.out]
      rw [HGE.out.2.2] at ho10
      obtain ⟨q10, c10, rfl, -, -, -⟩ := ho10.slN (n := 0) rfl
      have HW10 : Hid (Below w.heap.size w w10) := show Below _ _ _ from HW9.out.trans (b10.mono HW9.out.size)
      clear b10 ho10 hlr
      go_wp2_with fail
      refine calls_gen (fun w' => Below w10.heap.size w10 w') ((Below.refl _ _).alloc (Nat.le_refl _) _) ?_
      rintro w11 b11
      have HW11 : Hid (Below w.heap.size w w11) := show Below _ _ _ from HW10.out.trans (b11.mono HW10.out.size)
      clear b11
      refine (works9_any w11 (HR.out.on HW11.out)).mono ?_
      rintro e w12 ⟨rfl, b12⟩
      have HW12 : Hid (Below w.heap.size w w12) := show Below _ _ _ from HW11.out.trans (b12.mono HW11.out.size)
      clear b12
      go_wp2_with fail
      go_ret
      refine ⟨?_, HW12.out⟩
      first
        | rfl
        | (show Ending.returned (Value.bool ((E : Int) != 0)) = _; rw [HEB.out])
end Go.Proofs.YtejekgceompjpaaDoor

/-
  FrameForm, for any bytes: the law returns true, and what came in reads afterwards as it read before; the package's table starts as the program's own text lays it (the tie is given).
-/
namespace Go.Proofs.YtejekgceompjpaaDoor
open Go.ChangeShapes Go.WideShapes Go.ChangeAt Go.RowKit Go.Proofs.ShaWords

set_option maxRecDepth 100000 in
theorem frameForm_lifted (os : Os) (started : os.Started) (H : Type) (enc : TypeId × Value → H) :
    ReturnsInHanded {} Tryd.checked os 8 .any (fun w args => (Rows.frameFormSpec.pre enc Tryd.prog Tryd.f8 [] false w args ∧ laidMetH Tryd.prog laid9 w) ∧ sizedMet enc Tryd.prog Tryd.f8 (OpenSpec.ofChange Rows.frameFormSpec) false w args)
      (Rows.frameFormSpec.post enc Tryd.prog Tryd.f8 false true false false) := by
  refine returnsInHanded_of_change_and (C := Tryd.checked) (X := fun w _ => laidMetH Tryd.prog laid9 w) (fun _ _ _ hh h => h.of_heap hh) own started (by kernel_rfl) Tryd.func8
    (ChangeSpec.witness_shaped (enc := enc) (C := Tryd.checked) (os := os) (X := fun w _ => laidMetH Tryd.prog laid9 w) false (World.doorLaid Tryd.prog 400 os) #[.slice none 0 0] 8 rfl (World.shaped_of_RefB (by kernel_rfl) (by kernel_rfl)) (by kernel_rfl) (by kernel_rfl) (by kernel_rfl) (door_met9 os _)) ?_
  intro W base args ds gs before hval0 hW _ hsz hL _
  have hW' := hW
  obtain ⟨p, q, hA0, hV, rfl, hfz, hnd⟩ := hW
  have hA : DataW.TrodAll enc Tryd.prog W 0 (fun _ => true) true Tryd.f8.params.toList args.toList ds p := hA0
  have hval : ∀ (j : Nat) t v, Tryd.f8.params[j]? = some t → args[j]? = some v → Value.okWide Tryd.prog W .any base t v := hval0
  have hsz2 : (DataW.weightsEach Tryd.prog (Tryd.f8.params.toList ++ Rows.frameFormSpec.plain.varTypes Tryd.prog) (ds ++ gs)).all (· ≤ reachBytes) = true := hsz
  rw [Tryd.params8] at hA hval hsz2
  obtain ⟨v0, vs0, d0, ds0, p0, q0, hargs, rfl, rfl, h0, r0⟩ := trodAll_cons hA
  obtain ⟨rfl, rfl, rfl⟩ := trodAll_nil r0
  obtain rfl : args = #[v0] := by cases args; simp_all
  obtain ⟨rfl, rfl⟩ := trodVars_none hV
  have hb5 : Tryd.prog.bytesOf 5 = 1 := by kernel_rfl
  obtain ⟨a0, len0, cap0, rfl⟩ := okWide_slice Tryd.underlying22 (hval 0 22 v0 rfl rfl)
  have k0 := h0
  have lt0 : ∀ x ∈ p0, x.block < W.heap.size := by obtain ⟨m, hm⟩ := k0; exact DataW.trod_lt m _ _ _ hm
  obtain ⟨f0, hf0⟩ := h0
  obtain ⟨xs0, hx0a, hx0b, hx0c, hx0d⟩ := open_bytes hf0
  have hc0 : cap0 ≤ 140737488351232 := by
    rcases hx0d with ⟨_, h⟩ | ⟨e, sp, he, hl⟩
    · omega
    · have h := sized_slice hsz2 (j := 0) (t := 22) (elems := e) (spare := sp) rfl (by rw [← he]; rfl) Tryd.underlying22
      rw [hb5] at h; unfold reachBytes at h; omega
  have hQ := of_laid9 hL
  clear hA0 hval0
  have hp0 := bytes_place hf0
  refine (frForm_any xs0 len0 a0 cap0 W hx0a hx0b hc0 hp0 hx0c hQ).mono fun e W' ⟨he, bel⟩ => ?_
  subst he
  exact ⟨_, rfl, _, _, _, [], _, [], hW', trodAll_mk1 (shut_bool Tryd.underlying4 _), (trodAll_cons_mk (Below.trod laidOut (by kernel_rfl) (of_decide_eq_true (by kernel_rfl)) k0 bel lt0) trodAll_mk0), rfl, bel.frame _, fun h => by cases h⟩

theorem frameForm_holds : Rows.FrameFormSaid :=
  OpenClaim.holds_of_wide 8 Tryd.f8 rfl rfl rfl rfl rfl rfl rfl ⟨rfl, rfl, rfl, rfl, rfl⟩ rfl rfl rfl rfl rfl (by kernel_rfl) Tryd.func8 (by kernel_rfl)
    (of_decide_eq_true (by kernel_rfl)) (by unfold Func.isWrapper; first | (rw [if_pos (by decide +kernel)]; kernel_rfl) | (rw [if_neg (by decide +kernel)]; exact ⟨rfl, rfl⟩))
    (fun os started H enc _ => frameForm_lifted os started H enc)

theorem frameForm_card : Rows.FrameFormCardSaid :=
  Claim7.holds_tied_plain_at .later [] [.data] true Rows.frameFormCard.stood.harness false
    frameForm_holds (fun _ h => by cases h) (by kernel_rfl) (fun _ h => by cases h) frameForm_row_tie rfl ⟨rfl, rfl⟩ (by kernel_rfl) rfl
    (fun f fn hf hfn => by
      obtain rfl : f = 8 := Option.some.inj (hf.symm.trans (show _ = some 8 by kernel_rfl))
      obtain rfl : fn = Tryd.f8 := (Option.some.inj (Tryd.func8.symm.trans hfn)).symm
      exact ⟨by kernel_rfl, fun j t ht => by
        rw [Tryd.params8] at ht
        have hm : t ∈ [22] := by simpa using Array.mem_of_getElem? ht
        have hall : ([22].all fun u => !Tryd.prog.wantsStandIn u) = true := by kernel_rfl
        exact (show Tryd.prog.wantsStandIn t = false by simpa using List.all_eq_true.1 hall t hm)⟩)
    (by kernel_rfl)
#print axioms frameForm_card
end Go.Proofs.YtejekgceompjpaaDoor
