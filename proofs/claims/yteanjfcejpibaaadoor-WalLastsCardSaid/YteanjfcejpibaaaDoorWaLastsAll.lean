/-
  WalLasts, for any lives: the law returns true, and what came in reads afterwards as it read before; the package's table starts as the program's own text lays it (the tie is given).
-/
import Derived.Test.YteanjfcejpibaaaDoorPkH
import Derived.Deep.LoopGhost
import Derived.Test.YteanjfcejpibaaaDoorTie
import Derived.Test.YteanjfcejpibaaaDoorCards
import Derived.SevenTiedAt
/-
  A list of frames in memory of its own.
-/
namespace Go.Proofs.YteanjfcejpibaaaDoor
open Go.RowKit Go.Proofs.ShaWords
section
variable {ρ : Operand → Value} {o : Oper} {x y : Operand}
theorem run_buildFrC {a : Int} {p : Option Addr} {n c : Nat} (ho : o.op = .build 46 #[(0, x), (1, y)]) (hx : ρ x = .int .i64 a) (hy : ρ y = .slice p n c) (w : World) : (execOp ρ o).run Tryd.prog w = .ok (.value (.agg #[.int .i64 a, .slice p n c])) w := by
  obtain ⟨dst, op, ty', pos, after, guard⟩ := o
  simp only at ho
  subst ho
  go_simp
end
set_option maxRecDepth 100000 in
set_option maxHeartbeats 4000000 in
theorem copyFrames_any (fs : List Fr9) (hv : Value) (w : World) (hlen : fs.length ≤ 100000) (hb : ∀ f ∈ fs, f.2.length < 100000) (h1 : FrM w hv fs) :
    Calls Tryd.prog 26 #[hv] w fun e w' => ∃ hv' vs', e = .returned hv' ∧ FrL w.heap.size w' hv' vs' fs ∧ Below w.heap.size w w' := by
  obtain ⟨N, hN⟩ : ∃ N, fs.length = N := ⟨_, rfl⟩
  obtain ⟨qx, cx, rfl, h1⟩ := h1
  rw [hN] at h1 hlen ⊢
  have HNN := Lib.hid hN
  have H1 := Lib.hid h1
  have HBB := Lib.hid hb
  clear h1 hb hN
  go_enter Tryd.func26, Tryd.ntmps26
  go_wp2_with fail
  go_loopg [3, 4] N (fun gk s3 s4 wx => ∃ (k : Nat) (hv' : Value) (vs' : List Value), k + gk = N ∧ s4 = .int .i64 (k : Int) ∧ s3 = hv' ∧ FrL w.heap.size wx hv' vs' (fs.take k) ∧ Below w.heap.size w wx)
  case atStart => exact ⟨0, _, [], by omega, rfl, rfl, FrL.nil _ _, Below.refl _ _⟩
  case round =>
    obtain ⟨k, hv', vs', hkg, rfl, rfl, hL, hbel⟩ := hrel
    have hkl : (fs.take k).length = k := by rw [List.length_take, HNN.out]; omega
    obtain ⟨q5, c5, rfl, -⟩ := hL.sl9 hkl
    have HL := Lib.hid hL; have HB := Lib.hid hbel; have HKL := Lib.hid hkl
    cases gk with
    | zero =>
      have hkn : k = N := by omega
      have q1 : ¬ (k : Int) < (N : Int) := by omega
      have HFT : Hid (fs.take k = fs) := show _ = _ by rw [hkn, ← HNN.out, List.take_length]
      clear hL hbel hkl hkn
      go_wp2_with fail
      go_ret
      have hx := HL.out
      rw [HFT.out] at hx
      exact ⟨_, rfl, ⟨vs', hx⟩, HB.out⟩
    | succ g1 =>
      have hlt : k < N := by omega
      have q1 : (k : Int) < (N : Int) := by omega
      obtain ⟨ga, rfl, hga, hca⟩ := H1.out (by omega)
      obtain ⟨f, hf⟩ : ∃ f, fs[k]? = some f := ⟨_, List.getElem?_eq_getElem (by rw [HNN.out]; exact hlt)⟩
      obtain ⟨qa, sa, a1, a2, la⟩ := hca k f hf
      have hfl := HBB.out f (List.mem_of_getElem? hf)
      have HC0 : Hid (∀ w', Below w.heap.size w w' → w'.cell? ⟨ga, 0 + k * 2 + 0, none⟩ = some (.int .i64 (n8 f.1))) := show ∀ w', _ → _ from fun w' h => by rw [Nat.zero_add]; exact (h.cell (p := ⟨ga, k * 2, none⟩) hga).trans a1
      have HC1 : Hid (∀ w', Below w.heap.size w w' → w'.cell? ⟨ga, 0 + k * 2 + 1, none⟩ = some (.slice qa f.2.length sa)) := show ∀ w', _ → _ from fun w' h => by rw [Nat.zero_add]; exact (h.cell (p := ⟨ga, k * 2 + 1, none⟩) hga).trans a2
      have HLA := Lib.hid la
      have HTE : Hid (fs.take (k + 1) = fs.take k ++ [f]) := show _ = _ by rw [List.take_succ_eq_append_getElem (by rw [HNN.out]; exact hlt), (List.getElem?_eq_some_iff.1 hf).2]
      have h2c : ∀ (qv : Option Addr) (cv : Nat), ∀ u ∈ [Value.int .i64 (n8 f.1), .slice qv f.2.length cv], u.oneCell' = true := by
        intro qv cv u hu
        simp only [List.mem_cons, List.not_mem_nil, or_false] at hu
        rcases hu with rfl | rfl <;> rfl
      have hk6 : k ≤ 1000000 := by omega
      have HROW5 : ∀ (w5 : World) (ob : Obj), FrL w.heap.size w5 (.slice q5 k c5) vs' (fs.take k) → (w5.alloc ob).ownsRow w.heap.size 46 2 (.slice q5 k c5) k (frCells (fs.take k) vs') := fun w5 ob h => by
        have := h.rows
        rw [HKL.out] at this
        exact this.alloc _
      clear hL hbel hkl a1 a2 la hf hca
      go_upto_region 5 with (fail)
      have HDR : Hid (Below wr.heap.size wr wr.drew) := show Below _ _ _ from (Below.refl _ _).drew
      have HD : Hid (Below w.heap.size w wr.drew) := show Below _ _ _ from HB.out.trans (HDR.out.mono HB.out.size)
      refine region_phase (fun w' => Below w.heap.size w w') (fun _ => True) 11 (HD.out) trivial [(0, .free), (1, .free), (2, .free), (3, .free), (4, .free), (5, .free), (6, .free), (7, .free), (8, .free), (9, .free), (10, .free), (11, .behind), (12, .free), (13, .behind), (14, .behind), (15, .free)] (by kernel_rfl) (by kernel_rfl) (by kernel_rfl) (by kernel_rfl) (fun ops hops A hA => ?_)
      have hsz : A.tmps.size = 27 := by rw [hA]; rfl
      have base0 : A.eval (.tmp 0) = .slice (some ⟨ga, 0, none⟩) N cx := by rw [hA]; rfl
      have base3 : A.eval (.tmp 3) = .slice q5 k c5 := by rw [hA]; rfl
      have base4 : A.eval (.tmp 4) = .int .i64 (k : Int) := by rw [hA]; rfl
      have HAA := Lib.hid hA; clear hA
      obtain ⟨o0, po0, q0, d0, gd0⟩ : ∃ o, ops[0]? = some o ∧ o.op = .move (.tmp 3) ∧ o.dst = some 11 ∧ o.guard = none := ⟨_, by rw [hops]; rfl, rfl, rfl, rfl⟩
      obtain ⟨o1, po1, q1, d1, gd1⟩ : ∃ o, ops[1]? = some o ∧ o.op = .move (.tmp 0) ∧ o.dst = some 12 ∧ o.guard = none := ⟨_, by rw [hops]; rfl, rfl, rfl, rfl⟩
      obtain ⟨o2, po2, q2, d2, gd2⟩ : ∃ o, ops[2]? = some o ∧ o.op = .move (.tmp 4) ∧ o.dst = some 13 ∧ o.guard = none := ⟨_, by rw [hops]; rfl, rfl, rfl, rfl⟩
      obtain ⟨o3, po3, q3, d3, gd3⟩ : ∃ o, ops[3]? = some o ∧ o.op = .indexAddr 26 (.tmp 12) (.tmp 13) ∧ o.dst = some 14 ∧ o.guard = none := ⟨_, by rw [hops]; rfl, rfl, rfl, rfl⟩
      obtain ⟨o4, po4, q4, d4, gd4⟩ : ∃ o, ops[4]? = some o ∧ o.op = .fieldAddr 46 (.tmp 14) 0 ∧ o.dst = some 15 ∧ o.guard = none := ⟨_, by rw [hops]; rfl, rfl, rfl, rfl⟩
      obtain ⟨o5, po5, q5, d5, gd5⟩ : ∃ o, ops[5]? = some o ∧ o.op = .load 3 (.tmp 15) ∧ o.dst = some 16 ∧ o.guard = none := ⟨_, by rw [hops]; rfl, rfl, rfl, rfl⟩
      obtain ⟨o6, po6, q6, d6, gd6⟩ : ∃ o, ops[6]? = some o ∧ o.op = .move (.tmp 0) ∧ o.dst = some 17 ∧ o.guard = none := ⟨_, by rw [hops]; rfl, rfl, rfl, rfl⟩
      obtain ⟨o7, po7, q7, d7, gd7⟩ : ∃ o, ops[7]? = some o ∧ o.op = .move (.tmp 4) ∧ o.dst = some 18 ∧ o.guard = none := ⟨_, by rw [hops]; rfl, rfl, rfl, rfl⟩
      obtain ⟨o8, po8, q8, d8, gd8⟩ : ∃ o, ops[8]? = some o ∧ o.op = .indexAddr 26 (.tmp 17) (.tmp 18) ∧ o.dst = some 19 ∧ o.guard = none := ⟨_, by rw [hops]; rfl, rfl, rfl, rfl⟩
      obtain ⟨o9, po9, q9, d9, gd9⟩ : ∃ o, ops[9]? = some o ∧ o.op = .fieldAddr 46 (.tmp 19) 1 ∧ o.dst = some 20 ∧ o.guard = none := ⟨_, by rw [hops]; rfl, rfl, rfl, rfl⟩
      obtain ⟨o10, po10, q10, d10, gd10⟩ : ∃ o, ops[10]? = some o ∧ o.op = .load 41 (.tmp 20) ∧ o.dst = some 21 ∧ o.guard = none := ⟨_, by rw [hops]; rfl, rfl, rfl, rfl⟩
      obtain ⟨o11, po11, q11, d11, gd11⟩ : ∃ o, ops[11]? = some o ∧ o.op = .call { callee := .value (.func 46), args := #[.tmp 21], argTypes := #[41] } ∧ o.dst = some 22 ∧ o.guard = none := ⟨_, by rw [hops]; rfl, rfl, rfl, rfl⟩
      obtain ⟨o12, po12, q12, d12, gd12⟩ : ∃ o, ops[12]? = some o ∧ o.op = .build 46 #[(0, (.tmp 16)), (1, (.tmp 22))] ∧ o.dst = some 23 ∧ o.guard = none := ⟨_, by rw [hops]; rfl, rfl, rfl, rfl⟩
      obtain ⟨o13, po13, q13, d13, gd13⟩ : ∃ o, ops[13]? = some o ∧ o.op = .buildSlice 26 1 #[(0, (.tmp 23))] ∧ o.dst = some 24 ∧ o.guard = none := ⟨_, by rw [hops]; rfl, rfl, rfl, rfl⟩
      obtain ⟨o14, po14, q14, d14, gd14⟩ : ∃ o, ops[14]? = some o ∧ o.op = .call { callee := .builtin .append, args := #[.tmp 11, .tmp 24], argTypes := #[26, 26] } ∧ o.dst = some 25 ∧ o.guard = none := ⟨_, by rw [hops]; rfl, rfl, rfl, rfl⟩
      obtain ⟨o15, po15, q15, d15, gd15⟩ : ∃ o, ops[15]? = some o ∧ o.op = .assign (.tmp 25) ∧ o.dst = some 3 ∧ o.guard = none := ⟨_, by rw [hops]; rfl, rfl, rfl, rfl⟩
      clear hops
      refine met_free po0 d0 (wanted_of gd0) (fun w' h' => run_move q0 base3 w') ?_
      refine met_free po1 d1 (wanted_of gd1) (fun w' h' => run_move q1 ((eval_other _ 11 0 _ (by decide)).trans base0) w') ?_
      refine met_free po2 d2 (wanted_of gd2) (fun w' h' => run_move q2 ((eval_other _ 12 4 _ (by decide)).trans ((eval_other _ 11 4 _ (by decide)).trans base4)) w') ?_
      refine met_free po3 d3 (wanted_of gd3) (fun w' h' => run_ixFr q3 ((eval_other _ 13 12 _ (by decide)).trans (eval_same _ _ _ (by simp only [put_size, hsz]; decide))) (eval_same _ _ _ (by simp only [put_size, hsz]; decide)) hlt w') ?_
      refine met_free po4 d4 (wanted_of gd4) (fun w' h' => run_fieldFr q4 (by decide) (eval_same _ _ _ (by simp only [put_size, hsz]; decide)) w') ?_
      refine met_free po5 d5 (wanted_of gd5) (fun w' h' => run_loadKind q5 (eval_same _ _ _ (by simp only [put_size, hsz]; decide)) (HC0.out _ h')) ?_
      refine met_free po6 d6 (wanted_of gd6) (fun w' h' => run_move q6 ((eval_other _ 16 0 _ (by decide)).trans ((eval_other _ 15 0 _ (by decide)).trans ((eval_other _ 14 0 _ (by decide)).trans ((eval_other _ 13 0 _ (by decide)).trans ((eval_other _ 12 0 _ (by decide)).trans ((eval_other _ 11 0 _ (by decide)).trans base0)))))) w') ?_
      refine met_free po7 d7 (wanted_of gd7) (fun w' h' => run_move q7 ((eval_other _ 17 4 _ (by decide)).trans ((eval_other _ 16 4 _ (by decide)).trans ((eval_other _ 15 4 _ (by decide)).trans ((eval_other _ 14 4 _ (by decide)).trans ((eval_other _ 13 4 _ (by decide)).trans ((eval_other _ 12 4 _ (by decide)).trans ((eval_other _ 11 4 _ (by decide)).trans base4))))))) w') ?_
      refine met_free po8 d8 (wanted_of gd8) (fun w' h' => run_ixFr q8 ((eval_other _ 18 17 _ (by decide)).trans (eval_same _ _ _ (by simp only [put_size, hsz]; decide))) (eval_same _ _ _ (by simp only [put_size, hsz]; decide)) hlt w') ?_
      refine met_free po9 d9 (wanted_of gd9) (fun w' h' => run_fieldFr q9 (by decide) (eval_same _ _ _ (by simp only [put_size, hsz]; decide)) w') ?_
      refine met_free po10 d10 (wanted_of gd10) (fun w' h' => run_loadSlice q10 (eval_same _ _ _ (by simp only [put_size, hsz]; decide)) (HC1.out _ h')) ?_
      refine m_enter po11 d11 (wanted_of gd11) (run_callf1 q11 rfl (eval_same _ _ _ (by simp only [put_size, hsz]; decide)) Tryd.func46 (by kernel_rfl) _) (copy_bigN f.2 f.2.length qa sa _ rfl (by omega) (HLA.out.below HD.out)) ?_
      rintro e w5 ⟨v5, rfl, ho5, b5⟩
      obtain ⟨qv, cv, rfl, -, -, -⟩ := ho5.slN (n := f.2.length) rfl
      have HO5 := Lib.hid ho5
      have HB5 : Hid (Below w.heap.size w w5) := show Below _ _ _ from HD.out.trans (b5.mono HD.out.size)
      have HL5 := Lib.hid (HL.out.below (HDR.out.trans (b5.mono HDR.out.size)))
      clear ho5 b5
      refine ⟨_, rfl, HB5.out, ?_⟩
      refine met_free po12 d12 (wanted_of gd12) (fun w' h' => run_buildFrC q12 ((eval_other _ 22 16 _ (by decide)).trans ((eval_other _ 21 16 _ (by decide)).trans ((eval_other _ 20 16 _ (by decide)).trans ((eval_other _ 19 16 _ (by decide)).trans ((eval_other _ 18 16 _ (by decide)).trans ((eval_other _ 17 16 _ (by decide)).trans (eval_same _ _ _ (by simp only [put_size, hsz]; decide)))))))) (eval_same _ _ _ (by simp only [put_size, hsz]; decide)) w') ?_
      have hb6 : Below w5.heap.size w5 (w5.alloc (.cells #[.int .i64 (n8 f.1), .slice qv f.2.length cv] 46)) := (Below.refl _ _).alloc (Nat.le_refl _) _
      refine met_op po13 d13 (wanted_of gd13) (frT.run_one q13 (eval_same _ _ _ (by simp only [put_size, hsz]; decide)) rfl _) (HB5.out.trans (hb6.mono HB5.out.size)) ?_
      obtain ⟨v7, w7, hr7, hrow7, hg7, ho7⟩ := frT.run_append (base := w.heap.size) (n := k) (C := #[.int .i64 (n8 f.1), .slice qv f.2.length cv]) q14 ((eval_other _ 24 11 _ (by decide)).trans ((eval_other _ 23 11 _ (by decide)).trans ((eval_other _ 22 11 _ (by decide)).trans ((eval_other _ 21 11 _ (by decide)).trans ((eval_other _ 20 11 _ (by decide)).trans ((eval_other _ 19 11 _ (by decide)).trans ((eval_other _ 18 11 _ (by decide)).trans ((eval_other _ 17 11 _ (by decide)).trans ((eval_other _ 16 11 _ (by decide)).trans ((eval_other _ 15 11 _ (by decide)).trans ((eval_other _ 14 11 _ (by decide)).trans ((eval_other _ 13 11 _ (by decide)).trans ((eval_other _ 12 11 _ (by decide)).trans (eval_same _ _ _ (by rw [hsz]; decide))))))))))))))) (HROW5 w5 _ HL5.out) (eval_same _ _ _ (by simp only [put_size, hsz]; decide)) (heap_new_at rfl) rfl (h2c qv cv) hk6 (by rw [size_alloc]; have := HB5.out.size; omega)
      have hS7 : Below w.heap.size w w7 := (HB5.out.trans (hb6.mono HB5.out.size)).grown hg7 (by rw [size_alloc]; have := HB5.out.size; omega) (fun j e => (World.ownsRow.lt HL5.out.rows j e).1)
      refine met_op po14 d14 (wanted_of gd14) hr7 hS7 ?_
      refine met_free po15 d15 (wanted_of gd15) (fun w' h' => run_assign q15 (eval_same _ _ _ (by simp only [put_size, hsz]; decide)) w') ?_
      show NoPanic _ .normal _ _
      refine NoPanic.normal ?_
      rw [HAA.out]
      go_frame
      clear HAA
      clear po0 q0 d0 gd0 po1 q1 d1 gd1 po2 q2 d2 gd2 po3 q3 d3 gd3 po4 q4 d4 gd4 po5 q5 d5 gd5 po6 q6 d6 gd6 po7 q7 d7 gd7 po8 q8 d8 gd8 po9 q9 d9 gd9 po10 q10 d10 gd10 po11 q11 d11 gd11 po12 q12 d12 gd12 po13 q13 d13 gd13 po14 q14 d14 gd14 po15 q15 d15 gd15
      clear base0 base3 base4 hsz
      have hl7 : FrL w.heap.size w7 v7 (vs' ++ [.slice qv f.2.length cv]) (fs.take (k + 1)) := by
        rw [HTE.out]
        exact (HL5.out.below hb6).snoc (C := wr.heap.size) (fun i u j h1 h2 => (HL.out.lt h1 h2).2) HB.out.size (HO5.out.below hb6) (by rw [HKL.out]; exact hrow7) hg7
      obtain ⟨q7, c7, rfl, -⟩ := hl7.sl9 (n := k + 1) (by rw [HTE.out, List.length_append, HKL.out]; rfl)
      have HL7 := Lib.hid hl7; have HB7 := Lib.hid hS7
      clear hl7 hS7 hrow7 hg7 ho7 hb6 hr7 HROW5 h2c hk6
      go_wp2_with fail
      go_roundg g1
      case measure => omega
      case rel => exact ⟨k + 1, _, _, by omega, by first | rfl | simp, rfl, HL7.out, HB7.out⟩
end Go.Proofs.YteanjfcejpibaaaDoor

/-
  One life of a log that has rows.
-/
namespace Go.Proofs.YteanjfcejpibaaaDoor
open Go.RowKit Go.Proofs.ShaWords
section
variable {lo b g E : Nat} {d : DiskM} {dead : Bool} {w w' : World} {L Lf L2 : List (Nat × Obj)}
theorem WaL.snoc2 {hv hv' : Value} {vs : List Value} {all : List Fr9} {f : Fr9} {q : Option Addr} {n c F : Nat} {z : Int} {o : Obj} (h : WaL lo w b g d E dead ((L ++ Lf) ++ L2)) (hK : FrK lo L hv vs all) (hN : NewF lo Lf F z q n c f.2) (hd : ∀ x ∈ Lf, ∀ y ∈ L, y.1 ≠ x.1) (h2 : ∀ k, hv.ownBlock = some k → ∀ x ∈ L2, x.1 ≠ k)
    (hrow : w'.ownsRow lo 46 2 hv' (all.length + 1) (frCells all vs ++ [.int .i64 (n8 f.1), .slice q n c])) (hg : (w.alloc o).grownBy w' hv.ownBlock) (hc : hv'.ownBlock = hv.ownBlock ∨ hv'.ownBlock = some (w.alloc o).heap.size) :
    ∃ L', FrK lo L' hv' (vs ++ [.slice q n c]) (all ++ [f]) ∧ WaL lo w' b g d E dead (L' ++ L2) := by
  have hb : Below w.heap.size w (w.alloc o) := (Below.refl _ _).alloc (Nat.le_refl _) _
  have h1 := h.below hb
  have hL : ∀ x ∈ L, (w.alloc o).heap[x.1]? = some x.2 := fun x hx => h1.all x (List.mem_append_left _ (List.mem_append_left _ hx))
  have hLf : ∀ x ∈ Lf, (w.alloc o).heap[x.1]? = some x.2 := fun x hx => h1.all x (List.mem_append_left _ (List.mem_append_right _ hx))
  obtain ⟨-, L', k1, k2⟩ := hK.snoc (Lb := Lf) hL (hN.fr _ hLf).2 (fun k e => by
    obtain ⟨o', ho'⟩ := hN.own k e
    exact ⟨⟨o', ho'⟩, fun y hy => hd _ ho' y hy⟩) hrow hg hc
  refine ⟨L', k1, h1.grown hg (fun k e => ?_) L' (fun x hx => ⟨(k2 x hx).1, (k2 x hx).2.imp id fun ⟨o', ho'⟩ => ⟨o', List.mem_append_left _ ho'⟩⟩)⟩
  obtain ⟨o', ho'⟩ := hK.whole k (Or.inl e)
  exact ⟨⟨o', List.mem_append_left _ ho'⟩, h2 k e⟩
end
def lifeObj (x : InLife) : Obj := .cells #[.slice x.p x.rows.length x.c, .int .i64 x.cut, .slice x.q x.keep.length x.k] 33
theorem LiveW.armed {d : DiskM} {E : Nat} {segs : Nat → List RowW} {must : Nat} {all : List RowW} (h : LiveW d E segs must all) (n : Int) : LiveW (d.arm n) E segs must all := ⟨h.files, h.dur, h.rows⟩
theorem DeadW.more {d : DiskM} {must : Nat} {all : List RowW} (h : DeadW d must all) (f : RowW) : DeadW d must (all ++ [f]) := by
  obtain ⟨E, segs, h1, h2, h3⟩ := h
  exact ⟨E, segs, h1, h2, h3.trans (List.prefix_append _ _)⟩
theorem write_room (d : DiskM) (f : Int) (b : List (BitVec 8)) : (d.write f b).1.room = d.room := by
  unfold DiskM.write
  split
  · rfl
  · split
    · rfl
    · unfold DiskM.exec
      split <;> rfl
theorem syncedW_room (d : DiskM) (E : Nat) : (syncedW d E).1.room = d.room := by
  unfold syncedW
  split
  · rfl
  · unfold DiskM.sync
    split
    · rfl
    · unfold DiskM.exec
      split <;> rfl
theorem syncW_room (d : DiskM) (E : Nat) (dead : Bool) : (syncW d E dead).d.room = d.room := by
  unfold syncW
  split
  · rfl
  · exact syncedW_room d E
theorem appendW_room (d : DiskM) (E : Nat) (dead : Bool) (z : Int) (f : RowW) : (appendW d E dead z f).d.room = d.room := by
  unfold appendW
  split
  · rfl
  · split
    · rfl
    · split
      · rfl
      · split
        · rfl
        · split
          · exact write_room _ _ _
          · unfold beginW
            split
            · exact syncedW_room d E
            · split
              · exact (write_room _ _ _).trans (syncedW_room d E)
              · exact (write_room _ _ _).trans ((write_room _ _ _).trans (syncedW_room d E))
/-- Between two rounds of a life. -/
structure LifR (lo : Nat) (W : World) (b g BX : Nat) (x : InLife) (room cnt had : Nat) (k : Nat) (hv : Value) (vs : List Value) (d : DiskM) (E : Nat) (segs : Nat → List RowW) (must : Nat) (all : List RowW) (L : List (Nat × Obj)) (A : World) : Prop where
  log : WaL lo A b g d E false (L ++ [(BX, lifeObj x)])
  live : LiveW d E segs must all
  on : d.down = false
  list : FrK lo L hv vs all
  below : Below lo W A
  room : d.room = room
  count : d.count ≤ cnt + 4 * k
  few : all.length ≤ had + k
  short : ∀ f ∈ all, f.2.length ≤ 2039
/-- What a life leaves. -/
structure LifeE (lo : Nat) (W : World) (b g : Nat) (room cnt had : Nat) (hv : Value) (vs : List Value) (d : DiskM) (E : Nat) (dead : Bool) (must : Nat) (all : List RowW) (L : List (Nat × Obj)) (A : World) : Prop where
  log : WaL lo A b g d E dead L
  left : DeadW d must all
  list : FrK lo L hv vs all
  below : Below lo W A
  room : d.room = room
  count : d.count ≤ cnt + 100
  few : all.length ≤ had + 20
  short : ∀ f ∈ all, f.2.length ≤ 2039
def LifeP (W : World) (b g cnt had : Nat) (e : Ending) (w' : World) : Prop :=
  ∃ (hvA : Value) (vsA : List Value) (d' : DiskM) (E' : Nat) (dead' : Bool) (must : Nat) (all : List RowW) (L : List (Nat × Obj)), e = .returned (.tuple #[hvA, .int .i64 (must : Int), .bool true]) ∧ LifeE W.heap.size W b g 65536 cnt had hvA vsA d' E' dead' must all L w'
attribute [local irreducible] rowBs
theorem run_loadRowL {ρ : Operand → Value} {o : Oper} {x : Operand} {bb off : Nat} {u v t : Value} {w : World} (ho : o.op = .load 49 x) (hx : ρ x = .pointer (some ⟨bb, off, none⟩)) (h0 : w.cell? ⟨bb, off + 0, none⟩ = some u) (h1 : w.cell? ⟨bb, off + 1, none⟩ = some v) (h2 : w.cell? ⟨bb, off + 2, none⟩ = some t) : (execOp ρ o).run Tryd.prog w = .ok (.value (.agg #[u, v, t])) w := by
  have hl := run_loadAt_mid (P := Tryd.prog) w bb off 49 [u, v, t] _ (fun j y hy => by
    match j, hy with
    | 0, hy => simp only [List.getElem?_cons_zero, Option.some.injEq] at hy; subst hy; exact h0
    | 1, hy => simp only [List.getElem?_cons_succ, List.getElem?_cons_zero, Option.some.injEq] at hy; subst hy; exact h1
    | 2, hy => simp only [List.getElem?_cons_succ, List.getElem?_cons_zero, Option.some.injEq] at hy; subst hy; exact h2) Tryd.underlying49 rfl (show (Tryd.prog.info? 49).map (·.size) = some 3 by kernel_rfl)
  unfold execOp
  simp only [ho, hx, Sem.run_bind, hl, Result.andThen_ok, Sem.run_pure]
set_option maxRecDepth 1000000 in
set_option maxHeartbeats 4000000 in
theorem lives_any (W : World) (b g E : Nat) (x : InLife) (d : DiskM) (segs : Nat → List RowW) (had : List RowW) (hv : Value) (vs : List Value) (Lh : List (Nat × Obj)) (w : World) (hI : WaL W.heap.size w b g d E false Lh) (hK : FrK W.heap.size Lh hv vs had) (hlive : LiveW d E segs had.length had) (hcalm : d.Calm) (hB : Below W.heap.size W w)
    (hroom : d.room = 65536) (hcnt : d.count ≤ 900000) (hfew : had.length ≤ 1000) (hshort : ∀ f ∈ had, f.2.length ≤ 2039) (hO : RowOf 3 InRow.cells W x.p x.rows) (hR : Rem W) :
    Calls Tryd.prog 10 #[.pointer (some ⟨g, 0, none⟩), .pointer (some ⟨b, 0, none⟩), hv, .agg #[.slice x.p x.rows.length x.c, .int .i64 x.cut, .slice x.q x.keep.length x.k]] w fun e w' =>
      LifeP W b g d.count had.length e w' := by
  have HI := Lib.hid hI; have HK := Lib.hid hK; have HLV := Lib.hid hlive; have HB := Lib.hid hB; have HSH := Lib.hid hshort; have HO := Lib.hid hO; have HR := Lib.hid hR
  have HG := Lib.hid hR.size
  have HCALM := Lib.hid hcalm; have HROOM := Lib.hid hroom; have HCNT := Lib.hid (And.intro hcnt trivial); have HFEW := Lib.hid (And.intro hfew trivial)
  have HPK := fun w => Lib.hid (pickZ_any x.cut 40 w (by decide) (by decide))
  have hpz := pickZ_lt x.cut 40 (by decide)
  obtain ⟨pc, hpc⟩ : ∃ pc, pc = pickZ x.cut 40 := ⟨_, rfl⟩
  rw [← hpc] at HPK hpz
  obtain ⟨NH, hNH⟩ : ∃ NH, had.length = NH := ⟨_, rfl⟩
  have HNH := Lib.hid hNH
  obtain ⟨qh, ch, rfl, -⟩ := (hK.fr w hI.all).sl9 hNH
  obtain ⟨NR, hNR⟩ : ∃ NR, x.rows.length = NR := ⟨_, rfl⟩
  have HNR := Lib.hid hNR
  rw [hNR]
  clear hI hK hlive hB hshort hO hR hcalm hroom hcnt hfew hpc hNH hNR
  go_enter Tryd.func10, Tryd.ntmps10
  go_upto_region 1 with (fail)
  refine wp_gen (fun A => WaL W.heap.size A b g d E false (Lh ++ [(w.heap.size, lifeObj x)]) ∧ Below w.heap.size w A) ⟨?_, (Below.refl _ _).alloc (Nat.le_refl _) _⟩ ?_
  · have h1 := (HI.out.one (lifeObj x)).fewer (L' := Lh ++ [(w.heap.size, lifeObj x)]) (fun y hy => by
      rcases List.mem_append.1 hy with hy | hy
      · exact List.mem_cons_of_mem _ hy
      · rw [List.mem_singleton.1 hy]; exact List.mem_cons_self)
    have h2 : lifeObj x = .cells #[.slice x.p NR x.c, .int .i64 x.cut, .slice x.q x.keep.length x.k] 33 := by unfold lifeObj; rw [HNR.out]
    rw [h2] at h1
    rw [h2]
    exact h1
  rintro A ⟨hA, bA⟩
  obtain ⟨BX, hBX⟩ : ∃ BX, BX = w.heap.size := ⟨_, rfl⟩
  rw [← hBX] at hA ⊢
  have hm := (HK.out.fr A (fun y hy => hA.all y (List.mem_append_left _ hy))).toM
  have HA := Lib.hid hA; have HM := Lib.hid hm
  have HBA := Lib.hid (HB.out.trans (bA.mono HB.out.size))
  have hBXlo : W.heap.size ≤ BX := by rw [hBX]; exact HB.out.size
  clear hA bA hm hBX
  go_wp2_with (go_at_call 26; fail)
  refine (copyFrames_any had _ A (by rw [HNH.out]; have := HFEW.out.1; have := HNH.out; omega) (fun f hf => by have := HSH.out f hf; omega) HM.out).mono ?_
  rintro e w2 ⟨hv2, vs2, rfl, hfr2, b2⟩
  obtain ⟨q2, c2, rfl, -⟩ := hfr2.sl9 HNH.out
  obtain ⟨L2, hk2, hl2⟩ := hfr2.keeps
  have hw2 : WaL W.heap.size w2 b g d E false (L2 ++ [(BX, lifeObj x)]) := (HA.out.more b2 (L' := L2) (fun y hy => ⟨(hfr2.blk (hk2.on y hy)).1, hl2 y hy⟩)).fewer (fun y hy => by
    rcases List.mem_append.1 hy with hy | hy
    · exact List.mem_append_left _ hy
    · exact List.mem_append_right _ (List.mem_append_right _ hy))
  have HW2 := Lib.hid hw2
  have HK2 := Lib.hid (hk2.lower HBA.out.size)
  have HB2 := Lib.hid (HBA.out.trans (b2.mono HBA.out.size))
  have hbx2 := hw2.all _ (List.mem_append_right _ List.mem_cons_self)
  have c1 : w2.cell? ⟨BX, 1, none⟩ = some (.int .i64 x.cut) := by rw [cell_of_row w2 BX 1 _ _ _ hbx2]; rfl
  have harm := hw2.arm HB2.out.size (pc : Int) (by omega)
  have HARM := Lib.hid harm
  clear hfr2 b2 hk2 hl2 hw2 hbx2 harm
  go_wp2_with (first
    | (go_at_call 15; refine (HPK w2).out.mono ?_; rintro e w2p ⟨rfl, rfl⟩)
    | (go_at_call 21; fail))
  refine HARM.out.mono ?_
  rintro e w3 ⟨rfl, hi3, hb3⟩
  have H0 : Hid (LifR W.heap.size W b g BX x 65536 d.count NH 0 (.slice q2 NH c2) vs2 (d.arm (pc : Int)) E segs NH had L2 w3) := ⟨hi3, by have := HLV.out.armed (pc : Int); rwa [HNH.out] at this, HCALM.out.down, HK2.out, HB2.out.trans hb3, HROOM.out, Nat.le_refl _, by rw [HNH.out]; exact Nat.le_refl _, HSH.out⟩
  clear hi3 hb3 HARM c1
  go_wp2_with fail
  go_loopg [11, 12, 13] 20 (fun gk s11 s12 s13 wx => ∃ (k : Nat) (hv : Value) (vs : List Value) (dk : DiskM) (Ek : Nat) (sg : Nat → List RowW) (must : Nat) (all : List RowW) (L : List (Nat × Obj)), k + gk = 20 ∧ s13 = .int .i64 (k : Int) ∧ s12 = .int .i64 (must : Int) ∧ s11 = hv ∧ k ≤ NR ∧ LifR W.heap.size W b g BX x 65536 d.count NH k hv vs dk Ek sg must all L wx)
  case atStart => exact ⟨0, _, vs2, _, E, segs, NH, had, L2, by omega, rfl, rfl, rfl, Nat.zero_le _, H0.out⟩
  case round =>
    clear H0
    obtain ⟨k, hv, vs, dk, Ek, sg, must, all, L, hkg, rfl, rfl, rfl, hkN, hI⟩ := hrel
    have HI := Lib.hid hI
    have hfr := hI.list.fr _ (fun y hy => hI.log.all y (List.mem_append_left _ hy))
    obtain ⟨NA, hNA⟩ : ∃ NA, all.length = NA := ⟨_, rfl⟩
    obtain ⟨q5, c5, rfl, -⟩ := hfr.sl9 hNA
    have HNA := Lib.hid hNA
    have hbx := hI.log.all _ (List.mem_append_right _ List.mem_cons_self)
    have cB0 : wr.cell? ⟨BX, 0, none⟩ = some (.slice x.p NR x.c) := by rw [cell_of_row wr BX 0 _ _ _ hbx, ← HNR.out]; rfl
    by_cases hlt : k < NR ∧ k < 20
    · obtain ⟨hlt1, hlt2⟩ := hlt
      obtain ⟨g1, rfl⟩ : ∃ g1, gk = g1 + 1 := ⟨gk - 1, by omega⟩
      obtain ⟨o, hok⟩ : ∃ o, x.rows[k]? = some o := ⟨_, List.getElem?_eq_getElem (by rw [HNR.out]; exact hlt1)⟩
      obtain ⟨b0, off, hp, hb0, hcs⟩ := HO.out.cellsAt hok (by show 0 < 3; decide)
      have HCS := Lib.hid hcs
      have HP0 := Lib.hid hp
      have HBL0 := Lib.hid hb0
      rw [hp] at cB0
      have k0 := hcs wr _ hI.below hb0 0 _ rfl
      have k1 := hcs wr _ hI.below hb0 1 _ rfl
      have k2 := hcs wr _ hI.below hb0 2 _ rfl
      have qk1 : (k : Int) < (NR : Int) := by omega
      have qk2 : (k : Int) < 20 := by omega
      have HFM := Lib.hid (rowFrame_any o.kd o.sz o.sy k wr (by omega))
      have HK20 : Hid (k < 20 ∧ True) := ⟨hlt2, trivial⟩
      clear hI hfr hNA hcs hok hb0 hlt2 hp hbx
      go_wp2_with (first | (refine wpList_runL (by rfl) (run_loadRowL rfl rfl k0 k1 k2) ?_) | (go_at_call 17; fail))
      refine HFM.out.mono ?_
      rintro e w4 ⟨b4, v, rfl, ho⟩
      obtain ⟨ql, cl, rfl, hcl, -, -⟩ := ho.slN (rowBs_length o.sz k)
      have hps := pickZ_lt o.sz 900 (by decide)
      obtain ⟨M, hM⟩ : ∃ M, M = pickZ o.sz 900 := ⟨_, rfl⟩
      rw [← hM] at ho hps ⊢
      have HLM : Hid ((rowBs o.sz k).length = M) := show _ = _ by rw [rowBs_length, hM]
      have HO4 := Lib.hid ho; have HB4 := Lib.hid b4
      clear ho b4 hM k0 k1 k2 HFM cB0
      go_upto_region 8 with (fail)
      refine wp_gen (fun A => Below wr.heap.size wr A ∧ FrC A w4.heap.size (.int .i64 (1 + (pickZ o.kd 254 : Int))) (.slice ql M cl) ∧ Below w4.heap.size w4 A) ⟨HB4.out.trans (((Below.refl _ _).alloc (Nat.le_refl _) _).mono HB4.out.size), heap_new_at rfl, (Below.refl _ _).alloc (Nat.le_refl _) _⟩ ?_
      rintro A ⟨bA, fA, bA4⟩
      obtain ⟨Lf, hw5, hnf, hlf⟩ := HI.out.log.newF HI.out.below.size bA HB4.out.size fA (HO4.out.below bA4) HLM.out
      obtain ⟨F, hFF⟩ : ∃ F, F = w4.heap.size := ⟨_, rfl⟩
      rw [← hFF] at fA hnf ⊢
      have HW5 : Hid (WaL W.heap.size A b g dk Ek false ((L ++ Lf) ++ [(BX, lifeObj x)])) := show WaL _ _ _ _ _ _ _ _ from hw5.fewer (fun y hy => by
        rcases List.mem_append.1 hy with hy | hy
        · rcases List.mem_append.1 hy with hy | hy
          · exact List.mem_append_left _ (List.mem_append_left _ hy)
          · exact List.mem_append_right _ hy
        · exact List.mem_append_left _ (List.mem_append_right _ hy))
      have HBA := Lib.hid (HI.out.below.trans (bA.mono HI.out.below.size))
      have HDJ : Hid (∀ x ∈ Lf, ∀ y ∈ L, y.1 ≠ x.1) := show ∀ x ∈ Lf, ∀ y ∈ L, _ from fun x hx y hy e => by
        have h1 := (hlf x hx).1
        have h2 := (Array.getElem?_eq_some_iff.1 (HI.out.log.all y (List.mem_append_left _ hy))).1
        omega
      obtain ⟨f0, f1, -⟩ := fA.cells
      have hcall := HW5.out.append HBA.out.size HG.out (HR.out.on HBA.out) (by have := HI.out.count; have := HK20.out.1; have := HCNT.out.1; omega) (1 + (pickZ o.kd 254 : Int)) (rowBs o.sz k) M cl ql HLM.out (by omega) (fun w' h _ => (hnf.fr w' (fun x hx => h x (List.mem_append_left _ (List.mem_append_right _ hx)))).2.lieW)
      have hstep := append_live HI.out.live HI.out.on (1 + (pickZ o.kd 254 : Int)) (rowF_kind o.kd) (rowF o.kd o.sz k) ⟨(rowF_ok o.kd o.sz k).1, by have := (rowF_ok o.kd o.sz k).2; omega⟩
      have hcn := appendW_count dk Ek false (1 + (pickZ o.kd 254 : Int)) (rowF o.kd o.sz k)
      have hcall : Calls Tryd.prog 16 #[.pointer (some ⟨b, 0, none⟩), .int .i64 (1 + (pickZ o.kd 254 : Int)), .slice ql M cl] A fun r w' => r = .returned (.int .i64 (appendW dk Ek false (1 + (pickZ o.kd 254 : Int)) (rowF o.kd o.sz k)).e) ∧ WaL W.heap.size w' b g (appendW dk Ek false (1 + (pickZ o.kd 254 : Int)) (rowF o.kd o.sz k)).d (appendW dk Ek false (1 + (pickZ o.kd 254 : Int)) (rowF o.kd o.sz k)).E (appendW dk Ek false (1 + (pickZ o.kd 254 : Int)) (rowF o.kd o.sz k)).dead ((L ++ Lf) ++ [(BX, lifeObj x)]) ∧ Below W.heap.size A w' := hcall
      have HKD : Hid (n8 (rowF o.kd o.sz k).1 = 1 + (pickZ o.kd 254 : Int)) := show _ = _ from rowF_n8 o.kd o.sz k
      have HFS : Hid ((rowF o.kd o.sz k).2.length ≤ 2039) := show _ ≤ _ by have := (rowF_ok o.kd o.sz k).2; omega
      have HNF : Hid (NewF W.heap.size Lf F (1 + (pickZ o.kd 254 : Int)) ql M cl (rowF o.kd o.sz k).2) := show NewF _ _ _ _ _ _ _ _ from hnf
      have hrm := appendW_room dk Ek false (1 + (pickZ o.kd 254 : Int)) (rowF o.kd o.sz k)
      clear bA fA bA4 hw5 hnf hlf hFF
      generalize rowF o.kd o.sz k = f at hcall hstep hcn hrm HKD HFS HNF
      generalize 1 + (pickZ o.kd 254 : Int) = z at hcall hstep hcn hrm HKD HNF f0 ⊢
      obtain ⟨r, hr⟩ : ∃ r, r = appendW dk Ek false z f := ⟨_, rfl⟩
      rw [← hr] at hcall hcn hstep hrm
      obtain ⟨d2, E2, dd, e2⟩ := r
      simp only at hcall hcn hrm
      have HCN := Lib.hid (And.intro hcn trivial)
      have HRM : Hid (d2.room = 65536) := show _ = _ from hrm.trans HI.out.room
      have HCALL := Lib.hid hcall
      have HST := Lib.hid hstep
      have he := hstep.e
      simp only at he
      clear hcall hcn hstep hr hrm
      go_wp2_with (go_at_call 16; fail)
      rcases he with rfl | rfl | rfl
      · obtain ⟨s1, s2, sg2, s3⟩ := HST.out.ok rfl
        simp only at s1 s2 s3
        subst s1
        have HON2 := Lib.hid s2; have HLV2 := Lib.hid s3
        clear s2 s3
        refine HCALL.out.mono ?_
        rintro e w6 ⟨rfl, hi6, hb6⟩
        have HI6 := Lib.hid hi6
        have HB6 := Lib.hid (HBA.out.trans hb6)
        clear hi6 hb6 HCALL f0 f1
        have hfr6 := HI.out.list.fr w6 (fun x hx => HI6.out.all x (List.mem_append_left _ (List.mem_append_left _ hx)))
        have hrow := hfr6.rows
        rw [HNA.out] at hrow
        have HROW := Lib.hid hrow
        obtain ⟨fC6, -⟩ := HNF.out.fr w6 (fun x hx => HI6.out.all x (List.mem_append_left _ (List.mem_append_right _ hx)))
        have HBXN : Hid (∀ j, (Value.slice q5 NA c5).ownBlock = some j → ∀ y ∈ [(BX, lifeObj x)], y.1 ≠ j) := show ∀ j, _ → ∀ y ∈ _, _ from fun j e y hy => by
          rw [List.mem_singleton.1 hy]
          intro e2
          have hbx6 := HI6.out.all _ (List.mem_append_right _ List.mem_cons_self)
          rcases HROW.out.2 with ⟨h0, _⟩ | ⟨g', cap', cur', he', _, hh', _⟩
          · rw [h0] at e; cases e
          · rw [he'] at e
            have e3 : g' = j := by simpa [Value.ownBlock] using e
            have e2 : BX = j := e2
            rw [e3, ← e2, hbx6] at hh'
            unfold lifeObj at hh'
            cases hh'
        have h2c : ∀ u ∈ [Value.int .i64 z, .slice ql M cl], u.oneCell' = true := by
          intro u hu
          simp only [List.mem_cons, List.not_mem_nil, or_false] at hu
          rcases hu with rfl | rfl <;> rfl
        have hs6 := HB6.out.size
        have hNA6 : NA ≤ 1000000 := by have := HI.out.few; have := HNA.out; have := HK20.out.1; have := HFEW.out.1; have := HNH.out; omega
        clear hfr6 hrow
        go_upto_region 11 with (fail)
        refine wp_region_lit ?_
        refine wpList_runL (by rfl) (run_move rfl rfl _) ?_
        refine wpList_runL (by rfl) (run_loadFrW rfl rfl fC6) ?_
        refine wpList_runL (by rfl) (frT.run_one rfl rfl rfl _) ?_
        refine frT.wpList_append (base := W.heap.size) (n := NA) (C := #[.int .i64 z, .slice ql M cl]) (by rfl) rfl rfl (HROW.out.alloc _) rfl (heap_new_at rfl) rfl h2c hNA6 (by rw [size_alloc]; omega) ?_
        intro v7 w7 hrow7 hg7 ho7
        have hba : Below w6.heap.size w6 (w6.alloc (.cells #[.int .i64 z, .slice ql M cl] 46)) := (Below.refl _ _).alloc (Nat.le_refl _) _
        have hb7 : Below W.heap.size W w7 := (HB6.out.trans (hba.mono HB6.out.size)).grown hg7 (by rw [size_alloc]; omega) (fun j e => (World.ownsRow.lt HROW.out j e).1)
        obtain ⟨L7, k7, i7⟩ := HI6.out.snoc2 (f := f) HI.out.list HNF.out HDJ.out HBXN.out (by rw [HNA.out, HKD.out]; exact hrow7) hg7 ho7
        obtain ⟨q7, c7, rfl, -⟩ := (k7.fr w7 (fun y hy => i7.all y (List.mem_append_left _ hy))).sl9 (n := NA + 1) (by rw [List.length_append, HNA.out]; rfl)
        have HK7 := Lib.hid k7; have HI7 := Lib.hid i7; have HB7 := Lib.hid hb7
        have HSH7 : Hid (∀ f' ∈ all ++ [f], f'.2.length ≤ 2039) := show ∀ f' ∈ _, _ from fun f' hf' => by
          rcases List.mem_append.1 hf' with hf' | hf'
          · exact HI.out.short f' hf'
          · rw [List.mem_singleton.1 hf']; exact HFS.out
        clear hrow7 hg7 ho7 hba hb7 k7 i7 fC6 HROW h2c hs6 hNA6
        go_frame
        have k2 := HCS.out w7 _ HB7.out HBL0.out 2 _ rfl
        have cB0 : w7.cell? ⟨BX, 0, none⟩ = some (.slice (some ⟨b0, off, none⟩) NR x.c) := by rw [cell_of_row w7 BX 0 _ _ _ (HI7.out.all _ (List.mem_append_right _ List.mem_cons_self)), ← HNR.out, ← HP0.out]; rfl
        have k2 : w7.cell? ⟨b0, off + k * 3 + 2, none⟩ = some (.bool o.sy) := k2
        cases hsy : o.sy with
        | false =>
          rw [hsy] at k2
          go_wp2_with fail
          go_roundg g1
          case measure => omega
          case rel => exact ⟨k + 1, _, _, d2, E2, sg2, must, _, L7, by omega, by first | rfl | simp, rfl, rfl, by omega, ⟨HI7.out, HLV2.out, HON2.out, HK7.out, HB7.out, HRM.out, by have := HI.out.count; have := HCN.out.1; omega, by have := HI.out.few; rw [List.length_append]; simp only [List.length_singleton]; omega, HSH7.out⟩⟩
        | true =>
          rw [hsy] at k2
          have HSY := Lib.hid (HI7.out.sync HB7.out.size (by have := HI.out.count; have := HK20.out.1; have := HCNT.out.1; have := HCN.out.1; omega))
          have HSC := Lib.hid (And.intro (syncW_count d2 E2 false) trivial)
          have hsl := sync_live HLV2.out HON2.out
          have hsr := syncW_room d2 E2 false
          have HSR : Hid ((syncW d2 E2 false).d.room = 65536) := show _ = _ from hsr.trans HRM.out
          clear hsr
          go_wp2_with (go_at_call 22; fail)
          rcases hsl with ⟨y1, y2, y3, y4, y5⟩ | ⟨y1, y2, y3, y4⟩
          · have HY1 := Lib.hid y1; have HY2 := Lib.hid y2; have HY3 := Lib.hid y3; have HY5 := Lib.hid y5
            clear y1 y2 y3 y4 y5 k2 cB0
            refine HSY.out.mono ?_
            rintro e w8 ⟨rfl, hi8, hb8⟩
            rw [HY1.out]
            rw [HY2.out] at hi8
            have HI8 := Lib.hid hi8; have HB8 := Lib.hid (HB7.out.trans hb8)
            clear hi8 hb8
            go_wp2_with fail
            go_roundg g1
            case measure => omega
            case rel => exact ⟨k + 1, _, _, (syncW d2 E2 false).d, E2, sg2, (all ++ [f]).length, _, L7, by omega, by first | rfl | simp, by rw [List.length_append, HNA.out]; simp, rfl, by omega, ⟨HI8.out, HY5.out, HY3.out, HK7.out, HB8.out, HSR.out, by have := HI.out.count; have := HCN.out.1; have := HSC.out.1; omega, by have := HI.out.few; rw [List.length_append]; simp only [List.length_singleton]; omega, HSH7.out⟩⟩
          · have HY1 := Lib.hid y1; have HY2 := Lib.hid y2; have HY3 := Lib.hid y3; have HY4 := Lib.hid y4
            clear y1 y2 y3 y4 k2 cB0
            refine HSY.out.mono ?_
            rintro e w8 ⟨rfl, hi8, hb8⟩
            rw [HY1.out]
            rw [HY2.out] at hi8
            have HI8 := Lib.hid hi8; have HB8 := Lib.hid (HB7.out.trans hb8)
            have HCT : Hid ((syncW d2 E2 false).d.count ≤ d.count + 100 ∧ True) := show _ ∧ _ from ⟨by have := HI.out.count; have := HCN.out.1; have := HSC.out.1; have := HK20.out.1; omega, trivial⟩
            clear hi8 hb8
            generalize (syncW d2 E2 false).d = d8 at HI8 HY3 HY4 HCT HSR
            have had9 : appendW d8 E2 true 1 (kb 1, []) = ⟨d8, E2, true, 9⟩ := if_pos (Or.inl rfl)
            have hsd9 : syncW d8 E2 true = ⟨d8, E2, true, 9⟩ := if_pos (Or.inl rfl)
            have HDN := Lib.hid HI8.out.down
            rw [HY3.out] at HDN
            have hc9 := HI8.out.append HB8.out.size HG.out (HR.out.on HB8.out) (by have := HCT.out.1; have := HCNT.out.1; omega) 1 [] 0 0 none rfl (by decide) (fun _ _ _ => Or.inl rfl)
            rw [had9] at hc9
            have HC9 := Lib.hid hc9
            clear had9 hc9
            go_wp2_with (first | (go_at_call 23; refine HDN.out.mono ?_; rintro e wq ⟨rfl, rfl⟩) | (go_at_call 16; fail))
            refine HC9.out.mono ?_
            rintro e w9 ⟨rfl, hi9, hb9⟩
            have hi9 : WaL W.heap.size w9 b g d8 E2 true (L7 ++ [(BX, lifeObj x)]) := hi9
            have HI9 := Lib.hid hi9; have HB9 := Lib.hid (HB8.out.trans hb9)
            have hc10 := hi9.sync HB9.out.size (by have := HCT.out.1; have := HCNT.out.1; omega)
            rw [hsd9] at hc10
            have HC10 := Lib.hid hc10
            clear hi9 hb9 hsd9 hc10
            go_wp2_with (go_at_call 22; fail)
            refine HC10.out.mono ?_
            rintro e w10 ⟨rfl, hi10, hb10⟩
            have hi10 : WaL W.heap.size w10 b g d8 E2 true (L7 ++ [(BX, lifeObj x)]) := hi10
            have HI10 := Lib.hid (hi10.fewer (L' := L7) (fun y hy => List.mem_append_left _ hy)); have HB10 := Lib.hid (HB9.out.trans hb10)
            clear hi10 hb10
            go_wp2_with fail
            go_ret3
            exact ⟨_, _, d8, E2, true, must, all ++ [f], L7, rfl, ⟨HI10.out, HY4.out, HK7.out, HB10.out, HSR.out, HCT.out.1, by have := HI.out.few; have := HK20.out.1; have := HNH.out; rw [List.length_append]; simp only [List.length_singleton]; omega, HSH7.out⟩⟩
      · have hfull := HST.out.full rfl
        simp only [WaRes.mk.injEq, and_true] at hfull
        obtain ⟨y1, y2, y3⟩ := hfull
        subst y1 y2 y3
        refine HCALL.out.mono ?_
        rintro e w6 ⟨rfl, hi6, hb6⟩
        have HI6 : Hid (WaL W.heap.size w6 b g d2 E2 false L) := show WaL _ _ _ _ _ _ _ _ from WaL.fewer hi6 (fun y hy => List.mem_append_left _ (List.mem_append_left _ hy))
        have HB6 := Lib.hid (HBA.out.trans hb6)
        clear hi6 hb6 f0 f1
        go_wp2_with fail
        go_ret3
        exact ⟨_, vs, d2, E2, false, must, all, L, rfl, ⟨HI6.out, HI.out.live.dead, HI.out.list, HB6.out, HI.out.room, by have := HI.out.count; have := HK20.out.1; omega, by have := HI.out.few; have := HK20.out.1; have := HNH.out; omega, HI.out.short⟩⟩
      · obtain ⟨s1, s2, s3⟩ := HST.out.down rfl
        simp only at s1 s2 s3
        subst s1
        have HY3 := Lib.hid s2; have HY4 := Lib.hid s3
        clear s2 s3
        refine HCALL.out.mono ?_
        rintro e w6 ⟨rfl, hi6, hb6⟩
        have HI6 := Lib.hid hi6
        have HB6 := Lib.hid (HBA.out.trans hb6)
        clear hi6 hb6 HCALL f0 f1
        have hfr6 := HI.out.list.fr w6 (fun x hx => HI6.out.all x (List.mem_append_left _ (List.mem_append_left _ hx)))
        have hrow := hfr6.rows
        rw [HNA.out] at hrow
        have HROW := Lib.hid hrow
        obtain ⟨fC6, -⟩ := HNF.out.fr w6 (fun x hx => HI6.out.all x (List.mem_append_left _ (List.mem_append_right _ hx)))
        have HBXN : Hid (∀ j, (Value.slice q5 NA c5).ownBlock = some j → ∀ y ∈ [(BX, lifeObj x)], y.1 ≠ j) := show ∀ j, _ → ∀ y ∈ _, _ from fun j e y hy => by
          rw [List.mem_singleton.1 hy]
          intro e2
          have hbx6 := HI6.out.all _ (List.mem_append_right _ List.mem_cons_self)
          rcases HROW.out.2 with ⟨h0, _⟩ | ⟨g', cap', cur', he', _, hh', _⟩
          · rw [h0] at e; cases e
          · rw [he'] at e
            have e3 : g' = j := by simpa [Value.ownBlock] using e
            have e2 : BX = j := e2
            rw [e3, ← e2, hbx6] at hh'
            unfold lifeObj at hh'
            cases hh'
        have h2c : ∀ u ∈ [Value.int .i64 z, .slice ql M cl], u.oneCell' = true := by
          intro u hu
          simp only [List.mem_cons, List.not_mem_nil, or_false] at hu
          rcases hu with rfl | rfl <;> rfl
        have hs6 := HB6.out.size
        have hNA6 : NA ≤ 1000000 := by have := HI.out.few; have := HNA.out; have := HK20.out.1; have := HFEW.out.1; have := HNH.out; omega
        clear hfr6 hrow
        go_upto_region 11 with (fail)
        refine wp_region_lit ?_
        refine wpList_runL (by rfl) (run_move rfl rfl _) ?_
        refine wpList_runL (by rfl) (run_loadFrW rfl rfl fC6) ?_
        refine wpList_runL (by rfl) (frT.run_one rfl rfl rfl _) ?_
        refine frT.wpList_append (base := W.heap.size) (n := NA) (C := #[.int .i64 z, .slice ql M cl]) (by rfl) rfl rfl (HROW.out.alloc _) rfl (heap_new_at rfl) rfl h2c hNA6 (by rw [size_alloc]; omega) ?_
        intro v7 w7 hrow7 hg7 ho7
        have hba : Below w6.heap.size w6 (w6.alloc (.cells #[.int .i64 z, .slice ql M cl] 46)) := (Below.refl _ _).alloc (Nat.le_refl _) _
        have hb7 : Below W.heap.size W w7 := (HB6.out.trans (hba.mono HB6.out.size)).grown hg7 (by rw [size_alloc]; omega) (fun j e => (World.ownsRow.lt HROW.out j e).1)
        obtain ⟨L7, k7, i7⟩ := HI6.out.snoc2 (f := f) HI.out.list HNF.out HDJ.out HBXN.out (by rw [HNA.out, HKD.out]; exact hrow7) hg7 ho7
        obtain ⟨q7, c7, rfl, -⟩ := (k7.fr w7 (fun y hy => i7.all y (List.mem_append_left _ hy))).sl9 (n := NA + 1) (by rw [List.length_append, HNA.out]; rfl)
        have HK7 := Lib.hid k7; have HI7 := Lib.hid i7; have HB7 := Lib.hid hb7
        have HSH7 : Hid (∀ f' ∈ all ++ [f], f'.2.length ≤ 2039) := show ∀ f' ∈ _, _ from fun f' hf' => by
          rcases List.mem_append.1 hf' with hf' | hf'
          · exact HI.out.short f' hf'
          · rw [List.mem_singleton.1 hf']; exact HFS.out
        clear hrow7 hg7 ho7 hba hb7 k7 i7 fC6 HROW h2c hs6 hNA6
        have HSR := HRM
        have HCT : Hid (d2.count ≤ d.count + 100 ∧ True) := show _ ∧ _ from ⟨by have := HI.out.count; have := HCN.out.1; have := HK20.out.1; omega, trivial⟩
        have HI8 := HI7
        have HB8 := HB7
        obtain ⟨w8, hw8⟩ : ∃ w8, w8 = w7 := ⟨_, rfl⟩
        obtain ⟨d8, hd8⟩ : ∃ d8, d8 = d2 := ⟨_, rfl⟩
        subst hw8 hd8
        go_frame
        have had9 : appendW d8 E2 true 1 (kb 1, []) = ⟨d8, E2, true, 9⟩ := if_pos (Or.inl rfl)
        have hsd9 : syncW d8 E2 true = ⟨d8, E2, true, 9⟩ := if_pos (Or.inl rfl)
        have HDN := Lib.hid HI8.out.down
        rw [HY3.out] at HDN
        have hc9 := HI8.out.append HB8.out.size HG.out (HR.out.on HB8.out) (by have := HCT.out.1; have := HCNT.out.1; omega) 1 [] 0 0 none rfl (by decide) (fun _ _ _ => Or.inl rfl)
        rw [had9] at hc9
        have HC9 := Lib.hid hc9
        clear had9 hc9
        go_wp2_with (first | (go_at_call 23; refine HDN.out.mono ?_; rintro e wq ⟨rfl, rfl⟩) | (go_at_call 16; fail))
        refine HC9.out.mono ?_
        rintro e w9 ⟨rfl, hi9, hb9⟩
        have hi9 : WaL W.heap.size w9 b g d8 E2 true (L7 ++ [(BX, lifeObj x)]) := hi9
        have HI9 := Lib.hid hi9; have HB9 := Lib.hid (HB8.out.trans hb9)
        have hc10 := hi9.sync HB9.out.size (by have := HCT.out.1; have := HCNT.out.1; omega)
        rw [hsd9] at hc10
        have HC10 := Lib.hid hc10
        clear hi9 hb9 hsd9 hc10
        go_wp2_with (go_at_call 22; fail)
        refine HC10.out.mono ?_
        rintro e w10 ⟨rfl, hi10, hb10⟩
        have hi10 : WaL W.heap.size w10 b g d8 E2 true (L7 ++ [(BX, lifeObj x)]) := hi10
        have HI10 := Lib.hid (hi10.fewer (L' := L7) (fun y hy => List.mem_append_left _ hy)); have HB10 := Lib.hid (HB9.out.trans hb10)
        clear hi10 hb10
        go_wp2_with fail
        go_ret3
        exact ⟨_, _, d8, E2, true, must, all ++ [f], L7, rfl, ⟨HI10.out, HY4.out, HK7.out, HB10.out, HSR.out, HCT.out.1, by have := HI.out.few; have := HK20.out.1; have := HNH.out; rw [List.length_append]; simp only [List.length_singleton]; omega, HSH7.out⟩⟩
    · have hx : ¬ (k : Int) < (NR : Int) ∨ (k : Int) < (NR : Int) ∧ ¬ (k : Int) < 20 := by omega
      have HK20 : Hid (k ≤ 20 ∧ True) := ⟨by omega, trivial⟩
      have HI6 : Hid (WaL W.heap.size wr b g dk Ek false L) := show WaL _ _ _ _ _ _ _ _ from hI.log.fewer (fun y hy => List.mem_append_left _ hy)
      clear hI hfr hNA hbx hlt
      rcases hx with qk1 | ⟨qk1, qk2⟩
      · go_wp2_with fail
        go_ret3
        exact ⟨_, vs, dk, Ek, false, must, all, L, rfl, ⟨HI6.out, HI.out.live.dead, HI.out.list, HI.out.below, HI.out.room, by have := HI.out.count; have := HK20.out.1; omega, by have := HI.out.few; have := HK20.out.1; have := HNH.out; omega, HI.out.short⟩⟩
      · go_wp2_with fail
        go_ret3
        exact ⟨_, vs, dk, Ek, false, must, all, L, rfl, ⟨HI6.out, HI.out.live.dead, HI.out.list, HI.out.below, HI.out.room, by have := HI.out.count; have := HK20.out.1; omega, by have := HI.out.few; have := HK20.out.1; have := HNH.out; omega, HI.out.short⟩⟩
end Go.Proofs.YteanjfcejpibaaaDoor

/-
  WalLasts: wherever the power fails, and whatever a crash keeps, life for life: what is opened tells all rows that were synced, and behind them the first ones of the rest.
-/
namespace Go.Proofs.YteanjfcejpibaaaDoor
open Go.RowKit Go.Proofs.ShaWords
theorem run_loadLife3 {ρ : Operand → Value} {o : Oper} {x : Operand} {bb off : Nat} {u v t : Value} {w : World} (ho : o.op = .load 33 x) (hx : ρ x = .pointer (some ⟨bb, off, none⟩)) (h0 : w.cell? ⟨bb, off + 0, none⟩ = some u) (h1 : w.cell? ⟨bb, off + 1, none⟩ = some v) (h2 : w.cell? ⟨bb, off + 2, none⟩ = some t) : (execOp ρ o).run Tryd.prog w = .ok (.value (.agg #[u, v, t])) w := by
  have hl := run_loadAt_mid (P := Tryd.prog) w bb off 33 [u, v, t] _ (fun j y hy => by
    match j, hy with
    | 0, hy => simp only [List.getElem?_cons_zero, Option.some.injEq] at hy; subst hy; exact h0
    | 1, hy => simp only [List.getElem?_cons_succ, List.getElem?_cons_zero, Option.some.injEq] at hy; subst hy; exact h1
    | 2, hy => simp only [List.getElem?_cons_succ, List.getElem?_cons_zero, Option.some.injEq] at hy; subst hy; exact h2) Tryd.underlying33 rfl (show (Tryd.prog.info? 33).map (·.size) = some 3 by kernel_rfl)
  unfold execOp
  simp only [ho, hx, Sem.run_bind, hl, Result.andThen_ok, Sem.run_pure]
theorem DkL.small {lo g : Nat} {d : DiskM} {w : World} {L : List (Nat × Obj)} (h : DkL lo w g d L) (hr : d.room < 100000) (s : Nat) (h2 : s ≤ 32) : (d.files s).all.length < 100000 := by
  have hu := h.ok.used
  have hle := sumTo_le d.files s 33 (by omega)
  unfold DiskM.used at hu
  omega
/-- Between two lives. -/
structure LasR (W : World) (b g k : Nat) (hv : Value) (vs : List Value) (d : DiskM) (E : Nat) (segs : Nat → List RowW) (rows : List RowW) (L : List (Nat × Obj)) (A : World) : Prop where
  log : WaL W.heap.size A b g d E false L
  live : LiveW d E segs rows.length rows
  calm : d.Calm
  list : FrK W.heap.size L hv vs rows
  below : Below W.heap.size W A
  room : d.room = 65536
  count : d.count ≤ 33 + 200 * k
  few : rows.length ≤ 20 * k
  short : ∀ f ∈ rows, f.2.length ≤ 2039
def LasP (W : World) (e : Ending) (w' : World) : Prop := e = .returned (.bool true) ∧ Below W.heap.size W w'
set_option maxRecDepth 1000000 in
set_option maxHeartbeats 4000000 in
theorem walLasts_any (os : List InLife) (N c : Nat) (p : Option Addr) (w : World) (hN : os.length = N) (hO : RowOf 3 InLife.cells w p os) (hok : ∀ o ∈ os, o.Ok w) (hR : Rem w) :
    Calls Tryd.prog 3 #[.slice p N c] w fun e w' => LasP w e w' := by
  have HO := Lib.hid hO
  have HN := Lib.hid hN
  have HOK := Lib.hid hok
  have HR := Lib.hid hR
  have HG := Lib.hid hR.size
  clear hO hN hok hR
  go_enter Tryd.func3, Tryd.ntmps3
  go_wp2_with fail
  refine (dkNewL 65536 w).mono ?_
  rintro e w1 ⟨g, rfl, hi, hb⟩
  have HI1 := Lib.hid hi; have HB1 := Lib.hid hb; clear hi hb
  go_wp2_with fail
  refine (HI1.out.open HB1.out.size (HR.out.on HB1.out) (calm_new _) (by rw [new_count]; decide) (fun _ => []) [] (new_log 65536) (fun s _ _ => new_small _ s)).mono ?_
  rintro e w2 ⟨b, hv, vs, d0, L', rfl, hi, hb, hfr, hk, hF, hcalm, hroom, hcnt⟩
  obtain ⟨q0, c0, rfl, -⟩ := hfr.sl9 (n := 0) rfl
  obtain ⟨kn, -, -⟩ := kn_open hF hcalm
  have H0 : Hid (LasR w b g 0 (.slice q0 0 c0) vs d0 0 (fun _ => []) [] L' w2) := ⟨hi.fewer (fun x hx => List.mem_append_left _ hx), kn.live, hcalm, hk.lower HB1.out.size, HB1.out.trans hb, hroom, by rw [new_count] at hcnt; omega, Nat.zero_le _, by simp⟩
  clear hi hb hfr hk hF hcalm hroom hcnt kn HI1 HB1
  go_wp2_with fail
  go_loopg [4, 5, 7] 4 (fun gk s4 s5 s7 wx => ∃ (k : Nat) (b : Nat) (hv : Value) (vs : List Value) (d : DiskM) (E : Nat) (segs : Nat → List RowW) (rows : List RowW) (L : List (Nat × Obj)), k + gk = 4 ∧ s7 = .int .i64 (k : Int) ∧ s4 = .pointer (some ⟨b, 0, none⟩) ∧ s5 = hv ∧ k ≤ N ∧ LasR w b g k hv vs d E segs rows L wx)
  case atStart => exact ⟨0, b, _, vs, d0, 0, _, [], L', by omega, rfl, rfl, rfl, Nat.zero_le _, H0.out⟩
  case round =>
    clear H0
    obtain ⟨k, b, hv, vs, d, E, segs, rows, L, hkg, rfl, rfl, rfl, hkN, hI⟩ := hrel
    have hfr := hI.list.fr _ hI.log.all
    obtain ⟨NA, hNA⟩ : ∃ NA, rows.length = NA := ⟨_, rfl⟩
    obtain ⟨q5, c5, rfl, -⟩ := hfr.sl9 hNA
    have HI := Lib.hid hI
    have HNA := Lib.hid hNA
    by_cases hlt : k < N ∧ k < 4
    · obtain ⟨hlt1, hlt2⟩ := hlt
      obtain ⟨g1, rfl⟩ : ∃ g1, gk = g1 + 1 := ⟨gk - 1, by omega⟩
      obtain ⟨o, ho⟩ : ∃ o, os[k]? = some o := ⟨_, List.getElem?_eq_getElem (by rw [HN.out]; exact hlt1)⟩
      have HOO := Lib.hid (HOK.out o (List.mem_of_getElem? ho))
      obtain ⟨b0, off, hp, hb0, hcs⟩ := HO.out.cellsAt ho (by show 0 < 3; decide)
      have HCS := Lib.hid hcs; have HBL0 := Lib.hid hb0
      subst hp
      have k0 : wr.cell? ⟨b0, off + k * 3 + 0, none⟩ = some (.slice o.p o.rows.length o.c) := hcs wr _ hI.below hb0 0 _ rfl
      have k1 : wr.cell? ⟨b0, off + k * 3 + 1, none⟩ = some (.int .i64 o.cut) := hcs wr _ hI.below hb0 1 _ rfl
      have k2 : wr.cell? ⟨b0, off + k * 3 + 2, none⟩ = some (.slice o.q o.keep.length o.k) := hcs wr _ hI.below hb0 2 _ rfl
      have qk1 : (k : Int) < (N : Int) := by omega
      have qk2 : (k : Int) < 4 := by omega
      have HK4 : Hid (k < 4 ∧ True) := ⟨hlt2, trivial⟩
      by_cases hlong : 100 < o.keep.length
      · have ql : (100 : Int) < (o.keep.length : Int) := by omega
        clear hI hfr hNA hcs ho hb0 hlt2 hlong
        go_wp2_with (go_at_call 9; fail)
        refine (known10_any wr (HR.out.on HI.out.below)).mono ?_
        rintro e w2 ⟨rfl, hb2⟩
        have HB2 := Lib.hid (HI.out.below.trans (hb2.mono HI.out.below.size))
        clear hb2
        go_wp2_with fail
        go_ret
        exact ⟨rfl, HB2.out⟩
      · have ql : ¬ (100 : Int) < (o.keep.length : Int) := by omega
        have HLV := Lib.hid (lives_any w b g E o d segs rows _ vs L wr hI.log hI.list hI.live hI.calm hI.below hI.room (by have := hI.count; omega) (by have := hI.few; omega) hI.short HOO.out.rows HR.out)
        clear hI hfr hNA hcs ho hb0 hlt2 hlong
        go_wp2_with (first | (refine wpList_runL (by rfl) (run_loadLife3 rfl rfl k0 k1 k2) ?_) | (go_at_call 10; fail))
        refine HLV.out.mono ?_
        rintro e w3 ⟨hvA, vsA, dA, EA, deadA, must, all, LA, rfl, hA⟩
        obtain ⟨NL, hNL⟩ : ∃ NL, all.length = NL := ⟨_, rfl⟩
        obtain ⟨qA, cA, rfl, hcA⟩ := (hA.list.fr _ hA.log.all).sl9 hNL
        have HNL := Lib.hid hNL; have HA := Lib.hid hA
        have HDK := Lib.hid hA.log.dk
        have k2 : w3.cell? ⟨b0, off + k * 3 + 2, none⟩ = some (.slice o.q o.keep.length o.k) := HCS.out w3 _ hA.below HBL0.out 2 _ rfl
        have HCR := Lib.hid (hA.log.dk.crashIn (n := o.keep.length) (c := o.k) hA.below HOO.out.keep rfl HOO.out.cap)
        clear hNL hA k0 k1 HLV
        go_wp2_with (go_at_call 11; fail)
        refine HCR.out.mono ?_
        rintro e w4 ⟨rfl, hi4, hb4⟩
        obtain ⟨E2, segs2, r2, hlog2, hpre, hmust, hdur⟩ := HA.out.left.crashed HDK.out.ok o.keep
        have HLOG2 := Lib.hid hlog2; have HPRE := Lib.hid hpre; have HMUST := Lib.hid hmust; have HDUR := Lib.hid hdur
        have HI4 := Lib.hid hi4; have HB4 := Lib.hid (HA.out.below.trans hb4)
        clear hi4 hb4 hlog2 hpre hmust hdur HCR k2
        go_wp2_with (go_at_call 8; fail)
        refine (HI4.out.open HB4.out.size (HR.out.on HB4.out) (calm_crash _ _) (show dA.count < _ by have := HA.out.count; have := HI.out.count; have := HK4.out.1; omega) segs2 r2 HLOG2.out (fun s _ h2 => HI4.out.small (show dA.room < _ by have := HA.out.room; omega) s h2)).mono ?_
        rintro e w5 ⟨b5, hv5, vs5, d5, L5, rfl, hi5, hb5, hfr5, hk5, hF5, hc5, hr5, hn5⟩
        obtain ⟨NW, hNW⟩ : ∃ NW, (rowsW segs2 E2).length = NW := ⟨_, rfl⟩
        obtain ⟨q6, c6, rfl, -⟩ := hfr5.sl9 hNW
        have hle : NW ≤ NL := by rw [← hNW, ← HNL.out]; exact HPRE.out.length_le
        have hmust := HMUST.out
        rw [hNW] at hmust
        have hm5 := hfr5.toM
        have hmA := ((HA.out.list.fr w5 (fun x hx => hi5.all x (List.mem_append_right _ hx))).toM).take NW hle
        have htk : all.take NW = rowsW segs2 E2 := by rw [← hNW]; exact (List.prefix_iff_eq_take.1 HPRE.out).symm
        rw [htk] at hmA
        have HM5 := Lib.hid hm5; have HMA := Lib.hid hmA
        have HSHN : Hid (∀ f ∈ rowsW segs2 E2, f.2.length ≤ 2039) := show ∀ f ∈ _, _ from fun f hf => HA.out.short f (HPRE.out.subset hf)
        have HLVN := Lib.hid (LiveW.opened (d := d5) HLOG2.out HDUR.out hF5)
        have HI5 : Hid (WaL w.heap.size w5 b5 g d5 E2 false L5) := show WaL _ _ _ _ _ _ _ _ from hi5.fewer (fun x hx => List.mem_append_left _ hx)
        have HK5 := Lib.hid (hk5.lower HB4.out.size)
        have HB5 := Lib.hid (HB4.out.trans hb5)
        have HC5 := Lib.hid hc5
        have HR5 : Hid (d5.room = 65536) := show _ = _ from hr5.trans HA.out.room
        have HN5 : Hid (d5.count ≤ 33 + 200 * (k + 1) ∧ True) := show _ ∧ _ from ⟨by
          have h1 : d5.count ≤ dA.count + 33 := hn5
          have := HA.out.count; have := HI.out.count; omega, trivial⟩
        have HNW := Lib.hid hNW
        have HFW : Hid (NW ≤ 20 * (k + 1) ∧ True) := show _ ∧ _ from ⟨by have := HA.out.few; have := HI.out.few; have := HNL.out; omega, trivial⟩
        have HSHAPE : Hid ((qA = none ∧ NL = 0 ∧ cA = 0) ∨ ∃ gA, qA = some ⟨gA, 0, none⟩) := show _ ∨ _ from by
          have hrw := (HA.out.list.fr w5 (fun x hx => hi5.all x (List.mem_append_right _ hx))).rows
          rcases hrw.2 with ⟨h0, h1⟩ | ⟨gA, cap, cur, he, _⟩
          · cases h0
            exact Or.inl ⟨rfl, by first | rfl | (have := HNL.out; omega), rfl⟩
          · cases he
            exact Or.inr ⟨gA, rfl⟩
        have qm1 : ¬ (NW : Int) < (must : Int) := by omega
        have qm2 : ¬ (NL : Int) < (NW : Int) := by omega
        have qm3 : (NW : Int) ≤ (NL : Int) := by omega
        have qm4 : (NL : Int) ≤ (cA : Int) := by omega
        clear hi5 hb5 hfr5 hk5 hF5 hc5 hr5 hn5 hNW hm5 hmA htk hmust hle
        rcases HSHAPE.out with ⟨e1, e2, e3⟩ | ⟨gA, e1⟩
        · subst e1 e2 e3
          obtain rfl : NW = 0 := by omega
          go_wp2_with (go_at_call 12; fail)
          refine (sameFramesM_any (rowsW segs2 E2) _ _ w5 (by rw [HNW.out]; have := HFW.out.1; have := HK4.out.1; omega) (fun f hf => by have := HSHN.out f hf; omega) HM5.out HMA.out).mono ?_
          rintro e w6 ⟨rfl, hb6⟩
          have HI6 := Lib.hid (HI5.out.below hb6)
          have HB6 := Lib.hid (HB5.out.trans (hb6.mono HB5.out.size))
          clear hb6
          go_wp2_with fail
          go_roundg g1
          case measure => omega
          case rel => exact ⟨k + 1, b5, _, vs5, d5, E2, segs2, _, L5, by omega, by first | rfl | simp, rfl, rfl, by omega, ⟨HI6.out, HLVN.out, HC5.out, HK5.out, HB6.out, HR5.out, HN5.out.1, by rw [HNW.out]; exact HFW.out.1, HSHN.out⟩⟩
        · subst e1
          go_wp2_with (go_at_call 12; fail)
          refine (sameFramesM_any (rowsW segs2 E2) _ _ w5 (by rw [HNW.out]; have := HFW.out.1; have := HK4.out.1; omega) (fun f hf => by have := HSHN.out f hf; omega) HM5.out HMA.out).mono ?_
          rintro e w6 ⟨rfl, hb6⟩
          have HI6 := Lib.hid (HI5.out.below hb6)
          have HB6 := Lib.hid (HB5.out.trans (hb6.mono HB5.out.size))
          clear hb6
          go_wp2_with fail
          go_roundg g1
          case measure => omega
          case rel => exact ⟨k + 1, b5, _, vs5, d5, E2, segs2, _, L5, by omega, by first | rfl | simp, rfl, rfl, by omega, ⟨HI6.out, HLVN.out, HC5.out, HK5.out, HB6.out, HR5.out, HN5.out.1, by rw [HNW.out]; exact HFW.out.1, HSHN.out⟩⟩
    · have hx : ¬ (k : Int) < (N : Int) ∨ (k : Int) < (N : Int) ∧ ¬ (k : Int) < 4 := by omega
      clear hI hfr hNA hlt
      rcases hx with qk1 | ⟨qk1, qk2⟩
      · go_wp2_with (go_at_call 9; fail)
        refine (known10_any wr (HR.out.on HI.out.below)).mono ?_
        rintro e w2 ⟨rfl, hb2⟩
        have HB2 := Lib.hid (HI.out.below.trans (hb2.mono HI.out.below.size))
        clear hb2
        go_wp2_with fail
        go_ret
        exact ⟨rfl, HB2.out⟩
      · go_wp2_with (go_at_call 9; fail)
        refine (known10_any wr (HR.out.on HI.out.below)).mono ?_
        rintro e w2 ⟨rfl, hb2⟩
        have HB2 := Lib.hid (HI.out.below.trans (hb2.mono HI.out.below.size))
        clear hb2
        go_wp2_with fail
        go_ret
        exact ⟨rfl, HB2.out⟩
end Go.Proofs.YteanjfcejpibaaaDoor

/-
  WalLasts, for any lives: the law returns true, and what came in reads afterwards as it read before; the package's table starts as the program's own text lays it (the tie is given).
-/
namespace Go.Proofs.YteanjfcejpibaaaDoor
open Go.ChangeShapes Go.WideShapes Go.ChangeAt Go.RowKit Go.Proofs.ShaWords

set_option maxRecDepth 100000 in
theorem walLasts_lifted (os : Os) (started : os.Started) (H : Type) (enc : TypeId × Value → H) :
    ReturnsInHanded {} Tryd.checked os 3 .any (fun w args => (Rows.walLastsSpec.pre enc Tryd.prog Tryd.f3 [] false w args ∧ laidMetH Tryd.prog laid10 w) ∧ sizedMet enc Tryd.prog Tryd.f3 (OpenSpec.ofChange Rows.walLastsSpec) false w args)
      (Rows.walLastsSpec.post enc Tryd.prog Tryd.f3 false true false false) := by
  refine returnsInHanded_of_change_and (C := Tryd.checked) (X := fun w _ => laidMetH Tryd.prog laid10 w) (fun _ _ _ hh h => h.of_heap hh) own started (by kernel_rfl) Tryd.func3
    (ChangeSpec.witness_shaped (enc := enc) (C := Tryd.checked) (os := os) (X := fun w _ => laidMetH Tryd.prog laid10 w) false (World.doorLaid Tryd.prog 400 os) #[.slice none 0 0] 8 rfl (World.shaped_of_RefB (by kernel_rfl) (by kernel_rfl)) (by kernel_rfl) (by kernel_rfl) (by kernel_rfl) (door_met10 os _)) ?_
  intro W base args ds gs before hval0 hW _ hsz hL _
  have hW' := hW
  obtain ⟨p, q, hA0, hV, rfl, hfz, hnd⟩ := hW
  have hA : DataW.TrodAll enc Tryd.prog W 0 (fun _ => true) true Tryd.f3.params.toList args.toList ds p := hA0
  have hval : ∀ (j : Nat) t v, Tryd.f3.params[j]? = some t → args[j]? = some v → Value.okWide Tryd.prog W .any base t v := hval0
  have hsz2 : (DataW.weightsEach Tryd.prog (Tryd.f3.params.toList ++ Rows.walLastsSpec.plain.varTypes Tryd.prog) (ds ++ gs)).all (· ≤ reachBytes) = true := hsz
  rw [Tryd.params3] at hA hval hsz2
  obtain ⟨v0, vs0, d0, ds0, p0, q0, hargs, rfl, rfl, h0, r0⟩ := trodAll_cons hA
  obtain ⟨rfl, rfl, rfl⟩ := trodAll_nil r0
  obtain rfl : args = #[v0] := by cases args; simp_all
  obtain ⟨rfl, rfl⟩ := trodVars_none hV
  obtain ⟨a0, len0, cap0, rfl⟩ := okWide_slice Tryd.underlying22 (hval 0 22 v0 rfl rfl)
  have k0 := h0
  have lt0 : ∀ x ∈ p0, x.block < W.heap.size := by obtain ⟨m, hm⟩ := k0; exact DataW.trod_lt m _ _ _ hm
  obtain ⟨f0, hf0⟩ := h0
  obtain ⟨os0, hx0a, hx0b, hx0c, hx0d⟩ := open_inlives hf0
  have hQ := of_laid10 hL
  clear hA0 hval0
  refine (walLasts_any os0 len0 cap0 a0 W hx0a hx0c hx0d hQ).mono fun e W' ⟨he, bel⟩ => ?_
  subst he
  exact ⟨_, rfl, _, _, _, [], _, [], hW', trodAll_mk1 (shut_bool Tryd.underlying4 _), (trodAll_cons_mk (Below.trod laidOut (by kernel_rfl) (of_decide_eq_true (by kernel_rfl)) k0 bel lt0) trodAll_mk0), rfl, bel.frame _, fun h => by cases h⟩

theorem walLasts_holds : Rows.WalLastsSaid :=
  OpenClaim.holds_of_wide 3 Tryd.f3 rfl rfl rfl rfl rfl rfl rfl ⟨rfl, rfl, rfl, rfl, rfl⟩ rfl rfl rfl rfl rfl (by kernel_rfl) Tryd.func3 (by kernel_rfl)
    (of_decide_eq_true (by kernel_rfl)) (by unfold Func.isWrapper; first | (rw [if_pos (by decide +kernel)]; kernel_rfl) | (rw [if_neg (by decide +kernel)]; exact ⟨rfl, rfl⟩))
    (fun os started H enc _ => walLasts_lifted os started H enc)

theorem walLasts_card : Rows.WalLastsCardSaid :=
  Claim7.holds_tied_plain_at .later [] [.data] true Rows.walLastsCard.stood.harness false
    walLasts_holds (fun _ h => by cases h) (by kernel_rfl) (fun _ h => by cases h) walLasts_row_tie rfl ⟨rfl, rfl⟩ (by kernel_rfl) rfl
    (fun f fn hf hfn => by
      obtain rfl : f = 3 := Option.some.inj (hf.symm.trans (show _ = some 3 by kernel_rfl))
      obtain rfl : fn = Tryd.f3 := (Option.some.inj (Tryd.func3.symm.trans hfn)).symm
      exact ⟨by kernel_rfl, fun j t ht => by
        rw [Tryd.params3] at ht
        have hm : t ∈ [22] := by simpa using Array.mem_of_getElem? ht
        have hall : ([22].all fun u => !Tryd.prog.wantsStandIn u) = true := by kernel_rfl
        exact (show Tryd.prog.wantsStandIn t = false by simpa using List.all_eq_true.1 hall t hm)⟩)
    (by kernel_rfl)
#print axioms walLasts_card
end Go.Proofs.YteanjfcejpibaaaDoor
