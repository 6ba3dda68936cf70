/-
  The contract of poly.bytesOf: the sixteen lowest bytes of a number.
-/
import Derived.Test.YtagkkihnfipfeaaDoorPoNormal
import Derived.Test.YtagkkihnfipfeaaDoorPhase
namespace Go.Proofs.YtagkkihnfipfeaaDoor
open Go.RowKit Go.Proofs.ShaWords
attribute [local go_sem] or64 shl64_26 shl64_52 shl64_14 shl64_40 shr64_12 shr64 wrap8_n64
/-- The two halves of a number's sixteen bytes. -/
def lowOf (n : List (BitVec 64)) : BitVec 64 := n.getD 0 0#64 ||| n.getD 1 0#64 <<< 26 ||| n.getD 2 0#64 <<< 52
def highOf (n : List (BitVec 64)) : BitVec 64 := n.getD 2 0#64 >>> 12 ||| n.getD 3 0#64 <<< 14 ||| n.getD 4 0#64 <<< 40
def zeros16 : List (BitVec 8) := List.replicate 16 0#8
/-- The first k bytes of each half laid. -/
def layK (lo hi : BitVec 64) : Nat → List (BitVec 8)
  | 0 => zeros16
  | k + 1 => ((layK lo hi k).set k (low8 (lo >>> (8 * k)))).set (8 + k) (low8 (hi >>> (8 * k)))
theorem layK_zero (lo hi : BitVec 64) : layK lo hi 0 = zeros16 := rfl
theorem layK_succ (lo hi : BitVec 64) (k : Nat) : layK lo hi (k + 1) = ((layK lo hi k).set k (low8 (lo >>> (8 * k)))).set (8 + k) (low8 (hi >>> (8 * k))) := rfl
theorem layK_length (lo hi : BitVec 64) (k : Nat) : (layK lo hi k).length = 16 := by
  induction k with
  | zero => rfl
  | succ k ih => rw [layK_succ, List.length_set, List.length_set, ih]
/-- The bytes of a number. -/
def tagOf (x : List (BitVec 64)) : List (BitVec 8) := layK (lowOf (normL x 5)) (highOf (normL x 5)) 8
theorem tagOf_length (x : List (BitVec 64)) : (tagOf x).length = 16 := layK_length _ _ _
theorem zeros16_eq : (bytesV zeros16).toArray = #[Value.int .u8 0, Value.int .u8 0, Value.int .u8 0, Value.int .u8 0, Value.int .u8 0, Value.int .u8 0, Value.int .u8 0, Value.int .u8 0, Value.int .u8 0, Value.int .u8 0, Value.int .u8 0, Value.int .u8 0, Value.int .u8 0, Value.int .u8 0, Value.int .u8 0, Value.int .u8 0] := rfl
theorem infoTag (l : List (BitVec 8)) (h : l.length = 16) : (Tryd.prog.info? 46).map (·.size) = some (bytesV l).toArray.size :=
  (show (Tryd.prog.info? 46).map (·.size) = some 16 by kernel_rfl).trans (congrArg some (bytesV_size _ 16 h).symm)
/-- The number's block, the result's. -/
structure BofN (w : World) (n : List (BitVec 64)) (wr : World) : Prop where
  n : LimbsAt wr w.heap.size tNum n
  res : BytesAt wr (w.heap.size + 1) 46 zeros16
  below : Below w.heap.size w wr
theorem BofN.on {w wr w' : World} {n : List (BitVec 64)} (h : BofN w n wr) (hb : Below wr.heap.size wr w') : BofN w n w' := ⟨h.n.keep hb, h.res.keep hb, h.below.trans (hb.mono h.below.size)⟩
theorem BofN.row {w wr : World} {n m : List (BitVec 64)} (h : BofN w n wr) : BofN w m (wr.setRow w.heap.size (limbsV m).toArray) :=
  ⟨setRow_heap _ _ _ _ _ _ h.n, h.res.past (grown_setRow _ _ _) (by omega), below_setRow h.below (Nat.le_refl _) _⟩
/-- .., and the block that is laid, made later. -/
structure LayN (w : World) (g : Nat) (t : List (BitVec 8)) (wr : World) : Prop where
  t : BytesAt wr g 46 t
  res : BytesAt wr (w.heap.size + 1) 46 zeros16
  below : Below w.heap.size w wr
  later : w.heap.size + 1 < g
theorem LayN.set {w wr : World} {g : Nat} {t : List (BitVec 8)} (h : LayN w g t wr) (k : Nat) (v : BitVec 8) : LayN w g (t.set k v) (wr.setCell ⟨g, k, none⟩ (.int .u8 (n8 v))) :=
  ⟨h.t.put k v, h.res.putOther (by have := h.later; omega) _ _, h.below.setCell (show w.heap.size ≤ g by have := h.later; omega) _, h.later⟩
theorem LayN.drew {w wr : World} {g : Nat} {t : List (BitVec 8)} (h : LayN w g t wr) : LayN w g t wr.drew := ⟨h.t, h.res, h.below.trans (((Below.refl _ _).drew).mono h.below.size), h.later⟩

section
variable {ρ : Operand → Value} {o : Oper} {x y : Operand} {w : World}
theorem run_ixTag {g k : Nat} (ho : o.op = .indexAddr 46 x y) (hx : ρ x = .pointer (some ⟨g, 0, none⟩)) (hy : ρ y = .int .i64 (k : Int)) (hk : k < 16) (w : World) :
    (execOp ρ o).run Tryd.prog w = .ok (.value (.pointer (some ⟨g, k, none⟩))) w := by
  obtain ⟨dst, op, ty', pos, after, guard⟩ := o
  simp only at ho
  subst ho
  have q : (k : Int) < 16 := by omega
  go_simp
theorem run_mul8i {k s : Nat} (ho : o.op = .binOp .mul 3 (.const (.int .i64 8)) y 3) (hc : ρ (.const (.int .i64 8)) = .int .i64 8) (hy : ρ y = .int .i64 (k : Int)) (hs : 8 * k = s) (hk : s < 1000) (w : World) :
    (execOp ρ o).run Tryd.prog w = .ok (.value (.int .i64 (s : Int))) w := by
  obtain ⟨dst, op, ty', pos, after, guard⟩ := o
  simp only at ho
  subst ho
  have q : IntKind.i64.wrap (8 * (k : Int)) = (s : Int) := by rw [IntWalk.i64_in _ (by omega)]; omega
  go_simp
theorem run_add8i {k s : Nat} (ho : o.op = .binOp .add 3 (.const (.int .i64 8)) y 3) (hc : ρ (.const (.int .i64 8)) = .int .i64 8) (hy : ρ y = .int .i64 (k : Int)) (hs : 8 + k = s) (hk : s < 1000) (w : World) :
    (execOp ρ o).run Tryd.prog w = .ok (.value (.int .i64 (s : Int))) w := by
  obtain ⟨dst, op, ty', pos, after, guard⟩ := o
  simp only at ho
  subst ho
  have q : IntKind.i64.wrap (8 + (k : Int)) = (s : Int) := by rw [IntWalk.i64_in _ (by omega)]; omega
  go_simp
theorem run_shr64v {a : BitVec 64} {s : Nat} (ho : o.op = .binOp .shr 69 x y 3) (hx : ρ x = .int .u64 (n64 a)) (hy : ρ y = .int .i64 (s : Int)) (hs : s < 64) (w : World) :
    (execOp ρ o).run Tryd.prog w = .ok (.value (.int .u64 (n64 (a >>> s)))) w := by
  obtain ⟨dst, op, ty', pos, after, guard⟩ := o
  simp only at ho
  subst ho
  have h := shr64 a s
  have q : ¬ (64 : Int) ≤ (s : Int) := by omega
  have q0 : 0 ≤ (s : Int) := by omega
  go_simp
theorem run_cnv64 {a : BitVec 64} (ho : o.op = .convert 69 5 x) (hx : ρ x = .int .u64 (n64 a)) (w : World) : (execOp ρ o).run Tryd.prog w = .ok (.value (.int .u8 (n8 (low8 a)))) w := by
  obtain ⟨dst, op, ty', pos, after, guard⟩ := o
  simp only at ho
  subst ho
  have h := wrap8_n64 a
  go_simp
end

attribute [local irreducible] normL normO nought5 lowOf highOf layK zeros16
set_option maxRecDepth 100000 in
set_option maxHeartbeats 1000000 in
theorem bytesOf_any (x : List (BitVec 64)) (w : World) (hx : x.length = 5) :
    Calls Tryd.prog 45 #[.agg (limbsV x).toArray] w fun e w' => e = .returned (.agg (bytesV (tagOf x)).toArray) ∧ Below w.heap.size w w' := by
  have HX := Lib.hid hx
  have HN := Lib.hid ((normL_length x 5).trans hx); clear hx
  have HT : Hid (tagOf x = layK (lowOf (normL x 5)) (highOf (normL x 5)) 8) := show _ = _ from rfl
  have HLO : Hid (lowOf (normL x 5) = (normL x 5).getD 0 0#64 ||| (normL x 5).getD 1 0#64 <<< 26 ||| (normL x 5).getD 2 0#64 <<< 52) := show _ = _ by unfold lowOf; rfl
  have HHI : Hid (highOf (normL x 5) = (normL x 5).getD 2 0#64 >>> 12 ||| (normL x 5).getD 3 0#64 <<< 14 ||| (normL x 5).getD 4 0#64 <<< 40) := show _ = _ by unfold highOf; rfl
  go_enter Tryd.func45, Tryd.ntmps45
  go_upto_region 1 with (fail)
  refine wp_gen (BofN w x) ?_ ?_
  · exact ⟨LimbsAt.keep (w := w.alloc _) (heap_alloc_new w _) ((Below.refl _ _).alloc (Nat.le_refl _) _), by show _ = some (Obj.cells (bytesV zeros16).toArray _ _); rw [zeros16_eq]; exact heap_new_at (by simp), ((Below.refl _ _).alloc (Nat.le_refl _) _).alloc (by simp) _⟩
  intro w0 hw0
  have HROW := Lib.hid hw0.n
  have HI := Lib.hid (info5n _ HX.out)
  have HW0 := Lib.hid hw0; clear hw0
  go_wp2_with (refine wpList_load_row rfl 71 (.tmp 1) rfl w.heap.size rfl tNum _ (0, 0) _ HROW.out Tryd.underlying71 rfl HI.out ?_)
  refine (normal_any x w0 HX.out).mono ?_
  rintro e w1 ⟨rfl, hb⟩
  have HW1 := Lib.hid (HW0.out.on hb); clear hb HW0 HROW HI
  generalize normL x 5 = l1 at HN HLO HHI HT ⊢
  have HI1 := Lib.hid (info5n _ HN.out)
  have HOLD1 := Lib.hid (show (limbsV x).toArray.size = (limbsV l1).toArray.size by rw [limbsV_size _ 5 HX.out, limbsV_size _ 5 HN.out])
  have HONE1 := Lib.hid (limbsV_one l1)
  have HROW1 := Lib.hid HW1.out.n
  go_upto_region 2 with (refine wpList_store_row rfl 71 (.tmp 1) (.tmp 10) rfl w.heap.size _ rfl rfl tNum _ HROW1.out HI1.out HOLD1.out HONE1.out ?_)
  refine wp_gen (BofN w l1) HW1.out.row ?_
  clear HW1 HROW1 HOLD1 HONE1 HI1
  intro w2 hw2
  have c0 := hw2.n.cell 0 (by rw [HN.out]; omega)
  have c1 := hw2.n.cell 1 (by rw [HN.out]; omega)
  have c2 := hw2.n.cell 2 (by rw [HN.out]; omega)
  have c3 := hw2.n.cell 3 (by rw [HN.out]; omega)
  have c4 := hw2.n.cell 4 (by rw [HN.out]; omega)
  have HW2 := Lib.hid hw2; clear hw2
  generalize lowOf l1 = lo at HLO HT
  generalize highOf l1 = hi at HHI HT
  generalize l1.getD 0 0#64 = x0 at c0 HLO
  generalize l1.getD 1 0#64 = x1 at c1 HLO
  generalize l1.getD 2 0#64 = x2 at c2 HLO HHI
  generalize l1.getD 3 0#64 = x3 at c3 HHI
  generalize l1.getD 4 0#64 = x4 at c4 HHI
  go_upto_region 4 with (fail)
  rw [← HLO.out, ← HHI.out]
  clear c0 c1 c2 c3 c4 HLO HHI
  have HL := Lib.hid (layK_length lo hi)
  go_upto_region 5 with (fail)
  refine wp_gen (LayN w w2.heap.size (layK lo hi 0)) ?_ ?_
  · rw [layK_zero]
    have hw3 := HW2.out.on ((Below.refl _ _).alloc (Nat.le_refl _) (.cells (bytesV zeros16).toArray 46))
    rw [zeros16_eq] at hw3
    exact ⟨by show _ = some (Obj.cells (bytesV zeros16).toArray _ _); rw [zeros16_eq]; exact heap_new_at rfl, hw3.res, hw3.below, HW2.out.res.size⟩
  clear HW2
  generalize w2.heap.size = g
  intro w3 hw3
  have HW3 := Lib.hid hw3; clear hw3
  go_wp2_with fail
  go_loopw [33] (fun i wr => ∃ k : Nat, k ≤ 8 ∧ i = .int .i64 k ∧ LayN w g (layK lo hi k) wr) (fun i _ => 8 - (intOf i).toNat)
  case atStart => exact ⟨0, by omega, rfl, HW3.out⟩
  case round =>
    clear HW3
    obtain ⟨k, hk, rfl, hw⟩ := hrel
    by_cases hlt : k < 8
    · have HS := Lib.hid (layK_succ lo hi k)
      have HLK := Lib.hid (HL.out k)
      generalize layK lo hi k = l at hw HS HLK
      have c0 := hw.t.cell k (by rw [HLK.out]; omega)
      have c1 := (hw.drew.set k (low8 (lo >>> (8 * k)))).t.cell (8 + k) (by rw [List.length_set, HLK.out]; omega)
      have cf := hw.t.frozenAt k
      have cf1 := (hw.drew.set k (low8 (lo >>> (8 * k)))).t.frozenAt (8 + k)
      have HW := Lib.hid hw; clear hw
      generalize l.getD k 0#8 = u at c0
      generalize (l.set k (low8 (lo >>> (8 * k)))).getD (8 + k) 0#8 = u1 at c1
      have q0 : (k : Int) < 8 := by omega
      obtain ⟨s, hs⟩ : ∃ s, s = 8 * k := ⟨_, rfl⟩
      obtain ⟨d, hd⟩ : ∃ d, d = 8 + k := ⟨_, rfl⟩
      rw [← hs] at c1 cf1 HS
      rw [← hd] at c1 cf1 HS
      have HSE := Lib.hid hs.symm
      have HDE := Lib.hid hd.symm
      go_upto_region 8 with (fail)
      refine region_phase (fun _ => True) (fun _ => True) 14 trivial trivial [(0, .free), (1, .free), (2, .free), (3, .free), (4, .free), (5, .free), (6, .free), (7, .free), (8, .free), (9, .free), (10, .free), (11, .free), (12, .free), (13, .free), (14, .behind), (15, .free), (16, .behind)] (by kernel_rfl) (by kernel_rfl) (by kernel_rfl) (by kernel_rfl) (fun ops hops A hA => ?_)
      have hsz : A.tmps.size = 53 := by rw [hA]; rfl
      have base3 : A.eval (.tmp 3) = .int .u64 (n64 lo) := by rw [hA]; rfl
      have base4 : A.eval (.tmp 4) = .int .u64 (n64 hi) := by rw [hA]; rfl
      have base5 : A.eval (.tmp 5) = .pointer (some ⟨g, 0, none⟩) := by rw [hA]; rfl
      have base6 : A.eval (.tmp 6) = .int .i64 (k : Int) := by rw [hA]; rfl
      have HAA := Lib.hid hA; clear hA
      obtain ⟨o0, po0, q0, d0, gd0⟩ : ∃ o, ops[0]? = some o ∧ o.op = .move (.tmp 6) ∧ o.dst = some 36 ∧ o.guard = none := ⟨_, by rw [hops]; rfl, rfl, rfl, rfl⟩
      obtain ⟨o1, po1, q1, d1, gd1⟩ : ∃ o, ops[1]? = some o ∧ o.op = .move (.tmp 6) ∧ o.dst = some 37 ∧ o.guard = none := ⟨_, by rw [hops]; rfl, rfl, rfl, rfl⟩
      obtain ⟨o2, po2, q2, d2, gd2⟩ : ∃ o, ops[2]? = some o ∧ o.op = .binOp .add 3 (.const (.int .i64 8)) (.tmp 37) 3 ∧ o.dst = some 38 ∧ o.guard = none := ⟨_, by rw [hops]; rfl, rfl, rfl, rfl⟩
      obtain ⟨o3, po3, q3, d3, gd3⟩ : ∃ o, ops[3]? = some o ∧ o.op = .move (.tmp 3) ∧ o.dst = some 39 ∧ o.guard = none := ⟨_, by rw [hops]; rfl, rfl, rfl, rfl⟩
      obtain ⟨o4, po4, q4, d4, gd4⟩ : ∃ o, ops[4]? = some o ∧ o.op = .move (.tmp 6) ∧ o.dst = some 40 ∧ o.guard = none := ⟨_, by rw [hops]; rfl, rfl, rfl, rfl⟩
      obtain ⟨o5, po5, q5, d5, gd5⟩ : ∃ o, ops[5]? = some o ∧ o.op = .binOp .mul 3 (.const (.int .i64 8)) (.tmp 40) 3 ∧ o.dst = some 41 ∧ o.guard = none := ⟨_, by rw [hops]; rfl, rfl, rfl, rfl⟩
      obtain ⟨o6, po6, q6, d6, gd6⟩ : ∃ o, ops[6]? = some o ∧ o.op = .binOp .shr 69 (.tmp 39) (.tmp 41) 3 ∧ o.dst = some 42 ∧ o.guard = none := ⟨_, by rw [hops]; rfl, rfl, rfl, rfl⟩
      obtain ⟨o7, po7, q7, d7, gd7⟩ : ∃ o, ops[7]? = some o ∧ o.op = .convert 69 5 (.tmp 42) ∧ o.dst = some 43 ∧ o.guard = none := ⟨_, by rw [hops]; rfl, rfl, rfl, rfl⟩
      obtain ⟨o8, po8, q8, d8, gd8⟩ : ∃ o, ops[8]? = some o ∧ o.op = .move (.tmp 4) ∧ o.dst = some 44 ∧ o.guard = none := ⟨_, by rw [hops]; rfl, rfl, rfl, rfl⟩
      obtain ⟨o9, po9, q9, d9, gd9⟩ : ∃ o, ops[9]? = some o ∧ o.op = .move (.tmp 6) ∧ o.dst = some 45 ∧ o.guard = none := ⟨_, by rw [hops]; rfl, rfl, rfl, rfl⟩
      obtain ⟨o10, po10, q10, d10, gd10⟩ : ∃ o, ops[10]? = some o ∧ o.op = .binOp .mul 3 (.const (.int .i64 8)) (.tmp 45) 3 ∧ o.dst = some 46 ∧ o.guard = none := ⟨_, by rw [hops]; rfl, rfl, rfl, rfl⟩
      obtain ⟨o11, po11, q11, d11, gd11⟩ : ∃ o, ops[11]? = some o ∧ o.op = .binOp .shr 69 (.tmp 44) (.tmp 46) 3 ∧ o.dst = some 47 ∧ o.guard = none := ⟨_, by rw [hops]; rfl, rfl, rfl, rfl⟩
      obtain ⟨o12, po12, q12, d12, gd12⟩ : ∃ o, ops[12]? = some o ∧ o.op = .convert 69 5 (.tmp 47) ∧ o.dst = some 48 ∧ o.guard = none := ⟨_, by rw [hops]; rfl, rfl, rfl, rfl⟩
      obtain ⟨o13, po13, q13, d13, gd13⟩ : ∃ o, ops[13]? = some o ∧ o.op = .indexAddr 46 (.tmp 5) (.tmp 36) ∧ o.dst = some 49 ∧ o.guard = none := ⟨_, by rw [hops]; rfl, rfl, rfl, rfl⟩
      obtain ⟨o14, po14, q14, d14, gd14⟩ : ∃ o, ops[14]? = some o ∧ o.op = .store 5 (.tmp 49) (.tmp 43) ∧ o.dst = none ∧ o.guard = none := ⟨_, by rw [hops]; rfl, rfl, rfl, rfl⟩
      obtain ⟨o15, po15, q15, d15, gd15⟩ : ∃ o, ops[15]? = some o ∧ o.op = .indexAddr 46 (.tmp 5) (.tmp 38) ∧ o.dst = some 50 ∧ o.guard = none := ⟨_, by rw [hops]; rfl, rfl, rfl, rfl⟩
      obtain ⟨o16, po16, q16, d16, gd16⟩ : ∃ o, ops[16]? = some o ∧ o.op = .store 5 (.tmp 50) (.tmp 48) ∧ o.dst = none ∧ o.guard = none := ⟨_, by rw [hops]; rfl, rfl, rfl, rfl⟩
      clear hops
      refine met_free po0 d0 (wanted_of gd0) (fun w' _ => run_move q0 base6 w') ?_
      refine met_free po1 d1 (wanted_of gd1) (fun w' _ => run_move q1 ((eval_other _ 36 6 _ (by decide)).trans base6) w') ?_
      refine met_free po2 d2 (wanted_of gd2) (fun w' _ => run_add8i (s := d) q2 rfl (eval_same _ _ _ (by simp only [put_size, hsz]; decide)) HDE.out (by omega) w') ?_
      refine met_free po3 d3 (wanted_of gd3) (fun w' _ => run_move q3 ((eval_other _ 38 3 _ (by decide)).trans ((eval_other _ 37 3 _ (by decide)).trans ((eval_other _ 36 3 _ (by decide)).trans base3))) w') ?_
      refine met_free po4 d4 (wanted_of gd4) (fun w' _ => run_move q4 ((eval_other _ 39 6 _ (by decide)).trans ((eval_other _ 38 6 _ (by decide)).trans ((eval_other _ 37 6 _ (by decide)).trans ((eval_other _ 36 6 _ (by decide)).trans base6)))) w') ?_
      refine met_free po5 d5 (wanted_of gd5) (fun w' _ => run_mul8i (s := s) q5 rfl (eval_same _ _ _ (by simp only [put_size, hsz]; decide)) HSE.out (by omega) w') ?_
      refine met_free po6 d6 (wanted_of gd6) (fun w' _ => run_shr64v q6 ((eval_other _ 41 39 _ (by decide)).trans ((eval_other _ 40 39 _ (by decide)).trans (eval_same _ _ _ (by simp only [put_size, hsz]; decide)))) (eval_same _ _ _ (by simp only [put_size, hsz]; decide)) (by omega) w') ?_
      refine met_free po7 d7 (wanted_of gd7) (fun w' _ => run_cnv64 q7 (eval_same _ _ _ (by simp only [put_size, hsz]; decide)) w') ?_
      refine met_free po8 d8 (wanted_of gd8) (fun w' _ => run_move q8 ((eval_other _ 43 4 _ (by decide)).trans ((eval_other _ 42 4 _ (by decide)).trans ((eval_other _ 41 4 _ (by decide)).trans ((eval_other _ 40 4 _ (by decide)).trans ((eval_other _ 39 4 _ (by decide)).trans ((eval_other _ 38 4 _ (by decide)).trans ((eval_other _ 37 4 _ (by decide)).trans ((eval_other _ 36 4 _ (by decide)).trans base4)))))))) w') ?_
      refine met_free po9 d9 (wanted_of gd9) (fun w' _ => run_move q9 ((eval_other _ 44 6 _ (by decide)).trans ((eval_other _ 43 6 _ (by decide)).trans ((eval_other _ 42 6 _ (by decide)).trans ((eval_other _ 41 6 _ (by decide)).trans ((eval_other _ 40 6 _ (by decide)).trans ((eval_other _ 39 6 _ (by decide)).trans ((eval_other _ 38 6 _ (by decide)).trans ((eval_other _ 37 6 _ (by decide)).trans ((eval_other _ 36 6 _ (by decide)).trans base6))))))))) w') ?_
      refine met_free po10 d10 (wanted_of gd10) (fun w' _ => run_mul8i (s := s) q10 rfl (eval_same _ _ _ (by simp only [put_size, hsz]; decide)) HSE.out (by omega) w') ?_
      refine met_free po11 d11 (wanted_of gd11) (fun w' _ => run_shr64v q11 ((eval_other _ 46 44 _ (by decide)).trans ((eval_other _ 45 44 _ (by decide)).trans (eval_same _ _ _ (by simp only [put_size, hsz]; decide)))) (eval_same _ _ _ (by simp only [put_size, hsz]; decide)) (by omega) w') ?_
      refine met_free po12 d12 (wanted_of gd12) (fun w' _ => run_cnv64 q12 (eval_same _ _ _ (by simp only [put_size, hsz]; decide)) w') ?_
      refine met_free po13 d13 (wanted_of gd13) (fun w' _ => run_ixTag q13 ((eval_other _ 48 5 _ (by decide)).trans ((eval_other _ 47 5 _ (by decide)).trans ((eval_other _ 46 5 _ (by decide)).trans ((eval_other _ 45 5 _ (by decide)).trans ((eval_other _ 44 5 _ (by decide)).trans ((eval_other _ 43 5 _ (by decide)).trans ((eval_other _ 42 5 _ (by decide)).trans ((eval_other _ 41 5 _ (by decide)).trans ((eval_other _ 40 5 _ (by decide)).trans ((eval_other _ 39 5 _ (by decide)).trans ((eval_other _ 38 5 _ (by decide)).trans ((eval_other _ 37 5 _ (by decide)).trans ((eval_other _ 36 5 _ (by decide)).trans base5))))))))))))) ((eval_other _ 48 36 _ (by decide)).trans ((eval_other _ 47 36 _ (by decide)).trans ((eval_other _ 46 36 _ (by decide)).trans ((eval_other _ 45 36 _ (by decide)).trans ((eval_other _ 44 36 _ (by decide)).trans ((eval_other _ 43 36 _ (by decide)).trans ((eval_other _ 42 36 _ (by decide)).trans ((eval_other _ 41 36 _ (by decide)).trans ((eval_other _ 40 36 _ (by decide)).trans ((eval_other _ 39 36 _ (by decide)).trans ((eval_other _ 38 36 _ (by decide)).trans ((eval_other _ 37 36 _ (by decide)).trans (eval_same _ _ _ (by rw [hsz]; decide)))))))))))))) (by omega) w') ?_
      refine met_skip po14 d14 (wanted_of gd14) (run_store8 q14 (eval_same _ _ _ (by simp only [put_size, hsz]; decide)) ((eval_other _ 49 43 _ (by decide)).trans ((eval_other _ 48 43 _ (by decide)).trans ((eval_other _ 47 43 _ (by decide)).trans ((eval_other _ 46 43 _ (by decide)).trans ((eval_other _ 45 43 _ (by decide)).trans ((eval_other _ 44 43 _ (by decide)).trans (eval_same _ _ _ (by simp only [put_size, hsz]; decide)))))))) c0 cf) trivial ?_
      refine met_free po15 d15 (wanted_of gd15) (fun w' _ => run_ixTag q15 ((eval_none _ _ 5).trans ((eval_other _ 49 5 _ (by decide)).trans ((eval_other _ 48 5 _ (by decide)).trans ((eval_other _ 47 5 _ (by decide)).trans ((eval_other _ 46 5 _ (by decide)).trans ((eval_other _ 45 5 _ (by decide)).trans ((eval_other _ 44 5 _ (by decide)).trans ((eval_other _ 43 5 _ (by decide)).trans ((eval_other _ 42 5 _ (by decide)).trans ((eval_other _ 41 5 _ (by decide)).trans ((eval_other _ 40 5 _ (by decide)).trans ((eval_other _ 39 5 _ (by decide)).trans ((eval_other _ 38 5 _ (by decide)).trans ((eval_other _ 37 5 _ (by decide)).trans ((eval_other _ 36 5 _ (by decide)).trans base5))))))))))))))) ((eval_none _ _ 38).trans ((eval_other _ 49 38 _ (by decide)).trans ((eval_other _ 48 38 _ (by decide)).trans ((eval_other _ 47 38 _ (by decide)).trans ((eval_other _ 46 38 _ (by decide)).trans ((eval_other _ 45 38 _ (by decide)).trans ((eval_other _ 44 38 _ (by decide)).trans ((eval_other _ 43 38 _ (by decide)).trans ((eval_other _ 42 38 _ (by decide)).trans ((eval_other _ 41 38 _ (by decide)).trans ((eval_other _ 40 38 _ (by decide)).trans ((eval_other _ 39 38 _ (by decide)).trans (eval_same _ _ _ (by simp only [put_size, hsz]; decide)))))))))))))) (by omega) w') ?_
      refine met_skip po16 d16 (wanted_of gd16) (run_store8 q16 (eval_same _ _ _ (by simp only [put_none, put_size, hsz]; decide)) ((eval_other _ 50 48 _ (by decide)).trans ((eval_none _ _ 48).trans ((eval_other _ 49 48 _ (by decide)).trans (eval_same _ _ _ (by simp only [put_size, hsz]; decide))))) c1 cf1) trivial ?_
      show NoPanic _ .normal _ _
      refine NoPanic.normal ?_
      rw [HAA.out]
      go_frame
      clear HAA
      go_wp2_with fail
      go_roundw
      case rel =>
        refine ⟨k + 1, by omega, by go_num, ?_⟩
        rw [HS.out]
        obtain rfl := HSE.out
        obtain rfl := HDE.out
        exact ((HW.out.set k _).set _ _).drew
      case measure => simp [intOf]; omega
    · obtain rfl : k = 8 := by omega
      have HW := Lib.hid hw; clear hw
      have HI := Lib.hid (infoTag _ (HL.out 8))
      have HOLD := Lib.hid (show (bytesV zeros16).toArray.size = (bytesV (layK lo hi 8)).toArray.size by rw [bytesV_size _ 16 (HL.out 8)]; unfold zeros16; rfl)
      have HONE := Lib.hid (bytesV_one (layK lo hi 8))
      have HROW := Lib.hid HW.out.t
      have HRES := Lib.hid HW.out.res
      have HB5 := Lib.hid HW.out.below
      clear HW
      generalize hfe : (bytesV (layK lo hi 8)).toArray = full at HI HOLD HONE ⊢
      have HFE := Lib.hid hfe; clear hfe
      have HROW2 : Hid (wr.heap[g]? = some (.cells full 46 (0, 0))) := show _ = _ by rw [← HFE.out]; exact HROW.out
      go_wp2_with (first
        | (refine wpList_load_row rfl 46 (.tmp 5) rfl g rfl 46 full (0, 0) _ HROW2.out Tryd.underlying46 rfl HI.out ?_)
        | (refine wpList_store_row rfl 46 (.tmp 2) (.tmp 52) rfl (w.heap.size + 1) full rfl rfl 46 _ HRES.out HI.out HOLD.out HONE.out ?_))
      have hrow := setRow_heap wr (w.heap.size + 1) _ full 46 _ HRES.out
      have hbel := below_setRow HB5.out (show w.heap.size ≤ w.heap.size + 1 by omega) full
      generalize wr.setRow (w.heap.size + 1) full = wz at hrow hbel ⊢
      have hres : ∀ tmps : Array Value, tmps.getD 2 undef = .pointer (some ⟨w.heap.size + 1, 0, none⟩) → Sem.run Tryd.prog (results Tryd.f45 tmps) wz = .ok (.agg full) wz := fun tmps h =>
        results_cell_row (P := Tryd.prog) (p := 2) (ty := 46) Tryd.results45 tmps wz (w.heap.size + 1) 46 full (0, 0) _ h hrow Tryd.underlying46 rfl HI.out
      exact bodyPost_ret (v := .agg full) (hres _ rfl) rfl ⟨by rw [HT.out, HFE.out], hbel⟩
end Go.Proofs.YtagkkihnfipfeaaDoor
