/-
  The walk of the law MacKnown: the published codes; it returns true, and nothing that was there changes.
-/
import Derived.Test.YtifnflhkcpchhaaDoorMacRow
import Derived.Test.YtifnflhkcpchhaaDoorTree
namespace Go.Proofs.YtifnflhkcpchhaaDoor
open Go.RowKit Go.Proofs.ShaWords

theorem run_build32 {ρ : Operand → Value} {o : Oper} (ho : o.op = .build 31 #[]) (w : World) : (execOp ρ o).run Tryd.prog w = .ok (.value (.agg (bytesV (noughts 32)).toArray)) w := by
  obtain ⟨dst, op, ty, pos, after, guard⟩ := o
  simp only at ho
  subst ho
  show _ = Result.ok (Next.value (.agg (bytesV (List.replicate 32 0#8)).toArray)) _
  rw [noughts32]
  go_simp
theorem run_not_false {ρ : Operand → Value} {o : Oper} {x : Operand} (ho : o.op = .unOp .not 4 x) (hx : ρ x = .bool false) (w : World) : (execOp ρ o).run Tryd.prog w = .ok (.value (.bool true)) w := by
  obtain ⟨dst, op, ty, pos, after, guard⟩ := o
  simp only at ho
  subst ho
  go_simp
theorem run_make64 {ρ : Operand → Value} {o : Oper} (ho : o.op = .makeSlice 26 (.const (.int .i64 64)) (.const (.int .i64 64))) (h0 : ∀ u, ρ (.const u) = u) (w : World) :
    (execOp ρ o).run Tryd.prog w = .ok (.value (.slice (some ⟨w.heap.size, 0, none⟩) 64 64)) (w.alloc (.cells (bytesV (noughts 64)).toArray 5)) := by
  obtain ⟨i, hi, hz, hsz, hby⟩ := info5'
  have hrun := run_make (P := Tryd.prog) w 26 5 i (.int .u8 0) Tryd.underlying26 hi hz .i64 .i64 64 64 (by omega) (by omega) (by rw [hby]; omega) (by omega)
  rw [hsz, Nat.mul_one] at hrun
  have hm : madeCells (Value.int .u8 0).cells 64 = (bytesV (noughts 64)).toArray := made_noughts 64
  unfold execOp
  simp only [ho, h0, Sem.run_bind]
  rw [hrun]
  simp only [Result.andThen_ok, Sem.run_pure]
  rw [show (64 : Int).toNat = 64 from rfl, hm]
/-- The code whose last byte alone is no nought. -/
def lastOne : List (BitVec 8) := (noughts 32).set 31 1#8
theorem lastOne_length : lastOne.length = 32 := rfl
theorem lastOne_at (w : World) (g1 g2 : Nat) (A B : List (BitVec 8)) (w0 : World) (C : Array Value) (hC : C = (bytesV ((noughts 32).set 31 1#8)).toArray) (h1 : BytesAt w g1 31 A) (h2 : BytesAt w g2 31 B) (hb : Below w0.heap.size w0 w) :
    BytesAt (w.alloc (.cells C 31)) g1 31 A ∧ BytesAt (w.alloc (.cells C 31)) g2 31 B ∧ BytesAt (w.alloc (.cells C 31)) w.heap.size 31 lastOne ∧ Below w0.heap.size w0 (w.alloc (.cells C 31)) := by
  subst hC
  have hbel : Below w.heap.size w (w.alloc (.cells (bytesV ((noughts 32).set 31 1#8)).toArray 31)) := (Below.refl _ _).alloc (Nat.le_refl _) _
  exact ⟨h1.keep hbel, h2.keep hbel, heap_alloc_new w _, hb.trans (hbel.mono hb.size)⟩
theorem lastOne_other : sameB lastOne (noughts 32) = false := by decide
structure KW (w : World) (g1 g2 g3 : Nat) (A B : List (BitVec 8)) (wr : World) : Prop where
  a : BytesAt wr g1 31 A
  b : BytesAt wr g2 31 B
  c : BytesAt wr g3 31 lastOne
  below : Below w.heap.size w wr
theorem KW.on {w wr w' : World} {g1 g2 g3 : Nat} {A B : List (BitVec 8)} (h : KW w g1 g2 g3 A B wr) (hb : Below wr.heap.size wr w') : KW w g1 g2 g3 A B w' :=
  ⟨h.a.keep hb, h.b.keep hb, h.c.keep hb, h.below.trans (hb.mono h.below.size)⟩
theorem KW.drewOn {w wr : World} {g1 g2 g3 : Nat} {A B : List (BitVec 8)} (h : KW w g1 g2 g3 A B wr) : KW w g1 g2 g3 A B wr.drew := h.on ((Below.refl _ _).drew)
theorem none_code : macOf (noughts 64) [] = macOf [] [] := macOf_pad [] [] 64 (by decide)

attribute [local irreducible] macOf lastOne
set_option maxRecDepth 100000 in
set_option maxHeartbeats 2000000 in
theorem macKnownLaw_any (w : World) (hk : Consts w) (hs : Starts w) :
    Calls Tryd.prog 8 #[] w fun e w' => e = .returned (.bool true) ∧ Below w.heap.size w w' := by
  have hs1 := hk.size
  have HK := Lib.hid hk; clear hk
  have HS := Lib.hid hs; clear hs
  have kc := fun (w : World) (C : Array Value) (n c : Nat) => Lib.run_convert_bytes_const (P := Tryd.prog) w 26 5 C n c Tryd.underlying26 Tryd.underlying5
  have HL1 := Lib.hid (macOf_length hiKey hiText)
  have HI1 := Lib.hid (info32 _ HL1.out)
  have HO1 := Lib.hid (show (bytesV (noughts 32)).toArray.size = (bytesV (macOf hiKey hiText)).toArray.size by rw [bytesV_size _ 32 HL1.out, bytesV_size _ 32 (noughts_length 32)])
  have HW1 := Lib.hid (bytesV_one (macOf hiKey hiText))
  have HC1 := Lib.hid hi_code
  have HL2 := Lib.hid (macOf_length largeKey largeText)
  have HI2 := Lib.hid (info32 _ HL2.out)
  have HO2 := Lib.hid (show (bytesV (noughts 32)).toArray.size = (bytesV (macOf largeKey largeText)).toArray.size by rw [bytesV_size _ 32 HL2.out, bytesV_size _ 32 (noughts_length 32)])
  have HW2 := Lib.hid (bytesV_one (macOf largeKey largeText))
  have HC2 := Lib.hid large_code
  have HA1 := Lib.hid (show macOf hiKey hiText = macOf hiKey hiText from rfl)
  have HA2 := Lib.hid (show macOf largeKey largeText = macOf largeKey largeText from rfl)
  generalize hA : macOf hiKey hiText = A at HL1 HI1 HO1 HW1 HC1
  generalize hB : macOf largeKey largeText = B at HL2 HI2 HO2 HW2 HC2
  have HAE := Lib.hid hA; have HBE := Lib.hid hB
  clear hA hB HA1 HA2
  go_enter Tryd.func8, Tryd.ntmps8
  go_wp2_with fail
  refine (lawRow_any 20 0x0b#8 _ _ w rfl rfl (by omega)).mono ?_
  rintro e w1 ⟨rfl, hr1, hb1⟩
  have HR1 := Lib.hid hr1; have HB1 := Lib.hid hb1
  have sz1 := hr1.size
  clear hr1 hb1
  go_wp2_with fail
  refine calls_gen (fun w0 => w0.rangeAt w.heap.size 0 (bytesV hiKey) ∧ w0.rangeAt w1.heap.size 0 (bytesV hiText) ∧ Below w.heap.size w w0) ⟨range_keep (BytesAt.range HR1.out) ((Below.refl _ _).alloc (Nat.le_refl _) _), range_bytesV (l := hiText) (heap_alloc_new w1 _), HB1.out.alloc HB1.out.size _⟩ ?_
  rintro w2 ⟨r1, r2, bel2⟩
  refine (of_eq A 20 8 hiKey hiText _ _ 20 8 w2 HAE.out rfl rfl (Or.inr ⟨_, _, rfl, r1⟩) (Or.inr ⟨_, _, rfl, r2⟩) (by omega) (by omega) (by omega) (by omega) (by omega) (by omega) (HK.out.below bel2 hs1) (HS.out.below bel2 (by omega))).mono ?_
  rintro e w3 ⟨rfl, hb3⟩
  have HB3 := Lib.hid (bel2.trans (hb3.mono bel2.size))
  have sz3 := HB3.out.size
  clear r1 r2 bel2 hb3 HR1 HB1
  go_wp2_with (refine wpList_store_new rfl 31 (.tmp 1) (.tmp 7) rfl w3.heap.size rfl (bytesV A).toArray rfl rfl HI1.out (by rw [← noughts32]; exact HO1.out) HW1.out ?_; intro w4 h4 b4; have HX4 := Lib.hid (show BytesAt w4 w3.heap.size 31 A from h4); have HB4 := Lib.hid (HB3.out.trans (b4.mono sz3)); clear h4 b4)
  generalize w3.heap.size = g1 at HX4 ⊢
  clear HB3 sz3
  refine (lawRow_any 131 0xaa#8 _ _ w4 rfl rfl (by omega)).mono ?_
  rintro e w5 ⟨rfl, hr5, hb5⟩
  have HR5 := Lib.hid hr5; have HB5 := Lib.hid (HB4.out.trans (hb5.mono HB4.out.size)); have HX5 := Lib.hid (HX4.out.keep hb5)
  clear hr5 hb5 HX4
  go_wp2_with fail
  refine calls_gen (fun w0 => w0.rangeAt w4.heap.size 0 (bytesV largeKey) ∧ w0.rangeAt w5.heap.size 0 (bytesV largeText) ∧ BytesAt w0 g1 31 A ∧ Below w.heap.size w w0) ⟨range_keep (BytesAt.range HR5.out) ((Below.refl _ _).alloc (Nat.le_refl _) _), range_bytesV (l := largeText) (heap_alloc_new w5 _), HX5.out.keep ((Below.refl _ _).alloc (Nat.le_refl _) _), HB5.out.alloc HB5.out.size _⟩ ?_
  rintro w6 ⟨r1, r2, hx6, bel6⟩
  refine (of_eq B 131 54 largeKey largeText _ _ 131 54 w6 HBE.out rfl rfl (Or.inr ⟨_, _, rfl, r1⟩) (Or.inr ⟨_, _, rfl, r2⟩) (by omega) (by omega) (by omega) (by omega) (by omega) (by omega) (HK.out.below bel6 hs1) (HS.out.below bel6 (by omega))).mono ?_
  rintro e w7 ⟨rfl, hb7⟩
  have HB7 := Lib.hid (bel6.trans (hb7.mono bel6.size)); have HX7 := Lib.hid (hx6.keep hb7)
  have sz7 := HB7.out.size
  clear r1 r2 hx6 bel6 hb7 HR5 HB5 HX5 HB4 kc
  go_wp2_with (refine wpList_store_new rfl 31 (.tmp 2) (.tmp 11) rfl w7.heap.size rfl (bytesV B).toArray rfl rfl HI2.out (by rw [← noughts32]; exact HO2.out) HW2.out ?_; intro w8 h8 b8; have HY8 := Lib.hid (show BytesAt w8 w7.heap.size 31 B from h8); have HX8 := Lib.hid (HX7.out.keep b8); have HB8 := Lib.hid (HB7.out.trans (b8.mono sz7)); clear h8 b8)
  generalize w7.heap.size = g2 at HY8 ⊢
  clear HB7 HX7 sz7
  refine wp_gen (KW w g1 g2 w8.heap.size A B) ?_ ?_
  · obtain ⟨h1, h2, h3, h4⟩ := lastOne_at w8 g1 g2 A B w _ rfl HX8.out HY8.out HB8.out
    exact ⟨h1, h2, h3, h4⟩
  intro w9 hk9
  have HKW := Lib.hid hk9
  clear hk9 HX8 HY8 HB8
  generalize w8.heap.size = g3 at HKW ⊢
  have hw0 := HKW.out.below.size
  refine region_tree (Keeps w9.drew) (Below.refl _ _) (.pure 0 (.one 1 (.pure 2 (.pure 3 (.one 4 (.pure 5 (.pure 6 (.pure 7 (.pure 8 (.one 9 (.pure 10 (.pure 11 (.pure 12 (.two 13 14 (.one 14 (.one 15 (.pure 16 (.pure 17 (.pure 18 (.one 19 (.pure 20 (.pure 21 .nil)))))))) (.one 13 (.one 15 (.pure 16 (.pure 17 (.pure 18 (.one 19 (.pure 20 (.pure 21 .nil)))))))))))))))))))))) (by kernel_rfl) (by kernel_rfl) (by kernel_rfl) (fun ops hops A0 hA => ?_)
  have hsz : A0.tmps.size = 34 := by rw [hA]; rfl
  have base1 : A0.eval (.tmp 1) = .pointer (some ⟨g1, 0, none⟩) := by rw [hA]; rfl
  have base2 : A0.eval (.tmp 2) = .pointer (some ⟨g2, 0, none⟩) := by rw [hA]; rfl
  have base3 : A0.eval (.tmp 3) = .pointer (some ⟨g3, 0, none⟩) := by rw [hA]; rfl
  have HAA := Lib.hid hA; clear hA
  obtain ⟨o0, po0, q0, d0, gd0⟩ : ∃ o, ops[0]? = some o ∧ o.op = .load 31 (.tmp 1) ∧ o.dst = some 13 ∧ o.guard = none := ⟨_, by rw [hops]; rfl, rfl, rfl, rfl⟩
  obtain ⟨o1, po1, q1, d1, gd1⟩ : ∃ o, ops[1]? = some o ∧ o.op = .call { callee := .value (.func 34), args := #[.tmp 13, .const (.int .u32 2956217441), .const (.int .u32 775081975)], argTypes := #[31, 38, 38] } ∧ o.dst = some 14 ∧ o.guard = none := ⟨_, by rw [hops]; rfl, rfl, rfl, rfl⟩
  obtain ⟨o2, po2, q2, d2, gd2⟩ : ∃ o, ops[2]? = some o ∧ o.op = .move (.tmp 14) ∧ o.dst = some 15 ∧ o.guard = none := ⟨_, by rw [hops]; rfl, rfl, rfl, rfl⟩
  obtain ⟨o3, po3, q3, d3, gd3⟩ : ∃ o, ops[3]? = some o ∧ o.op = .load 31 (.tmp 2) ∧ o.dst = some 16 ∧ o.guard = some (2, true) := ⟨_, by rw [hops]; rfl, rfl, rfl, rfl⟩
  obtain ⟨o4, po4, q4, d4, gd4⟩ : ∃ o, ops[4]? = some o ∧ o.op = .call { callee := .value (.func 34), args := #[.tmp 16, .const (.int .u32 1625567577), .const (.int .u32 249790292)], argTypes := #[31, 38, 38] } ∧ o.dst = some 17 ∧ o.guard = some (2, true) := ⟨_, by rw [hops]; rfl, rfl, rfl, rfl⟩
  obtain ⟨o5, po5, q5, d5, gd5⟩ : ∃ o, ops[5]? = some o ∧ o.op = .pick (.tmp 15) (.tmp 17) (.const (.bool false)) ∧ o.dst = some 18 ∧ o.guard = none := ⟨_, by rw [hops]; rfl, rfl, rfl, rfl⟩
  obtain ⟨o6, po6, q6, d6, gd6⟩ : ∃ o, ops[6]? = some o ∧ o.op = .move (.tmp 18) ∧ o.dst = some 19 ∧ o.guard = none := ⟨_, by rw [hops]; rfl, rfl, rfl, rfl⟩
  obtain ⟨o7, po7, q7, d7, gd7⟩ : ∃ o, ops[7]? = some o ∧ o.op = .load 31 (.tmp 3) ∧ o.dst = some 20 ∧ o.guard = some (6, true) := ⟨_, by rw [hops]; rfl, rfl, rfl, rfl⟩
  obtain ⟨o8, po8, q8, d8, gd8⟩ : ∃ o, ops[8]? = some o ∧ o.op = .build 31 #[] ∧ o.dst = some 21 ∧ o.guard = some (6, true) := ⟨_, by rw [hops]; rfl, rfl, rfl, rfl⟩
  obtain ⟨o9, po9, q9, d9, gd9⟩ : ∃ o, ops[9]? = some o ∧ o.op = .call { callee := .value (.func 32), args := #[.tmp 20, .tmp 21], argTypes := #[31, 31] } ∧ o.dst = some 22 ∧ o.guard = some (6, true) := ⟨_, by rw [hops]; rfl, rfl, rfl, rfl⟩
  obtain ⟨o10, po10, q10, d10, gd10⟩ : ∃ o, ops[10]? = some o ∧ o.op = .unOp .not 4 (.tmp 22) ∧ o.dst = some 23 ∧ o.guard = some (6, true) := ⟨_, by rw [hops]; rfl, rfl, rfl, rfl⟩
  obtain ⟨o11, po11, q11, d11, gd11⟩ : ∃ o, ops[11]? = some o ∧ o.op = .pick (.tmp 19) (.tmp 23) (.const (.bool false)) ∧ o.dst = some 24 ∧ o.guard = none := ⟨_, by rw [hops]; rfl, rfl, rfl, rfl⟩
  obtain ⟨o12, po12, q12, d12, gd12⟩ : ∃ o, ops[12]? = some o ∧ o.op = .move (.tmp 24) ∧ o.dst = some 25 ∧ o.guard = none := ⟨_, by rw [hops]; rfl, rfl, rfl, rfl⟩
  obtain ⟨o13, po13, q13, d13, gd13⟩ : ∃ o, ops[13]? = some o ∧ o.op = .call { callee := .value (.func 26), args := #[.const (.slice none 0 0), .const (.slice none 0 0)], argTypes := #[26, 26] } ∧ o.dst = some 26 ∧ o.guard = some (12, true) := ⟨_, by rw [hops]; rfl, rfl, rfl, rfl⟩
  obtain ⟨o14, po14, q14, d14, gd14⟩ : ∃ o, ops[14]? = some o ∧ o.op = .makeSlice 26 (.const (.int .i64 64)) (.const (.int .i64 64)) ∧ o.dst = some 27 ∧ o.guard = some (12, true) := ⟨_, by rw [hops]; rfl, rfl, rfl, rfl⟩
  obtain ⟨o15, po15, q15, d15, gd15⟩ : ∃ o, ops[15]? = some o ∧ o.op = .call { callee := .value (.func 26), args := #[.tmp 27, .const (.slice none 0 0)], argTypes := #[26, 26] } ∧ o.dst = some 28 ∧ o.guard = some (12, true) := ⟨_, by rw [hops]; rfl, rfl, rfl, rfl⟩
  obtain ⟨o16, po16, q16, d16, gd16⟩ : ∃ o, ops[16]? = some o ∧ o.op = .binOp .eql 31 (.tmp 26) (.tmp 28) 31 ∧ o.dst = some 29 ∧ o.guard = some (12, true) := ⟨_, by rw [hops]; rfl, rfl, rfl, rfl⟩
  obtain ⟨o17, po17, q17, d17, gd17⟩ : ∃ o, ops[17]? = some o ∧ o.op = .pick (.tmp 25) (.tmp 29) (.const (.bool false)) ∧ o.dst = some 30 ∧ o.guard = none := ⟨_, by rw [hops]; rfl, rfl, rfl, rfl⟩
  obtain ⟨o18, po18, q18, d18, gd18⟩ : ∃ o, ops[18]? = some o ∧ o.op = .move (.tmp 30) ∧ o.dst = some 31 ∧ o.guard = none := ⟨_, by rw [hops]; rfl, rfl, rfl, rfl⟩
  obtain ⟨o19, po19, q19, d19, gd19⟩ : ∃ o, ops[19]? = some o ∧ o.op = .call { callee := .value (.func 25), args := #[], argTypes := #[] } ∧ o.dst = some 32 ∧ o.guard = some (18, true) := ⟨_, by rw [hops]; rfl, rfl, rfl, rfl⟩
  obtain ⟨o20, po20, q20, d20, gd20⟩ : ∃ o, ops[20]? = some o ∧ o.op = .pick (.tmp 31) (.tmp 32) (.const (.bool false)) ∧ o.dst = some 33 ∧ o.guard = none := ⟨_, by rw [hops]; rfl, rfl, rfl, rfl⟩
  obtain ⟨o21, po21, q21, d21, gd21⟩ : ∃ o, ops[21]? = some o ∧ o.op = .assign (.tmp 33) ∧ o.dst = some 0 ∧ o.guard = none := ⟨_, by rw [hops]; rfl, rfl, rfl, rfl⟩
  clear hops
  refine Tr.takes po0 d0 (wanted_of gd0) (fun w' hw' => run_load_sum q0 base1 HL1.out (range_keep (w := w9.drew) (HKW.out.drewOn.a.range) hw')) ?_
  refine at_call po1 d1 (wanted_of gd1) (run_callf3 q1 rfl (eval_same _ _ _ (by rw [hsz]; decide)) rfl rfl Tryd.func34 (by kernel_rfl) _) (begins_yes A _ _ w9.drew HL1.out HC1.out.1 HC1.out.2) (fun y1 z1 => ⟨z1, ?_⟩)
  refine Tr.takes po2 d2 (wanted_of gd2) (fun w' _ => run_move q2 (eval_same _ _ _ (by simp only [put_size, hsz]; decide)) w') ?_
  refine Tr.takes po3 d3 (wanted_guard gd3 po2 d2 (eval_same _ _ _ (by simp only [put_size, hsz]; decide))) (fun w' hw' => run_load_sum q3 ((eval_other _ 15 2 _ (by decide)).trans ((eval_other _ 14 2 _ (by decide)).trans ((eval_other _ 13 2 _ (by decide)).trans base2))) HL2.out (range_keep (w := w9.drew) (HKW.out.drewOn.b.range) hw')) ?_
  refine at_call po4 d4 (wanted_guard gd4 po2 d2 ((eval_other _ 16 15 _ (by decide)).trans (eval_same _ _ _ (by simp only [put_size, hsz]; decide)))) (run_callf3 q4 rfl (eval_same _ _ _ (by simp only [put_size, hsz]; decide)) rfl rfl Tryd.func34 (by kernel_rfl) _) (begins_yes B _ _ y1 HL2.out HC2.out.1 HC2.out.2) (fun y2 z2 => ⟨z1.trans (z2.mono z1.size), ?_⟩)
  replace z2 := z1.trans (z2.mono z1.size)
  refine Tr.takes po5 d5 (wanted_of gd5) (fun w' _ => run_pick_true q5 ((eval_other _ 17 15 _ (by decide)).trans ((eval_other _ 16 15 _ (by decide)).trans (eval_same _ _ _ (by simp only [put_size, hsz]; decide)))) (eval_same _ _ _ (by simp only [put_size, hsz]; decide)) w') ?_
  refine Tr.takes po6 d6 (wanted_of gd6) (fun w' _ => run_move q6 (eval_same _ _ _ (by simp only [put_size, hsz]; decide)) w') ?_
  refine Tr.takes po7 d7 (wanted_guard gd7 po6 d6 (eval_same _ _ _ (by simp only [put_size, hsz]; decide))) (fun w' hw' => run_load_sum q7 ((eval_other _ 19 3 _ (by decide)).trans ((eval_other _ 18 3 _ (by decide)).trans ((eval_other _ 17 3 _ (by decide)).trans ((eval_other _ 16 3 _ (by decide)).trans ((eval_other _ 15 3 _ (by decide)).trans ((eval_other _ 14 3 _ (by decide)).trans ((eval_other _ 13 3 _ (by decide)).trans base3))))))) lastOne_length (range_keep (w := w9.drew) (HKW.out.drewOn.c.range) hw')) ?_
  refine Tr.takes po8 d8 (wanted_guard gd8 po6 d6 ((eval_other _ 20 19 _ (by decide)).trans (eval_same _ _ _ (by simp only [put_size, hsz]; decide)))) (fun w' _ => run_build32 q8 w') ?_
  refine at_call po9 d9 (wanted_guard gd9 po6 d6 ((eval_other _ 21 19 _ (by decide)).trans ((eval_other _ 20 19 _ (by decide)).trans (eval_same _ _ _ (by simp only [put_size, hsz]; decide))))) (run_callf2 q9 rfl ((eval_other _ 21 20 _ (by decide)).trans (eval_same _ _ _ (by simp only [put_size, hsz]; decide))) (eval_same _ _ _ (by simp only [put_size, hsz]; decide)) Tryd.func32 (by kernel_rfl) _) (macSame_any lastOne (noughts 32) y2 lastOne_length (noughts_length 32)) (fun y3 z3 => ⟨z2.trans (z3.mono z2.size), ?_⟩)
  replace z3 := z2.trans (z3.mono z2.size)
  rw [lastOne_other]
  refine Tr.takes po10 d10 (wanted_guard gd10 po6 d6 ((eval_other _ 22 19 _ (by decide)).trans ((eval_other _ 21 19 _ (by decide)).trans ((eval_other _ 20 19 _ (by decide)).trans (eval_same _ _ _ (by simp only [put_size, hsz]; decide)))))) (fun w' _ => run_not_false q10 (eval_same _ _ _ (by simp only [put_size, hsz]; decide)) w') ?_
  refine Tr.takes po11 d11 (wanted_of gd11) (fun w' _ => run_pick_true q11 ((eval_other _ 23 19 _ (by decide)).trans ((eval_other _ 22 19 _ (by decide)).trans ((eval_other _ 21 19 _ (by decide)).trans ((eval_other _ 20 19 _ (by decide)).trans (eval_same _ _ _ (by simp only [put_size, hsz]; decide)))))) (eval_same _ _ _ (by simp only [put_size, hsz]; decide)) w') ?_
  refine Tr.takes po12 d12 (wanted_of gd12) (fun w' _ => run_move q12 (eval_same _ _ _ (by simp only [put_size, hsz]; decide)) w') ?_
  refine ⟨?_, ?_⟩
  · refine at_call po13 d13 (wanted_guard gd13 po12 d12 (eval_same _ _ _ (by simp only [put_size, hsz]; decide))) (run_callf2 q13 rfl rfl rfl Tryd.func26 (by kernel_rfl) _) (of_eq (macOf [] []) 0 0 [] [] none none 0 0 y3 rfl rfl rfl (.inl rfl) (.inl rfl) (by omega) (by omega) (by omega) (by omega) (by omega) (by omega) (HK.out.below (HKW.out.drewOn.on z3).below hs1) (HS.out.below (HKW.out.drewOn.on z3).below (by omega))) (fun y4 z4 => ⟨z3.trans (z4.mono z3.size), ?_⟩)
    replace z4 := z3.trans (z4.mono z3.size)
    refine at_op po14 d14 (wanted_guard gd14 po12 d12 ((eval_other _ 26 25 _ (by decide)).trans (eval_same _ _ _ (by simp only [put_size, hsz]; decide)))) (run_make64 q14 (fun _ => rfl) y4) ⟨z4.alloc z4.size _, ?_⟩
    have z5 : Below w9.drew.heap.size w9.drew (y4.alloc (.cells (bytesV (noughts 64)).toArray 5)) := z4.alloc z4.size _
    have r5 := range_bytesV (heap_alloc_new y4 (.cells (bytesV (noughts 64)).toArray 5))
    generalize y4.alloc (.cells (bytesV (noughts 64)).toArray 5) = y5 at z5 r5 ⊢
    refine at_call po15 d15 (wanted_guard gd15 po12 d12 ((eval_other _ 27 25 _ (by decide)).trans ((eval_other _ 26 25 _ (by decide)).trans (eval_same _ _ _ (by simp only [put_size, hsz]; decide))))) (run_callf2 q15 rfl (eval_same _ _ _ (by simp only [put_size, hsz]; decide)) rfl Tryd.func26 (by kernel_rfl) _) (of_eq (macOf [] []) 64 0 (noughts 64) [] _ none 64 0 y5 none_code (noughts_length 64) rfl (Or.inr ⟨y4.heap.size, 0, rfl, r5⟩) (.inl rfl) (by omega) (by omega) (by omega) (by omega) (by omega) (by omega) (HK.out.below (HKW.out.drewOn.on z5).below hs1) (HS.out.below (HKW.out.drewOn.on z5).below (by omega))) (fun y6 z6 => ⟨z5.trans (z6.mono z5.size), ?_⟩)
    replace z6 := z5.trans (z6.mono z5.size)
    refine Tr.takes po16 d16 (wanted_guard gd16 po12 d12 ((eval_other _ 28 25 _ (by decide)).trans ((eval_other _ 27 25 _ (by decide)).trans ((eval_other _ 26 25 _ (by decide)).trans (eval_same _ _ _ (by simp only [put_size, hsz]; decide)))))) (fun w' _ => run_eql_sum q16 (macOf_length [] []) ((eval_other _ 28 26 _ (by decide)).trans ((eval_other _ 27 26 _ (by decide)).trans (eval_same _ _ _ (by simp only [put_size, hsz]; decide)))) (eval_same _ _ _ (by simp only [put_size, hsz]; decide)) w') ?_
    refine Tr.takes po17 d17 (wanted_of gd17) (fun w' _ => run_pick_true q17 ((eval_other _ 29 25 _ (by decide)).trans ((eval_other _ 28 25 _ (by decide)).trans ((eval_other _ 27 25 _ (by decide)).trans ((eval_other _ 26 25 _ (by decide)).trans (eval_same _ _ _ (by simp only [put_size, hsz]; decide)))))) (eval_same _ _ _ (by simp only [put_size, hsz]; decide)) w') ?_
    refine Tr.takes po18 d18 (wanted_of gd18) (fun w' _ => run_move q18 (eval_same _ _ _ (by simp only [put_size, hsz]; decide)) w') ?_
    refine at_call po19 d19 (wanted_guard gd19 po18 d18 (eval_same _ _ _ (by simp only [put_size, hsz]; decide))) (run_callf0 q19 rfl Tryd.func25 (by kernel_rfl) _) (known_any y6 (HK.out.below (HKW.out.drewOn.on z6).below hs1) (HS.out.below (HKW.out.drewOn.on z6).below (by omega))) (fun y9 z9 => ⟨z6.trans (z9.mono z6.size), ?_⟩)
    replace z9 := z6.trans (z9.mono z6.size)
    refine Tr.takes po20 d20 (wanted_of gd20) (fun w' _ => run_pick_true q20 ((eval_other _ 32 31 _ (by decide)).trans (eval_same _ _ _ (by simp only [put_size, hsz]; decide))) (eval_same _ _ _ (by simp only [put_size, hsz]; decide)) w') ?_
    refine Tr.takes po21 d21 (wanted_of gd21) (fun w' _ => run_assign q21 (eval_same _ _ _ (by simp only [put_size, hsz]; decide)) w') ?_
    have HFIN := Lib.hid ((HKW.out.drewOn.on z9).below)
    show NoPanic _ .normal _ _
    refine NoPanic.normal ?_
    rw [HAA.out]
    go_frame
    go_wp2_with fail
    go_ret
    exact ⟨rfl, HFIN.out⟩
  · refine at_op po14 d14 (wanted_guard gd14 po12 d12 (eval_same _ _ _ (by simp only [put_size, hsz]; decide))) (run_make64 q14 (fun _ => rfl) y3) ⟨z3.alloc z3.size _, ?_⟩
    have z4 : Below w9.drew.heap.size w9.drew (y3.alloc (.cells (bytesV (noughts 64)).toArray 5)) := z3.alloc z3.size _
    have r4 := range_bytesV (heap_alloc_new y3 (.cells (bytesV (noughts 64)).toArray 5))
    generalize y3.alloc (.cells (bytesV (noughts 64)).toArray 5) = y4 at z4 r4 ⊢
    refine at_call po13 d13 (wanted_guard gd13 po12 d12 ((eval_other _ 27 25 _ (by decide)).trans (eval_same _ _ _ (by simp only [put_size, hsz]; decide)))) (run_callf2 q13 rfl rfl rfl Tryd.func26 (by kernel_rfl) _) (of_eq (macOf [] []) 0 0 [] [] none none 0 0 y4 rfl rfl rfl (.inl rfl) (.inl rfl) (by omega) (by omega) (by omega) (by omega) (by omega) (by omega) (HK.out.below (HKW.out.drewOn.on z4).below hs1) (HS.out.below (HKW.out.drewOn.on z4).below (by omega))) (fun y5 z5 => ⟨z4.trans (z5.mono z4.size), ?_⟩)
    have r5 := range_keep r4 z5
    replace z5 := z4.trans (z5.mono z4.size)
    refine at_call po15 d15 (wanted_guard gd15 po12 d12 ((eval_other _ 26 25 _ (by decide)).trans ((eval_other _ 27 25 _ (by decide)).trans (eval_same _ _ _ (by simp only [put_size, hsz]; decide))))) (run_callf2 q15 rfl ((eval_other _ 26 27 _ (by decide)).trans (eval_same _ _ _ (by simp only [put_size, hsz]; decide))) rfl Tryd.func26 (by kernel_rfl) _) (of_eq (macOf [] []) 64 0 (noughts 64) [] _ none 64 0 y5 none_code (noughts_length 64) rfl (Or.inr ⟨y3.heap.size, 0, rfl, r5⟩) (.inl rfl) (by omega) (by omega) (by omega) (by omega) (by omega) (by omega) (HK.out.below (HKW.out.drewOn.on z5).below hs1) (HS.out.below (HKW.out.drewOn.on z5).below (by omega))) (fun y6 z6 => ⟨z5.trans (z6.mono z5.size), ?_⟩)
    replace z6 := z5.trans (z6.mono z5.size)
    refine Tr.takes po16 d16 (wanted_guard gd16 po12 d12 ((eval_other _ 28 25 _ (by decide)).trans ((eval_other _ 26 25 _ (by decide)).trans ((eval_other _ 27 25 _ (by decide)).trans (eval_same _ _ _ (by simp only [put_size, hsz]; decide)))))) (fun w' _ => run_eql_sum q16 (macOf_length [] []) ((eval_other _ 28 26 _ (by decide)).trans (eval_same _ _ _ (by simp only [put_size, hsz]; decide))) (eval_same _ _ _ (by simp only [put_size, hsz]; decide)) w') ?_
    refine Tr.takes po17 d17 (wanted_of gd17) (fun w' _ => run_pick_true q17 ((eval_other _ 29 25 _ (by decide)).trans ((eval_other _ 28 25 _ (by decide)).trans ((eval_other _ 26 25 _ (by decide)).trans ((eval_other _ 27 25 _ (by decide)).trans (eval_same _ _ _ (by simp only [put_size, hsz]; decide)))))) (eval_same _ _ _ (by simp only [put_size, hsz]; decide)) w') ?_
    refine Tr.takes po18 d18 (wanted_of gd18) (fun w' _ => run_move q18 (eval_same _ _ _ (by simp only [put_size, hsz]; decide)) w') ?_
    refine at_call po19 d19 (wanted_guard gd19 po18 d18 (eval_same _ _ _ (by simp only [put_size, hsz]; decide))) (run_callf0 q19 rfl Tryd.func25 (by kernel_rfl) _) (known_any y6 (HK.out.below (HKW.out.drewOn.on z6).below hs1) (HS.out.below (HKW.out.drewOn.on z6).below (by omega))) (fun y9 z9 => ⟨z6.trans (z9.mono z6.size), ?_⟩)
    replace z9 := z6.trans (z9.mono z6.size)
    refine Tr.takes po20 d20 (wanted_of gd20) (fun w' _ => run_pick_true q20 ((eval_other _ 32 31 _ (by decide)).trans (eval_same _ _ _ (by simp only [put_size, hsz]; decide))) (eval_same _ _ _ (by simp only [put_size, hsz]; decide)) w') ?_
    refine Tr.takes po21 d21 (wanted_of gd21) (fun w' _ => run_assign q21 (eval_same _ _ _ (by simp only [put_size, hsz]; decide)) w') ?_
    have HFIN := Lib.hid ((HKW.out.drewOn.on z9).below)
    show NoPanic _ .normal _ _
    refine NoPanic.normal ?_
    rw [HAA.out]
    go_frame
    go_wp2_with fail
    go_ret
    exact ⟨rfl, HFIN.out⟩
end Go.Proofs.YtifnflhkcpchhaaDoor
