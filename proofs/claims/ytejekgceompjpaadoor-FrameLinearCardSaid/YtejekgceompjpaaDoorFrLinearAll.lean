/-
  FrameLinear, for any three rows of bytes: the law returns true, and what came in reads afterwards as it read before; the package's table starts as the program's own text lays it (the tie is given).
-/
import Derived.Test.YtejekgceompjpaaDoorPkD
import Derived.Test.YtejekgceompjpaaDoorTie
import Derived.Test.YtejekgceompjpaaDoorCards
import Derived.SevenTiedAt
/-
  FrameLinear: of three rows the sum of their exclusive or.
-/
namespace Go.Proofs.YtejekgceompjpaaDoor
open Go.RowKit Go.Proofs.ShaWords
section
variable {ρ : Operand → Value} {o : Oper} {x y z u : Operand}
theorem min4_run {a b c d m : Int} (hm : m = min (min (min a b) c) d) (ty : TypeId) (w : World) : (Builtin.min_ #[3, 3, 3, 3] ty #[.int .i64 a, .int .i64 b, .int .i64 c, .int .i64 d]).run Tryd.prog w = .ok (.int .i64 m) w := by
  simp [Builtin.min_, Builtin.min2]
  subst hm
  (repeat' split) <;> omega
theorem r_xor32 {a b : BitVec 32} {ty : TypeId} (ho : o.op = .binOp .xor 29 x y ty) (hx : ρ x = .int .u32 (n32 a)) (hy : ρ y = .int .u32 (n32 b)) (w : World) : (execOp ρ o).run Tryd.prog w = .ok (.value (.int .u32 (n32 (a ^^^ b)))) w := by
  obtain ⟨dst, op, ty', pos, after, guard⟩ := o
  simp only at ho
  subst ho
  have h := xor32 a b
  go_simp
theorem r_eql32 {a b : BitVec 32} {ty : TypeId} (ho : o.op = .binOp .eql 29 x y ty) (hx : ρ x = .int .u32 (n32 a)) (hy : ρ y = .int .u32 (n32 b)) (h : a = b) (w : World) : (execOp ρ o).run Tryd.prog w = .ok (.value (.bool true)) w := by
  obtain ⟨dst, op, ty', pos, after, guard⟩ := o
  simp only at ho
  subst ho
  subst h
  go_simp
end
/-- The exclusive or of three rows, so many bytes of it. -/
def xor3 (a b c : List (BitVec 8)) (k : Nat) : List (BitVec 8) := xorL (xorL (a.take k) (b.take k)) (c.take k)
theorem xor3_succ {a b c : List (BitVec 8)} {k : Nat} (ha : k < a.length) (hb : k < b.length) (hc : k < c.length) : xor3 a b c (k + 1) = xor3 a b c k ++ [a.getD k 0#8 ^^^ b.getD k 0#8 ^^^ c.getD k 0#8] := by
  unfold xor3 xorL
  rw [List.take_succ_eq_append_getElem ha, List.take_succ_eq_append_getElem hb, List.take_succ_eq_append_getElem hc, List.zipWith_append (by simp; omega), List.zipWith_append (by simp; omega)]
  simp [List.getD, ha, hb, hc]
theorem xor3_length {a b c : List (BitVec 8)} {k : Nat} (ha : k ≤ a.length) (hb : k ≤ b.length) (hc : k ≤ c.length) : (xor3 a b c k).length = k := by
  unfold xor3 xorL
  simp
  omega
theorem xor3_sum {a b c : List (BitVec 8)} {k : Nat} (ha : k ≤ a.length) (hb : k ≤ b.length) (hc : k ≤ c.length) : crcOf (xor3 a b c k) = crcOf (a.take k) ^^^ crcOf (b.take k) ^^^ crcOf (c.take k) := by
  unfold xor3
  exact crcOf_three (by simp; omega) (by simp; omega)
theorem lies_cell {w : World} {p : Option Addr} {l : List (BitVec 8)} (h : Lies w p l) (hne : 0 < l.length) : ∃ b off, p = some ⟨b, off, none⟩ ∧ ∀ w', Below w.heap.size w w' → ∀ k, k < l.length → w'.cell? ⟨b, off + k, none⟩ = some (.int .u8 (n8 (l.getD k 0#8))) := by
  obtain ⟨b, off, e, hr⟩ := lies_at h hne
  exact ⟨b, off, e, fun w' hb k hk => (hb.cell (p := ⟨b, off + k, none⟩) (World.block_lt_of_cell? w _ (hr k hk))).trans (hr k hk)⟩
set_option maxRecDepth 100000 in
set_option maxHeartbeats 2000000 in
theorem frLinear_any (la lb lc : List (BitVec 8)) (na nb nc : Nat) (pa pb pc : Option Addr) (ca cb cc : Nat) (w : World) (hna : la.length = na) (hnb : lb.length = nb) (hnc : lc.length = nc) (hca : na ≤ ca) (hcb : nb ≤ cb) (hcc : nc ≤ cc)
    (hA : Lies w pa la) (hB : Lies w pb lb) (hC : Lies w pc lc) (hR : Rem w) :
    Calls Tryd.prog 9 #[.slice pa na ca, .slice pb nb cb, .slice pc nc cc] w fun e w' => e = .returned (.bool true) ∧ Below w.heap.size w w' := by
  obtain ⟨n, hn⟩ : ∃ n, n = min (min (min na nb) nc) 4096 := ⟨_, rfl⟩
  have hmin : (n : Int) = min (min (min (na : Int) (nb : Int)) (nc : Int)) 4096 := by omega
  have n1 : n ≤ na := by omega
  have n2 : n ≤ nb := by omega
  have n3 : n ≤ nc := by omega
  have n4 : n ≤ 4096 := by omega
  have HNA := Lib.hid hna
  have HNB := Lib.hid hnb
  have HNC := Lib.hid hnc
  have HA := Lib.hid hA
  have HB := Lib.hid hB
  have HC := Lib.hid hC
  have HR := Lib.hid hR
  have hm4 := fun w => min4_run hmin 3 w
  clear hA hB hC hR hn hmin hna hnb hnc
  go_enter Tryd.func9, Tryd.ntmps9
  go_wp2_with fail
  clear hm4
  go_loopw [8, 9] (fun v i wr => ∃ k : Nat, k ≤ n ∧ i = .int .i64 (k : Int) ∧ Own w.heap.size wr (xor3 la lb lc k) v ∧ Below w.heap.size w wr) (fun _ i _ => n - (intOf i).toNat)
  case atStart => exact ⟨0, Nat.zero_le _, rfl, Own.nil _ _, Below.refl _ _⟩
  case round =>
    obtain ⟨k, hk, rfl, ho, hb⟩ := hrel
    have HO := Lib.hid ho
    have HB1 := Lib.hid hb
    by_cases hlt : k < n
    · have q1 : (k : Int) < (n : Int) := by omega
      obtain ⟨b1, f1, rfl, r1⟩ := lies_cell HA.out (by rw [HNA.out]; omega)
      obtain ⟨b2, f2, rfl, r2⟩ := lies_cell HB.out (by rw [HNB.out]; omega)
      obtain ⟨b3, f3, rfl, r3⟩ := lies_cell HC.out (by rw [HNC.out]; omega)
      have HC1 : Hid (∀ w', Below w.heap.size w w' → w'.cell? ⟨b1, f1 + k, none⟩ = some (.int .u8 (n8 (la.getD k 0#8)))) := show _ from fun w' h => r1 w' h k (by rw [HNA.out]; omega)
      have HC2 : Hid (∀ w', Below w.heap.size w w' → w'.cell? ⟨b2, f2 + k, none⟩ = some (.int .u8 (n8 (lb.getD k 0#8)))) := show _ from fun w' h => r2 w' h k (by rw [HNB.out]; omega)
      have HC3 : Hid (∀ w', Below w.heap.size w w' → w'.cell? ⟨b3, f3 + k, none⟩ = some (.int .u8 (n8 (lc.getD k 0#8)))) := show _ from fun w' h => r3 w' h k (by rw [HNC.out]; omega)
      have HTK := Lib.hid (xor3_succ (a := la) (b := lb) (c := lc) (k := k) (by rw [HNA.out]; omega) (by rw [HNB.out]; omega) (by rw [HNC.out]; omega))
      have HLN := Lib.hid (xor3_length (a := la) (b := lb) (c := lc) (k := k) (by rw [HNA.out]; omega) (by rw [HNB.out]; omega) (by rw [HNC.out]; omega))
      generalize la.getD k 0#8 = x1 at HC1 HTK
      generalize lb.getD k 0#8 = x2 at HC2 HTK
      generalize lc.getD k 0#8 = x3 at HC3 HTK
      have l1 : k < na := by omega
      have l2 : k < nb := by omega
      have l3 : k < nc := by omega
      clear r1 r2 r3
      clear ho hb
      go_upto_region 6 with (fail)
      have HD : Hid (Below w.heap.size w wr.drew) := show Below _ _ _ from HB1.out.trans ((Below.refl wr.heap.size wr).drew.mono HB1.out.size)
      have HOD : Hid (Own w.heap.size wr.drew (xor3 la lb lc k) u8) := show Own _ _ _ _ from HO.out.below (Below.refl _ _).drew
      refine region_phase (fun w' => Below w.heap.size w w') (fun _ => True) 15 (HD.out) trivial [(0, .free), (1, .free), (2, .free), (3, .free), (4, .free), (5, .free), (6, .free), (7, .free), (8, .free), (9, .free), (10, .free), (11, .free), (12, .free), (13, .free), (14, .free), (15, .behind), (16, .behind), (17, .free)] (by kernel_rfl) (by kernel_rfl) (by kernel_rfl) (by kernel_rfl) (fun ops hops A hA => ?_)
      have hsz : A.tmps.size = 59 := by rw [hA]; rfl
      have base0 : A.eval (.tmp 0) = .slice (some ⟨b1, f1, none⟩) na ca := by rw [hA]; rfl
      have base1 : A.eval (.tmp 1) = .slice (some ⟨b2, f2, none⟩) nb cb := by rw [hA]; rfl
      have base2 : A.eval (.tmp 2) = .slice (some ⟨b3, f3, none⟩) nc cc := by rw [hA]; rfl
      have base8 : A.eval (.tmp 8) = u8 := by rw [hA]; rfl
      have base9 : A.eval (.tmp 9) = .int .i64 (k : Int) := by rw [hA]; rfl
      have HAA := Lib.hid hA; clear hA
      obtain ⟨o0, po0, q0, d0, gd0⟩ : ∃ o, ops[0]? = some o ∧ o.op = .move (.tmp 8) ∧ o.dst = some 22 ∧ o.guard = none := ⟨_, by rw [hops]; rfl, rfl, rfl, rfl⟩
      obtain ⟨o1, po1, q1, d1, gd1⟩ : ∃ o, ops[1]? = some o ∧ o.op = .move (.tmp 0) ∧ o.dst = some 23 ∧ o.guard = none := ⟨_, by rw [hops]; rfl, rfl, rfl, rfl⟩
      obtain ⟨o2, po2, q2, d2, gd2⟩ : ∃ o, ops[2]? = some o ∧ o.op = .move (.tmp 9) ∧ o.dst = some 24 ∧ o.guard = none := ⟨_, by rw [hops]; rfl, rfl, rfl, rfl⟩
      obtain ⟨o3, po3, q3, d3, gd3⟩ : ∃ o, ops[3]? = some o ∧ o.op = .indexAddr 22 (.tmp 23) (.tmp 24) ∧ o.dst = some 25 ∧ o.guard = none := ⟨_, by rw [hops]; rfl, rfl, rfl, rfl⟩
      obtain ⟨o4, po4, q4, d4, gd4⟩ : ∃ o, ops[4]? = some o ∧ o.op = .load 5 (.tmp 25) ∧ o.dst = some 26 ∧ o.guard = none := ⟨_, by rw [hops]; rfl, rfl, rfl, rfl⟩
      obtain ⟨o5, po5, q5, d5, gd5⟩ : ∃ o, ops[5]? = some o ∧ o.op = .move (.tmp 1) ∧ o.dst = some 27 ∧ o.guard = none := ⟨_, by rw [hops]; rfl, rfl, rfl, rfl⟩
      obtain ⟨o6, po6, q6, d6, gd6⟩ : ∃ o, ops[6]? = some o ∧ o.op = .move (.tmp 9) ∧ o.dst = some 28 ∧ o.guard = none := ⟨_, by rw [hops]; rfl, rfl, rfl, rfl⟩
      obtain ⟨o7, po7, q7, d7, gd7⟩ : ∃ o, ops[7]? = some o ∧ o.op = .indexAddr 22 (.tmp 27) (.tmp 28) ∧ o.dst = some 29 ∧ o.guard = none := ⟨_, by rw [hops]; rfl, rfl, rfl, rfl⟩
      obtain ⟨o8, po8, q8, d8, gd8⟩ : ∃ o, ops[8]? = some o ∧ o.op = .load 5 (.tmp 29) ∧ o.dst = some 30 ∧ o.guard = none := ⟨_, by rw [hops]; rfl, rfl, rfl, rfl⟩
      obtain ⟨o9, po9, q9, d9, gd9⟩ : ∃ o, ops[9]? = some o ∧ o.op = .binOp .xor 5 (.tmp 26) (.tmp 30) 5 ∧ o.dst = some 31 ∧ o.guard = none := ⟨_, by rw [hops]; rfl, rfl, rfl, rfl⟩
      obtain ⟨o10, po10, q10, d10, gd10⟩ : ∃ o, ops[10]? = some o ∧ o.op = .move (.tmp 2) ∧ o.dst = some 32 ∧ o.guard = none := ⟨_, by rw [hops]; rfl, rfl, rfl, rfl⟩
      obtain ⟨o11, po11, q11, d11, gd11⟩ : ∃ o, ops[11]? = some o ∧ o.op = .move (.tmp 9) ∧ o.dst = some 33 ∧ o.guard = none := ⟨_, by rw [hops]; rfl, rfl, rfl, rfl⟩
      obtain ⟨o12, po12, q12, d12, gd12⟩ : ∃ o, ops[12]? = some o ∧ o.op = .indexAddr 22 (.tmp 32) (.tmp 33) ∧ o.dst = some 34 ∧ o.guard = none := ⟨_, by rw [hops]; rfl, rfl, rfl, rfl⟩
      obtain ⟨o13, po13, q13, d13, gd13⟩ : ∃ o, ops[13]? = some o ∧ o.op = .load 5 (.tmp 34) ∧ o.dst = some 35 ∧ o.guard = none := ⟨_, by rw [hops]; rfl, rfl, rfl, rfl⟩
      obtain ⟨o14, po14, q14, d14, gd14⟩ : ∃ o, ops[14]? = some o ∧ o.op = .binOp .xor 5 (.tmp 31) (.tmp 35) 5 ∧ o.dst = some 36 ∧ o.guard = none := ⟨_, by rw [hops]; rfl, rfl, rfl, rfl⟩
      obtain ⟨o15, po15, q15, d15, gd15⟩ : ∃ o, ops[15]? = some o ∧ o.op = .buildSlice 22 1 #[(0, (.tmp 36))] ∧ o.dst = some 37 ∧ o.guard = none := ⟨_, by rw [hops]; rfl, rfl, rfl, rfl⟩
      obtain ⟨o16, po16, q16, d16, gd16⟩ : ∃ o, ops[16]? = some o ∧ o.op = .call { callee := .builtin .append, args := #[.tmp 22, .tmp 37], argTypes := #[22, 22] } ∧ o.dst = some 38 ∧ o.guard = none := ⟨_, by rw [hops]; rfl, rfl, rfl, rfl⟩
      obtain ⟨o17, po17, q17, d17, gd17⟩ : ∃ o, ops[17]? = some o ∧ o.op = .assign (.tmp 38) ∧ o.dst = some 8 ∧ o.guard = none := ⟨_, by rw [hops]; rfl, rfl, rfl, rfl⟩
      clear hops
      refine met_free po0 d0 (wanted_of gd0) (fun w' h' => run_move q0 base8 w') ?_
      refine met_free po1 d1 (wanted_of gd1) (fun w' h' => run_move q1 ((eval_other _ 22 0 _ (by decide)).trans base0) w') ?_
      refine met_free po2 d2 (wanted_of gd2) (fun w' h' => run_move q2 ((eval_other _ 23 9 _ (by decide)).trans ((eval_other _ 22 9 _ (by decide)).trans base9)) w') ?_
      refine met_free po3 d3 (wanted_of gd3) (fun w' h' => run_ixSlice q3 ((eval_other _ 24 23 _ (by decide)).trans (eval_same _ _ _ (by simp only [put_size, hsz]; decide))) (eval_same _ _ _ (by simp only [put_size, hsz]; decide)) l1 w') ?_
      refine met_free po4 d4 (wanted_of gd4) (fun w' h' => run_load8 q4 (eval_same _ _ _ (by simp only [put_size, hsz]; decide)) (HC1.out _ h')) ?_
      refine met_free po5 d5 (wanted_of gd5) (fun w' h' => run_move q5 ((eval_other _ 26 1 _ (by decide)).trans ((eval_other _ 25 1 _ (by decide)).trans ((eval_other _ 24 1 _ (by decide)).trans ((eval_other _ 23 1 _ (by decide)).trans ((eval_other _ 22 1 _ (by decide)).trans base1))))) w') ?_
      refine met_free po6 d6 (wanted_of gd6) (fun w' h' => run_move q6 ((eval_other _ 27 9 _ (by decide)).trans ((eval_other _ 26 9 _ (by decide)).trans ((eval_other _ 25 9 _ (by decide)).trans ((eval_other _ 24 9 _ (by decide)).trans ((eval_other _ 23 9 _ (by decide)).trans ((eval_other _ 22 9 _ (by decide)).trans base9)))))) w') ?_
      refine met_free po7 d7 (wanted_of gd7) (fun w' h' => run_ixSlice q7 ((eval_other _ 28 27 _ (by decide)).trans (eval_same _ _ _ (by simp only [put_size, hsz]; decide))) (eval_same _ _ _ (by simp only [put_size, hsz]; decide)) l2 w') ?_
      refine met_free po8 d8 (wanted_of gd8) (fun w' h' => run_load8 q8 (eval_same _ _ _ (by simp only [put_size, hsz]; decide)) (HC2.out _ h')) ?_
      refine met_free po9 d9 (wanted_of gd9) (fun w' h' => run_xor8 q9 ((eval_other _ 30 26 _ (by decide)).trans ((eval_other _ 29 26 _ (by decide)).trans ((eval_other _ 28 26 _ (by decide)).trans ((eval_other _ 27 26 _ (by decide)).trans (eval_same _ _ _ (by simp only [put_size, hsz]; decide)))))) (eval_same _ _ _ (by simp only [put_size, hsz]; decide)) w') ?_
      refine met_free po10 d10 (wanted_of gd10) (fun w' h' => run_move q10 ((eval_other _ 31 2 _ (by decide)).trans ((eval_other _ 30 2 _ (by decide)).trans ((eval_other _ 29 2 _ (by decide)).trans ((eval_other _ 28 2 _ (by decide)).trans ((eval_other _ 27 2 _ (by decide)).trans ((eval_other _ 26 2 _ (by decide)).trans ((eval_other _ 25 2 _ (by decide)).trans ((eval_other _ 24 2 _ (by decide)).trans ((eval_other _ 23 2 _ (by decide)).trans ((eval_other _ 22 2 _ (by decide)).trans base2)))))))))) w') ?_
      refine met_free po11 d11 (wanted_of gd11) (fun w' h' => run_move q11 ((eval_other _ 32 9 _ (by decide)).trans ((eval_other _ 31 9 _ (by decide)).trans ((eval_other _ 30 9 _ (by decide)).trans ((eval_other _ 29 9 _ (by decide)).trans ((eval_other _ 28 9 _ (by decide)).trans ((eval_other _ 27 9 _ (by decide)).trans ((eval_other _ 26 9 _ (by decide)).trans ((eval_other _ 25 9 _ (by decide)).trans ((eval_other _ 24 9 _ (by decide)).trans ((eval_other _ 23 9 _ (by decide)).trans ((eval_other _ 22 9 _ (by decide)).trans base9))))))))))) w') ?_
      refine met_free po12 d12 (wanted_of gd12) (fun w' h' => run_ixSlice q12 ((eval_other _ 33 32 _ (by decide)).trans (eval_same _ _ _ (by simp only [put_size, hsz]; decide))) (eval_same _ _ _ (by simp only [put_size, hsz]; decide)) l3 w') ?_
      refine met_free po13 d13 (wanted_of gd13) (fun w' h' => run_load8 q13 (eval_same _ _ _ (by simp only [put_size, hsz]; decide)) (HC3.out _ h')) ?_
      refine met_free po14 d14 (wanted_of gd14) (fun w' h' => run_xor8 q14 ((eval_other _ 35 31 _ (by decide)).trans ((eval_other _ 34 31 _ (by decide)).trans ((eval_other _ 33 31 _ (by decide)).trans ((eval_other _ 32 31 _ (by decide)).trans (eval_same _ _ _ (by simp only [put_size, hsz]; decide)))))) (eval_same _ _ _ (by simp only [put_size, hsz]; decide)) w') ?_
      have HA5 : Hid (Below wr.drew.heap.size wr.drew (wr.drew.alloc (.cells #[.int .u8 (n8 (x1 ^^^ x2 ^^^ x3))] 5))) := show Below _ _ _ from (Below.refl _ _).alloc (Nat.le_refl _) _
      refine met_op po15 d15 (wanted_of gd15) (run_build1 q15 (eval_same _ _ _ (by simp only [put_size, hsz]; decide)) _) (HD.out.trans (HA5.out.mono HD.out.size)) ?_
      refine met_wp po16 (wanted_of gd16) (wp_append_bytes (.tmp 22) (.tmp 37) q16 w.heap.size u8 (xor3 la lb lc k) [x1 ^^^ x2 ^^^ x3] wr.drew.heap.size 0 1 ((eval_other _ 37 22 _ (by decide)).trans ((eval_other _ 36 22 _ (by decide)).trans ((eval_other _ 35 22 _ (by decide)).trans ((eval_other _ 34 22 _ (by decide)).trans ((eval_other _ 33 22 _ (by decide)).trans ((eval_other _ 32 22 _ (by decide)).trans ((eval_other _ 31 22 _ (by decide)).trans ((eval_other _ 30 22 _ (by decide)).trans ((eval_other _ 29 22 _ (by decide)).trans ((eval_other _ 28 22 _ (by decide)).trans ((eval_other _ 27 22 _ (by decide)).trans ((eval_other _ 26 22 _ (by decide)).trans ((eval_other _ 25 22 _ (by decide)).trans ((eval_other _ 24 22 _ (by decide)).trans ((eval_other _ 23 22 _ (by decide)).trans (eval_same _ _ _ (by rw [hsz]; decide))))))))))))))))) (HOD.out.below HA5.out) (eval_same _ _ _ (by simp only [put_size, hsz]; decide)) (range_bytesV (t := 5) (fr := (0, 0)) (l := [x1 ^^^ x2 ^^^ x3]) (heap_new_at rfl)) (by simp) (by rw [HLN.out]; show k + 1 < _; omega) (by rw [size_alloc]; have := HD.out.size; omega) (fun v6 w6 ho6 hb6 => ?_))
      rw [d16]
      have HO6 := Lib.hid ho6
      have HB6 : Hid (Below w.heap.size w w6) := show Below _ _ _ from HD.out.trans ((HA5.out.mono HD.out.size).trans hb6)
      clear ho6 hb6
      refine ⟨HB6.out, ?_⟩
      refine met_free po17 d17 (wanted_of gd17) (fun w' h' => run_assign q17 (eval_same _ _ _ (by simp only [put_size, hsz]; decide)) w') ?_
      show NoPanic _ .normal _ _
      refine NoPanic.normal ?_
      rw [HAA.out]
      go_frame
      clear HAA
      clear po0 q0 d0 gd0 po1 q1 d1 gd1 po2 q2 d2 gd2 po3 q3 d3 gd3 po4 q4 d4 gd4 po5 q5 d5 gd5 po6 q6 d6 gd6 po7 q7 d7 gd7 po8 q8 d8 gd8 po9 q9 d9 gd9 po10 q10 d10 gd10 po11 q11 d11 gd11 po12 q12 d12 gd12 po13 q13 d13 gd13 po14 q14 d14 gd14 po15 q15 d15 gd15 po16 q16 d16 gd16 po17 q17 d17 gd17
      clear base0 base1 base2 base8 base9 hsz
      go_wp2_with fail
      go_roundw
      case rel => exact ⟨k + 1, by omega, by go_num, by rw [HTK.out]; exact HO6.out, HB6.out⟩
      case measure => simp [intOf]; omega
    · have hkn : k = n := by omega
      have q1 : ¬ (k : Int) < (n : Int) := by omega
      have HKN := Lib.hid hkn
      have HLN := Lib.hid (xor3_length (a := la) (b := lb) (c := lc) (k := n) (by rw [HNA.out]; omega) (by rw [HNB.out]; omega) (by rw [HNC.out]; omega))
      have HSM := Lib.hid (xor3_sum (a := la) (b := lb) (c := lc) (k := n) (by rw [HNA.out]; omega) (by rw [HNB.out]; omega) (by rw [HNC.out]; omega))
      have ho2 := HO.out
      rw [hkn] at ho2
      obtain ⟨qx, cx, rfl, hc8, -, lx⟩ := ho2.slN HLN.out
      have HLX := Lib.hid lx
      clear ho hb ho2 lx HO
      go_upto_region 7 with (fail)
      have HD : Hid (Below w.heap.size w wr.drew) := show Below _ _ _ from HB1.out.trans ((Below.refl wr.heap.size wr).drew.mono HB1.out.size)
      have HLD := Lib.hid (HLX.out.below (Below.refl wr.heap.size wr).drew)
      refine region_phase (fun w' => Below w.heap.size w w') (fun _ => True) 1 (HD.out) trivial [(0, .free), (2, .free), (3, .free), (4, .free), (6, .free), (7, .free), (8, .free), (11, .free), (12, .free), (13, .free), (1, .behind), (5, .behind), (9, .behind), (10, .free), (14, .behind), (15, .free), (16, .free), (17, .free), (18, .behind), (19, .free), (20, .free)] (by kernel_rfl) (by kernel_rfl) (by kernel_rfl) (by kernel_rfl) (fun ops hops A2 hA => ?_)
      have hsz : A2.tmps.size = 59 := by rw [hA]; rfl
      have base0 : A2.eval (.tmp 0) = .slice pa na ca := by rw [hA]; rfl
      have base1 : A2.eval (.tmp 1) = .slice pb nb cb := by rw [hA]; rfl
      have base2 : A2.eval (.tmp 2) = .slice pc nc cc := by rw [hA]; rfl
      have base7 : A2.eval (.tmp 7) = .int .i64 (n : Int) := by rw [hA]; rfl
      have base8 : A2.eval (.tmp 8) = .slice qx n cx := by rw [hA]; rfl
      have HAA := Lib.hid hA; clear hA
      obtain ⟨o0, po0, q0, d0, gd0⟩ : ∃ o, ops[0]? = some o ∧ o.op = .move (.tmp 8) ∧ o.dst = some 39 ∧ o.guard = none := ⟨_, by rw [hops]; rfl, rfl, rfl, rfl⟩
      obtain ⟨o1, po1, q1, d1, gd1⟩ : ∃ o, ops[1]? = some o ∧ o.op = .call { callee := .value (.func 16), args := #[.tmp 39], argTypes := #[22] } ∧ o.dst = some 40 ∧ o.guard = none := ⟨_, by rw [hops]; rfl, rfl, rfl, rfl⟩
      obtain ⟨o2, po2, q2, d2, gd2⟩ : ∃ o, ops[2]? = some o ∧ o.op = .move (.tmp 0) ∧ o.dst = some 41 ∧ o.guard = none := ⟨_, by rw [hops]; rfl, rfl, rfl, rfl⟩
      obtain ⟨o3, po3, q3, d3, gd3⟩ : ∃ o, ops[3]? = some o ∧ o.op = .move (.tmp 7) ∧ o.dst = some 42 ∧ o.guard = none := ⟨_, by rw [hops]; rfl, rfl, rfl, rfl⟩
      obtain ⟨o4, po4, q4, d4, gd4⟩ : ∃ o, ops[4]? = some o ∧ o.op = .slice 22 (.tmp 41) none (some (.tmp 42)) none ∧ o.dst = some 43 ∧ o.guard = none := ⟨_, by rw [hops]; rfl, rfl, rfl, rfl⟩
      obtain ⟨o5, po5, q5, d5, gd5⟩ : ∃ o, ops[5]? = some o ∧ o.op = .call { callee := .value (.func 16), args := #[.tmp 43], argTypes := #[22] } ∧ o.dst = some 44 ∧ o.guard = none := ⟨_, by rw [hops]; rfl, rfl, rfl, rfl⟩
      obtain ⟨o6, po6, q6, d6, gd6⟩ : ∃ o, ops[6]? = some o ∧ o.op = .move (.tmp 1) ∧ o.dst = some 45 ∧ o.guard = none := ⟨_, by rw [hops]; rfl, rfl, rfl, rfl⟩
      obtain ⟨o7, po7, q7, d7, gd7⟩ : ∃ o, ops[7]? = some o ∧ o.op = .move (.tmp 7) ∧ o.dst = some 46 ∧ o.guard = none := ⟨_, by rw [hops]; rfl, rfl, rfl, rfl⟩
      obtain ⟨o8, po8, q8, d8, gd8⟩ : ∃ o, ops[8]? = some o ∧ o.op = .slice 22 (.tmp 45) none (some (.tmp 46)) none ∧ o.dst = some 47 ∧ o.guard = none := ⟨_, by rw [hops]; rfl, rfl, rfl, rfl⟩
      obtain ⟨o9, po9, q9, d9, gd9⟩ : ∃ o, ops[9]? = some o ∧ o.op = .call { callee := .value (.func 16), args := #[.tmp 47], argTypes := #[22] } ∧ o.dst = some 48 ∧ o.guard = none := ⟨_, by rw [hops]; rfl, rfl, rfl, rfl⟩
      obtain ⟨o10, po10, q10, d10, gd10⟩ : ∃ o, ops[10]? = some o ∧ o.op = .binOp .xor 29 (.tmp 44) (.tmp 48) 29 ∧ o.dst = some 49 ∧ o.guard = none := ⟨_, by rw [hops]; rfl, rfl, rfl, rfl⟩
      obtain ⟨o11, po11, q11, d11, gd11⟩ : ∃ o, ops[11]? = some o ∧ o.op = .move (.tmp 2) ∧ o.dst = some 50 ∧ o.guard = none := ⟨_, by rw [hops]; rfl, rfl, rfl, rfl⟩
      obtain ⟨o12, po12, q12, d12, gd12⟩ : ∃ o, ops[12]? = some o ∧ o.op = .move (.tmp 7) ∧ o.dst = some 51 ∧ o.guard = none := ⟨_, by rw [hops]; rfl, rfl, rfl, rfl⟩
      obtain ⟨o13, po13, q13, d13, gd13⟩ : ∃ o, ops[13]? = some o ∧ o.op = .slice 22 (.tmp 50) none (some (.tmp 51)) none ∧ o.dst = some 52 ∧ o.guard = none := ⟨_, by rw [hops]; rfl, rfl, rfl, rfl⟩
      obtain ⟨o14, po14, q14, d14, gd14⟩ : ∃ o, ops[14]? = some o ∧ o.op = .call { callee := .value (.func 16), args := #[.tmp 52], argTypes := #[22] } ∧ o.dst = some 53 ∧ o.guard = none := ⟨_, by rw [hops]; rfl, rfl, rfl, rfl⟩
      obtain ⟨o15, po15, q15, d15, gd15⟩ : ∃ o, ops[15]? = some o ∧ o.op = .binOp .xor 29 (.tmp 49) (.tmp 53) 29 ∧ o.dst = some 54 ∧ o.guard = none := ⟨_, by rw [hops]; rfl, rfl, rfl, rfl⟩
      obtain ⟨o16, po16, q16, d16, gd16⟩ : ∃ o, ops[16]? = some o ∧ o.op = .binOp .eql 29 (.tmp 40) (.tmp 54) 29 ∧ o.dst = some 55 ∧ o.guard = none := ⟨_, by rw [hops]; rfl, rfl, rfl, rfl⟩
      obtain ⟨o17, po17, q17, d17, gd17⟩ : ∃ o, ops[17]? = some o ∧ o.op = .move (.tmp 55) ∧ o.dst = some 56 ∧ o.guard = none := ⟨_, by rw [hops]; rfl, rfl, rfl, rfl⟩
      obtain ⟨o18, po18, q18, d18, gd18⟩ : ∃ o, ops[18]? = some o ∧ o.op = .call { callee := .value (.func 11), args := #[], argTypes := #[] } ∧ o.dst = some 57 ∧ o.guard = some (17, true) := ⟨_, by rw [hops]; rfl, rfl, rfl, rfl⟩
      obtain ⟨o19, po19, q19, d19, gd19⟩ : ∃ o, ops[19]? = some o ∧ o.op = .pick (.tmp 56) (.tmp 57) (.const (.bool false)) ∧ o.dst = some 58 ∧ o.guard = none := ⟨_, by rw [hops]; rfl, rfl, rfl, rfl⟩
      obtain ⟨o20, po20, q20, d20, gd20⟩ : ∃ o, ops[20]? = some o ∧ o.op = .assign (.tmp 58) ∧ o.dst = some 6 ∧ o.guard = none := ⟨_, by rw [hops]; rfl, rfl, rfl, rfl⟩
      clear hops
      refine met_free po0 d0 (wanted_of gd0) (fun w' h' => run_move q0 base8 w') ?_
      refine met_free po2 d2 (wanted_of gd2) (fun w' h' => run_move q2 ((eval_other _ 39 0 _ (by decide)).trans base0) w') ?_
      refine met_free po3 d3 (wanted_of gd3) (fun w' h' => run_move q3 ((eval_other _ 41 7 _ (by decide)).trans ((eval_other _ 39 7 _ (by decide)).trans base7)) w') ?_
      refine met_free po4 d4 (wanted_of gd4) (fun w' h' => r_to q4 (Nat.le_trans n1 hca) ((eval_other _ 42 41 _ (by decide)).trans (eval_same _ _ _ (by simp only [put_size, hsz]; decide))) (eval_same _ _ _ (by simp only [put_size, hsz]; decide)) w') ?_
      refine met_free po6 d6 (wanted_of gd6) (fun w' h' => run_move q6 ((eval_other _ 43 1 _ (by decide)).trans ((eval_other _ 42 1 _ (by decide)).trans ((eval_other _ 41 1 _ (by decide)).trans ((eval_other _ 39 1 _ (by decide)).trans base1)))) w') ?_
      refine met_free po7 d7 (wanted_of gd7) (fun w' h' => run_move q7 ((eval_other _ 45 7 _ (by decide)).trans ((eval_other _ 43 7 _ (by decide)).trans ((eval_other _ 42 7 _ (by decide)).trans ((eval_other _ 41 7 _ (by decide)).trans ((eval_other _ 39 7 _ (by decide)).trans base7))))) w') ?_
      refine met_free po8 d8 (wanted_of gd8) (fun w' h' => r_to q8 (Nat.le_trans n2 hcb) ((eval_other _ 46 45 _ (by decide)).trans (eval_same _ _ _ (by simp only [put_size, hsz]; decide))) (eval_same _ _ _ (by simp only [put_size, hsz]; decide)) w') ?_
      refine met_free po11 d11 (wanted_of gd11) (fun w' h' => run_move q11 ((eval_other _ 47 2 _ (by decide)).trans ((eval_other _ 46 2 _ (by decide)).trans ((eval_other _ 45 2 _ (by decide)).trans ((eval_other _ 43 2 _ (by decide)).trans ((eval_other _ 42 2 _ (by decide)).trans ((eval_other _ 41 2 _ (by decide)).trans ((eval_other _ 39 2 _ (by decide)).trans base2))))))) w') ?_
      refine met_free po12 d12 (wanted_of gd12) (fun w' h' => run_move q12 ((eval_other _ 50 7 _ (by decide)).trans ((eval_other _ 47 7 _ (by decide)).trans ((eval_other _ 46 7 _ (by decide)).trans ((eval_other _ 45 7 _ (by decide)).trans ((eval_other _ 43 7 _ (by decide)).trans ((eval_other _ 42 7 _ (by decide)).trans ((eval_other _ 41 7 _ (by decide)).trans ((eval_other _ 39 7 _ (by decide)).trans base7)))))))) w') ?_
      refine met_free po13 d13 (wanted_of gd13) (fun w' h' => r_to q13 (Nat.le_trans n3 hcc) ((eval_other _ 51 50 _ (by decide)).trans (eval_same _ _ _ (by simp only [put_size, hsz]; decide))) (eval_same _ _ _ (by simp only [put_size, hsz]; decide)) w') ?_
      refine m_enter po1 d1 (wanted_of gd1) (run_callf1 q1 rfl ((eval_other _ 52 39 _ (by decide)).trans ((eval_other _ 51 39 _ (by decide)).trans ((eval_other _ 50 39 _ (by decide)).trans ((eval_other _ 47 39 _ (by decide)).trans ((eval_other _ 46 39 _ (by decide)).trans ((eval_other _ 45 39 _ (by decide)).trans ((eval_other _ 43 39 _ (by decide)).trans ((eval_other _ 42 39 _ (by decide)).trans ((eval_other _ 41 39 _ (by decide)).trans (eval_same _ _ _ (by rw [hsz]; decide))))))))))) Tryd.func16 (by kernel_rfl) _) (sum_any (xor3 la lb lc n) n qx cx _ HLN.out (by omega) HLD.out (HR.out.on HD.out)) ?_
      rintro e wx ⟨rfl, rfl⟩
      refine ⟨_, rfl, HD.out, ?_⟩
      refine m_enter po5 d5 (wanted_of gd5) (run_callf1 q5 rfl ((eval_other _ 40 43 _ (by decide)).trans ((eval_other _ 52 43 _ (by decide)).trans ((eval_other _ 51 43 _ (by decide)).trans ((eval_other _ 50 43 _ (by decide)).trans ((eval_other _ 47 43 _ (by decide)).trans ((eval_other _ 46 43 _ (by decide)).trans ((eval_other _ 45 43 _ (by decide)).trans (eval_same _ _ _ (by simp only [put_size, hsz]; decide))))))))) Tryd.func16 (by kernel_rfl) _) (sum_any (la.take n) n pa ca _ (by rw [List.length_take, HNA.out]; omega) (by omega) (lies_takeF (HA.out.below HD.out) n) (HR.out.on HD.out)) ?_
      rintro e wx ⟨rfl, rfl⟩
      refine ⟨_, rfl, HD.out, ?_⟩
      refine m_enter po9 d9 (wanted_of gd9) (run_callf1 q9 rfl ((eval_other _ 44 47 _ (by decide)).trans ((eval_other _ 40 47 _ (by decide)).trans ((eval_other _ 52 47 _ (by decide)).trans ((eval_other _ 51 47 _ (by decide)).trans ((eval_other _ 50 47 _ (by decide)).trans (eval_same _ _ _ (by simp only [put_size, hsz]; decide))))))) Tryd.func16 (by kernel_rfl) _) (sum_any (lb.take n) n pb cb _ (by rw [List.length_take, HNB.out]; omega) (by omega) (lies_takeF (HB.out.below HD.out) n) (HR.out.on HD.out)) ?_
      rintro e wx ⟨rfl, rfl⟩
      refine ⟨_, rfl, HD.out, ?_⟩
      refine met_free po10 d10 (wanted_of gd10) (fun w' h' => r_xor32 q10 ((eval_other _ 48 44 _ (by decide)).trans (eval_same _ _ _ (by simp only [put_size, hsz]; decide))) (eval_same _ _ _ (by simp only [put_size, hsz]; decide)) w') ?_
      refine m_enter po14 d14 (wanted_of gd14) (run_callf1 q14 rfl ((eval_other _ 49 52 _ (by decide)).trans ((eval_other _ 48 52 _ (by decide)).trans ((eval_other _ 44 52 _ (by decide)).trans ((eval_other _ 40 52 _ (by decide)).trans (eval_same _ _ _ (by simp only [put_size, hsz]; decide)))))) Tryd.func16 (by kernel_rfl) _) (sum_any (lc.take n) n pc cc _ (by rw [List.length_take, HNC.out]; omega) (by omega) (lies_takeF (HC.out.below HD.out) n) (HR.out.on HD.out)) ?_
      rintro e wx ⟨rfl, rfl⟩
      refine ⟨_, rfl, HD.out, ?_⟩
      refine met_free po15 d15 (wanted_of gd15) (fun w' h' => r_xor32 q15 ((eval_other _ 53 49 _ (by decide)).trans (eval_same _ _ _ (by simp only [put_size, hsz]; decide))) (eval_same _ _ _ (by simp only [put_size, hsz]; decide)) w') ?_
      refine met_free po16 d16 (wanted_of gd16) (fun w' h' => r_eql32 q16 ((eval_other _ 54 40 _ (by decide)).trans ((eval_other _ 53 40 _ (by decide)).trans ((eval_other _ 49 40 _ (by decide)).trans ((eval_other _ 48 40 _ (by decide)).trans ((eval_other _ 44 40 _ (by decide)).trans (eval_same _ _ _ (by simp only [put_size, hsz]; decide))))))) (eval_same _ _ _ (by simp only [put_size, hsz]; decide)) HSM.out w') ?_
      refine met_free po17 d17 (wanted_of gd17) (fun w' h' => run_move q17 (eval_same _ _ _ (by simp only [put_size, hsz]; decide)) w') ?_
      refine m_enter po18 d18 (wanted_guard gd18 po17 d17 (eval_same _ _ _ (by simp only [put_size, hsz]; decide))) (run_callf0 q18 rfl Tryd.func11 (by kernel_rfl) _) (works9_any _ (HR.out.on HD.out)) ?_
      rintro e w7 ⟨rfl, b7⟩
      have HB7 : Hid (Below w.heap.size w w7) := show Below _ _ _ from HD.out.trans (b7.mono HD.out.size)
      clear b7
      refine ⟨_, rfl, HB7.out, ?_⟩
      refine met_free po19 d19 (wanted_of gd19) (fun w' h' => run_pick_true q19 ((eval_other _ 57 56 _ (by decide)).trans (eval_same _ _ _ (by simp only [put_size, hsz]; decide))) (eval_same _ _ _ (by simp only [put_size, hsz]; decide)) w') ?_
      refine met_free po20 d20 (wanted_of gd20) (fun w' h' => run_assign q20 (eval_same _ _ _ (by simp only [put_size, hsz]; decide)) w') ?_
      show NoPanic _ .normal _ _
      refine NoPanic.normal ?_
      rw [HAA.out]
      go_frame
      clear HAA
      clear po0 q0 d0 gd0 po1 q1 d1 gd1 po2 q2 d2 gd2 po3 q3 d3 gd3 po4 q4 d4 gd4 po5 q5 d5 gd5 po6 q6 d6 gd6 po7 q7 d7 gd7 po8 q8 d8 gd8 po9 q9 d9 gd9 po10 q10 d10 gd10 po11 q11 d11 gd11 po12 q12 d12 gd12 po13 q13 d13 gd13 po14 q14 d14 gd14 po15 q15 d15 gd15 po16 q16 d16 gd16 po17 q17 d17 gd17 po18 q18 d18 gd18 po19 q19 d19 gd19 po20 q20 d20 gd20
      clear base0 base1 base2 base7 base8 hsz
      go_wp2_with fail
      go_ret
      exact ⟨rfl, HB7.out⟩
end Go.Proofs.YtejekgceompjpaaDoor

/-
  FrameLinear, for any three rows of bytes: the law returns true, and what came in reads afterwards as it read before; the package's table starts as the program's own text lays it (the tie is given).
-/
namespace Go.Proofs.YtejekgceompjpaaDoor
open Go.ChangeShapes Go.WideShapes Go.ChangeAt Go.RowKit Go.Proofs.ShaWords

set_option maxRecDepth 100000 in
theorem frameLinear_lifted (os : Os) (started : os.Started) (H : Type) (enc : TypeId × Value → H) :
    ReturnsInHanded {} Tryd.checked os 9 .any (fun w args => (Rows.frameLinearSpec.pre enc Tryd.prog Tryd.f9 [] false w args ∧ laidMetH Tryd.prog laid9 w) ∧ sizedMet enc Tryd.prog Tryd.f9 (OpenSpec.ofChange Rows.frameLinearSpec) false w args)
      (Rows.frameLinearSpec.post enc Tryd.prog Tryd.f9 false true false false) := by
  refine returnsInHanded_of_change_and (C := Tryd.checked) (X := fun w _ => laidMetH Tryd.prog laid9 w) (fun _ _ _ hh h => h.of_heap hh) own started (by kernel_rfl) Tryd.func9
    (ChangeSpec.witness_shaped (enc := enc) (C := Tryd.checked) (os := os) (X := fun w _ => laidMetH Tryd.prog laid9 w) false (World.doorLaid Tryd.prog 400 os) #[.slice none 0 0, .slice none 0 0, .slice none 0 0] 8 rfl (World.shaped_of_RefB (by kernel_rfl) (by kernel_rfl)) (by kernel_rfl) (by kernel_rfl) (by kernel_rfl) (door_met9 os _)) ?_
  intro W base args ds gs before hval0 hW _ hsz hL _
  have hW' := hW
  obtain ⟨p, q, hA0, hV, rfl, hfz, hnd⟩ := hW
  have hA : DataW.TrodAll enc Tryd.prog W 0 (fun _ => true) true Tryd.f9.params.toList args.toList ds p := hA0
  have hval : ∀ (j : Nat) t v, Tryd.f9.params[j]? = some t → args[j]? = some v → Value.okWide Tryd.prog W .any base t v := hval0
  have hsz2 : (DataW.weightsEach Tryd.prog (Tryd.f9.params.toList ++ Rows.frameLinearSpec.plain.varTypes Tryd.prog) (ds ++ gs)).all (· ≤ reachBytes) = true := hsz
  rw [Tryd.params9] at hA hval hsz2
  obtain ⟨v0, vs0, d0, ds0, p0, q0, hargs, rfl, rfl, h0, r0⟩ := trodAll_cons hA
  obtain ⟨v1, vs1, d1, ds1, p1, q1, rfl, rfl, rfl, h1, r1⟩ := trodAll_cons r0
  obtain ⟨v2, vs2, d2, ds2, p2, q2, rfl, rfl, rfl, h2, r2⟩ := trodAll_cons r1
  obtain ⟨rfl, rfl, rfl⟩ := trodAll_nil r2
  obtain rfl : args = #[v0, v1, v2] := by cases args; simp_all
  obtain ⟨rfl, rfl⟩ := trodVars_none hV
  have hb5 : Tryd.prog.bytesOf 5 = 1 := by kernel_rfl
  obtain ⟨a0, len0, cap0, rfl⟩ := okWide_slice Tryd.underlying22 (hval 0 22 v0 rfl rfl)
  have k0 := h0
  have lt0 : ∀ x ∈ p0, x.block < W.heap.size := by obtain ⟨m, hm⟩ := k0; exact DataW.trod_lt m _ _ _ hm
  obtain ⟨f0, hf0⟩ := h0
  obtain ⟨xs0, hx0a, hx0b, hx0c, hx0d⟩ := open_bytes hf0
  have hc0 : cap0 ≤ 140737488351232 := by
    rcases hx0d with ⟨_, h⟩ | ⟨e, sp, he, hl⟩
    · omega
    · have h := sized_slice hsz2 (j := 0) (t := 22) (elems := e) (spare := sp) rfl (by rw [← he]; rfl) Tryd.underlying22
      rw [hb5] at h; unfold reachBytes at h; omega
  obtain ⟨a1, len1, cap1, rfl⟩ := okWide_slice Tryd.underlying22 (hval 1 22 v1 rfl rfl)
  have k1 := h1
  have lt1 : ∀ x ∈ p1, x.block < W.heap.size := by obtain ⟨m, hm⟩ := k1; exact DataW.trod_lt m _ _ _ hm
  obtain ⟨f1, hf1⟩ := h1
  obtain ⟨xs1, hx1a, hx1b, hx1c, hx1d⟩ := open_bytes hf1
  have hc1 : cap1 ≤ 140737488351232 := by
    rcases hx1d with ⟨_, h⟩ | ⟨e, sp, he, hl⟩
    · omega
    · have h := sized_slice hsz2 (j := 1) (t := 22) (elems := e) (spare := sp) rfl (by rw [← he]; rfl) Tryd.underlying22
      rw [hb5] at h; unfold reachBytes at h; omega
  obtain ⟨a2, len2, cap2, rfl⟩ := okWide_slice Tryd.underlying22 (hval 2 22 v2 rfl rfl)
  have k2 := h2
  have lt2 : ∀ x ∈ p2, x.block < W.heap.size := by obtain ⟨m, hm⟩ := k2; exact DataW.trod_lt m _ _ _ hm
  obtain ⟨f2, hf2⟩ := h2
  obtain ⟨xs2, hx2a, hx2b, hx2c, hx2d⟩ := open_bytes hf2
  have hc2 : cap2 ≤ 140737488351232 := by
    rcases hx2d with ⟨_, h⟩ | ⟨e, sp, he, hl⟩
    · omega
    · have h := sized_slice hsz2 (j := 2) (t := 22) (elems := e) (spare := sp) rfl (by rw [← he]; rfl) Tryd.underlying22
      rw [hb5] at h; unfold reachBytes at h; omega
  have hQ := of_laid9 hL
  clear hA0 hval0
  refine (frLinear_any xs0 xs1 xs2 len0 len1 len2 a0 a1 a2 cap0 cap1 cap2 W hx0a hx1a hx2a hx0b hx1b hx2b hx0c hx1c hx2c hQ).mono fun e W' ⟨he, bel⟩ => ?_
  subst he
  exact ⟨_, rfl, _, _, _, [], _, [], hW', trodAll_mk1 (shut_bool Tryd.underlying4 _), (trodAll_cons_mk (Below.trod laidOut (by kernel_rfl) (of_decide_eq_true (by kernel_rfl)) k0 bel lt0) (trodAll_cons_mk (Below.trod laidOut (by kernel_rfl) (of_decide_eq_true (by kernel_rfl)) k1 bel lt1) (trodAll_cons_mk (Below.trod laidOut (by kernel_rfl) (of_decide_eq_true (by kernel_rfl)) k2 bel lt2) trodAll_mk0))), rfl, bel.frame _, fun h => by cases h⟩

theorem frameLinear_holds : Rows.FrameLinearSaid :=
  OpenClaim.holds_of_wide 9 Tryd.f9 rfl rfl rfl rfl rfl rfl rfl ⟨rfl, rfl, rfl, rfl, rfl⟩ rfl rfl rfl rfl rfl (by kernel_rfl) Tryd.func9 (by kernel_rfl)
    (of_decide_eq_true (by kernel_rfl)) (by unfold Func.isWrapper; first | (rw [if_pos (by decide +kernel)]; kernel_rfl) | (rw [if_neg (by decide +kernel)]; exact ⟨rfl, rfl⟩))
    (fun os started H enc _ => frameLinear_lifted os started H enc)

theorem frameLinear_card : Rows.FrameLinearCardSaid :=
  Claim7.holds_tied_plain_at .later [] [.data] true Rows.frameLinearCard.stood.harness false
    frameLinear_holds (fun _ h => by cases h) (by kernel_rfl) (fun _ h => by cases h) frameLinear_row_tie rfl ⟨rfl, rfl⟩ (by kernel_rfl) rfl
    (fun f fn hf hfn => by
      obtain rfl : f = 9 := Option.some.inj (hf.symm.trans (show _ = some 9 by kernel_rfl))
      obtain rfl : fn = Tryd.f9 := (Option.some.inj (Tryd.func9.symm.trans hfn)).symm
      exact ⟨by kernel_rfl, fun j t ht => by
        rw [Tryd.params9] at ht
        have hm : t ∈ [22, 22, 22] := by simpa using Array.mem_of_getElem? ht
        have hall : ([22, 22, 22].all fun u => !Tryd.prog.wantsStandIn u) = true := by kernel_rfl
        exact (show Tryd.prog.wantsStandIn t = false by simpa using List.all_eq_true.1 hall t hm)⟩)
    (by kernel_rfl)
#print axioms frameLinear_card
end Go.Proofs.YtejekgceompjpaaDoor
