/-
  What other texts lean on: TkEnc, TkSeq, TkTok, TkChain.
-/
import Derived.Test.YtgeacocdnenhdaaDoorPkA
import Derived.Test.YtgeacocdnenhdaaDoorPkD
import Derived.Test.YtgeacocdnenhdaaDoorPkTa
import Derived.LoopTactic
import Derived.Deep.Cut
/-
  The program's encoding of a grant (gen_tkenc.py).
-/
namespace Go.Proofs.YtgeacocdnenhdaaDoor
open Go.RowKit Go.Proofs.ShaWords
theorem textT_any (l : List (BitVec 8)) (s : ByteArray) (n : Nat) (p : Option Addr) (c : Nat) (w : World) (hn : l.length = n) (hl : n + s.size < 140737488350000) (hp : Lies w p l) :
    Calls Tryd.prog 58 #[.slice p n c, .string s] w fun e w' => ∃ r, e = .returned r ∧ Own w.heap.size w' (l ++ textB s) r ∧ Below w.heap.size w w' := by
  have h := textP_any l (bitsS s) n (bitsS s).length p c w hn rfl (by rw [bitsS_length]; exact hl) hp
  rw [strB_bits, List.append_assoc] at h
  exact h
theorem Own.named {B n : Nat} {w : World} {l : List (BitVec 8)} {v : Value} (h : Own B w l v) (hn : l.length = n) : ∃ q c, v = .slice q n c ∧ n ≤ c ∧ Lies w q l := by
  subst hn
  obtain ⟨q, c, h1, h2, -, h3⟩ := h.lies
  exact ⟨q, c, h1, h2, h3⟩
section
variable {ρ : Operand → Value} {o : Oper} {x y : Operand}
theorem run_ints1 {n : Int} (ho : o.op = .buildSlice 91 1 #[(0, x)]) (hx : ρ x = .int .i64 n) (w : World) :
    (execOp ρ o).run Tryd.prog w = .ok (.value (.slice (some ⟨w.heap.size, 0, none⟩) 1 1)) (w.alloc (.cells #[.int .i64 n] 3)) := by
  obtain ⟨dst, op, ty', pos, after, guard⟩ := o
  simp only at ho
  subst ho
  unfold execOp
  simp only [List.map_toArray, List.map_cons, List.map_nil, hx]
  kernel_rfl
theorem run_ints2 {n m : Int} (ho : o.op = .buildSlice 91 2 #[(0, x), (1, y)]) (hx : ρ x = .int .i64 n) (hy : ρ y = .int .i64 m) (w : World) :
    (execOp ρ o).run Tryd.prog w = .ok (.value (.slice (some ⟨w.heap.size, 0, none⟩) 2 2)) (w.alloc (.cells #[.int .i64 n, .int .i64 m] 3)) := by
  obtain ⟨dst, op, ty', pos, after, guard⟩ := o
  simp only at ho
  subst ho
  unfold execOp
  simp only [List.map_toArray, List.map_cons, List.map_nil, hx, hy]
  kernel_rfl
end
theorem lits1 (w : World) (a : Int) : LiesZ (w.alloc (.cells #[.int .i64 a] 3)) (some ⟨w.heap.size, 0, none⟩) [a] :=
  Or.inr ⟨_, 0, rfl, fun j v hv => by rw [Nat.zero_add, cell_of_row _ _ j _ _ _ (heap_new_at rfl)]; simpa [intsV] using hv⟩
theorem lits2 (w : World) (a b : Int) : LiesZ (w.alloc (.cells #[.int .i64 a, .int .i64 b] 3)) (some ⟨w.heap.size, 0, none⟩) [a, b] :=
  Or.inr ⟨_, 0, rfl, fun j v hv => by rw [Nat.zero_add, cell_of_row _ _ j _ _ _ (heap_new_at rfl)]; simpa [intsV] using hv⟩
theorem allocBelow (w : World) (o : Obj) : Below w.heap.size w (w.alloc o) := (Below.refl _ _).alloc (Nat.le_refl _) _
/-- A grant in a block, what was there as it was. -/
structure EnG (B : Nat) (g : GrantM) (W w : World) : Prop where
  box : GrantAt w B g
  below : Below W.heap.size W w
theorem EnG.step {B : Nat} {g : GrantM} {W w w' : World} (h : EnG B g W w) (hb : Below w.heap.size w w') : EnG B g W w' :=
  ⟨h.box.below hb (Array.getElem?_eq_some_iff.1 h.box).1, h.below.trans (hb.mono h.below.size)⟩
set_option maxRecDepth 100000 in
set_option maxHeartbeats 4000000 in
theorem encode_any (g : GrantM) (w : World) (hs : g.pre.size ≤ 1000000) : Calls Tryd.prog 163 #[.agg g.cells.toArray] w fun e w' => ∃ v, e = .returned v ∧ Own w.heap.size w' (encG g) v ∧ Below w.heap.size w w' := by
  have HS0 := Lib.hid hs; clear hs
  have HBOX : Hid (GrantAt (w.alloc (.cells g.cells.toArray 54)) w.heap.size g) := show GrantAt _ _ _ from heap_new_at rfl
  have HT : Hid (encG g = be8 g.rights ++ textB g.pre ++ numsB [exactZ g.exact, g.till]) := show _ = _ from rfl
  obtain ⟨r, p, x, t⟩ := g
  have cb := HBOX.out.c2
  go_enter Tryd.func163, Tryd.ntmps163
  have HEN : Hid (EnG w.heap.size ⟨r, p, x, t⟩ w (w.alloc (.cells (GrantM.cells ⟨r, p, x, t⟩).toArray 54))) := show EnG _ _ _ _ from ⟨HBOX.out, allocBelow _ _⟩
  clear HBOX
  cases x
  · skip
    go_upto_region 4 with (fail)
    refine region_grow (fun W => EnG w.heap.size ⟨r, p, false, t⟩ w W) (fun i vz wz => match i with | 0 => vz = .pointer (some ⟨w.heap.size, 0, none⟩) | 1 => vz = .int .i64 r | 2 => ∃ b : Nat, vz = .slice (some ⟨b, 0, none⟩) 1 1 ∧ LiesZ wz (some ⟨b, 0, none⟩) [r] | 3 => ∃ (q : Option Addr) (c : Nat), vz = .slice q (8) c ∧ Lies wz q (numsB [r]) | 4 => vz = .pointer (some ⟨w.heap.size, 1, none⟩) | 5 => vz = .string p | 6 => ∃ (q : Option Addr) (c : Nat), vz = .slice q (p.size + 16) c ∧ Lies wz q (numsB [r] ++ textB p) | 7 => vz = .int .i64 0 | 8 => vz = .pointer (some ⟨w.heap.size, 3, none⟩) | 9 => vz = .int .i64 t | 10 => ∃ b : Nat, vz = .slice (some ⟨b, 0, none⟩) 2 2 ∧ LiesZ wz (some ⟨b, 0, none⟩) [0, t] | 11 => Own w.heap.size wz (encG ⟨r, p, false, t⟩) vz | _ => True) (by kernel_rfl) (by kernel_rfl) (by kernel_rfl) (by kernel_rfl) (by decide) (HEN.out.step (Below.refl _ _).drew) ?stab ?grown
    case stab =>
      intro i vz wz w2 hb hf
      match i, hf with
      | 0, hf => exact hf
      | 1, hf => exact hf
      | 2, hf => obtain ⟨b, e, h⟩ := hf; exact ⟨b, e, h.below hb⟩
      | 3, hf => obtain ⟨q, c, e, h⟩ := hf; exact ⟨q, c, e, h.below hb⟩
      | 4, hf => exact hf
      | 5, hf => exact hf
      | 6, hf => obtain ⟨q, c, e, h⟩ := hf; exact ⟨q, c, e, h.below hb⟩
      | 7, hf => exact hf
      | 8, hf => exact hf
      | 9, hf => exact hf
      | 10, hf => obtain ⟨b, e, h⟩ := hf; exact ⟨b, e, h.below hb⟩
      | 11, hf => exact Own.below hf hb
      | _ + 12, _ => trivial
    case grown =>
      intro ops hops
      have hf1 : ∀ (i : Nat) (o : Oper), ops[i]? = some o → o.dst ≠ some 1 := by rw [hops]; exact fun i o h => slot_free (by kernel_rfl) i o h
      have hf3 : ∀ (i : Nat) (o : Oper), ops[i]? = some o → o.dst ≠ some 3 := by rw [hops]; exact fun i o h => slot_free (by kernel_rfl) i o h
      have hns : ops.size = 13 := by rw [hops]; rfl
      obtain ⟨o0, po0, q0, d0, gd0⟩ : ∃ o, ops[0]? = some o ∧ o.op = .fieldAddr 54 (.tmp 1) 0 ∧ o.dst = some 6 ∧ o.guard = none := ⟨_, by rw [hops]; rfl, rfl, rfl, rfl⟩
      obtain ⟨o1, po1, q1, d1, gd1, dp1_0⟩ : ∃ o, ops[1]? = some o ∧ o.op = .load 3 (.tmp 6) ∧ o.dst = some 7 ∧ o.guard = none ∧ (o.after.any fun e => Region.binds .any e && decide (e.on = 0)) = true := ⟨_, by rw [hops]; rfl, rfl, rfl, rfl, by kernel_rfl⟩
      obtain ⟨o2, po2, q2, d2, gd2, dp2_1⟩ : ∃ o, ops[2]? = some o ∧ o.op = .buildSlice 91 1 #[(0, (.tmp 7))] ∧ o.dst = some 8 ∧ o.guard = none ∧ (o.after.any fun e => Region.binds .any e && decide (e.on = 1)) = true := ⟨_, by rw [hops]; rfl, rfl, rfl, rfl, by kernel_rfl⟩
      obtain ⟨o3, po3, q3, d3, gd3, dp3_2⟩ : ∃ o, ops[3]? = some o ∧ o.op = .call { callee := .value (.func 114), args := #[.const (.slice none 0 0), .tmp 8], argTypes := #[24, 91] } ∧ o.dst = some 9 ∧ o.guard = none ∧ (o.after.any fun e => Region.binds .any e && decide (e.on = 2)) = true := ⟨_, by rw [hops]; rfl, rfl, rfl, rfl, by kernel_rfl⟩
      obtain ⟨o4, po4, q4, d4, gd4⟩ : ∃ o, ops[4]? = some o ∧ o.op = .fieldAddr 54 (.tmp 1) 1 ∧ o.dst = some 10 ∧ o.guard = none := ⟨_, by rw [hops]; rfl, rfl, rfl, rfl⟩
      obtain ⟨o5, po5, q5, d5, gd5, dp5_4⟩ : ∃ o, ops[5]? = some o ∧ o.op = .load 9 (.tmp 10) ∧ o.dst = some 11 ∧ o.guard = none ∧ (o.after.any fun e => Region.binds .any e && decide (e.on = 4)) = true := ⟨_, by rw [hops]; rfl, rfl, rfl, rfl, by kernel_rfl⟩
      obtain ⟨o6, po6, q6, d6, gd6, dp6_3, dp6_5⟩ : ∃ o, ops[6]? = some o ∧ o.op = .call { callee := .value (.func 58), args := #[.tmp 9, .tmp 11], argTypes := #[24, 9] } ∧ o.dst = some 12 ∧ o.guard = none ∧ (o.after.any fun e => Region.binds .any e && decide (e.on = 3)) = true ∧ (o.after.any fun e => Region.binds .any e && decide (e.on = 5)) = true := ⟨_, by rw [hops]; rfl, rfl, rfl, rfl, by kernel_rfl, by kernel_rfl⟩
      obtain ⟨o7, po7, q7, d7, gd7⟩ : ∃ o, ops[7]? = some o ∧ o.op = .move (.tmp 3) ∧ o.dst = some 13 ∧ o.guard = none := ⟨_, by rw [hops]; rfl, rfl, rfl, rfl⟩
      obtain ⟨o8, po8, q8, d8, gd8⟩ : ∃ o, ops[8]? = some o ∧ o.op = .fieldAddr 54 (.tmp 1) 3 ∧ o.dst = some 14 ∧ o.guard = none := ⟨_, by rw [hops]; rfl, rfl, rfl, rfl⟩
      obtain ⟨o9, po9, q9, d9, gd9, dp9_8⟩ : ∃ o, ops[9]? = some o ∧ o.op = .load 3 (.tmp 14) ∧ o.dst = some 15 ∧ o.guard = none ∧ (o.after.any fun e => Region.binds .any e && decide (e.on = 8)) = true := ⟨_, by rw [hops]; rfl, rfl, rfl, rfl, by kernel_rfl⟩
      obtain ⟨o10, po10, q10, d10, gd10, dp10_7, dp10_9⟩ : ∃ o, ops[10]? = some o ∧ o.op = .buildSlice 91 2 #[(0, (.tmp 13)), (1, (.tmp 15))] ∧ o.dst = some 16 ∧ o.guard = none ∧ (o.after.any fun e => Region.binds .any e && decide (e.on = 7)) = true ∧ (o.after.any fun e => Region.binds .any e && decide (e.on = 9)) = true := ⟨_, by rw [hops]; rfl, rfl, rfl, rfl, by kernel_rfl, by kernel_rfl⟩
      obtain ⟨o11, po11, q11, d11, gd11, dp11_6, dp11_10⟩ : ∃ o, ops[11]? = some o ∧ o.op = .call { callee := .value (.func 114), args := #[.tmp 12, .tmp 16], argTypes := #[24, 91] } ∧ o.dst = some 17 ∧ o.guard = none ∧ (o.after.any fun e => Region.binds .any e && decide (e.on = 6)) = true ∧ (o.after.any fun e => Region.binds .any e && decide (e.on = 10)) = true := ⟨_, by rw [hops]; rfl, rfl, rfl, rfl, by kernel_rfl, by kernel_rfl⟩
      obtain ⟨o12, po12, q12, d12, gd12⟩ : ∃ o, ops[12]? = some o ∧ o.op = .assign (.tmp 17) ∧ o.dst = some 2 ∧ o.guard = none := ⟨_, by rw [hops]; rfl, rfl, rfl, rfl⟩
      have hslots : ∀ t, t ∉ [6, 7, 8, 9, 10, 11, 12, 13, 14, 15, 16, 17, 2] → ∀ (i : Nat) (o : Oper), ops[i]? = some o → o.dst ≠ some t := by rw [hops]; exact fun t ht i o h => slots_free (by kernel_rfl) t ht i o h
      clear hops
      refine ⟨fun A W HS hfr hAs i o hi ho hdep => ?_, fun A W HS hdf hAs hfr hall => ?_⟩
      · skip
        have base1 : A.eval (.tmp 1) = .pointer (some ⟨w.heap.size, 0, none⟩) := (hfr 1 hf1).trans rfl
        have base3 : A.eval (.tmp 3) = .int .i64 0 := (hfr 3 hf3).trans rfl
        rw [hns] at hi
        obtain rfl | rfl | rfl | rfl | rfl | rfl | rfl | rfl | rfl | rfl | rfl | rfl : i = 0 ∨ i = 1 ∨ i = 2 ∨ i = 3 ∨ i = 4 ∨ i = 5 ∨ i = 6 ∨ i = 7 ∨ i = 8 ∨ i = 9 ∨ i = 10 ∨ i = 11 := by omega
        · skip
          obtain rfl : o = o0 := Option.some.inj (ho.symm.trans po0)
          refine at_op po0 d0 (wanted_of gd0) (run_fieldT (off := 0) q0 (fun _ => by kernel_rfl) base1 W) ⟨_, by rw [d0], HS, Below.refl _ _, rfl⟩
        · skip
          obtain rfl : o = o1 := Option.some.inj (ho.symm.trans po1)
          have e0 : A.eval (.tmp 6) = .pointer (some ⟨w.heap.size, 0, none⟩) := hdep 0 _ 6 dp1_0 po0 d0
          refine at_op po1 d1 (wanted_of gd1) (run_loadInt q1 e0 HS.box.c0) ⟨_, by rw [d1], HS, Below.refl _ _, rfl⟩
        · skip
          obtain rfl : o = o2 := Option.some.inj (ho.symm.trans po2)
          have e1 : A.eval (.tmp 7) = .int .i64 r := hdep 1 _ 7 dp2_1 po1 d1
          refine at_op po2 d2 (wanted_of gd2) (run_ints1 q2 e1 W) ⟨_, by rw [d2], HS.step (allocBelow _ _), (allocBelow _ _), ⟨_, rfl, lits1 _ _⟩⟩
        · skip
          obtain rfl : o = o3 := Option.some.inj (ho.symm.trans po3)
          have f2 : ∃ b : Nat, (A.eval (.tmp 8)) = .slice (some ⟨b, 0, none⟩) 1 1 ∧ LiesZ W (some ⟨b, 0, none⟩) [r] := hdep 2 _ 8 dp3_2 po2 d2
          obtain ⟨b2, e2, l2⟩ := f2
          refine at_enterT po3 d3 (wanted_of gd3) (run_callf2 q3 rfl rfl e2 Tryd.func114 (by kernel_rfl) _) (numbers_any [] [r] 0 1 none (some ⟨b2, 0, none⟩) 0 1 W rfl rfl (by decide) (Or.inl rfl) l2 (by decide)) ?_
          rintro e w1 ⟨v, rfl, ho, hb⟩; obtain ⟨q3, c3, rfl, -, h3⟩ := ho.named (n := 8) (by simp [numsB, be8_length])
          exact ⟨_, rfl, ⟨_, by rw [d3], HS.step hb, hb, ⟨q3, c3, rfl, h3⟩⟩⟩
        · skip
          obtain rfl : o = o4 := Option.some.inj (ho.symm.trans po4)
          refine at_op po4 d4 (wanted_of gd4) (run_fieldT (off := 1) q4 (fun _ => by kernel_rfl) base1 W) ⟨_, by rw [d4], HS, Below.refl _ _, rfl⟩
        · skip
          obtain rfl : o = o5 := Option.some.inj (ho.symm.trans po5)
          have e4 : A.eval (.tmp 10) = .pointer (some ⟨w.heap.size, 1, none⟩) := hdep 4 _ 10 dp5_4 po4 d4
          refine at_op po5 d5 (wanted_of gd5) (run_loadStr q5 e4 HS.box.c1) ⟨_, by rw [d5], HS, Below.refl _ _, rfl⟩
        · skip
          obtain rfl : o = o6 := Option.some.inj (ho.symm.trans po6)
          have f3 : ∃ (q : Option Addr) (c : Nat), (A.eval (.tmp 9)) = .slice q (8) c ∧ Lies W q (numsB [r]) := hdep 3 _ 9 dp6_3 po3 d3
          obtain ⟨y3, k3, e3, l3⟩ := f3
          have e5 : A.eval (.tmp 11) = .string p := hdep 5 _ 11 dp6_5 po5 d5
          refine at_enterT po6 d6 (wanted_of gd6) (run_callf2 q6 rfl e3 e5 Tryd.func58 (by kernel_rfl) _) (textT_any (numsB [r]) p 8 y3 k3 W (by simp [numsB, be8_length]) (by have := HS0.out; simp only at this; omega) l3) ?_
          rintro e w1 ⟨v, rfl, ho, hb⟩; obtain ⟨q6, c6, rfl, -, h6⟩ := ho.named (n := p.size + 16) (by rw [List.length_append, textB_length]; simp [numsB, be8_length]; omega)
          exact ⟨_, rfl, ⟨_, by rw [d6], HS.step hb, hb, ⟨q6, c6, rfl, h6⟩⟩⟩
        · skip
          obtain rfl : o = o7 := Option.some.inj (ho.symm.trans po7)
          refine at_op po7 d7 (wanted_of gd7) (run_move q7 base3 W) ⟨_, by rw [d7], HS, Below.refl _ _, rfl⟩
        · skip
          obtain rfl : o = o8 := Option.some.inj (ho.symm.trans po8)
          refine at_op po8 d8 (wanted_of gd8) (run_fieldT (off := 3) q8 (fun _ => by kernel_rfl) base1 W) ⟨_, by rw [d8], HS, Below.refl _ _, rfl⟩
        · skip
          obtain rfl : o = o9 := Option.some.inj (ho.symm.trans po9)
          have e8 : A.eval (.tmp 14) = .pointer (some ⟨w.heap.size, 3, none⟩) := hdep 8 _ 14 dp9_8 po8 d8
          refine at_op po9 d9 (wanted_of gd9) (run_loadInt q9 e8 HS.box.c3) ⟨_, by rw [d9], HS, Below.refl _ _, rfl⟩
        · skip
          obtain rfl : o = o10 := Option.some.inj (ho.symm.trans po10)
          have e7 : A.eval (.tmp 13) = .int .i64 0 := hdep 7 _ 13 dp10_7 po7 d7
          have e9 : A.eval (.tmp 15) = .int .i64 t := hdep 9 _ 15 dp10_9 po9 d9
          refine at_op po10 d10 (wanted_of gd10) (run_ints2 q10 e7 e9 W) ⟨_, by rw [d10], HS.step (allocBelow _ _), (allocBelow _ _), ⟨_, rfl, lits2 _ _ _⟩⟩
        · skip
          obtain rfl : o = o11 := Option.some.inj (ho.symm.trans po11)
          have f6 : ∃ (q : Option Addr) (c : Nat), (A.eval (.tmp 12)) = .slice q (p.size + 16) c ∧ Lies W q (numsB [r] ++ textB p) := hdep 6 _ 12 dp11_6 po6 d6
          obtain ⟨y6, k6, e6, l6⟩ := f6
          have f10 : ∃ b : Nat, (A.eval (.tmp 16)) = .slice (some ⟨b, 0, none⟩) 2 2 ∧ LiesZ W (some ⟨b, 0, none⟩) [0, t] := hdep 10 _ 16 dp11_10 po10 d10
          obtain ⟨b10, e10, l10⟩ := f10
          refine at_enterT po11 d11 (wanted_of gd11) (run_callf2 q11 rfl e6 e10 Tryd.func114 (by kernel_rfl) _) (numbers_any (numsB [r] ++ textB p) [0, t] (p.size + 16) 2 y6 (some ⟨b10, 0, none⟩) k6 2 W (by rw [List.length_append, textB_length]; simp [numsB, be8_length]; omega) rfl (by have := HS0.out; simp only at this; omega) l6 l10 (by decide)) ?_
          rintro e w1 ⟨v, rfl, ho, hb⟩
          exact ⟨_, rfl, ⟨_, by rw [d11], HS.step hb, hb, (by have h := ho.lower HS.below.size; rw [HT.out]; simpa [numsB, exactZ] using h)⟩⟩
      · skip
        have base1 : A.eval (.tmp 1) = .pointer (some ⟨w.heap.size, 0, none⟩) := (hfr 1 hf1).trans rfl
        have base3 : A.eval (.tmp 3) = .int .i64 0 := (hfr 3 hf3).trans rfl
        have e0 : A.eval (.tmp 6) = .pointer (some ⟨w.heap.size, 0, none⟩) := hall 0 _ 6 (by rw [hns]; decide) po0 d0
        have e1 : A.eval (.tmp 7) = .int .i64 r := hall 1 _ 7 (by rw [hns]; decide) po1 d1
        have f2 : ∃ b : Nat, (A.eval (.tmp 8)) = .slice (some ⟨b, 0, none⟩) 1 1 ∧ LiesZ W (some ⟨b, 0, none⟩) [r] := hall 2 _ 8 (by rw [hns]; decide) po2 d2
        obtain ⟨b2, e2, l2⟩ := f2
        have f3 : ∃ (q : Option Addr) (c : Nat), (A.eval (.tmp 9)) = .slice q (8) c ∧ Lies W q (numsB [r]) := hall 3 _ 9 (by rw [hns]; decide) po3 d3
        obtain ⟨y3, k3, e3, l3⟩ := f3
        have e4 : A.eval (.tmp 10) = .pointer (some ⟨w.heap.size, 1, none⟩) := hall 4 _ 10 (by rw [hns]; decide) po4 d4
        have e5 : A.eval (.tmp 11) = .string p := hall 5 _ 11 (by rw [hns]; decide) po5 d5
        have f6 : ∃ (q : Option Addr) (c : Nat), (A.eval (.tmp 12)) = .slice q (p.size + 16) c ∧ Lies W q (numsB [r] ++ textB p) := hall 6 _ 12 (by rw [hns]; decide) po6 d6
        obtain ⟨y6, k6, e6, l6⟩ := f6
        have e7 : A.eval (.tmp 13) = .int .i64 0 := hall 7 _ 13 (by rw [hns]; decide) po7 d7
        have e8 : A.eval (.tmp 14) = .pointer (some ⟨w.heap.size, 3, none⟩) := hall 8 _ 14 (by rw [hns]; decide) po8 d8
        have e9 : A.eval (.tmp 15) = .int .i64 t := hall 9 _ 15 (by rw [hns]; decide) po9 d9
        have f10 : ∃ b : Nat, (A.eval (.tmp 16)) = .slice (some ⟨b, 0, none⟩) 2 2 ∧ LiesZ W (some ⟨b, 0, none⟩) [0, t] := hall 10 _ 16 (by rw [hns]; decide) po10 d10
        obtain ⟨b10, e10, l10⟩ := f10
        have f11 : Own w.heap.size W (encG ⟨r, p, false, t⟩) (A.eval (.tmp 17)) := hall 11 _ 17 (by rw [hns]; decide) po11 d11
        obtain ⟨v11, e11⟩ : ∃ u, A.eval (.tmp 17) = u := ⟨_, rfl⟩
        have hA := act_of_slots [6, 7, 8, 9, 10, 11, 12, 13, 14, 15, 16, 17, 2] _ hAs hdf (fun t ht => hfr t (hslots t ht))
        simp only [List.foldl_cons, List.foldl_nil] at hA
        rw [show rdA A 6 = A.eval (.tmp 6) from rfl, e0] at hA
        rw [show rdA A 7 = A.eval (.tmp 7) from rfl, e1] at hA
        rw [show rdA A 8 = A.eval (.tmp 8) from rfl, e2] at hA
        rw [show rdA A 9 = A.eval (.tmp 9) from rfl, e3] at hA
        rw [show rdA A 10 = A.eval (.tmp 10) from rfl, e4] at hA
        rw [show rdA A 11 = A.eval (.tmp 11) from rfl, e5] at hA
        rw [show rdA A 12 = A.eval (.tmp 12) from rfl, e6] at hA
        rw [show rdA A 13 = A.eval (.tmp 13) from rfl, e7] at hA
        rw [show rdA A 14 = A.eval (.tmp 14) from rfl, e8] at hA
        rw [show rdA A 15 = A.eval (.tmp 15) from rfl, e9] at hA
        rw [show rdA A 16 = A.eval (.tmp 16) from rfl, e10] at hA
        rw [show rdA A 17 = A.eval (.tmp 17) from rfl, e11] at hA
        obtain ⟨ul, hul⟩ : ∃ u, rdA A 2 = u := ⟨_, rfl⟩
        rw [hul] at hA
        clear hul
        rw [hns]
        have hfin := f11
        rw [e11] at hfin
        have HFIN := Lib.hid hfin
        have HSF := Lib.hid HS.below
        refine at_op po12 d12 (wanted_of gd12) (run_assign q12 e11 W) ?_
        have HA := Lib.hid hA
        clear hfin hA HS
        rw [HA.out]
        go_frame
        go_wp2_with fail
        go_ret
        exact ⟨_, rfl, HFIN.out, HSF.out⟩
  · skip
    go_upto_region 4 with (fail)
    refine region_grow (fun W => EnG w.heap.size ⟨r, p, true, t⟩ w W) (fun i vz wz => match i with | 0 => vz = .pointer (some ⟨w.heap.size, 0, none⟩) | 1 => vz = .int .i64 r | 2 => ∃ b : Nat, vz = .slice (some ⟨b, 0, none⟩) 1 1 ∧ LiesZ wz (some ⟨b, 0, none⟩) [r] | 3 => ∃ (q : Option Addr) (c : Nat), vz = .slice q (8) c ∧ Lies wz q (numsB [r]) | 4 => vz = .pointer (some ⟨w.heap.size, 1, none⟩) | 5 => vz = .string p | 6 => ∃ (q : Option Addr) (c : Nat), vz = .slice q (p.size + 16) c ∧ Lies wz q (numsB [r] ++ textB p) | 7 => vz = .int .i64 1 | 8 => vz = .pointer (some ⟨w.heap.size, 3, none⟩) | 9 => vz = .int .i64 t | 10 => ∃ b : Nat, vz = .slice (some ⟨b, 0, none⟩) 2 2 ∧ LiesZ wz (some ⟨b, 0, none⟩) [1, t] | 11 => Own w.heap.size wz (encG ⟨r, p, true, t⟩) vz | _ => True) (by kernel_rfl) (by kernel_rfl) (by kernel_rfl) (by kernel_rfl) (by decide) (HEN.out.step (Below.refl _ _).drew) ?stab ?grown
    case stab =>
      intro i vz wz w2 hb hf
      match i, hf with
      | 0, hf => exact hf
      | 1, hf => exact hf
      | 2, hf => obtain ⟨b, e, h⟩ := hf; exact ⟨b, e, h.below hb⟩
      | 3, hf => obtain ⟨q, c, e, h⟩ := hf; exact ⟨q, c, e, h.below hb⟩
      | 4, hf => exact hf
      | 5, hf => exact hf
      | 6, hf => obtain ⟨q, c, e, h⟩ := hf; exact ⟨q, c, e, h.below hb⟩
      | 7, hf => exact hf
      | 8, hf => exact hf
      | 9, hf => exact hf
      | 10, hf => obtain ⟨b, e, h⟩ := hf; exact ⟨b, e, h.below hb⟩
      | 11, hf => exact Own.below hf hb
      | _ + 12, _ => trivial
    case grown =>
      intro ops hops
      have hf1 : ∀ (i : Nat) (o : Oper), ops[i]? = some o → o.dst ≠ some 1 := by rw [hops]; exact fun i o h => slot_free (by kernel_rfl) i o h
      have hf3 : ∀ (i : Nat) (o : Oper), ops[i]? = some o → o.dst ≠ some 3 := by rw [hops]; exact fun i o h => slot_free (by kernel_rfl) i o h
      have hns : ops.size = 13 := by rw [hops]; rfl
      obtain ⟨o0, po0, q0, d0, gd0⟩ : ∃ o, ops[0]? = some o ∧ o.op = .fieldAddr 54 (.tmp 1) 0 ∧ o.dst = some 6 ∧ o.guard = none := ⟨_, by rw [hops]; rfl, rfl, rfl, rfl⟩
      obtain ⟨o1, po1, q1, d1, gd1, dp1_0⟩ : ∃ o, ops[1]? = some o ∧ o.op = .load 3 (.tmp 6) ∧ o.dst = some 7 ∧ o.guard = none ∧ (o.after.any fun e => Region.binds .any e && decide (e.on = 0)) = true := ⟨_, by rw [hops]; rfl, rfl, rfl, rfl, by kernel_rfl⟩
      obtain ⟨o2, po2, q2, d2, gd2, dp2_1⟩ : ∃ o, ops[2]? = some o ∧ o.op = .buildSlice 91 1 #[(0, (.tmp 7))] ∧ o.dst = some 8 ∧ o.guard = none ∧ (o.after.any fun e => Region.binds .any e && decide (e.on = 1)) = true := ⟨_, by rw [hops]; rfl, rfl, rfl, rfl, by kernel_rfl⟩
      obtain ⟨o3, po3, q3, d3, gd3, dp3_2⟩ : ∃ o, ops[3]? = some o ∧ o.op = .call { callee := .value (.func 114), args := #[.const (.slice none 0 0), .tmp 8], argTypes := #[24, 91] } ∧ o.dst = some 9 ∧ o.guard = none ∧ (o.after.any fun e => Region.binds .any e && decide (e.on = 2)) = true := ⟨_, by rw [hops]; rfl, rfl, rfl, rfl, by kernel_rfl⟩
      obtain ⟨o4, po4, q4, d4, gd4⟩ : ∃ o, ops[4]? = some o ∧ o.op = .fieldAddr 54 (.tmp 1) 1 ∧ o.dst = some 10 ∧ o.guard = none := ⟨_, by rw [hops]; rfl, rfl, rfl, rfl⟩
      obtain ⟨o5, po5, q5, d5, gd5, dp5_4⟩ : ∃ o, ops[5]? = some o ∧ o.op = .load 9 (.tmp 10) ∧ o.dst = some 11 ∧ o.guard = none ∧ (o.after.any fun e => Region.binds .any e && decide (e.on = 4)) = true := ⟨_, by rw [hops]; rfl, rfl, rfl, rfl, by kernel_rfl⟩
      obtain ⟨o6, po6, q6, d6, gd6, dp6_3, dp6_5⟩ : ∃ o, ops[6]? = some o ∧ o.op = .call { callee := .value (.func 58), args := #[.tmp 9, .tmp 11], argTypes := #[24, 9] } ∧ o.dst = some 12 ∧ o.guard = none ∧ (o.after.any fun e => Region.binds .any e && decide (e.on = 3)) = true ∧ (o.after.any fun e => Region.binds .any e && decide (e.on = 5)) = true := ⟨_, by rw [hops]; rfl, rfl, rfl, rfl, by kernel_rfl, by kernel_rfl⟩
      obtain ⟨o7, po7, q7, d7, gd7⟩ : ∃ o, ops[7]? = some o ∧ o.op = .move (.tmp 3) ∧ o.dst = some 13 ∧ o.guard = none := ⟨_, by rw [hops]; rfl, rfl, rfl, rfl⟩
      obtain ⟨o8, po8, q8, d8, gd8⟩ : ∃ o, ops[8]? = some o ∧ o.op = .fieldAddr 54 (.tmp 1) 3 ∧ o.dst = some 14 ∧ o.guard = none := ⟨_, by rw [hops]; rfl, rfl, rfl, rfl⟩
      obtain ⟨o9, po9, q9, d9, gd9, dp9_8⟩ : ∃ o, ops[9]? = some o ∧ o.op = .load 3 (.tmp 14) ∧ o.dst = some 15 ∧ o.guard = none ∧ (o.after.any fun e => Region.binds .any e && decide (e.on = 8)) = true := ⟨_, by rw [hops]; rfl, rfl, rfl, rfl, by kernel_rfl⟩
      obtain ⟨o10, po10, q10, d10, gd10, dp10_7, dp10_9⟩ : ∃ o, ops[10]? = some o ∧ o.op = .buildSlice 91 2 #[(0, (.tmp 13)), (1, (.tmp 15))] ∧ o.dst = some 16 ∧ o.guard = none ∧ (o.after.any fun e => Region.binds .any e && decide (e.on = 7)) = true ∧ (o.after.any fun e => Region.binds .any e && decide (e.on = 9)) = true := ⟨_, by rw [hops]; rfl, rfl, rfl, rfl, by kernel_rfl, by kernel_rfl⟩
      obtain ⟨o11, po11, q11, d11, gd11, dp11_6, dp11_10⟩ : ∃ o, ops[11]? = some o ∧ o.op = .call { callee := .value (.func 114), args := #[.tmp 12, .tmp 16], argTypes := #[24, 91] } ∧ o.dst = some 17 ∧ o.guard = none ∧ (o.after.any fun e => Region.binds .any e && decide (e.on = 6)) = true ∧ (o.after.any fun e => Region.binds .any e && decide (e.on = 10)) = true := ⟨_, by rw [hops]; rfl, rfl, rfl, rfl, by kernel_rfl, by kernel_rfl⟩
      obtain ⟨o12, po12, q12, d12, gd12⟩ : ∃ o, ops[12]? = some o ∧ o.op = .assign (.tmp 17) ∧ o.dst = some 2 ∧ o.guard = none := ⟨_, by rw [hops]; rfl, rfl, rfl, rfl⟩
      have hslots : ∀ t, t ∉ [6, 7, 8, 9, 10, 11, 12, 13, 14, 15, 16, 17, 2] → ∀ (i : Nat) (o : Oper), ops[i]? = some o → o.dst ≠ some t := by rw [hops]; exact fun t ht i o h => slots_free (by kernel_rfl) t ht i o h
      clear hops
      refine ⟨fun A W HS hfr hAs i o hi ho hdep => ?_, fun A W HS hdf hAs hfr hall => ?_⟩
      · skip
        have base1 : A.eval (.tmp 1) = .pointer (some ⟨w.heap.size, 0, none⟩) := (hfr 1 hf1).trans rfl
        have base3 : A.eval (.tmp 3) = .int .i64 1 := (hfr 3 hf3).trans rfl
        rw [hns] at hi
        obtain rfl | rfl | rfl | rfl | rfl | rfl | rfl | rfl | rfl | rfl | rfl | rfl : i = 0 ∨ i = 1 ∨ i = 2 ∨ i = 3 ∨ i = 4 ∨ i = 5 ∨ i = 6 ∨ i = 7 ∨ i = 8 ∨ i = 9 ∨ i = 10 ∨ i = 11 := by omega
        · skip
          obtain rfl : o = o0 := Option.some.inj (ho.symm.trans po0)
          refine at_op po0 d0 (wanted_of gd0) (run_fieldT (off := 0) q0 (fun _ => by kernel_rfl) base1 W) ⟨_, by rw [d0], HS, Below.refl _ _, rfl⟩
        · skip
          obtain rfl : o = o1 := Option.some.inj (ho.symm.trans po1)
          have e0 : A.eval (.tmp 6) = .pointer (some ⟨w.heap.size, 0, none⟩) := hdep 0 _ 6 dp1_0 po0 d0
          refine at_op po1 d1 (wanted_of gd1) (run_loadInt q1 e0 HS.box.c0) ⟨_, by rw [d1], HS, Below.refl _ _, rfl⟩
        · skip
          obtain rfl : o = o2 := Option.some.inj (ho.symm.trans po2)
          have e1 : A.eval (.tmp 7) = .int .i64 r := hdep 1 _ 7 dp2_1 po1 d1
          refine at_op po2 d2 (wanted_of gd2) (run_ints1 q2 e1 W) ⟨_, by rw [d2], HS.step (allocBelow _ _), (allocBelow _ _), ⟨_, rfl, lits1 _ _⟩⟩
        · skip
          obtain rfl : o = o3 := Option.some.inj (ho.symm.trans po3)
          have f2 : ∃ b : Nat, (A.eval (.tmp 8)) = .slice (some ⟨b, 0, none⟩) 1 1 ∧ LiesZ W (some ⟨b, 0, none⟩) [r] := hdep 2 _ 8 dp3_2 po2 d2
          obtain ⟨b2, e2, l2⟩ := f2
          refine at_enterT po3 d3 (wanted_of gd3) (run_callf2 q3 rfl rfl e2 Tryd.func114 (by kernel_rfl) _) (numbers_any [] [r] 0 1 none (some ⟨b2, 0, none⟩) 0 1 W rfl rfl (by decide) (Or.inl rfl) l2 (by decide)) ?_
          rintro e w1 ⟨v, rfl, ho, hb⟩; obtain ⟨q3, c3, rfl, -, h3⟩ := ho.named (n := 8) (by simp [numsB, be8_length])
          exact ⟨_, rfl, ⟨_, by rw [d3], HS.step hb, hb, ⟨q3, c3, rfl, h3⟩⟩⟩
        · skip
          obtain rfl : o = o4 := Option.some.inj (ho.symm.trans po4)
          refine at_op po4 d4 (wanted_of gd4) (run_fieldT (off := 1) q4 (fun _ => by kernel_rfl) base1 W) ⟨_, by rw [d4], HS, Below.refl _ _, rfl⟩
        · skip
          obtain rfl : o = o5 := Option.some.inj (ho.symm.trans po5)
          have e4 : A.eval (.tmp 10) = .pointer (some ⟨w.heap.size, 1, none⟩) := hdep 4 _ 10 dp5_4 po4 d4
          refine at_op po5 d5 (wanted_of gd5) (run_loadStr q5 e4 HS.box.c1) ⟨_, by rw [d5], HS, Below.refl _ _, rfl⟩
        · skip
          obtain rfl : o = o6 := Option.some.inj (ho.symm.trans po6)
          have f3 : ∃ (q : Option Addr) (c : Nat), (A.eval (.tmp 9)) = .slice q (8) c ∧ Lies W q (numsB [r]) := hdep 3 _ 9 dp6_3 po3 d3
          obtain ⟨y3, k3, e3, l3⟩ := f3
          have e5 : A.eval (.tmp 11) = .string p := hdep 5 _ 11 dp6_5 po5 d5
          refine at_enterT po6 d6 (wanted_of gd6) (run_callf2 q6 rfl e3 e5 Tryd.func58 (by kernel_rfl) _) (textT_any (numsB [r]) p 8 y3 k3 W (by simp [numsB, be8_length]) (by have := HS0.out; simp only at this; omega) l3) ?_
          rintro e w1 ⟨v, rfl, ho, hb⟩; obtain ⟨q6, c6, rfl, -, h6⟩ := ho.named (n := p.size + 16) (by rw [List.length_append, textB_length]; simp [numsB, be8_length]; omega)
          exact ⟨_, rfl, ⟨_, by rw [d6], HS.step hb, hb, ⟨q6, c6, rfl, h6⟩⟩⟩
        · skip
          obtain rfl : o = o7 := Option.some.inj (ho.symm.trans po7)
          refine at_op po7 d7 (wanted_of gd7) (run_move q7 base3 W) ⟨_, by rw [d7], HS, Below.refl _ _, rfl⟩
        · skip
          obtain rfl : o = o8 := Option.some.inj (ho.symm.trans po8)
          refine at_op po8 d8 (wanted_of gd8) (run_fieldT (off := 3) q8 (fun _ => by kernel_rfl) base1 W) ⟨_, by rw [d8], HS, Below.refl _ _, rfl⟩
        · skip
          obtain rfl : o = o9 := Option.some.inj (ho.symm.trans po9)
          have e8 : A.eval (.tmp 14) = .pointer (some ⟨w.heap.size, 3, none⟩) := hdep 8 _ 14 dp9_8 po8 d8
          refine at_op po9 d9 (wanted_of gd9) (run_loadInt q9 e8 HS.box.c3) ⟨_, by rw [d9], HS, Below.refl _ _, rfl⟩
        · skip
          obtain rfl : o = o10 := Option.some.inj (ho.symm.trans po10)
          have e7 : A.eval (.tmp 13) = .int .i64 1 := hdep 7 _ 13 dp10_7 po7 d7
          have e9 : A.eval (.tmp 15) = .int .i64 t := hdep 9 _ 15 dp10_9 po9 d9
          refine at_op po10 d10 (wanted_of gd10) (run_ints2 q10 e7 e9 W) ⟨_, by rw [d10], HS.step (allocBelow _ _), (allocBelow _ _), ⟨_, rfl, lits2 _ _ _⟩⟩
        · skip
          obtain rfl : o = o11 := Option.some.inj (ho.symm.trans po11)
          have f6 : ∃ (q : Option Addr) (c : Nat), (A.eval (.tmp 12)) = .slice q (p.size + 16) c ∧ Lies W q (numsB [r] ++ textB p) := hdep 6 _ 12 dp11_6 po6 d6
          obtain ⟨y6, k6, e6, l6⟩ := f6
          have f10 : ∃ b : Nat, (A.eval (.tmp 16)) = .slice (some ⟨b, 0, none⟩) 2 2 ∧ LiesZ W (some ⟨b, 0, none⟩) [1, t] := hdep 10 _ 16 dp11_10 po10 d10
          obtain ⟨b10, e10, l10⟩ := f10
          refine at_enterT po11 d11 (wanted_of gd11) (run_callf2 q11 rfl e6 e10 Tryd.func114 (by kernel_rfl) _) (numbers_any (numsB [r] ++ textB p) [1, t] (p.size + 16) 2 y6 (some ⟨b10, 0, none⟩) k6 2 W (by rw [List.length_append, textB_length]; simp [numsB, be8_length]; omega) rfl (by have := HS0.out; simp only at this; omega) l6 l10 (by decide)) ?_
          rintro e w1 ⟨v, rfl, ho, hb⟩
          exact ⟨_, rfl, ⟨_, by rw [d11], HS.step hb, hb, (by have h := ho.lower HS.below.size; rw [HT.out]; simpa [numsB, exactZ] using h)⟩⟩
      · skip
        have base1 : A.eval (.tmp 1) = .pointer (some ⟨w.heap.size, 0, none⟩) := (hfr 1 hf1).trans rfl
        have base3 : A.eval (.tmp 3) = .int .i64 1 := (hfr 3 hf3).trans rfl
        have e0 : A.eval (.tmp 6) = .pointer (some ⟨w.heap.size, 0, none⟩) := hall 0 _ 6 (by rw [hns]; decide) po0 d0
        have e1 : A.eval (.tmp 7) = .int .i64 r := hall 1 _ 7 (by rw [hns]; decide) po1 d1
        have f2 : ∃ b : Nat, (A.eval (.tmp 8)) = .slice (some ⟨b, 0, none⟩) 1 1 ∧ LiesZ W (some ⟨b, 0, none⟩) [r] := hall 2 _ 8 (by rw [hns]; decide) po2 d2
        obtain ⟨b2, e2, l2⟩ := f2
        have f3 : ∃ (q : Option Addr) (c : Nat), (A.eval (.tmp 9)) = .slice q (8) c ∧ Lies W q (numsB [r]) := hall 3 _ 9 (by rw [hns]; decide) po3 d3
        obtain ⟨y3, k3, e3, l3⟩ := f3
        have e4 : A.eval (.tmp 10) = .pointer (some ⟨w.heap.size, 1, none⟩) := hall 4 _ 10 (by rw [hns]; decide) po4 d4
        have e5 : A.eval (.tmp 11) = .string p := hall 5 _ 11 (by rw [hns]; decide) po5 d5
        have f6 : ∃ (q : Option Addr) (c : Nat), (A.eval (.tmp 12)) = .slice q (p.size + 16) c ∧ Lies W q (numsB [r] ++ textB p) := hall 6 _ 12 (by rw [hns]; decide) po6 d6
        obtain ⟨y6, k6, e6, l6⟩ := f6
        have e7 : A.eval (.tmp 13) = .int .i64 1 := hall 7 _ 13 (by rw [hns]; decide) po7 d7
        have e8 : A.eval (.tmp 14) = .pointer (some ⟨w.heap.size, 3, none⟩) := hall 8 _ 14 (by rw [hns]; decide) po8 d8
        have e9 : A.eval (.tmp 15) = .int .i64 t := hall 9 _ 15 (by rw [hns]; decide) po9 d9
        have f10 : ∃ b : Nat, (A.eval (.tmp 16)) = .slice (some ⟨b, 0, none⟩) 2 2 ∧ LiesZ W (some ⟨b, 0, none⟩) [1, t] := hall 10 _ 16 (by rw [hns]; decide) po10 d10
        obtain ⟨b10, e10, l10⟩ := f10
        have f11 : Own w.heap.size W (encG ⟨r, p, true, t⟩) (A.eval (.tmp 17)) := hall 11 _ 17 (by rw [hns]; decide) po11 d11
        obtain ⟨v11, e11⟩ : ∃ u, A.eval (.tmp 17) = u := ⟨_, rfl⟩
        have hA := act_of_slots [6, 7, 8, 9, 10, 11, 12, 13, 14, 15, 16, 17, 2] _ hAs hdf (fun t ht => hfr t (hslots t ht))
        simp only [List.foldl_cons, List.foldl_nil] at hA
        rw [show rdA A 6 = A.eval (.tmp 6) from rfl, e0] at hA
        rw [show rdA A 7 = A.eval (.tmp 7) from rfl, e1] at hA
        rw [show rdA A 8 = A.eval (.tmp 8) from rfl, e2] at hA
        rw [show rdA A 9 = A.eval (.tmp 9) from rfl, e3] at hA
        rw [show rdA A 10 = A.eval (.tmp 10) from rfl, e4] at hA
        rw [show rdA A 11 = A.eval (.tmp 11) from rfl, e5] at hA
        rw [show rdA A 12 = A.eval (.tmp 12) from rfl, e6] at hA
        rw [show rdA A 13 = A.eval (.tmp 13) from rfl, e7] at hA
        rw [show rdA A 14 = A.eval (.tmp 14) from rfl, e8] at hA
        rw [show rdA A 15 = A.eval (.tmp 15) from rfl, e9] at hA
        rw [show rdA A 16 = A.eval (.tmp 16) from rfl, e10] at hA
        rw [show rdA A 17 = A.eval (.tmp 17) from rfl, e11] at hA
        obtain ⟨ul, hul⟩ : ∃ u, rdA A 2 = u := ⟨_, rfl⟩
        rw [hul] at hA
        clear hul
        rw [hns]
        have hfin := f11
        rw [e11] at hfin
        have HFIN := Lib.hid hfin
        have HSF := Lib.hid HS.below
        refine at_op po12 d12 (wanted_of gd12) (run_assign q12 e11 W) ?_
        have HA := Lib.hid hA
        clear hfin hA HS
        rw [HA.out]
        go_frame
        go_wp2_with fail
        go_ret
        exact ⟨_, rfl, HFIN.out, HSF.out⟩
end Go.Proofs.YtgeacocdnenhdaaDoor

/-
  The program's iterator over grants' encodings: to every caller it gives each grant's bytes, in order.
-/
namespace Go.Proofs.YtgeacocdnenhdaaDoor
open Go.RowKit Go.Proofs.ShaWords
attribute [local go_sem] Oper.semAt_some
theorem one_cellT {w : World} {b : Nat} {v : Value} {t : TypeId} (h : w.heap[b]? = some (.cells #[v] t (0, 0))) : w.cell? ⟨b, 0, none⟩ = some v := by rw [cell_of_row w b 0 _ _ _ h]; rfl
def gsEnc (gs : List GrantM) (k : Nat) (A0 A : World) (vs : Array Value) : Prop := ∃ g v, gs[k]? = some g ∧ vs = #[v] ∧ Own A0.heap.size A (encG g) v
theorem encs_any (p : Option Addr) (n c : Nat) (w : World) : Calls Tryd.prog 115 #[.slice p n c] w fun e w' => e = .returned (.func (.func 169) #[] #[.pointer (some ⟨w.heap.size, 0, none⟩)]) ∧ w'.heap[w.heap.size]? = some (.cells #[.slice p n c] 44 (0, 0)) ∧ w'.heap.size = w.heap.size + 1 ∧ Below w.heap.size w w' := by
  go_enter Tryd.func115, Tryd.ntmps115
  go_wp2_with fail
  go_ret
  exact ⟨rfl, heap_new_at rfl, size_alloc _ _, (Below.refl _ _).alloc (Nat.le_refl _) _⟩
theorem run_allocGr {ρ : Operand → Value} {o : Oper} (ho : o.op = .alloc 54) (w : World) : (execOp ρ o).run Tryd.prog w = .ok (.value (.pointer (some ⟨w.heap.size, 0, none⟩))) (w.alloc (.cells gz.cells.toArray 54)) := by
  obtain ⟨dst, op, ty', pos, after, guard⟩ := o
  simp only at ho
  subst ho
  unfold gz GrantM.cells
  go_simp
structure EsW (U : Nat → Prop) (J : Nat → World → Prop) (X : World) (W : World) (k : Nat) (wr : World) : Prop where
  inv : J k wr
  spares : Spares U W wr
  below : Below X.heap.size X wr
set_option maxRecDepth 100000 in
set_option maxHeartbeats 4000000 in
theorem encs_gives (gs : List GrantM) (X w : World) (p : Option Addr) (n c g m : Nat) (T : Nat → Prop) (hok : ∀ x ∈ gs, x.pre.size ≤ 1000000) (hn : gs.length = n) (hn6 : n ≤ 1000000)
    (hL : GrantsAt X p gs) (hX : Below X.heap.size X w) (hg : w.heap[g]? = some (.cells #[.slice p n c] 44 (0, 0))) (hT0 : ∀ b, T b → X.heap.size ≤ b) (hgl0 : X.heap.size ≤ g) :
    GivesV Tryd.prog 169 #[.pointer (some ⟨g, 0, none⟩)] (gsEnc gs) gs.length (fun _ => False) T m w := by
  intro l J W hb hl1 hl2 hJ hY h0
  have hgw : g < w.heap.size := (Array.getElem?_eq_some_iff.1 hg).1
  have hXW : Below X.heap.size X W := hX.trans (hb.mono hX.size)
  have hgW := (hb.block g hgw).trans hg
  have hcg := one_cellT hgW
  have HU : Hid (∀ b, (T b ∨ b = l ∨ False) → X.heap.size ≤ b) := show _ from fun b h => by
    rcases h with h | rfl | h
    · exact hT0 b h
    · have := hX.size; omega
    · exact h.elim
  have HK0 : Hid (EsW (fun b => T b ∨ b = l ∨ False) J X W 0 W) := show EsW _ _ _ _ _ _ from ⟨h0, Spares.refl _ _, hXW⟩
  have HY := Lib.hid hY
  have HJ := Lib.hid hJ
  have HOK := Lib.hid hok
  have HL := Lib.hid hL
  have HN := Lib.hid hn
  clear hY hJ hok hL hn hX hg h0 hXW hT0 hgW hb
  show Calls Tryd.prog 169 #[.func (.yield l) #[] #[], .pointer (some ⟨g, 0, none⟩)] W _
  go_enter Tryd.func169, Tryd.ntmps169
  go_wp2_with fail
  go_loopw [7] (fun i wr => ∃ k : Nat, k ≤ n ∧ i = .int .i64 (k : Int) ∧ EsW (fun b => T b ∨ b = l ∨ False) J X W k wr) (fun i _ => n - (intOf i).toNat)
  case atStart => exact ⟨0, Nat.zero_le _, rfl, HK0.out⟩
  case round =>
    clear HK0
    obtain ⟨k, hk, rfl, hw⟩ := hrel
    have HW := Lib.hid hw
    by_cases hlt : k < n
    · have hlt' : k < gs.length := by rw [HN.out]; exact hlt
      rcases HL.out.at' with h1 | ⟨b, off, rfl, hr⟩
      · exfalso; rw [h1] at hlt'; simp at hlt'
      have hrk := range_keep (hr k hlt') hw.below
      have HF : Hid (gs[k]? = some gs[k]) := show _ = _ from List.getElem?_eq_getElem hlt'
      have HSM := Lib.hid (HOK.out _ (List.getElem_mem hlt'))
      generalize gs[k] = x at hrk HF HSM
      have HR := Lib.hid hrk
      have HKL := Lib.hid hlt
      clear hw hr hrk hlt'
      have q0 : (k : Int) < (n : Int) := by omega
      go_upto_region 2 with (fail)
      refine wp_region_lit ?_
      refine wpList_run (by rfl) (grantT.run_ix rfl rfl rfl HKL.out _) ?_
      refine wpList_run (by rfl) (grantT.run_ld Tryd.underlying54 rfl (GrantM.len x) rfl rfl HR.out) ?_
      refine wpList_runW8 (by rfl) (run_allocGr rfl _) ?_
      refine wpList_store_row rfl 54 (.tmp 4) (.tmp 10) rfl wr.heap.size x.cells.toArray rfl rfl 54 _ (heap_new_at rfl) (size_grant x) rfl (grant_ones2 x) ?_
      refine wpList_nil ?_
      have hA : EnG wr.heap.size x wr ((wr.alloc (.cells gz.cells.toArray 54)).setRow wr.heap.size x.cells.toArray) := ⟨setRow_heap _ _ _ _ _ _ (heap_new_at rfl), below_setRow (allocBelow _ _) (Nat.le_refl _) _⟩
      generalize (wr.alloc (.cells gz.cells.toArray 54)).setRow wr.heap.size x.cells.toArray = A at hA ⊢
      have HA := Lib.hid hA; clear hA
      go_frame
      go_upto_region 3 with (fail)
      refine (wpIn_wide (n := m + 1)).1 ?_
      gi_wp2_with (show wpListIn _ _ _ _ _ (⟨_, .load 54 _, _, _, _, _⟩ :: _) _ _; refine wpListIn_value rfl (fun f h => by cases h) (fun c h => by cases h) (run_loadBlk rfl rfl HA.out.box grant_under (size_grant x)) ?_)
      refine ⟨trivial, ?_⟩
      refine (callsIn_wide.2 (encode_any x A HSM.out)).mono ?_
      rintro e w5 ⟨v, rfl, ho, hb⟩
      have HB5 : Hid (Below wr.heap.size wr w5) := show Below _ _ _ from HA.out.below.trans (hb.mono HA.out.below.size)
      have HO5 := Lib.hid (ho.lower HA.out.below.size)
      clear ho hb
      obtain ⟨fn, tm, asg, bdy, hy0, hRR⟩ := HY.out k wr w5 _ (by rw [HN.out]; exact hlt) HW.out.inv HW.out.spares.size (Spares.all HB5.out) ⟨x, _, HF.out, rfl, HO5.out⟩
      have hy := hy0
      have HRR := Lib.hid hRR
      clear hy0 hRR
      gi_wp2
      refine HRR.out.mono ?_
      rintro e w8 ⟨rfl, hj8, hs8⟩
      have HW9 : Hid (EsW (fun b => T b ∨ b = l ∨ False) J X W (k + 1) w8) := by
        have hsp : Spares (fun b => T b ∨ b = l ∨ False) wr w8 := (Spares.none (T := fun b => T b ∨ b = l ∨ False) (Spares.all HB5.out)).trans (hs8.mono fun _ _ h => h.elim Or.inl (fun e => Or.inr (Or.inl e)))
        exact ⟨hj8, HW.out.spares.trans hsp, HW.out.below.trans (hsp.below HW.out.below.size (fun b hb h => by have := HU.out b h; omega))⟩
      clear hj8 hs8 hy
      gi_wp2
      go_wp2_with fail
      go_roundw
      case rel => exact ⟨k + 1, by omega, by go_num, HW9.out⟩
      case measure => simp [intOf]; omega
    · obtain rfl : k = n := by omega
      have hkn := HN.out
      have HJ9 := Lib.hid HW.out.inv
      have HS9 := Lib.hid HW.out.spares
      clear hw
      go_wp2_with fail
      refine bodyPost_end (results_none rfl _ _ _) rfl ?_
      exact ⟨⟨_, rfl⟩, by rw [hkn]; exact HJ9.out, HS9.out⟩
end Go.Proofs.YtgeacocdnenhdaaDoor

/-
  A token in a block; loads of its parts.
-/
namespace Go.Proofs.YtgeacocdnenhdaaDoor
open Go.RowKit Go.Proofs.ShaWords
def TokAt (w : World) (b : Nat) (t : TokM) (q : Value) : Prop := w.heap[b]? = some (.cells (t.cells q).toArray 50 (0, 0))
theorem TokAt.cell {w : World} {b : Nat} {t : TokM} {q : Value} (h : TokAt w b t q) (k : Nat) : w.cell? ⟨b, k, none⟩ = (t.cells q)[k]? := by
  rw [cell_of_row w b k _ _ _ h]; simp
theorem TokAt.c0 {w : World} {b : Nat} {t : TokM} {q : Value} (h : TokAt w b t q) : w.cell? ⟨b, 0, none⟩ = some (.string t.ten) := h.cell 0
theorem TokAt.c1 {w : World} {b : Nat} {t : TokM} {q : Value} (h : TokAt w b t q) : w.cell? ⟨b, 1, none⟩ = some (.int .i64 t.id) := h.cell 1
theorem TokAt.c2 {w : World} {b : Nat} {t : TokM} {q : Value} (h : TokAt w b t q) : w.cell? ⟨b, 2, none⟩ = some q := h.cell 2
theorem TokAt.mac {w : World} {b : Nat} {t : TokM} {q : Value} (h : TokAt w b t q) : w.rangeAt b 3 (bytesV t.mac) := fun j v hv => by
  rw [h.cell (3 + j)]
  unfold TokM.cells
  rw [List.getElem?_append_right (by simp), show 3 + j - [Value.string t.ten, Value.int .i64 t.id, q].length = j by simp]
  exact hv
theorem TokAt.below {w w' : World} {b B : Nat} {t : TokM} {q : Value} (h : TokAt w b t q) (hb : Below B w w') (hB : b < B) : TokAt w' b t q := (hb.block b hB).trans h
theorem TokAt.lt {w : World} {b : Nat} {t : TokM} {q : Value} (h : TokAt w b t q) : b < w.heap.size := (Array.getElem?_eq_some_iff.1 h).1
theorem TokAt.keep {w w' : World} {b : Nat} {t : TokM} {q : Value} (h : TokAt w b t q) (hb : Below w.heap.size w w') : TokAt w' b t q := h.below hb h.lt
theorem tok_len {t : TokM} (h : t.mac.length = 32) (q : Value) : (t.cells q).length = 35 := by simp [TokM.cells, bytesV_length, h]
theorem size_tok {t : TokM} (h : t.mac.length = 32) (q : Value) : (Tryd.prog.info? 50).map (·.size) = some (t.cells q).toArray.size :=
  (show (Tryd.prog.info? 50).map (·.size) = some 35 by kernel_rfl).trans (congrArg some (by rw [List.size_toArray, tok_len h q]))
theorem tok_under : (match Tryd.prog.underlying 50 with | some (.array _ _) | some (.struct _) => true | _ => false) = true := by kernel_rfl
theorem tok_ones (t : TokM) (p : Option Addr) (n c : Nat) : (t.cells (.slice p n c)).toArray.all (·.oneCell') = true := by
  rw [List.all_toArray, List.all_eq_true]
  intro u hu
  unfold TokM.cells at hu
  rcases List.mem_append.1 hu with h | h
  · simp only [List.mem_cons, List.not_mem_nil, or_false] at h
    rcases h with rfl | rfl | rfl <;> rfl
  · simp only [bytesV, List.mem_map] at h
    obtain ⟨y, _, rfl⟩ := h
    rfl
section
variable {ρ : Operand → Value} {o : Oper} {x y : Operand} {w : World}
theorem run_loadSlG {a : Addr} {p : Option Addr} {n c : Nat} (ho : o.op = .load 44 x) (hx : ρ x = .pointer (some a)) (hc : w.cell? a = some (.slice p n c)) : (execOp ρ o).run Tryd.prog w = .ok (.value (.slice p n c)) w := by
  obtain ⟨dst, op, ty', pos, after, guard⟩ := o
  simp only at ho
  subst ho
  go_simp
theorem run_loadMac {b : Nat} {l : List (BitVec 8)} (ho : o.op = .load 48 x) (hx : ρ x = .pointer (some ⟨b, 3, none⟩)) (hl : l.length = 32) (h : w.rangeAt b 3 (bytesV l)) : (execOp ρ o).run Tryd.prog w = .ok (.value (.agg (bytesV l).toArray)) w :=
  run_loadArr ho hx (N := 32) (by kernel_rfl) (infoSum l hl) h
theorem run_loadSum0 {b : Nat} {l : List (BitVec 8)} (ho : o.op = .load 48 x) (hx : ρ x = .pointer (some ⟨b, 0, none⟩)) (hl : l.length = 32) (h : BytesAt w b 48 l) : (execOp ρ o).run Tryd.prog w = .ok (.value (.agg (bytesV l).toArray)) w :=
  run_loadArr ho hx (N := 32) (by kernel_rfl) (infoSum l hl) h.range
theorem run_sliceKey {g : Nat} (ho : o.op = .slice 23 x none none none) (hx : ρ x = .pointer (some ⟨g, 0, none⟩)) (w : World) :
    (execOp ρ o).run Tryd.prog w = .ok (.value (.slice (some ⟨g, 0, none⟩) 32 32)) w := by
  obtain ⟨dst, op, ty', pos, after, guard⟩ := o
  simp only at ho
  subst ho
  go_simp
theorem run_allocSum (ho : o.op = .alloc 48) (w : World) : (execOp ρ o).run Tryd.prog w = .ok (.value (.pointer (some ⟨w.heap.size, 0, none⟩))) (w.alloc (.cells (bytesV (noughts 32)).toArray 48)) := by
  have e : (bytesV (noughts 32)).toArray = Array.replicate 32 (.int .u8 0) := by kernel_rfl
  rw [e]
  obtain ⟨dst, op, ty', pos, after, guard⟩ := o
  simp only at ho
  subst ho
  go_simp
  rfl
end
end Go.Proofs.YtgeacocdnenhdaaDoor

/-
  The program's chain of a token under a root (gen_tkchain.py).
-/
namespace Go.Proofs.YtgeacocdnenhdaaDoor
open Go.RowKit Go.Proofs.ShaWords
attribute [local go_sem] Oper.semAt_some
theorem Own.named3 {B n : Nat} {w : World} {l : List (BitVec 8)} {v : Value} (h : Own B w l v) (hn : l.length = n) : ∃ q c, v = .slice q n c ∧ n ≤ c ∧ c ≤ 9223372036854775807 ∧ Lies w q l := by
  subst hn
  obtain ⟨q, c, h1, h2, h3, h4⟩ := h.lies
  exact ⟨q, c, h1, h2, h3, h4⟩
theorem bytesAt_lt {w : World} {b : Nat} {t : TypeId} {l : List (BitVec 8)} (h : BytesAt w b t l) : b < w.heap.size := (Array.getElem?_eq_some_iff.1 h).1
theorem bytesAt_spares {T : Nat → Prop} {w w' : World} {b : Nat} {t : TypeId} {l : List (BitVec 8)} (h : BytesAt w b t l) (hs : Spares T w w') (hT : ¬ T b) : BytesAt w' b t l := (hs.block b (bytesAt_lt h) hT).trans h
theorem tok_spares {T : Nat → Prop} {w w' : World} {b : Nat} {t : TokM} {q : Value} (h : TokAt w b t q) (hs : Spares T w w') (hT : ¬ T b) : TokAt w' b t q := (hs.block b h.lt hT).trans h
theorem consts_below {w w' : World} (h : Consts w) (hb : Below w.heap.size w w') : Consts w' := h.below hb h.size
theorem starts_below {w w' : World} (h : Starts w) (hb : Below w.heap.size w w') : Starts w' := range_keep h hb
/-- The root and the token in blocks, the block of the answer; what was there as it was. -/
structure ChB (root : List (BitVec 8)) (t : TokM) (q : Value) (W w : World) : Prop where
  root : BytesAt w W.heap.size 23 root
  tok : TokAt w (W.heap.size + 1) t q
  out : BytesAt w (W.heap.size + 2) 48 (noughts 32)
  below : Below W.heap.size W w
  consts : Consts w
  starts : Starts w
theorem ChB.step {root : List (BitVec 8)} {t : TokM} {q : Value} {W w w' : World} (h : ChB root t q W w) (hb : Below w.heap.size w w') : ChB root t q W w' :=
  ⟨h.root.keep hb, h.tok.keep hb, h.out.keep hb, h.below.trans (hb.mono h.below.size), consts_below h.consts hb, starts_below h.starts hb⟩
theorem ChB.size {root : List (BitVec 8)} {t : TokM} {q : Value} {W w : World} (h : ChB root t q W w) : W.heap.size + 2 < w.heap.size := bytesAt_lt h.out
theorem ChB.spares {T : Nat → Prop} {root : List (BitVec 8)} {t : TokM} {q : Value} {W w w' : World} (hcs : W.heap.size > 2 ∧ W.heap.size > 1) (h : ChB root t q W w) (hs : Spares T w w') (hT : ∀ b, T b → W.heap.size + 3 ≤ b) : ChB root t q W w' := by
  have hb : Below (W.heap.size + 3) w w' := hs.below h.size (fun k hk ht => by have := hT k ht; omega)
  exact ⟨bytesAt_spares h.root hs (fun ht => by have := hT _ ht; omega), tok_spares h.tok hs (fun ht => by have := hT _ ht; omega), bytesAt_spares h.out hs (fun ht => by have := hT _ ht; omega), h.below.trans (hb.mono (by omega)),
    h.consts.below hb (by omega), fun j v hv => (hb.cell (p := ⟨1, 0 + j, none⟩) (by show 1 < _; omega)).trans (h.starts j v hv)⟩
theorem run_storeRowT {ρ : Operand → Value} {o : Oper} {x y : Operand} {w : World} {ty t : TypeId} {g : Nat} {old cells : Array Value} (ho : o.op = .store ty x y) (hx : ρ x = .pointer (some ⟨g, 0, none⟩)) (hy : ρ y = .agg cells) (hg : w.heap[g]? = some (.cells old t (0, 0))) (hi : (Tryd.prog.info? ty).map (·.size) = some cells.size)
    (hold : old.size = cells.size) (h1 : cells.all (·.oneCell') = true) : (execOp ρ o).run Tryd.prog w = .ok .skip (w.setRow g cells) := by
  unfold execOp
  simp only [ho, hx, hy, Instr.storeAt, Instr.sureAddr, Sem.run_bind, Sem.run_pure, Result.andThen_ok, run_storeVar_row w g t ty old cells hg hi hold h1]
theorem wpListIn_skip {F : Fence} {n : Nat} {ops : Array Oper} {rest : List Oper} {o : Oper} {a : Act} {w w' : World} {Q : Exit → Act → World → Prop} {P : Program} (hg : o.guard = none) (hab : ∀ f, o.about P w a.eval = some f → False) (hd : ∀ c, o.op ≠ .defer c) (hr : (execOp a.eval o).run P w = .ok .skip w') (h : wpListIn F n P ops Q rest (a.put o.dst undef) w') : wpListIn F n P ops Q (o :: rest) a w := by
  refine wpListIn_plain hg fun K hK' => ?_
  unfold Oper.wpIn
  refine ⟨fun f e => (hab f e).elim, ?_⟩
  rw [Oper.semAt_plain F _ _ hd, hr]
  exact hK' _ _ h
theorem enters_ofT {P : Program} {f : FuncId} {fn : Func} (hfn : P.funcs[f]? = some fn) (hb : (fn.name == "runtime.NumGoroutine" || fn.body.isNone) = false) : ∀ args w, (callFunc f args).run P w = .ok (.enter f args) w := fun args w => callFunc_body hfn hb args w
theorem spares_stays {T : Nat → Prop} {a b : World} (h : Spares T a b) : Stays T a b := ⟨h.os, h.tape, h.output, h.size, h.block⟩
theorem chain_len (n : Nat) (s bs : List (BitVec 8)) (q : Option Addr) (cb : Nat) (w : World) (hn : bs.length = n) (hsl : s.length = 32) (hrb : Lies w q bs) (hcb : n ≤ cb) (hcbm : cb ≤ 9223372036854775807) (hnb : n < 549755813000) (hk : Consts w) (hs : Starts w) :
    Calls Tryd.prog 60 #[.agg (bytesV s).toArray, .slice q n cb] w fun e w' => e = .returned (.agg (bytesV (macOf s bs)).toArray) ∧ Below w.heap.size w w' := by
  subst hn
  exact chain_any s bs q cb w hsl hrb hcb hcbm hnb hk hs
theorem numsB_one (z : Int) : numsB [z] = be8 z := by simp [numsB]
structure ChW (root : List (BitVec 8)) (t : TokM) (q : Value) (W : World) (C k : Nat) (w : World) : Prop where
  base : ChB root t q W w
  code : BytesAt w C 48 (chainS (macOf root (headT t.ten t.id)) (t.gs.take k))
set_option maxRecDepth 100000 in
set_option maxHeartbeats 8000000 in
theorem chain_tok (root : List (BitVec 8)) (t : TokM) (n c : Nat) (p : Option Addr) (w : World) (hrl : root.length = 32) (hml : t.mac.length = 32) (hn : t.gs.length = n) (hn6 : n ≤ 1000000) (hts : t.ten.size ≤ 1000000) (hok : ∀ x ∈ t.gs, x.pre.size ≤ 1000000) (hL : GrantsAt w p t.gs) (hk : Consts w) (hs : Starts w) :
    Calls Tryd.prog 98 #[.agg (bytesV root).toArray, .agg (t.cells (.slice p n c)).toArray] w fun e w' => e = .returned (.agg (bytesV (chainT root t.ten t.id t.gs)).toArray) ∧ Below w.heap.size w w' := by
  have hcs : w.heap.size > 2 ∧ w.heap.size > 1 := ⟨hk.size, by have := World.block_lt_of_cell? w _ (hs 0 _ rfl); exact this⟩
  have HCS := Lib.hid hcs
  have HRL := Lib.hid hrl
  have HML := Lib.hid hml
  have HN := Lib.hid hn
  have HTS := Lib.hid hts
  have HOK := Lib.hid hok
  have HL := Lib.hid hL
  have HHD : Hid ((headT t.ten t.id).length = t.ten.size + 16) := show _ = _ by unfold headT; rw [List.length_append, textB_length, be8_length]
  have HB0 : Hid (ChB root t (.slice p n c) w (((w.alloc (.cells (bytesV root).toArray 23)).alloc (.cells (t.cells (.slice p n c)).toArray 50)).alloc (.cells (bytesV (noughts 32)).toArray 48))) := by
    have b1 : Below w.heap.size w (w.alloc (.cells (bytesV root).toArray 23)) := allocBelow _ _
    have b2 := allocBelow (w.alloc (.cells (bytesV root).toArray 23)) (.cells (t.cells (.slice p n c)).toArray 50)
    have b3 := allocBelow ((w.alloc (.cells (bytesV root).toArray 23)).alloc (.cells (t.cells (.slice p n c)).toArray 50)) (.cells (bytesV (noughts 32)).toArray 48)
    have r1 : BytesAt (w.alloc (.cells (bytesV root).toArray 23)) w.heap.size 23 root := heap_new_at rfl
    have r2 : TokAt ((w.alloc (.cells (bytesV root).toArray 23)).alloc (.cells (t.cells (.slice p n c)).toArray 50)) (w.heap.size + 1) t (.slice p n c) := heap_new_at (size_alloc _ _)
    have r3 : BytesAt (((w.alloc (.cells (bytesV root).toArray 23)).alloc (.cells (t.cells (.slice p n c)).toArray 50)).alloc (.cells (bytesV (noughts 32)).toArray 48)) (w.heap.size + 2) 48 (noughts 32) := heap_new_at (by rw [size_alloc, size_alloc])
    have bb := (b1.trans (b2.mono (by rw [size_alloc]; omega))).trans (b3.mono (by rw [size_alloc, size_alloc]; omega))
    exact ⟨(r1.keep b2).keep b3, r2.keep b3, r3, bb, hk.below bb hk.size, range_keep hs bb⟩
  have hz : (bytesV (noughts 32)).toArray = Array.replicate 32 (.int .u8 0) := by kernel_rfl
  rw [hz] at HB0
  clear hrl hml hn hts hok hL hk hs hz hcs
  obtain ⟨TC, hTC⟩ : ∃ TC, TC = (t.cells (.slice p n c)).toArray := ⟨_, rfl⟩
  obtain ⟨RC, hRC⟩ : ∃ RC, RC = (bytesV root).toArray := ⟨_, rfl⟩
  rw [← hTC, ← hRC] at HB0
  rw [← hTC, ← hRC]
  have HTC := Lib.hid hTC
  have HRC := Lib.hid hRC
  clear hTC hRC
  refine callsIn_wide.1 (callsIn_of_wp_marks (n := 3) Tryd.func98 rfl trivial (wpIn_wide.2 ?_))
  simp only [Tryd.ntmps98, List.size_toArray, List.length_cons, List.length_nil, Nat.reduceAdd, Nat.reduceSub, Array.replicate_succ, Array.replicate_zero, List.push_toArray, List.append_toArray, List.nil_append, List.cons_append]
  go_upto_region 1 with (fail)
  refine wp_gen (fun A => ChB root t (.slice p n c) w A) (by first | exact HB0.out | (simpa using HB0.out)) ?_
  rintro A0 hA0
  have HA0 := Lib.hid hA0
  clear hA0 HB0
  refine region_grow (fun W => ChB root t (.slice p n c) w W) (fun i vz wz => match i with | 0 => vz = .slice (some ⟨w.heap.size, 0, none⟩) 32 32 | 1 => vz = .pointer (some ⟨w.heap.size + 1, 0, none⟩) | 2 => vz = .string t.ten | 3 => ∃ (q : Option Addr) (c : Nat), vz = .slice q (t.ten.size + 8) c ∧ t.ten.size + 8 ≤ c ∧ c ≤ 9223372036854775807 ∧ Lies wz q (textB t.ten) | 4 => vz = .pointer (some ⟨w.heap.size + 1, 1, none⟩) | 5 => vz = .int .i64 t.id | 6 => ∃ b : Nat, vz = .slice (some ⟨b, 0, none⟩) 1 1 ∧ LiesZ wz (some ⟨b, 0, none⟩) [t.id] | 7 => ∃ (q : Option Addr) (c : Nat), vz = .slice q (t.ten.size + 16) c ∧ t.ten.size + 16 ≤ c ∧ c ≤ 9223372036854775807 ∧ Lies wz q (headT t.ten t.id) | 8 => vz = .agg (bytesV (macOf root (headT t.ten t.id))).toArray | 9 => ∃ b : Nat, vz = .pointer (some ⟨b, 0, none⟩) ∧ w.heap.size + 3 ≤ b ∧ BytesAt wz b 48 (noughts 32) | _ => True) (by kernel_rfl) (by kernel_rfl) (by kernel_rfl) (by kernel_rfl) (by decide) (HA0.out.step (Below.refl _ _).drew) ?stab ?grown
  case stab =>
    intro i vz wz w2 hb hf
    match i, hf with
    | 0, hf => exact hf
    | 1, hf => exact hf
    | 2, hf => exact hf
    | 3, hf => obtain ⟨q, c, e, h1, h2, h⟩ := hf; exact ⟨q, c, e, h1, h2, h.below hb⟩
    | 4, hf => exact hf
    | 5, hf => exact hf
    | 6, hf => obtain ⟨b, e, h⟩ := hf; exact ⟨b, e, h.below hb⟩
    | 7, hf => obtain ⟨q, c, e, h1, h2, h⟩ := hf; exact ⟨q, c, e, h1, h2, h.below hb⟩
    | 8, hf => exact hf
    | 9, hf => obtain ⟨b, e, h1, h⟩ := hf; exact ⟨b, e, h1, h.keep hb⟩
    | _ + 10, _ => trivial
  case grown =>
    intro ops hops
    have hf2 : ∀ (i : Nat) (o : Oper), ops[i]? = some o → o.dst ≠ some 2 := by rw [hops]; exact fun i o h => slot_free (by kernel_rfl) i o h
    have hf3 : ∀ (i : Nat) (o : Oper), ops[i]? = some o → o.dst ≠ some 3 := by rw [hops]; exact fun i o h => slot_free (by kernel_rfl) i o h
    have hns : ops.size = 11 := by rw [hops]; rfl
    obtain ⟨o0, po0, q0, d0, gd0⟩ : ∃ o, ops[0]? = some o ∧ o.op = .slice 23 (.tmp 2) none none none ∧ o.dst = some 7 ∧ o.guard = none := ⟨_, by rw [hops]; rfl, rfl, rfl, rfl⟩
    obtain ⟨o1, po1, q1, d1, gd1⟩ : ∃ o, ops[1]? = some o ∧ o.op = .fieldAddr 50 (.tmp 3) 0 ∧ o.dst = some 8 ∧ o.guard = none := ⟨_, by rw [hops]; rfl, rfl, rfl, rfl⟩
    obtain ⟨o2, po2, q2, d2, gd2, dp2_1⟩ : ∃ o, ops[2]? = some o ∧ o.op = .load 9 (.tmp 8) ∧ o.dst = some 9 ∧ o.guard = none ∧ (o.after.any fun e => Region.binds .any e && decide (e.on = 1)) = true := ⟨_, by rw [hops]; rfl, rfl, rfl, rfl, by kernel_rfl⟩
    obtain ⟨o3, po3, q3, d3, gd3, dp3_2⟩ : ∃ o, ops[3]? = some o ∧ o.op = .call { callee := .value (.func 58), args := #[.const (.slice none 0 0), .tmp 9], argTypes := #[24, 9] } ∧ o.dst = some 10 ∧ o.guard = none ∧ (o.after.any fun e => Region.binds .any e && decide (e.on = 2)) = true := ⟨_, by rw [hops]; rfl, rfl, rfl, rfl, by kernel_rfl⟩
    obtain ⟨o4, po4, q4, d4, gd4⟩ : ∃ o, ops[4]? = some o ∧ o.op = .fieldAddr 50 (.tmp 3) 1 ∧ o.dst = some 11 ∧ o.guard = none := ⟨_, by rw [hops]; rfl, rfl, rfl, rfl⟩
    obtain ⟨o5, po5, q5, d5, gd5, dp5_4⟩ : ∃ o, ops[5]? = some o ∧ o.op = .load 3 (.tmp 11) ∧ o.dst = some 12 ∧ o.guard = none ∧ (o.after.any fun e => Region.binds .any e && decide (e.on = 4)) = true := ⟨_, by rw [hops]; rfl, rfl, rfl, rfl, by kernel_rfl⟩
    obtain ⟨o6, po6, q6, d6, gd6, dp6_5⟩ : ∃ o, ops[6]? = some o ∧ o.op = .buildSlice 91 1 #[(0, (.tmp 12))] ∧ o.dst = some 13 ∧ o.guard = none ∧ (o.after.any fun e => Region.binds .any e && decide (e.on = 5)) = true := ⟨_, by rw [hops]; rfl, rfl, rfl, rfl, by kernel_rfl⟩
    obtain ⟨o7, po7, q7, d7, gd7, dp7_3, dp7_6⟩ : ∃ o, ops[7]? = some o ∧ o.op = .call { callee := .value (.func 114), args := #[.tmp 10, .tmp 13], argTypes := #[24, 91] } ∧ o.dst = some 14 ∧ o.guard = none ∧ (o.after.any fun e => Region.binds .any e && decide (e.on = 3)) = true ∧ (o.after.any fun e => Region.binds .any e && decide (e.on = 6)) = true := ⟨_, by rw [hops]; rfl, rfl, rfl, rfl, by kernel_rfl, by kernel_rfl⟩
    obtain ⟨o8, po8, q8, d8, gd8, dp8_0, dp8_7⟩ : ∃ o, ops[8]? = some o ∧ o.op = .call { callee := .value (.func 56), args := #[.tmp 7, .tmp 14], argTypes := #[24, 24] } ∧ o.dst = some 15 ∧ o.guard = none ∧ (o.after.any fun e => Region.binds .any e && decide (e.on = 0)) = true ∧ (o.after.any fun e => Region.binds .any e && decide (e.on = 7)) = true := ⟨_, by rw [hops]; rfl, rfl, rfl, rfl, by kernel_rfl, by kernel_rfl⟩
    obtain ⟨o9, po9, q9, d9, gd9⟩ : ∃ o, ops[9]? = some o ∧ o.op = .alloc 48 ∧ o.dst = some 5 ∧ o.guard = none := ⟨_, by rw [hops]; rfl, rfl, rfl, rfl⟩
    obtain ⟨o10, po10, q10, d10, gd10⟩ : ∃ o, ops[10]? = some o ∧ o.op = .store 48 (.tmp 5) (.tmp 15) ∧ o.dst = none ∧ o.guard = none := ⟨_, by rw [hops]; rfl, rfl, rfl, rfl⟩
    have hslots : ∀ t, t ∉ [7, 8, 9, 10, 11, 12, 13, 14, 15, 5] → ∀ (i : Nat) (o : Oper), ops[i]? = some o → o.dst ≠ some t := by rw [hops]; exact fun t ht i o h => slots_free (by kernel_rfl) t ht i o h
    clear hops
    refine ⟨fun A W HS hfr hAs i o hi ho hdep => ?_, fun A W HS hdf hAs hfr hall => ?_⟩
    · skip
      have base2 : A.eval (.tmp 2) = .pointer (some ⟨w.heap.size, 0, none⟩) := (hfr 2 hf2).trans rfl
      have base3 : A.eval (.tmp 3) = .pointer (some ⟨w.heap.size + 1, 0, none⟩) := (hfr 3 hf3).trans rfl
      rw [hns] at hi
      obtain rfl | rfl | rfl | rfl | rfl | rfl | rfl | rfl | rfl | rfl : i = 0 ∨ i = 1 ∨ i = 2 ∨ i = 3 ∨ i = 4 ∨ i = 5 ∨ i = 6 ∨ i = 7 ∨ i = 8 ∨ i = 9 := by omega
      · skip
        obtain rfl : o = o0 := Option.some.inj (ho.symm.trans po0)
        refine at_op po0 d0 (wanted_of gd0) (run_sliceKey q0 base2 W) ⟨_, by rw [d0], HS, Below.refl _ _, rfl⟩
      · skip
        obtain rfl : o = o1 := Option.some.inj (ho.symm.trans po1)
        refine at_op po1 d1 (wanted_of gd1) (run_fieldT (off := 0) q1 (fun _ => by kernel_rfl) base3 W) ⟨_, by rw [d1], HS, Below.refl _ _, rfl⟩
      · skip
        obtain rfl : o = o2 := Option.some.inj (ho.symm.trans po2)
        have e1 : A.eval (.tmp 8) = .pointer (some ⟨w.heap.size + 1, 0, none⟩) := hdep 1 _ 8 dp2_1 po1 d1
        refine at_op po2 d2 (wanted_of gd2) (run_loadStr q2 e1 HS.tok.c0) ⟨_, by rw [d2], HS, Below.refl _ _, rfl⟩
      · skip
        obtain rfl : o = o3 := Option.some.inj (ho.symm.trans po3)
        have e2 : A.eval (.tmp 9) = .string t.ten := hdep 2 _ 9 dp3_2 po2 d2
        refine at_enterT po3 d3 (wanted_of gd3) (run_callf2 q3 rfl rfl e2 Tryd.func58 (by kernel_rfl) _) (textT_any [] t.ten 0 none 0 W rfl (by have := HTS.out; omega) (Or.inl rfl)) ?_
        rintro e w1 ⟨v, rfl, ho, hb⟩; obtain ⟨q3, c3, rfl, i3, j3, h3⟩ := ho.named3 (n := t.ten.size + 8) (by simp [textB_length])
        exact ⟨_, rfl, ⟨_, by rw [d3], HS.step hb, hb, ⟨q3, c3, rfl, i3, j3, h3⟩⟩⟩
      · skip
        obtain rfl : o = o4 := Option.some.inj (ho.symm.trans po4)
        refine at_op po4 d4 (wanted_of gd4) (run_fieldT (off := 1) q4 (fun _ => by kernel_rfl) base3 W) ⟨_, by rw [d4], HS, Below.refl _ _, rfl⟩
      · skip
        obtain rfl : o = o5 := Option.some.inj (ho.symm.trans po5)
        have e4 : A.eval (.tmp 11) = .pointer (some ⟨w.heap.size + 1, 1, none⟩) := hdep 4 _ 11 dp5_4 po4 d4
        refine at_op po5 d5 (wanted_of gd5) (run_loadInt q5 e4 HS.tok.c1) ⟨_, by rw [d5], HS, Below.refl _ _, rfl⟩
      · skip
        obtain rfl : o = o6 := Option.some.inj (ho.symm.trans po6)
        have e5 : A.eval (.tmp 12) = .int .i64 t.id := hdep 5 _ 12 dp6_5 po5 d5
        refine at_op po6 d6 (wanted_of gd6) (run_ints1 q6 e5 W) ⟨_, by rw [d6], HS.step (allocBelow _ _), (allocBelow _ _), ⟨_, rfl, lits1 _ _⟩⟩
      · skip
        obtain rfl : o = o7 := Option.some.inj (ho.symm.trans po7)
        have f3 : ∃ (q : Option Addr) (c : Nat), (A.eval (.tmp 10)) = .slice q (t.ten.size + 8) c ∧ t.ten.size + 8 ≤ c ∧ c ≤ 9223372036854775807 ∧ Lies W q (textB t.ten) := hdep 3 _ 10 dp7_3 po3 d3
        obtain ⟨y3, k3, e3, m3, n3, l3⟩ := f3
        have f6 : ∃ b : Nat, (A.eval (.tmp 13)) = .slice (some ⟨b, 0, none⟩) 1 1 ∧ LiesZ W (some ⟨b, 0, none⟩) [t.id] := hdep 6 _ 13 dp7_6 po6 d6
        obtain ⟨b6, e6, l6⟩ := f6
        refine at_enterT po7 d7 (wanted_of gd7) (run_callf2 q7 rfl e3 e6 Tryd.func114 (by kernel_rfl) _) (numbers_any (textB t.ten) [t.id] (t.ten.size + 8) 1 y3 (some ⟨b6, 0, none⟩) k3 1 W (textB_length _) rfl (by have := HTS.out; omega) l3 l6 (by decide)) ?_
        rintro e w1 ⟨v, rfl, ho, hb⟩; obtain ⟨q7, c7, rfl, i7, j7, h7⟩ := ho.named3 (n := t.ten.size + 16) (by rw [List.length_append, textB_length, numsB_length]; simp)
        exact ⟨_, rfl, ⟨_, by rw [d7], HS.step hb, hb, ⟨q7, c7, rfl, i7, j7, by rw [numsB_one] at h7; exact h7⟩⟩⟩
      · skip
        obtain rfl : o = o8 := Option.some.inj (ho.symm.trans po8)
        have e0 : A.eval (.tmp 7) = .slice (some ⟨w.heap.size, 0, none⟩) 32 32 := hdep 0 _ 7 dp8_0 po0 d0
        have f7 : ∃ (q : Option Addr) (c : Nat), (A.eval (.tmp 14)) = .slice q (t.ten.size + 16) c ∧ t.ten.size + 16 ≤ c ∧ c ≤ 9223372036854775807 ∧ Lies W q (headT t.ten t.id) := hdep 7 _ 14 dp8_7 po7 d7
        obtain ⟨y7, k7, e7, m7, n7, l7⟩ := f7
        refine at_enterT po8 d8 (wanted_of gd8) (run_callf2 q8 rfl e0 e7 Tryd.func56 (by kernel_rfl) _) (of_len 32 (t.ten.size + 16) root (headT t.ten t.id) (some ⟨w.heap.size, 0, none⟩) y7 32 k7 W HRL.out HHD.out (Or.inr ⟨_, 0, rfl, HS.root.range⟩) l7 (by omega) (by omega) (by omega) m7 n7 (by have := HTS.out; omega) HS.consts HS.starts) ?_
        rintro e w1 ⟨rfl, hb⟩
        exact ⟨_, rfl, ⟨_, by rw [d8], HS.step hb, hb, rfl⟩⟩
      · skip
        obtain rfl : o = o9 := Option.some.inj (ho.symm.trans po9)
        refine at_op po9 d9 (wanted_of gd9) (run_allocSum q9 W) ⟨_, by rw [d9], HS.step (allocBelow _ _), (allocBelow _ _), ⟨_, rfl, HS.size, heap_new_at rfl⟩⟩
    · skip
      have base2 : A.eval (.tmp 2) = .pointer (some ⟨w.heap.size, 0, none⟩) := (hfr 2 hf2).trans rfl
      have base3 : A.eval (.tmp 3) = .pointer (some ⟨w.heap.size + 1, 0, none⟩) := (hfr 3 hf3).trans rfl
      have e0 : A.eval (.tmp 7) = .slice (some ⟨w.heap.size, 0, none⟩) 32 32 := hall 0 _ 7 (by rw [hns]; decide) po0 d0
      have e1 : A.eval (.tmp 8) = .pointer (some ⟨w.heap.size + 1, 0, none⟩) := hall 1 _ 8 (by rw [hns]; decide) po1 d1
      have e2 : A.eval (.tmp 9) = .string t.ten := hall 2 _ 9 (by rw [hns]; decide) po2 d2
      have f3 : ∃ (q : Option Addr) (c : Nat), (A.eval (.tmp 10)) = .slice q (t.ten.size + 8) c ∧ t.ten.size + 8 ≤ c ∧ c ≤ 9223372036854775807 ∧ Lies W q (textB t.ten) := hall 3 _ 10 (by rw [hns]; decide) po3 d3
      obtain ⟨y3, k3, e3, m3, n3, l3⟩ := f3
      have e4 : A.eval (.tmp 11) = .pointer (some ⟨w.heap.size + 1, 1, none⟩) := hall 4 _ 11 (by rw [hns]; decide) po4 d4
      have e5 : A.eval (.tmp 12) = .int .i64 t.id := hall 5 _ 12 (by rw [hns]; decide) po5 d5
      have f6 : ∃ b : Nat, (A.eval (.tmp 13)) = .slice (some ⟨b, 0, none⟩) 1 1 ∧ LiesZ W (some ⟨b, 0, none⟩) [t.id] := hall 6 _ 13 (by rw [hns]; decide) po6 d6
      obtain ⟨b6, e6, l6⟩ := f6
      have f7 : ∃ (q : Option Addr) (c : Nat), (A.eval (.tmp 14)) = .slice q (t.ten.size + 16) c ∧ t.ten.size + 16 ≤ c ∧ c ≤ 9223372036854775807 ∧ Lies W q (headT t.ten t.id) := hall 7 _ 14 (by rw [hns]; decide) po7 d7
      obtain ⟨y7, k7, e7, m7, n7, l7⟩ := f7
      have e8 : A.eval (.tmp 15) = .agg (bytesV (macOf root (headT t.ten t.id))).toArray := hall 8 _ 15 (by rw [hns]; decide) po8 d8
      have f9 : ∃ b : Nat, (A.eval (.tmp 5)) = .pointer (some ⟨b, 0, none⟩) ∧ w.heap.size + 3 ≤ b ∧ BytesAt W b 48 (noughts 32) := hall 9 _ 5 (by rw [hns]; decide) po9 d9
      obtain ⟨b9, e9, m9, l9⟩ := f9
      have hA := act_of_slots [7, 8, 9, 10, 11, 12, 13, 14, 15, 5] _ hAs hdf (fun t ht => hfr t (hslots t ht))
      simp only [List.foldl_cons, List.foldl_nil] at hA
      rw [show rdA A 7 = A.eval (.tmp 7) from rfl, e0] at hA
      rw [show rdA A 8 = A.eval (.tmp 8) from rfl, e1] at hA
      rw [show rdA A 9 = A.eval (.tmp 9) from rfl, e2] at hA
      rw [show rdA A 10 = A.eval (.tmp 10) from rfl, e3] at hA
      rw [show rdA A 11 = A.eval (.tmp 11) from rfl, e4] at hA
      rw [show rdA A 12 = A.eval (.tmp 12) from rfl, e5] at hA
      rw [show rdA A 13 = A.eval (.tmp 13) from rfl, e6] at hA
      rw [show rdA A 14 = A.eval (.tmp 14) from rfl, e7] at hA
      rw [show rdA A 15 = A.eval (.tmp 15) from rfl, e8] at hA
      rw [show rdA A 5 = A.eval (.tmp 5) from rfl, e9] at hA
      rw [hns]
      have hrow := setRow_heap W b9 _ (bytesV (macOf root (headT t.ten t.id))).toArray 48 _ l9
      refine at_skip po10 d10 (wanted_of gd10) (run_storeRowT q10 e9 e8 l9 (infoSum _ (macOf_length _ _)) (by rw [bytesV_size _ 32 (noughts_length 32), bytesV_size _ 32 (macOf_length _ _)]) (bytesV_one _)) ?_
      have HW1 : Hid (ChW root t (.slice p n c) w b9 0 (W.setRow b9 (bytesV (macOf root (headT t.ten t.id))).toArray)) := ⟨HS.spares HCS.out (T := fun b => b = b9) (Spares.grown (grown_setRow _ _ _) rfl) (fun b e => by subst e; exact m9), hrow⟩
      have HB9 := Lib.hid m9
      generalize W.setRow b9 (bytesV (macOf root (headT t.ten t.id))).toArray = W1 at HW1 ⊢
      clear hall hdf hAs hfr hslots hns hf2 hf3 po0 q0 d0 gd0 po1 q1 d1 gd1 po2 q2 d2 gd2 dp2_1 po3 q3 d3 gd3 dp3_2 po4 q4 d4 gd4 po5 q5 d5 gd5 dp5_4 po6 q6 d6 gd6 dp6_5 po7 q7 d7 gd7 dp7_3 dp7_6 po8 q8 d8 gd8 dp8_0 dp8_7 po9 q9 d9 gd9 po10 q10 d10 gd10 base2 base3
      have HA := Lib.hid hA
      clear hA HS HA0 hrow l9 e0 e1 e2 e3 e4 e5 e6 e7 e8 e9
      rw [HA.out]
      go_frame
      clear HA
      have ct := HW1.out.base.tok.c2
      go_wp2_with (go_at_call 115; refine (encs_any p n c W1).mono ?_; rintro e w3 ⟨rfl, hg3, hs3, hb3⟩)
      have HB3 := Lib.hid hb3
      have HG3 := Lib.hid hg3
      have hsz1 := HW1.out.base.size
      have HC0 : Hid (ChW root t (.slice p n c) w b9 0 w3) := show ChW _ _ _ _ _ _ _ from ⟨HW1.out.base.step hb3, HW1.out.code.keep hb3⟩
      have hb9lt : b9 < w3.heap.size := bytesAt_lt HC0.out.code
      have hsz3 : w.heap.size + 3 ≤ w3.heap.size := HC0.out.base.size
      obtain ⟨G, hGG⟩ : ∃ G, G = W1.heap.size := ⟨_, rfl⟩
      rw [← hGG] at HG3
      have HGW : Hid (w.heap.size ≤ G) := show _ ≤ _ by omega
      rw [← hGG]
      clear hg3 hs3 hb3 ct hGG HB3
      have hb9 := HB9.out
      have HTK : Hid (∀ k g, t.gs[k]? = some g → chainS (macOf root (headT t.ten t.id)) (t.gs.take (k + 1)) = macOf (chainS (macOf root (headT t.ten t.id)) (t.gs.take k)) (encG g)) := show ∀ _ _ _, _ from fun k g h => by
        obtain ⟨hk, e⟩ := List.getElem?_eq_some_iff.1 h
        rw [chainS_take _ hk, e]
      have HSL : Hid (∀ k, (chainS (macOf root (headT t.ten t.id)) (t.gs.take k)).length = 32) := show ∀ _, _ from fun k => chainS_length _ _ (macOf_length _ _)
      refine (wpIn_wide (n := 3)).1 (wpIn_rangeVals (m := 3) (gf := 169) (enc := gsEnc t.gs) (N := t.gs.length) (G := fun _ => False) (T := fun b => b = b9) rfl (enters_ofT Tryd.func169 (by kernel_rfl))
        (fun b h => h.elim) (fun b h => by omega)
        (encs_gives t.gs w w3 p n c G 3 _ HOK.out HN.out hn6 HL.out HC0.out.base.below HG3.out (fun b h => by omega) HGW.out)
        (fun k A0 A vs h => by obtain ⟨g, v, _, rfl, _⟩ := h; rfl)
        (fun k A => ChW root t (.slice p n c) w b9 k A) (fun k A A' h hs => ⟨h.base.spares HCS.out hs (fun b hb => by rcases hb with hb | hb | hb; exact hb.elim; omega; omega), bytesAt_spares h.code hs (fun hb => by rcases hb with hb | hb | hb; exact hb.elim; omega; omega)⟩) HC0.out
        (fun k A0 a' A => ∃ g q6 c6, t.gs[k]? = some g ∧ a' = { tmps := #[.agg RC, .agg TC, .pointer (some ⟨w.heap.size, 0, none⟩), .pointer (some ⟨w.heap.size + 1, 0, none⟩), .pointer (some ⟨w.heap.size + 1 + 1, 0, none⟩), .pointer (some ⟨b9, 0, none⟩), .slice q6 (g.pre.size + 32) c6, .slice (some ⟨w.heap.size, 0, none⟩) 32 32, .pointer (some ⟨w.heap.size + 1, 0, none⟩), .string t.ten, .slice y3 (t.ten.size + 8) k3, .pointer (some ⟨w.heap.size + 1, 1, none⟩), .int .i64 t.id, .slice (some ⟨b6, 0, none⟩) 1 1, .slice y7 (t.ten.size + 16) k7, .agg (bytesV (macOf root (headT t.ten t.id))).toArray, .pointer (some ⟨w.heap.size + 1, 2, none⟩), .slice p n c, .func (.func 169) #[] #[.pointer (some ⟨G, 0, none⟩)], .slice q6 (g.pre.size + 32) c6, undef, undef, undef, undef], defers := [] } ∧ (encG g).length ≤ c6 ∧ c6 ≤ 9223372036854775807 ∧ Own A0.heap.size A (encG g) (.slice q6 (g.pre.size + 32) c6) ∧ Spares (fun b => b = w3.heap.size + 1) A0 A)
        (fun k A0 a' A A' h hsz hs => by
          obtain ⟨g, q6, c6, h1, h2, h3, h4, h5, h6⟩ := h
          exact ⟨g, q6, c6, h1, h2, h3, h4, ownsRow_stays h5 (spares_stays hs) (fun j e t => by have := World.ownsRow.lt h5 j e; omega), h6.trans hs⟩) ?assign ?body ?done)
      case assign =>
        intro k A0 A vs K hk hI hsz hs he hK
        obtain ⟨g, v, hg, rfl, ho⟩ := he
        obtain ⟨q6, c6, rfl, h1, h2, -⟩ := ho.named3 (encG_length g)
        gi_wp2
        exact hK _ _ (Spares.refl _ _) ⟨g, q6, c6, hg, rfl, by rw [encG_length]; exact h1, h2, ho, hs.mono (fun _ _ f => f.elim)⟩
      case body =>
        intro k A0 a' A hk hI hsz hr
        obtain ⟨g, q6, c6, hg, rfl, h3, h4, h5, h6⟩ := hr
        have hA : ChW root t (.slice p n c) w b9 k A := ⟨hI.base.spares HCS.out h6 (fun b hb => by omega), bytesAt_spares hI.code h6 (fun hb => by omega)⟩
        have HA := Lib.hid hA
        obtain ⟨q7, c7, hq7, -, -, hl7⟩ := h5.named3 (encG_length g)
        cases hq7
        have HLI := Lib.hid hl7
        have HG7 := Lib.hid hg
        have HC6 := Lib.hid h3
        have HC7 := Lib.hid h4
        have HPS : Hid (g.pre.size ≤ 1000000) := show _ ≤ _ from HOK.out g (List.mem_of_getElem? hg)
        have HSP := Lib.hid h6
        have HTG := Lib.hid (HTK.out k g hg)
        have hs3 : w3.heap.size + 2 ≤ A.heap.size := Nat.le_trans hsz h6.size
        clear hI hA hg h3 h4 h5 h6 hl7
        obtain ⟨S, hS⟩ : ∃ S, S = chainS (macOf root (headT t.ten t.id)) (t.gs.take k) := ⟨_, rfl⟩
        have hSl : S.length = 32 := by rw [hS]; exact HSL.out k
        have hcode := HA.out.code
        rw [← hS] at hcode
        have HTG2 := Lib.hid HTG.out
        have hh := HTG2.out
        rw [← hS] at hh
        have HTG3 := Lib.hid hh
        have HCO := Lib.hid hcode
        have HSLL := Lib.hid hSl
        clear hS hh hcode hSl HTG HTG2
        gi_wp2_with (show wpListIn _ _ _ _ _ (⟨_, .load 48 _, _, _, _, _⟩ :: _) _ _; refine wpListIn_value rfl (fun f h => by cases h) (fun c h => by cases h) (run_loadSum0 rfl rfl HSLL.out HCO.out) ?_)
        refine ⟨trivial, ?_⟩
        refine (CallsIn.inRound _ (callsIn_wide.2 (chain_len (g.pre.size + 32) S (encG g) q6 c6 A (encG_length g) HSLL.out HLI.out (by have := HC6.out; rw [encG_length] at this; exact this) HC7.out (by have := HPS.out; omega) HA.out.base.consts HA.out.base.starts))).mono ?_
        rintro e w5 ⟨rfl, hb5⟩
        have HC5 := Lib.hid (HCO.out.keep hb5)
        have HROW := Lib.hid (setRow_heap w5 b9 _ (bytesV (macOf S (encG g))).toArray 48 _ HC5.out)
        have HB5 := Lib.hid hb5
        clear hb5
        gi_wp2_with (show wpListIn _ _ _ _ _ (⟨_, .store 48 _ _, _, _, _, _⟩ :: _) _ _; refine wpListIn_skip rfl (fun f h => by cases h) (fun c h => by cases h) (run_storeRowT rfl rfl rfl HC5.out (infoSum _ (macOf_length _ _)) (by rw [bytesV_size _ 32 HSLL.out, bytesV_size _ 32 (macOf_length _ _)]) (bytesV_one _)) ?_)
        have hset : Spares (fun b => b = b9) w5 (w5.setRow b9 (bytesV (macOf S (encG g))).toArray) := Spares.grown (grown_setRow _ _ _) rfl
        refine ⟨⟨(HA.out.base.step HB5.out).spares HCS.out hset (fun b e => by omega), ?_⟩, (Spares.all HB5.out).trans hset⟩
        rw [HTG3.out]
        exact HROW.out
      case done =>
        intro W hI hs hd
        have hfull : t.gs.take t.gs.length = t.gs := List.take_length
        have hcode := hI.code
        rw [hfull] at hcode
        have HCO := Lib.hid hcode
        have HBS := Lib.hid hI.base
        have HDF := Lib.hid hd
        have HCL := Lib.hid (chainT_length root t.ten t.id t.gs)
        clear hI hs hd hcode hfull
        go_frame
        go_upto_region 5 with (fail)
        refine wp_region_lit ?_
        refine wpList_run (by rfl) (run_loadSum0 rfl rfl HCL.out HCO.out) ?_
        have hrow := setRow_heap W (w.heap.size + 1 + 1) _ (bytesV (chainT root t.ten t.id t.gs)).toArray 48 _ HBS.out.out
        have hbel := below_setRow HBS.out.below (show w.heap.size ≤ w.heap.size + 1 + 1 by omega) (bytesV (chainT root t.ten t.id t.gs)).toArray
        refine wpList_store_row rfl 48 (.tmp 4) (.tmp 23) rfl (w.heap.size + 1 + 1) (bytesV (chainT root t.ten t.id t.gs)).toArray rfl rfl 48 _ HBS.out.out (infoSum _ HCL.out) (by rw [bytesV_size _ 32 (noughts_length 32), bytesV_size _ 32 HCL.out]) (bytesV_one _) ?_
        refine wpList_nil ?_
        go_frame
        go_wp2_with fail
        have hd2 : (W.setRow (w.heap.size + 1 + 1) (bytesV (chainT root t.ten t.id t.gs)).toArray).heap[w3.heap.size]? = some (.deferred (some [])) := (setRow_other _ _ _ _ (by omega)).trans HDF.out
        refine ⟨by simp, .inl ⟨_, _, rfl, run_takeDeferred hd2, ?_⟩⟩
        refine ⟨_, results_cell_row (P := Tryd.prog) (p := 4) (ty := 48) Tryd.results98 _ _ (w.heap.size + 1 + 1) 48 (bytesV (chainT root t.ten t.id t.gs)).toArray (0, 0) _ rfl ((World.putObj_heap_other (by omega)).trans hrow) Tryd.underlying48 rfl (infoSum _ HCL.out), rfl, ?_⟩
        exact hbel.trans ((spares_putObj _ w3.heap.size (.deferred none)).below (by have := HBS.out.size; rw [size_setRow]; omega) (fun k hk e => by omega))
end Go.Proofs.YtgeacocdnenhdaaDoor
