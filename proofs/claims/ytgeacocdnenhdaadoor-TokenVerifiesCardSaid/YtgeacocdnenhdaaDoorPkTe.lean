/-
  What other texts lean on: TkRef, TkRef2.
-/
import Derived.Test.YtgeacocdnenhdaaDoorPkW
import Derived.Test.YtgeacocdnenhdaaDoorPkD
import Derived.Test.YtgeacocdnenhdaaDoorPkTa
import Derived.Test.YtgeacocdnenhdaaDoorPkTb
/-
  The document's bytes of a grant, its chain of a token (gen_tkref.py).
-/
namespace Go.Proofs.YtgeacocdnenhdaaDoor
open Go.RowKit Go.Proofs.ShaWords
theorem textRT_any (l : List (BitVec 8)) (s : ByteArray) (n : Nat) (p : Option Addr) (c : Nat) (w : World) (hn : l.length = n) (hl : n + s.size < 140737488350000) (hp : Lies w p l) :
    Calls Tryd.prog 112 #[.slice p n c, .string s] w fun e w' => ∃ r, e = .returned r ∧ Own w.heap.size w' (l ++ textB s) r ∧ Below w.heap.size w w' := by
  have h := textR_any l (bitsS s) n (bitsS s).length p c w hn rfl (by rw [bitsS_length]; exact hl) hp
  rw [strB_bits, List.append_assoc] at h
  exact h
theorem refChain_len (n : Nat) (s bs : List (BitVec 8)) (q : Option Addr) (cb : Nat) (w : World) (hn : bs.length = n) (hsl : s.length = 32) (hrb : Lies w q bs) (hnb : n < 10000) :
    Calls Tryd.prog 105 #[.agg (bytesV s).toArray, .slice q n cb] w fun e w' => e = .returned (.agg (bytesV (macOf s bs)).toArray) ∧ Below w.heap.size w w' := by
  subst hn
  exact refChain_any s bs q cb w hsl hrb hnb
set_option maxRecDepth 100000 in
set_option maxHeartbeats 8000000 in
theorem refGrant_any (l : List (BitVec 8)) (n c : Nat) (p : Option Addr) (g : GrantM) (w : World) (hn : l.length = n) (hn6 : n ≤ 10000000) (hs : g.pre.size ≤ 1000000) (hL : Lies w p l) :
    Calls Tryd.prog 106 #[.slice p n c, .agg g.cells.toArray] w fun e w' => ∃ v, e = .returned v ∧ Own w.heap.size w' (l ++ encG g) v ∧ Below w.heap.size w w' := by
  have HS0 := Lib.hid hs; clear hs
  have HLI := Lib.hid hL; clear hL
  have HN := Lib.hid hn; clear hn
  have HBOX : Hid (GrantAt (w.alloc (.cells g.cells.toArray 54)) w.heap.size g) := show GrantAt _ _ _ from heap_new_at rfl
  have HT : Hid (encG g = be8 g.rights ++ textB g.pre ++ numsB [exactZ g.exact, g.till]) := show _ = _ from rfl
  obtain ⟨r, ps, x, t⟩ := g
  have HEN : Hid (EnG w.heap.size ⟨r, ps, x, t⟩ w (w.alloc (.cells (GrantM.cells ⟨r, ps, x, t⟩).toArray 54))) := show EnG _ _ _ _ from ⟨HBOX.out, allocBelow _ _⟩
  clear HBOX
  have HPS : Hid (ps.size ≤ 1000000) := show _ ≤ _ from HS0.out
  go_enter Tryd.func106, Tryd.ntmps106
  go_upto_region 1 with (fail)
  refine region_grow0 (fun W => EnG w.heap.size ⟨r, ps, x, t⟩ w W) (fun i vz wz => match i with | 0 => vz = .slice p n c | 1 => vz = .pointer (some ⟨w.heap.size, 0, none⟩) | 2 => vz = .int .i64 r | 3 => ∃ (q : Option Addr) (c : Nat), vz = .slice q (n + 8) c ∧ Lies wz q (l ++ be8 r) | 4 => vz = .pointer (some ⟨w.heap.size, 1, none⟩) | 5 => vz = .string ps | 6 => ∃ (q : Option Addr) (c : Nat), vz = .slice q (n + ps.size + 16) c ∧ Lies wz q (l ++ be8 r ++ textB ps) | _ => True) (by kernel_rfl) (by kernel_rfl) (by kernel_rfl) (by kernel_rfl) (by decide) (HEN.out.step (Below.refl _ _).drew) ?_ ?_
  · skip
    intro i vz wz w2 hb hf
    match i, hf with
    | 0, hf => exact hf
    | 1, hf => exact hf
    | 2, hf => exact hf
    | 3, hf => obtain ⟨q, c, e, h⟩ := hf; exact ⟨q, c, e, h.below hb⟩
    | 4, hf => exact hf
    | 5, hf => exact hf
    | 6, hf => obtain ⟨q, c, e, h⟩ := hf; exact ⟨q, c, e, h.below hb⟩
    | _ + 7, _ => trivial
  intro ops hops
  have hf0 : ∀ (i : Nat) (o : Oper), i + 1 < ops.size → ops[i]? = some o → o.dst ≠ some 0 := by rw [hops]; exact fun i o hi h => slot_free0 (by kernel_rfl) i o hi h
  have hf3 : ∀ (i : Nat) (o : Oper), i + 1 < ops.size → ops[i]? = some o → o.dst ≠ some 3 := by rw [hops]; exact fun i o hi h => slot_free0 (by kernel_rfl) i o hi h
  have hns : ops.size = 8 := by rw [hops]; rfl
  obtain ⟨o0, po0, q0, d0, gd0⟩ : ∃ o, ops[0]? = some o ∧ o.op = .move (.tmp 0) ∧ o.dst = some 6 ∧ o.guard = none := ⟨_, by rw [hops]; rfl, rfl, rfl, rfl⟩
  obtain ⟨o1, po1, q1, d1, gd1⟩ : ∃ o, ops[1]? = some o ∧ o.op = .fieldAddr 54 (.tmp 3) 0 ∧ o.dst = some 7 ∧ o.guard = none := ⟨_, by rw [hops]; rfl, rfl, rfl, rfl⟩
  obtain ⟨o2, po2, q2, d2, gd2, dp2_1⟩ : ∃ o, ops[2]? = some o ∧ o.op = .load 3 (.tmp 7) ∧ o.dst = some 8 ∧ o.guard = none ∧ (o.after.any fun e => Region.binds .any e && decide (e.on = 1)) = true := ⟨_, by rw [hops]; rfl, rfl, rfl, rfl, by kernel_rfl⟩
  obtain ⟨o3, po3, q3, d3, gd3, dp3_0, dp3_2⟩ : ∃ o, ops[3]? = some o ∧ o.op = .call { callee := .value (.func 111), args := #[.tmp 6, .tmp 8], argTypes := #[24, 3] } ∧ o.dst = some 9 ∧ o.guard = none ∧ (o.after.any fun e => Region.binds .any e && decide (e.on = 0)) = true ∧ (o.after.any fun e => Region.binds .any e && decide (e.on = 2)) = true := ⟨_, by rw [hops]; rfl, rfl, rfl, rfl, by kernel_rfl, by kernel_rfl⟩
  obtain ⟨o4, po4, q4, d4, gd4⟩ : ∃ o, ops[4]? = some o ∧ o.op = .fieldAddr 54 (.tmp 3) 1 ∧ o.dst = some 10 ∧ o.guard = none := ⟨_, by rw [hops]; rfl, rfl, rfl, rfl⟩
  obtain ⟨o5, po5, q5, d5, gd5, dp5_4⟩ : ∃ o, ops[5]? = some o ∧ o.op = .load 9 (.tmp 10) ∧ o.dst = some 11 ∧ o.guard = none ∧ (o.after.any fun e => Region.binds .any e && decide (e.on = 4)) = true := ⟨_, by rw [hops]; rfl, rfl, rfl, rfl, by kernel_rfl⟩
  obtain ⟨o6, po6, q6, d6, gd6, dp6_3, dp6_5⟩ : ∃ o, ops[6]? = some o ∧ o.op = .call { callee := .value (.func 112), args := #[.tmp 9, .tmp 11], argTypes := #[24, 9] } ∧ o.dst = some 12 ∧ o.guard = none ∧ (o.after.any fun e => Region.binds .any e && decide (e.on = 3)) = true ∧ (o.after.any fun e => Region.binds .any e && decide (e.on = 5)) = true := ⟨_, by rw [hops]; rfl, rfl, rfl, rfl, by kernel_rfl, by kernel_rfl⟩
  obtain ⟨o7, po7, q7, d7, gd7⟩ : ∃ o, ops[7]? = some o ∧ o.op = .assign (.tmp 12) ∧ o.dst = some 0 ∧ o.guard = none := ⟨_, by rw [hops]; rfl, rfl, rfl, rfl⟩
  have hslots : ∀ t, t ∉ [6, 7, 8, 9, 10, 11, 12] → ∀ (i : Nat) (o : Oper), i + 1 < ops.size → ops[i]? = some o → o.dst ≠ some t := by rw [hops]; exact fun t ht i o hi h => slots_free0 (by kernel_rfl) t ht i o hi h
  clear hops
  refine ⟨fun A W HS hfr hAs i o hi ho hdep => ?_, fun A W HS hdf hAs hfr hall => ?_⟩
  · skip
    have base0 : A.eval (.tmp 0) = .slice p n c := (hfr 0 hf0).trans rfl
    have base3 : A.eval (.tmp 3) = .pointer (some ⟨w.heap.size, 0, none⟩) := (hfr 3 hf3).trans rfl
    rw [hns] at hi
    obtain rfl | rfl | rfl | rfl | rfl | rfl | rfl : i = 0 ∨ i = 1 ∨ i = 2 ∨ i = 3 ∨ i = 4 ∨ i = 5 ∨ i = 6 := by omega
    · skip
      obtain rfl : o = o0 := Option.some.inj (ho.symm.trans po0)
      refine at_op po0 d0 (wanted_of gd0) (run_move q0 base0 W) ⟨_, by rw [d0], HS, Below.refl _ _, rfl⟩
    · skip
      obtain rfl : o = o1 := Option.some.inj (ho.symm.trans po1)
      refine at_op po1 d1 (wanted_of gd1) (run_fieldT (off := 0) q1 (fun _ => by kernel_rfl) base3 W) ⟨_, by rw [d1], HS, Below.refl _ _, rfl⟩
    · skip
      obtain rfl : o = o2 := Option.some.inj (ho.symm.trans po2)
      have e1 : A.eval (.tmp 7) = .pointer (some ⟨w.heap.size, 0, none⟩) := hdep 1 _ 7 dp2_1 po1 d1
      refine at_op po2 d2 (wanted_of gd2) (run_loadInt q2 e1 HS.box.c0) ⟨_, by rw [d2], HS, Below.refl _ _, rfl⟩
    · skip
      obtain rfl : o = o3 := Option.some.inj (ho.symm.trans po3)
      have e0 : A.eval (.tmp 6) = .slice p n c := hdep 0 _ 6 dp3_0 po0 d0
      have e2 : A.eval (.tmp 8) = .int .i64 r := hdep 2 _ 8 dp3_2 po2 d2
      refine at_enterT po3 d3 (wanted_of gd3) (run_callf2 q3 rfl e0 e2 Tryd.func111 (by kernel_rfl) _) (intR_any r l n p c W HN.out (by omega) (HLI.out.below HS.below)) ?_
      rintro e w1 ⟨v, rfl, ho, hb⟩; obtain ⟨q3, c3, rfl, -, h3⟩ := ho.named (n := n + 8) (by rw [List.length_append, be8_length, HN.out])
      exact ⟨_, rfl, ⟨_, by rw [d3], HS.step hb, hb, ⟨q3, c3, rfl, h3⟩⟩⟩
    · skip
      obtain rfl : o = o4 := Option.some.inj (ho.symm.trans po4)
      refine at_op po4 d4 (wanted_of gd4) (run_fieldT (off := 1) q4 (fun _ => by kernel_rfl) base3 W) ⟨_, by rw [d4], HS, Below.refl _ _, rfl⟩
    · skip
      obtain rfl : o = o5 := Option.some.inj (ho.symm.trans po5)
      have e4 : A.eval (.tmp 10) = .pointer (some ⟨w.heap.size, 1, none⟩) := hdep 4 _ 10 dp5_4 po4 d4
      refine at_op po5 d5 (wanted_of gd5) (run_loadStr q5 e4 HS.box.c1) ⟨_, by rw [d5], HS, Below.refl _ _, rfl⟩
    · skip
      obtain rfl : o = o6 := Option.some.inj (ho.symm.trans po6)
      have f3 : ∃ (q : Option Addr) (c : Nat), (A.eval (.tmp 9)) = .slice q (n + 8) c ∧ Lies W q (l ++ be8 r) := hdep 3 _ 9 dp6_3 po3 d3
      obtain ⟨y3, k3, e3, l3⟩ := f3
      have e5 : A.eval (.tmp 11) = .string ps := hdep 5 _ 11 dp6_5 po5 d5
      refine at_enterT po6 d6 (wanted_of gd6) (run_callf2 q6 rfl e3 e5 Tryd.func112 (by kernel_rfl) _) (textRT_any (l ++ be8 r) ps (n + 8) y3 k3 W (by rw [List.length_append, be8_length, HN.out]) (by have := HPS.out; omega) l3) ?_
      rintro e w1 ⟨v, rfl, ho, hb⟩; obtain ⟨q6, c6, rfl, -, h6⟩ := ho.named (n := n + ps.size + 16) (by rw [List.length_append, List.length_append, be8_length, textB_length, HN.out]; omega)
      exact ⟨_, rfl, ⟨_, by rw [d6], HS.step hb, hb, ⟨q6, c6, rfl, h6⟩⟩⟩
  have base0 : A.eval (.tmp 0) = .slice p n c := (hfr 0 hf0).trans rfl
  have base3 : A.eval (.tmp 3) = .pointer (some ⟨w.heap.size, 0, none⟩) := (hfr 3 hf3).trans rfl
  have e0 : A.eval (.tmp 6) = .slice p n c := hall 0 _ 6 (by rw [hns]; decide) po0 d0
  have e1 : A.eval (.tmp 7) = .pointer (some ⟨w.heap.size, 0, none⟩) := hall 1 _ 7 (by rw [hns]; decide) po1 d1
  have e2 : A.eval (.tmp 8) = .int .i64 r := hall 2 _ 8 (by rw [hns]; decide) po2 d2
  have f3 : ∃ (q : Option Addr) (c : Nat), (A.eval (.tmp 9)) = .slice q (n + 8) c ∧ Lies W q (l ++ be8 r) := hall 3 _ 9 (by rw [hns]; decide) po3 d3
  obtain ⟨y3, k3, e3, l3⟩ := f3
  have e4 : A.eval (.tmp 10) = .pointer (some ⟨w.heap.size, 1, none⟩) := hall 4 _ 10 (by rw [hns]; decide) po4 d4
  have e5 : A.eval (.tmp 11) = .string ps := hall 5 _ 11 (by rw [hns]; decide) po5 d5
  have f6 : ∃ (q : Option Addr) (c : Nat), (A.eval (.tmp 12)) = .slice q (n + ps.size + 16) c ∧ Lies W q (l ++ be8 r ++ textB ps) := hall 6 _ 12 (by rw [hns]; decide) po6 d6
  obtain ⟨y6, k6, e6, l6⟩ := f6
  have hA := act_of_slots [6, 7, 8, 9, 10, 11, 12] _ hAs hdf (fun t ht => hfr t (hslots t ht))
  simp only [List.foldl_cons, List.foldl_nil] at hA
  rw [show rdA A 6 = A.eval (.tmp 6) from rfl, e0] at hA
  rw [show rdA A 7 = A.eval (.tmp 7) from rfl, e1] at hA
  rw [show rdA A 8 = A.eval (.tmp 8) from rfl, e2] at hA
  rw [show rdA A 9 = A.eval (.tmp 9) from rfl, e3] at hA
  rw [show rdA A 10 = A.eval (.tmp 10) from rfl, e4] at hA
  rw [show rdA A 11 = A.eval (.tmp 11) from rfl, e5] at hA
  rw [show rdA A 12 = A.eval (.tmp 12) from rfl, e6] at hA
  rw [hns]
  have HE9 := Lib.hid HS
  have HL9 := Lib.hid l6
  refine at_op po7 d7 (wanted_of gd7) (run_assign q7 e6 W) ?_
  obtain ⟨W8, hW8⟩ : ∃ W8, W8 = W := ⟨_, rfl⟩
  rw [← hW8] at HE9 HL9
  rw [← hW8]
  clear hW8
  clear hall hdf hAs hfr hslots hns hf0 hf3 po0 q0 d0 gd0 po1 q1 d1 gd1 po2 q2 d2 gd2 dp2_1 po3 q3 d3 gd3 dp3_0 dp3_2 po4 q4 d4 gd4 po5 q5 d5 gd5 dp5_4 po6 q6 d6 gd6 dp6_3 dp6_5 po7 q7 d7 gd7 base0 base3
  have HA9 := Lib.hid hA
  clear hA HS l3 l6 HEN e0 e1 e2 e3 e4 e5 e6
  rw [HA9.out]
  go_frame
  clear HA9
  have cb := HE9.out.box.c2
  cases x
  · skip
    go_upto_region 5 with (fail)
    refine region_grow0 (fun W => EnG w.heap.size ⟨r, ps, false, t⟩ w W ∧ Lies W y6 (l ++ be8 r ++ textB ps)) (fun i vz wz => match i with | 0 => vz = .slice y6 (n + ps.size + 16) k6 | 1 => vz = .int .i64 0 | 2 => ∃ (q : Option Addr) (c : Nat), vz = .slice q (n + ps.size + 24) c ∧ Lies wz q (l ++ be8 r ++ textB ps ++ be8 0) | 3 => vz = .pointer (some ⟨w.heap.size, 3, none⟩) | 4 => vz = .int .i64 t | 5 => Own w.heap.size wz (l ++ encG ⟨r, ps, false, t⟩) vz | _ => True) (by kernel_rfl) (by kernel_rfl) (by kernel_rfl) (by kernel_rfl) (by decide) (⟨HE9.out.step (Below.refl _ _).drew, HL9.out.below (Below.refl _ _).drew⟩) ?_ ?_
    · skip
      intro i vz wz w2 hb hf
      match i, hf with
      | 0, hf => exact hf
      | 1, hf => exact hf
      | 2, hf => obtain ⟨q, c, e, h⟩ := hf; exact ⟨q, c, e, h.below hb⟩
      | 3, hf => exact hf
      | 4, hf => exact hf
      | 5, hf => exact Own.below hf hb
      | _ + 6, _ => trivial
    intro ops hops
    have hf0 : ∀ (i : Nat) (o : Oper), i + 1 < ops.size → ops[i]? = some o → o.dst ≠ some 0 := by rw [hops]; exact fun i o hi h => slot_free0 (by kernel_rfl) i o hi h
    have hf3 : ∀ (i : Nat) (o : Oper), i + 1 < ops.size → ops[i]? = some o → o.dst ≠ some 3 := by rw [hops]; exact fun i o hi h => slot_free0 (by kernel_rfl) i o hi h
    have hf5 : ∀ (i : Nat) (o : Oper), i + 1 < ops.size → ops[i]? = some o → o.dst ≠ some 5 := by rw [hops]; exact fun i o hi h => slot_free0 (by kernel_rfl) i o hi h
    have hns : ops.size = 7 := by rw [hops]; rfl
    obtain ⟨o0, po0, q0, d0, gd0⟩ : ∃ o, ops[0]? = some o ∧ o.op = .move (.tmp 0) ∧ o.dst = some 15 ∧ o.guard = none := ⟨_, by rw [hops]; rfl, rfl, rfl, rfl⟩
    obtain ⟨o1, po1, q1, d1, gd1⟩ : ∃ o, ops[1]? = some o ∧ o.op = .move (.tmp 5) ∧ o.dst = some 16 ∧ o.guard = none := ⟨_, by rw [hops]; rfl, rfl, rfl, rfl⟩
    obtain ⟨o2, po2, q2, d2, gd2, dp2_0, dp2_1⟩ : ∃ o, ops[2]? = some o ∧ o.op = .call { callee := .value (.func 111), args := #[.tmp 15, .tmp 16], argTypes := #[24, 3] } ∧ o.dst = some 17 ∧ o.guard = none ∧ (o.after.any fun e => Region.binds .any e && decide (e.on = 0)) = true ∧ (o.after.any fun e => Region.binds .any e && decide (e.on = 1)) = true := ⟨_, by rw [hops]; rfl, rfl, rfl, rfl, by kernel_rfl, by kernel_rfl⟩
    obtain ⟨o3, po3, q3, d3, gd3⟩ : ∃ o, ops[3]? = some o ∧ o.op = .fieldAddr 54 (.tmp 3) 3 ∧ o.dst = some 18 ∧ o.guard = none := ⟨_, by rw [hops]; rfl, rfl, rfl, rfl⟩
    obtain ⟨o4, po4, q4, d4, gd4, dp4_3⟩ : ∃ o, ops[4]? = some o ∧ o.op = .load 3 (.tmp 18) ∧ o.dst = some 19 ∧ o.guard = none ∧ (o.after.any fun e => Region.binds .any e && decide (e.on = 3)) = true := ⟨_, by rw [hops]; rfl, rfl, rfl, rfl, by kernel_rfl⟩
    obtain ⟨o5, po5, q5, d5, gd5, dp5_2, dp5_4⟩ : ∃ o, ops[5]? = some o ∧ o.op = .call { callee := .value (.func 111), args := #[.tmp 17, .tmp 19], argTypes := #[24, 3] } ∧ o.dst = some 20 ∧ o.guard = none ∧ (o.after.any fun e => Region.binds .any e && decide (e.on = 2)) = true ∧ (o.after.any fun e => Region.binds .any e && decide (e.on = 4)) = true := ⟨_, by rw [hops]; rfl, rfl, rfl, rfl, by kernel_rfl, by kernel_rfl⟩
    obtain ⟨o6, po6, q6, d6, gd6⟩ : ∃ o, ops[6]? = some o ∧ o.op = .assign (.tmp 20) ∧ o.dst = some 4 ∧ o.guard = none := ⟨_, by rw [hops]; rfl, rfl, rfl, rfl⟩
    have hslots : ∀ t, t ∉ [15, 16, 17, 18, 19, 20] → ∀ (i : Nat) (o : Oper), i + 1 < ops.size → ops[i]? = some o → o.dst ≠ some t := by rw [hops]; exact fun t ht i o hi h => slots_free0 (by kernel_rfl) t ht i o hi h
    clear hops
    refine ⟨fun A W HS hfr hAs i o hi ho hdep => ?_, fun A W HS hdf hAs hfr hall => ?_⟩
    · skip
      have base0 : A.eval (.tmp 0) = .slice y6 (n + ps.size + 16) k6 := (hfr 0 hf0).trans rfl
      have base3 : A.eval (.tmp 3) = .pointer (some ⟨w.heap.size, 0, none⟩) := (hfr 3 hf3).trans rfl
      have base5 : A.eval (.tmp 5) = .int .i64 0 := (hfr 5 hf5).trans rfl
      rw [hns] at hi
      obtain rfl | rfl | rfl | rfl | rfl | rfl : i = 0 ∨ i = 1 ∨ i = 2 ∨ i = 3 ∨ i = 4 ∨ i = 5 := by omega
      · skip
        obtain rfl : o = o0 := Option.some.inj (ho.symm.trans po0)
        refine at_op po0 d0 (wanted_of gd0) (run_move q0 base0 W) ⟨_, by rw [d0], HS, Below.refl _ _, rfl⟩
      · skip
        obtain rfl : o = o1 := Option.some.inj (ho.symm.trans po1)
        refine at_op po1 d1 (wanted_of gd1) (run_move q1 base5 W) ⟨_, by rw [d1], HS, Below.refl _ _, rfl⟩
      · skip
        obtain rfl : o = o2 := Option.some.inj (ho.symm.trans po2)
        have e0 : A.eval (.tmp 15) = .slice y6 (n + ps.size + 16) k6 := hdep 0 _ 15 dp2_0 po0 d0
        have e1 : A.eval (.tmp 16) = .int .i64 0 := hdep 1 _ 16 dp2_1 po1 d1
        refine at_enterT po2 d2 (wanted_of gd2) (run_callf2 q2 rfl e0 e1 Tryd.func111 (by kernel_rfl) _) (intR_any 0 (l ++ be8 r ++ textB ps) (n + ps.size + 16) y6 k6 W (by rw [List.length_append, List.length_append, be8_length, textB_length, HN.out]; omega) (by have := HPS.out; omega) HS.2) ?_
        rintro e w1 ⟨v, rfl, ho, hb⟩; obtain ⟨q3, c3, rfl, -, h3⟩ := ho.named (n := n + ps.size + 24) (by rw [List.length_append, List.length_append, List.length_append, be8_length, be8_length, textB_length, HN.out]; omega)
        exact ⟨_, rfl, ⟨_, by rw [d2], ⟨HS.1.step hb, HS.2.below hb⟩, hb, ⟨q3, c3, rfl, h3⟩⟩⟩
      · skip
        obtain rfl : o = o3 := Option.some.inj (ho.symm.trans po3)
        refine at_op po3 d3 (wanted_of gd3) (run_fieldT (off := 3) q3 (fun _ => by kernel_rfl) base3 W) ⟨_, by rw [d3], HS, Below.refl _ _, rfl⟩
      · skip
        obtain rfl : o = o4 := Option.some.inj (ho.symm.trans po4)
        have e3 : A.eval (.tmp 18) = .pointer (some ⟨w.heap.size, 3, none⟩) := hdep 3 _ 18 dp4_3 po3 d3
        refine at_op po4 d4 (wanted_of gd4) (run_loadInt q4 e3 HS.1.box.c3) ⟨_, by rw [d4], HS, Below.refl _ _, rfl⟩
      · skip
        obtain rfl : o = o5 := Option.some.inj (ho.symm.trans po5)
        have f2 : ∃ (q : Option Addr) (c : Nat), (A.eval (.tmp 17)) = .slice q (n + ps.size + 24) c ∧ Lies W q (l ++ be8 r ++ textB ps ++ be8 0) := hdep 2 _ 17 dp5_2 po2 d2
        obtain ⟨y2, k2, e2, l2⟩ := f2
        have e4 : A.eval (.tmp 19) = .int .i64 t := hdep 4 _ 19 dp5_4 po4 d4
        refine at_enterT po5 d5 (wanted_of gd5) (run_callf2 q5 rfl e2 e4 Tryd.func111 (by kernel_rfl) _) (intR_any t (l ++ be8 r ++ textB ps ++ be8 0) (n + ps.size + 24) y2 k2 W (by rw [List.length_append, List.length_append, List.length_append, be8_length, be8_length, textB_length, HN.out]; omega) (by have := HPS.out; omega) l2) ?_
        rintro e w1 ⟨v, rfl, ho, hb⟩
        exact ⟨_, rfl, ⟨_, by rw [d5], ⟨HS.1.step hb, HS.2.below hb⟩, hb, (show Own _ _ _ _ by have h := ho.lower HS.1.below.size; rw [HT.out]; simpa [numsB, exactZ, List.append_assoc] using h)⟩⟩
    have base0 : A.eval (.tmp 0) = .slice y6 (n + ps.size + 16) k6 := (hfr 0 hf0).trans rfl
    have base3 : A.eval (.tmp 3) = .pointer (some ⟨w.heap.size, 0, none⟩) := (hfr 3 hf3).trans rfl
    have base5 : A.eval (.tmp 5) = .int .i64 0 := (hfr 5 hf5).trans rfl
    have e0 : A.eval (.tmp 15) = .slice y6 (n + ps.size + 16) k6 := hall 0 _ 15 (by rw [hns]; decide) po0 d0
    have e1 : A.eval (.tmp 16) = .int .i64 0 := hall 1 _ 16 (by rw [hns]; decide) po1 d1
    have f2 : ∃ (q : Option Addr) (c : Nat), (A.eval (.tmp 17)) = .slice q (n + ps.size + 24) c ∧ Lies W q (l ++ be8 r ++ textB ps ++ be8 0) := hall 2 _ 17 (by rw [hns]; decide) po2 d2
    obtain ⟨y2, k2, e2, l2⟩ := f2
    have e3 : A.eval (.tmp 18) = .pointer (some ⟨w.heap.size, 3, none⟩) := hall 3 _ 18 (by rw [hns]; decide) po3 d3
    have e4 : A.eval (.tmp 19) = .int .i64 t := hall 4 _ 19 (by rw [hns]; decide) po4 d4
    have f5 : Own w.heap.size W (l ++ encG ⟨r, ps, false, t⟩) (A.eval (.tmp 20)) := hall 5 _ 20 (by rw [hns]; decide) po5 d5
    obtain ⟨v5, e5⟩ : ∃ u, A.eval (.tmp 20) = u := ⟨_, rfl⟩
    have hA := act_of_slots [15, 16, 17, 18, 19, 20] _ hAs hdf (fun t ht => hfr t (hslots t ht))
    simp only [List.foldl_cons, List.foldl_nil] at hA
    rw [show rdA A 15 = A.eval (.tmp 15) from rfl, e0] at hA
    rw [show rdA A 16 = A.eval (.tmp 16) from rfl, e1] at hA
    rw [show rdA A 17 = A.eval (.tmp 17) from rfl, e2] at hA
    rw [show rdA A 18 = A.eval (.tmp 18) from rfl, e3] at hA
    rw [show rdA A 19 = A.eval (.tmp 19) from rfl, e4] at hA
    rw [show rdA A 20 = A.eval (.tmp 20) from rfl, e5] at hA
    rw [hns]
    have hfin := f5
    rw [e5] at hfin
    have HFIN := Lib.hid hfin
    have HSF := Lib.hid HS.1.below
    refine at_op po6 d6 (wanted_of gd6) (run_assign q6 e5 W) ?_
    clear hall hdf hAs hfr hslots hns hf0 hf3 hf5 po0 q0 d0 gd0 po1 q1 d1 gd1 po2 q2 d2 gd2 dp2_0 dp2_1 po3 q3 d3 gd3 po4 q4 d4 gd4 dp4_3 po5 q5 d5 gd5 dp5_2 dp5_4 po6 q6 d6 gd6 base0 base3 base5
    have HA9 := Lib.hid hA
    clear hfin hA HS
    rw [HA9.out]
    go_frame
    go_wp2_with fail
    go_ret
    exact ⟨_, rfl, HFIN.out, HSF.out⟩
  · skip
    go_upto_region 5 with (fail)
    refine region_grow0 (fun W => EnG w.heap.size ⟨r, ps, true, t⟩ w W ∧ Lies W y6 (l ++ be8 r ++ textB ps)) (fun i vz wz => match i with | 0 => vz = .slice y6 (n + ps.size + 16) k6 | 1 => vz = .int .i64 1 | 2 => ∃ (q : Option Addr) (c : Nat), vz = .slice q (n + ps.size + 24) c ∧ Lies wz q (l ++ be8 r ++ textB ps ++ be8 1) | 3 => vz = .pointer (some ⟨w.heap.size, 3, none⟩) | 4 => vz = .int .i64 t | 5 => Own w.heap.size wz (l ++ encG ⟨r, ps, true, t⟩) vz | _ => True) (by kernel_rfl) (by kernel_rfl) (by kernel_rfl) (by kernel_rfl) (by decide) (⟨HE9.out.step (Below.refl _ _).drew, HL9.out.below (Below.refl _ _).drew⟩) ?_ ?_
    · skip
      intro i vz wz w2 hb hf
      match i, hf with
      | 0, hf => exact hf
      | 1, hf => exact hf
      | 2, hf => obtain ⟨q, c, e, h⟩ := hf; exact ⟨q, c, e, h.below hb⟩
      | 3, hf => exact hf
      | 4, hf => exact hf
      | 5, hf => exact Own.below hf hb
      | _ + 6, _ => trivial
    intro ops hops
    have hf0 : ∀ (i : Nat) (o : Oper), i + 1 < ops.size → ops[i]? = some o → o.dst ≠ some 0 := by rw [hops]; exact fun i o hi h => slot_free0 (by kernel_rfl) i o hi h
    have hf3 : ∀ (i : Nat) (o : Oper), i + 1 < ops.size → ops[i]? = some o → o.dst ≠ some 3 := by rw [hops]; exact fun i o hi h => slot_free0 (by kernel_rfl) i o hi h
    have hf5 : ∀ (i : Nat) (o : Oper), i + 1 < ops.size → ops[i]? = some o → o.dst ≠ some 5 := by rw [hops]; exact fun i o hi h => slot_free0 (by kernel_rfl) i o hi h
    have hns : ops.size = 7 := by rw [hops]; rfl
    obtain ⟨o0, po0, q0, d0, gd0⟩ : ∃ o, ops[0]? = some o ∧ o.op = .move (.tmp 0) ∧ o.dst = some 15 ∧ o.guard = none := ⟨_, by rw [hops]; rfl, rfl, rfl, rfl⟩
    obtain ⟨o1, po1, q1, d1, gd1⟩ : ∃ o, ops[1]? = some o ∧ o.op = .move (.tmp 5) ∧ o.dst = some 16 ∧ o.guard = none := ⟨_, by rw [hops]; rfl, rfl, rfl, rfl⟩
    obtain ⟨o2, po2, q2, d2, gd2, dp2_0, dp2_1⟩ : ∃ o, ops[2]? = some o ∧ o.op = .call { callee := .value (.func 111), args := #[.tmp 15, .tmp 16], argTypes := #[24, 3] } ∧ o.dst = some 17 ∧ o.guard = none ∧ (o.after.any fun e => Region.binds .any e && decide (e.on = 0)) = true ∧ (o.after.any fun e => Region.binds .any e && decide (e.on = 1)) = true := ⟨_, by rw [hops]; rfl, rfl, rfl, rfl, by kernel_rfl, by kernel_rfl⟩
    obtain ⟨o3, po3, q3, d3, gd3⟩ : ∃ o, ops[3]? = some o ∧ o.op = .fieldAddr 54 (.tmp 3) 3 ∧ o.dst = some 18 ∧ o.guard = none := ⟨_, by rw [hops]; rfl, rfl, rfl, rfl⟩
    obtain ⟨o4, po4, q4, d4, gd4, dp4_3⟩ : ∃ o, ops[4]? = some o ∧ o.op = .load 3 (.tmp 18) ∧ o.dst = some 19 ∧ o.guard = none ∧ (o.after.any fun e => Region.binds .any e && decide (e.on = 3)) = true := ⟨_, by rw [hops]; rfl, rfl, rfl, rfl, by kernel_rfl⟩
    obtain ⟨o5, po5, q5, d5, gd5, dp5_2, dp5_4⟩ : ∃ o, ops[5]? = some o ∧ o.op = .call { callee := .value (.func 111), args := #[.tmp 17, .tmp 19], argTypes := #[24, 3] } ∧ o.dst = some 20 ∧ o.guard = none ∧ (o.after.any fun e => Region.binds .any e && decide (e.on = 2)) = true ∧ (o.after.any fun e => Region.binds .any e && decide (e.on = 4)) = true := ⟨_, by rw [hops]; rfl, rfl, rfl, rfl, by kernel_rfl, by kernel_rfl⟩
    obtain ⟨o6, po6, q6, d6, gd6⟩ : ∃ o, ops[6]? = some o ∧ o.op = .assign (.tmp 20) ∧ o.dst = some 4 ∧ o.guard = none := ⟨_, by rw [hops]; rfl, rfl, rfl, rfl⟩
    have hslots : ∀ t, t ∉ [15, 16, 17, 18, 19, 20] → ∀ (i : Nat) (o : Oper), i + 1 < ops.size → ops[i]? = some o → o.dst ≠ some t := by rw [hops]; exact fun t ht i o hi h => slots_free0 (by kernel_rfl) t ht i o hi h
    clear hops
    refine ⟨fun A W HS hfr hAs i o hi ho hdep => ?_, fun A W HS hdf hAs hfr hall => ?_⟩
    · skip
      have base0 : A.eval (.tmp 0) = .slice y6 (n + ps.size + 16) k6 := (hfr 0 hf0).trans rfl
      have base3 : A.eval (.tmp 3) = .pointer (some ⟨w.heap.size, 0, none⟩) := (hfr 3 hf3).trans rfl
      have base5 : A.eval (.tmp 5) = .int .i64 1 := (hfr 5 hf5).trans rfl
      rw [hns] at hi
      obtain rfl | rfl | rfl | rfl | rfl | rfl : i = 0 ∨ i = 1 ∨ i = 2 ∨ i = 3 ∨ i = 4 ∨ i = 5 := by omega
      · skip
        obtain rfl : o = o0 := Option.some.inj (ho.symm.trans po0)
        refine at_op po0 d0 (wanted_of gd0) (run_move q0 base0 W) ⟨_, by rw [d0], HS, Below.refl _ _, rfl⟩
      · skip
        obtain rfl : o = o1 := Option.some.inj (ho.symm.trans po1)
        refine at_op po1 d1 (wanted_of gd1) (run_move q1 base5 W) ⟨_, by rw [d1], HS, Below.refl _ _, rfl⟩
      · skip
        obtain rfl : o = o2 := Option.some.inj (ho.symm.trans po2)
        have e0 : A.eval (.tmp 15) = .slice y6 (n + ps.size + 16) k6 := hdep 0 _ 15 dp2_0 po0 d0
        have e1 : A.eval (.tmp 16) = .int .i64 1 := hdep 1 _ 16 dp2_1 po1 d1
        refine at_enterT po2 d2 (wanted_of gd2) (run_callf2 q2 rfl e0 e1 Tryd.func111 (by kernel_rfl) _) (intR_any 1 (l ++ be8 r ++ textB ps) (n + ps.size + 16) y6 k6 W (by rw [List.length_append, List.length_append, be8_length, textB_length, HN.out]; omega) (by have := HPS.out; omega) HS.2) ?_
        rintro e w1 ⟨v, rfl, ho, hb⟩; obtain ⟨q3, c3, rfl, -, h3⟩ := ho.named (n := n + ps.size + 24) (by rw [List.length_append, List.length_append, List.length_append, be8_length, be8_length, textB_length, HN.out]; omega)
        exact ⟨_, rfl, ⟨_, by rw [d2], ⟨HS.1.step hb, HS.2.below hb⟩, hb, ⟨q3, c3, rfl, h3⟩⟩⟩
      · skip
        obtain rfl : o = o3 := Option.some.inj (ho.symm.trans po3)
        refine at_op po3 d3 (wanted_of gd3) (run_fieldT (off := 3) q3 (fun _ => by kernel_rfl) base3 W) ⟨_, by rw [d3], HS, Below.refl _ _, rfl⟩
      · skip
        obtain rfl : o = o4 := Option.some.inj (ho.symm.trans po4)
        have e3 : A.eval (.tmp 18) = .pointer (some ⟨w.heap.size, 3, none⟩) := hdep 3 _ 18 dp4_3 po3 d3
        refine at_op po4 d4 (wanted_of gd4) (run_loadInt q4 e3 HS.1.box.c3) ⟨_, by rw [d4], HS, Below.refl _ _, rfl⟩
      · skip
        obtain rfl : o = o5 := Option.some.inj (ho.symm.trans po5)
        have f2 : ∃ (q : Option Addr) (c : Nat), (A.eval (.tmp 17)) = .slice q (n + ps.size + 24) c ∧ Lies W q (l ++ be8 r ++ textB ps ++ be8 1) := hdep 2 _ 17 dp5_2 po2 d2
        obtain ⟨y2, k2, e2, l2⟩ := f2
        have e4 : A.eval (.tmp 19) = .int .i64 t := hdep 4 _ 19 dp5_4 po4 d4
        refine at_enterT po5 d5 (wanted_of gd5) (run_callf2 q5 rfl e2 e4 Tryd.func111 (by kernel_rfl) _) (intR_any t (l ++ be8 r ++ textB ps ++ be8 1) (n + ps.size + 24) y2 k2 W (by rw [List.length_append, List.length_append, List.length_append, be8_length, be8_length, textB_length, HN.out]; omega) (by have := HPS.out; omega) l2) ?_
        rintro e w1 ⟨v, rfl, ho, hb⟩
        exact ⟨_, rfl, ⟨_, by rw [d5], ⟨HS.1.step hb, HS.2.below hb⟩, hb, (show Own _ _ _ _ by have h := ho.lower HS.1.below.size; rw [HT.out]; simpa [numsB, exactZ, List.append_assoc] using h)⟩⟩
    have base0 : A.eval (.tmp 0) = .slice y6 (n + ps.size + 16) k6 := (hfr 0 hf0).trans rfl
    have base3 : A.eval (.tmp 3) = .pointer (some ⟨w.heap.size, 0, none⟩) := (hfr 3 hf3).trans rfl
    have base5 : A.eval (.tmp 5) = .int .i64 1 := (hfr 5 hf5).trans rfl
    have e0 : A.eval (.tmp 15) = .slice y6 (n + ps.size + 16) k6 := hall 0 _ 15 (by rw [hns]; decide) po0 d0
    have e1 : A.eval (.tmp 16) = .int .i64 1 := hall 1 _ 16 (by rw [hns]; decide) po1 d1
    have f2 : ∃ (q : Option Addr) (c : Nat), (A.eval (.tmp 17)) = .slice q (n + ps.size + 24) c ∧ Lies W q (l ++ be8 r ++ textB ps ++ be8 1) := hall 2 _ 17 (by rw [hns]; decide) po2 d2
    obtain ⟨y2, k2, e2, l2⟩ := f2
    have e3 : A.eval (.tmp 18) = .pointer (some ⟨w.heap.size, 3, none⟩) := hall 3 _ 18 (by rw [hns]; decide) po3 d3
    have e4 : A.eval (.tmp 19) = .int .i64 t := hall 4 _ 19 (by rw [hns]; decide) po4 d4
    have f5 : Own w.heap.size W (l ++ encG ⟨r, ps, true, t⟩) (A.eval (.tmp 20)) := hall 5 _ 20 (by rw [hns]; decide) po5 d5
    obtain ⟨v5, e5⟩ : ∃ u, A.eval (.tmp 20) = u := ⟨_, rfl⟩
    have hA := act_of_slots [15, 16, 17, 18, 19, 20] _ hAs hdf (fun t ht => hfr t (hslots t ht))
    simp only [List.foldl_cons, List.foldl_nil] at hA
    rw [show rdA A 15 = A.eval (.tmp 15) from rfl, e0] at hA
    rw [show rdA A 16 = A.eval (.tmp 16) from rfl, e1] at hA
    rw [show rdA A 17 = A.eval (.tmp 17) from rfl, e2] at hA
    rw [show rdA A 18 = A.eval (.tmp 18) from rfl, e3] at hA
    rw [show rdA A 19 = A.eval (.tmp 19) from rfl, e4] at hA
    rw [show rdA A 20 = A.eval (.tmp 20) from rfl, e5] at hA
    rw [hns]
    have hfin := f5
    rw [e5] at hfin
    have HFIN := Lib.hid hfin
    have HSF := Lib.hid HS.1.below
    refine at_op po6 d6 (wanted_of gd6) (run_assign q6 e5 W) ?_
    clear hall hdf hAs hfr hslots hns hf0 hf3 hf5 po0 q0 d0 gd0 po1 q1 d1 gd1 po2 q2 d2 gd2 dp2_0 dp2_1 po3 q3 d3 gd3 po4 q4 d4 gd4 dp4_3 po5 q5 d5 gd5 dp5_2 dp5_4 po6 q6 d6 gd6 base0 base3 base5
    have HA9 := Lib.hid hA
    clear hfin hA HS
    rw [HA9.out]
    go_frame
    go_wp2_with fail
    go_ret
    exact ⟨_, rfl, HFIN.out, HSF.out⟩
end Go.Proofs.YtgeacocdnenhdaaDoor

/-
  The document's chain of a token (gen_tkref2.py).
-/
namespace Go.Proofs.YtgeacocdnenhdaaDoor
open Go.RowKit Go.Proofs.ShaWords
theorem ChW.grow {root : List (BitVec 8)} {t : TokM} {q : Value} {W w w' : World} {C k : Nat} (h : ChW root t q W C k w) (hb : Below w.heap.size w w') : ChW root t q W C k w' := ⟨h.base.step hb, h.code.keep hb⟩
set_option maxRecDepth 100000 in
set_option maxHeartbeats 8000000 in
theorem refChain_tok (root : List (BitVec 8)) (t : TokM) (n c : Nat) (p : Option Addr) (w : World) (hrl : root.length = 32) (hml : t.mac.length = 32) (hn : t.gs.length = n) (hn6 : n ≤ 1000000) (hts : t.ten.size ≤ 2000) (hok : ∀ x ∈ t.gs, x.pre.size ≤ 2000) (hL : GrantsAt w p t.gs) (hk : Consts w) (hs : Starts w) :
    Calls Tryd.prog 37 #[.agg (bytesV root).toArray, .agg (t.cells (.slice p n c)).toArray] w fun e w' => e = .returned (.agg (bytesV (chainT root t.ten t.id t.gs)).toArray) ∧ Below w.heap.size w w' := by
  have hcs : w.heap.size > 2 ∧ w.heap.size > 1 := ⟨hk.size, by have := World.block_lt_of_cell? w _ (hs 0 _ rfl); exact this⟩
  have HCS := Lib.hid hcs
  have HRL := Lib.hid hrl
  have HML := Lib.hid hml
  have HN := Lib.hid hn
  have HTS := Lib.hid hts
  have HOK := Lib.hid hok
  have HL := Lib.hid hL
  have HHD : Hid ((headT t.ten t.id).length = t.ten.size + 16) := show _ = _ by unfold headT; rw [List.length_append, textB_length, be8_length]
  have HB0 : Hid (ChB root t (.slice p n c) w (((w.alloc (.cells (bytesV root).toArray 23)).alloc (.cells (t.cells (.slice p n c)).toArray 50)).alloc (.cells (bytesV (noughts 32)).toArray 48))) := by
    have b1 : Below w.heap.size w (w.alloc (.cells (bytesV root).toArray 23)) := allocBelow _ _
    have b2 := allocBelow (w.alloc (.cells (bytesV root).toArray 23)) (.cells (t.cells (.slice p n c)).toArray 50)
    have b3 := allocBelow ((w.alloc (.cells (bytesV root).toArray 23)).alloc (.cells (t.cells (.slice p n c)).toArray 50)) (.cells (bytesV (noughts 32)).toArray 48)
    have r1 : BytesAt (w.alloc (.cells (bytesV root).toArray 23)) w.heap.size 23 root := heap_new_at rfl
    have r2 : TokAt ((w.alloc (.cells (bytesV root).toArray 23)).alloc (.cells (t.cells (.slice p n c)).toArray 50)) (w.heap.size + 1) t (.slice p n c) := heap_new_at (size_alloc _ _)
    have r3 : BytesAt (((w.alloc (.cells (bytesV root).toArray 23)).alloc (.cells (t.cells (.slice p n c)).toArray 50)).alloc (.cells (bytesV (noughts 32)).toArray 48)) (w.heap.size + 2) 48 (noughts 32) := heap_new_at (by rw [size_alloc, size_alloc])
    have bb := (b1.trans (b2.mono (by rw [size_alloc]; omega))).trans (b3.mono (by rw [size_alloc, size_alloc]; omega))
    exact ⟨(r1.keep b2).keep b3, r2.keep b3, r3, bb, hk.below bb hk.size, range_keep hs bb⟩
  have hz : (bytesV (noughts 32)).toArray = Array.replicate 32 (.int .u8 0) := by kernel_rfl
  rw [hz] at HB0
  clear hrl hml hn hts hok hL hk hs hz hcs
  obtain ⟨TC, hTC⟩ : ∃ TC, TC = (t.cells (.slice p n c)).toArray := ⟨_, rfl⟩
  obtain ⟨RC, hRC⟩ : ∃ RC, RC = (bytesV root).toArray := ⟨_, rfl⟩
  rw [← hTC, ← hRC] at HB0
  rw [← hTC, ← hRC]
  have HTC := Lib.hid hTC
  have HRC := Lib.hid hRC
  clear hTC hRC
  go_enter Tryd.func37, Tryd.ntmps37
  go_upto_region 1 with (fail)
  refine wp_gen (fun A => ChB root t (.slice p n c) w A) (by first | exact HB0.out | (simpa using HB0.out)) ?_
  rintro A0 hA0
  have HA0 := Lib.hid hA0
  clear hA0 HB0
  refine region_grow (fun W => ChB root t (.slice p n c) w W) (fun i vz wz => match i with | 0 => vz = .slice (some ⟨w.heap.size, 0, none⟩) 32 32 | 1 => vz = .pointer (some ⟨w.heap.size + 1, 0, none⟩) | 2 => vz = .string t.ten | 3 => ∃ (q : Option Addr) (c : Nat), vz = .slice q (t.ten.size + 8) c ∧ t.ten.size + 8 ≤ c ∧ c ≤ 9223372036854775807 ∧ Lies wz q (textB t.ten) | 4 => vz = .pointer (some ⟨w.heap.size + 1, 1, none⟩) | 5 => vz = .int .i64 t.id | 6 => ∃ (q : Option Addr) (c : Nat), vz = .slice q (t.ten.size + 16) c ∧ t.ten.size + 16 ≤ c ∧ c ≤ 9223372036854775807 ∧ Lies wz q (headT t.ten t.id) | 7 => vz = .agg (bytesV (macOf root (headT t.ten t.id))).toArray | 8 => ∃ b : Nat, vz = .pointer (some ⟨b, 0, none⟩) ∧ w.heap.size + 3 ≤ b ∧ BytesAt wz b 48 (noughts 32) | _ => True) (by kernel_rfl) (by kernel_rfl) (by kernel_rfl) (by kernel_rfl) (by decide) (HA0.out.step (Below.refl _ _).drew) ?_ ?_
  · skip
    intro i vz wz w2 hb hf
    match i, hf with
    | 0, hf => exact hf
    | 1, hf => exact hf
    | 2, hf => exact hf
    | 3, hf => obtain ⟨q, c, e, h1, h2, h⟩ := hf; exact ⟨q, c, e, h1, h2, h.below hb⟩
    | 4, hf => exact hf
    | 5, hf => exact hf
    | 6, hf => obtain ⟨q, c, e, h1, h2, h⟩ := hf; exact ⟨q, c, e, h1, h2, h.below hb⟩
    | 7, hf => exact hf
    | 8, hf => obtain ⟨b, e, h1, h⟩ := hf; exact ⟨b, e, h1, h.keep hb⟩
    | _ + 9, _ => trivial
  intro ops hops
  have hf2 : ∀ (i : Nat) (o : Oper), ops[i]? = some o → o.dst ≠ some 2 := by rw [hops]; exact fun i o h => slot_free (by kernel_rfl) i o h
  have hf3 : ∀ (i : Nat) (o : Oper), ops[i]? = some o → o.dst ≠ some 3 := by rw [hops]; exact fun i o h => slot_free (by kernel_rfl) i o h
  have hns : ops.size = 10 := by rw [hops]; rfl
  obtain ⟨o0, po0, q0, d0, gd0⟩ : ∃ o, ops[0]? = some o ∧ o.op = .slice 23 (.tmp 2) none none none ∧ o.dst = some 7 ∧ o.guard = none := ⟨_, by rw [hops]; rfl, rfl, rfl, rfl⟩
  obtain ⟨o1, po1, q1, d1, gd1⟩ : ∃ o, ops[1]? = some o ∧ o.op = .fieldAddr 50 (.tmp 3) 0 ∧ o.dst = some 8 ∧ o.guard = none := ⟨_, by rw [hops]; rfl, rfl, rfl, rfl⟩
  obtain ⟨o2, po2, q2, d2, gd2, dp2_1⟩ : ∃ o, ops[2]? = some o ∧ o.op = .load 9 (.tmp 8) ∧ o.dst = some 9 ∧ o.guard = none ∧ (o.after.any fun e => Region.binds .any e && decide (e.on = 1)) = true := ⟨_, by rw [hops]; rfl, rfl, rfl, rfl, by kernel_rfl⟩
  obtain ⟨o3, po3, q3, d3, gd3, dp3_2⟩ : ∃ o, ops[3]? = some o ∧ o.op = .call { callee := .value (.func 112), args := #[.const (.slice none 0 0), .tmp 9], argTypes := #[24, 9] } ∧ o.dst = some 10 ∧ o.guard = none ∧ (o.after.any fun e => Region.binds .any e && decide (e.on = 2)) = true := ⟨_, by rw [hops]; rfl, rfl, rfl, rfl, by kernel_rfl⟩
  obtain ⟨o4, po4, q4, d4, gd4⟩ : ∃ o, ops[4]? = some o ∧ o.op = .fieldAddr 50 (.tmp 3) 1 ∧ o.dst = some 11 ∧ o.guard = none := ⟨_, by rw [hops]; rfl, rfl, rfl, rfl⟩
  obtain ⟨o5, po5, q5, d5, gd5, dp5_4⟩ : ∃ o, ops[5]? = some o ∧ o.op = .load 3 (.tmp 11) ∧ o.dst = some 12 ∧ o.guard = none ∧ (o.after.any fun e => Region.binds .any e && decide (e.on = 4)) = true := ⟨_, by rw [hops]; rfl, rfl, rfl, rfl, by kernel_rfl⟩
  obtain ⟨o6, po6, q6, d6, gd6, dp6_3, dp6_5⟩ : ∃ o, ops[6]? = some o ∧ o.op = .call { callee := .value (.func 111), args := #[.tmp 10, .tmp 12], argTypes := #[24, 3] } ∧ o.dst = some 13 ∧ o.guard = none ∧ (o.after.any fun e => Region.binds .any e && decide (e.on = 3)) = true ∧ (o.after.any fun e => Region.binds .any e && decide (e.on = 5)) = true := ⟨_, by rw [hops]; rfl, rfl, rfl, rfl, by kernel_rfl, by kernel_rfl⟩
  obtain ⟨o7, po7, q7, d7, gd7, dp7_0, dp7_6⟩ : ∃ o, ops[7]? = some o ∧ o.op = .call { callee := .value (.func 110), args := #[.tmp 7, .tmp 13], argTypes := #[24, 24] } ∧ o.dst = some 14 ∧ o.guard = none ∧ (o.after.any fun e => Region.binds .any e && decide (e.on = 0)) = true ∧ (o.after.any fun e => Region.binds .any e && decide (e.on = 6)) = true := ⟨_, by rw [hops]; rfl, rfl, rfl, rfl, by kernel_rfl, by kernel_rfl⟩
  obtain ⟨o8, po8, q8, d8, gd8⟩ : ∃ o, ops[8]? = some o ∧ o.op = .alloc 48 ∧ o.dst = some 5 ∧ o.guard = none := ⟨_, by rw [hops]; rfl, rfl, rfl, rfl⟩
  obtain ⟨o9, po9, q9, d9, gd9⟩ : ∃ o, ops[9]? = some o ∧ o.op = .store 48 (.tmp 5) (.tmp 14) ∧ o.dst = none ∧ o.guard = none := ⟨_, by rw [hops]; rfl, rfl, rfl, rfl⟩
  have hslots : ∀ t, t ∉ [7, 8, 9, 10, 11, 12, 13, 14, 5] → ∀ (i : Nat) (o : Oper), ops[i]? = some o → o.dst ≠ some t := by rw [hops]; exact fun t ht i o h => slots_free (by kernel_rfl) t ht i o h
  clear hops
  refine ⟨fun A W HS hfr hAs i o hi ho hdep => ?_, fun A W HS hdf hAs hfr hall => ?_⟩
  · skip
    have base2 : A.eval (.tmp 2) = .pointer (some ⟨w.heap.size, 0, none⟩) := (hfr 2 hf2).trans rfl
    have base3 : A.eval (.tmp 3) = .pointer (some ⟨w.heap.size + 1, 0, none⟩) := (hfr 3 hf3).trans rfl
    rw [hns] at hi
    obtain rfl | rfl | rfl | rfl | rfl | rfl | rfl | rfl | rfl : i = 0 ∨ i = 1 ∨ i = 2 ∨ i = 3 ∨ i = 4 ∨ i = 5 ∨ i = 6 ∨ i = 7 ∨ i = 8 := by omega
    · skip
      obtain rfl : o = o0 := Option.some.inj (ho.symm.trans po0)
      refine at_op po0 d0 (wanted_of gd0) (run_sliceKey q0 base2 W) ⟨_, by rw [d0], HS, Below.refl _ _, rfl⟩
    · skip
      obtain rfl : o = o1 := Option.some.inj (ho.symm.trans po1)
      refine at_op po1 d1 (wanted_of gd1) (run_fieldT (off := 0) q1 (fun _ => by kernel_rfl) base3 W) ⟨_, by rw [d1], HS, Below.refl _ _, rfl⟩
    · skip
      obtain rfl : o = o2 := Option.some.inj (ho.symm.trans po2)
      have e1 : A.eval (.tmp 8) = .pointer (some ⟨w.heap.size + 1, 0, none⟩) := hdep 1 _ 8 dp2_1 po1 d1
      refine at_op po2 d2 (wanted_of gd2) (run_loadStr q2 e1 HS.tok.c0) ⟨_, by rw [d2], HS, Below.refl _ _, rfl⟩
    · skip
      obtain rfl : o = o3 := Option.some.inj (ho.symm.trans po3)
      have e2 : A.eval (.tmp 9) = .string t.ten := hdep 2 _ 9 dp3_2 po2 d2
      refine at_enterT po3 d3 (wanted_of gd3) (run_callf2 q3 rfl rfl e2 Tryd.func112 (by kernel_rfl) _) (textRT_any [] t.ten 0 none 0 W rfl (by have := HTS.out; omega) (Or.inl rfl)) ?_
      rintro e w1 ⟨v, rfl, ho, hb⟩; obtain ⟨q3, c3, rfl, i3, j3, h3⟩ := ho.named3 (n := t.ten.size + 8) (by simp [textB_length])
      exact ⟨_, rfl, ⟨_, by rw [d3], HS.step hb, hb, ⟨q3, c3, rfl, i3, j3, h3⟩⟩⟩
    · skip
      obtain rfl : o = o4 := Option.some.inj (ho.symm.trans po4)
      refine at_op po4 d4 (wanted_of gd4) (run_fieldT (off := 1) q4 (fun _ => by kernel_rfl) base3 W) ⟨_, by rw [d4], HS, Below.refl _ _, rfl⟩
    · skip
      obtain rfl : o = o5 := Option.some.inj (ho.symm.trans po5)
      have e4 : A.eval (.tmp 11) = .pointer (some ⟨w.heap.size + 1, 1, none⟩) := hdep 4 _ 11 dp5_4 po4 d4
      refine at_op po5 d5 (wanted_of gd5) (run_loadInt q5 e4 HS.tok.c1) ⟨_, by rw [d5], HS, Below.refl _ _, rfl⟩
    · skip
      obtain rfl : o = o6 := Option.some.inj (ho.symm.trans po6)
      have f3 : ∃ (q : Option Addr) (c : Nat), (A.eval (.tmp 10)) = .slice q (t.ten.size + 8) c ∧ t.ten.size + 8 ≤ c ∧ c ≤ 9223372036854775807 ∧ Lies W q (textB t.ten) := hdep 3 _ 10 dp6_3 po3 d3
      obtain ⟨y3, k3, e3, m3, n3, l3⟩ := f3
      have e5 : A.eval (.tmp 12) = .int .i64 t.id := hdep 5 _ 12 dp6_5 po5 d5
      refine at_enterT po6 d6 (wanted_of gd6) (run_callf2 q6 rfl e3 e5 Tryd.func111 (by kernel_rfl) _) (intR_any t.id (textB t.ten) (t.ten.size + 8) y3 k3 W (textB_length _) (by have := HTS.out; omega) l3) ?_
      rintro e w1 ⟨v, rfl, ho, hb⟩; obtain ⟨q7, c7, rfl, i7, j7, h7⟩ := ho.named3 (n := t.ten.size + 16) (by rw [List.length_append, textB_length, be8_length])
      exact ⟨_, rfl, ⟨_, by rw [d6], HS.step hb, hb, ⟨q7, c7, rfl, i7, j7, h7⟩⟩⟩
    · skip
      obtain rfl : o = o7 := Option.some.inj (ho.symm.trans po7)
      have e0 : A.eval (.tmp 7) = .slice (some ⟨w.heap.size, 0, none⟩) 32 32 := hdep 0 _ 7 dp7_0 po0 d0
      have f6 : ∃ (q : Option Addr) (c : Nat), (A.eval (.tmp 13)) = .slice q (t.ten.size + 16) c ∧ t.ten.size + 16 ≤ c ∧ c ≤ 9223372036854775807 ∧ Lies W q (headT t.ten t.id) := hdep 6 _ 13 dp7_6 po6 d6
      obtain ⟨y6, k6, e6, m6, n6, l6⟩ := f6
      refine at_enterT po7 d7 (wanted_of gd7) (run_callf2 q7 rfl e0 e6 Tryd.func110 (by kernel_rfl) _) (refOf_len 32 (t.ten.size + 16) root (headT t.ten t.id) (some ⟨w.heap.size, 0, none⟩) y6 32 k6 W HRL.out HHD.out (Or.inr ⟨_, 0, rfl, HS.root.range⟩) l6 (by omega) (by have := HTS.out; omega)) ?_
      rintro e w1 ⟨rfl, hb⟩
      exact ⟨_, rfl, ⟨_, by rw [d7], HS.step hb, hb, rfl⟩⟩
    · skip
      obtain rfl : o = o8 := Option.some.inj (ho.symm.trans po8)
      refine at_op po8 d8 (wanted_of gd8) (run_allocSum q8 W) ⟨_, by rw [d8], HS.step (allocBelow _ _), (allocBelow _ _), ⟨_, rfl, HS.size, heap_new_at rfl⟩⟩
  have base2 : A.eval (.tmp 2) = .pointer (some ⟨w.heap.size, 0, none⟩) := (hfr 2 hf2).trans rfl
  have base3 : A.eval (.tmp 3) = .pointer (some ⟨w.heap.size + 1, 0, none⟩) := (hfr 3 hf3).trans rfl
  have e0 : A.eval (.tmp 7) = .slice (some ⟨w.heap.size, 0, none⟩) 32 32 := hall 0 _ 7 (by rw [hns]; decide) po0 d0
  have e1 : A.eval (.tmp 8) = .pointer (some ⟨w.heap.size + 1, 0, none⟩) := hall 1 _ 8 (by rw [hns]; decide) po1 d1
  have e2 : A.eval (.tmp 9) = .string t.ten := hall 2 _ 9 (by rw [hns]; decide) po2 d2
  have f3 : ∃ (q : Option Addr) (c : Nat), (A.eval (.tmp 10)) = .slice q (t.ten.size + 8) c ∧ t.ten.size + 8 ≤ c ∧ c ≤ 9223372036854775807 ∧ Lies W q (textB t.ten) := hall 3 _ 10 (by rw [hns]; decide) po3 d3
  obtain ⟨y3, k3, e3, m3, n3, l3⟩ := f3
  have e4 : A.eval (.tmp 11) = .pointer (some ⟨w.heap.size + 1, 1, none⟩) := hall 4 _ 11 (by rw [hns]; decide) po4 d4
  have e5 : A.eval (.tmp 12) = .int .i64 t.id := hall 5 _ 12 (by rw [hns]; decide) po5 d5
  have f6 : ∃ (q : Option Addr) (c : Nat), (A.eval (.tmp 13)) = .slice q (t.ten.size + 16) c ∧ t.ten.size + 16 ≤ c ∧ c ≤ 9223372036854775807 ∧ Lies W q (headT t.ten t.id) := hall 6 _ 13 (by rw [hns]; decide) po6 d6
  obtain ⟨y6, k6, e6, m6, n6, l6⟩ := f6
  have e7 : A.eval (.tmp 14) = .agg (bytesV (macOf root (headT t.ten t.id))).toArray := hall 7 _ 14 (by rw [hns]; decide) po7 d7
  have f8 : ∃ b : Nat, (A.eval (.tmp 5)) = .pointer (some ⟨b, 0, none⟩) ∧ w.heap.size + 3 ≤ b ∧ BytesAt W b 48 (noughts 32) := hall 8 _ 5 (by rw [hns]; decide) po8 d8
  obtain ⟨b8, e8, m8, l8⟩ := f8
  have hA := act_of_slots [7, 8, 9, 10, 11, 12, 13, 14, 5] _ hAs hdf (fun t ht => hfr t (hslots t ht))
  simp only [List.foldl_cons, List.foldl_nil] at hA
  rw [show rdA A 7 = A.eval (.tmp 7) from rfl, e0] at hA
  rw [show rdA A 8 = A.eval (.tmp 8) from rfl, e1] at hA
  rw [show rdA A 9 = A.eval (.tmp 9) from rfl, e2] at hA
  rw [show rdA A 10 = A.eval (.tmp 10) from rfl, e3] at hA
  rw [show rdA A 11 = A.eval (.tmp 11) from rfl, e4] at hA
  rw [show rdA A 12 = A.eval (.tmp 12) from rfl, e5] at hA
  rw [show rdA A 13 = A.eval (.tmp 13) from rfl, e6] at hA
  rw [show rdA A 14 = A.eval (.tmp 14) from rfl, e7] at hA
  rw [show rdA A 5 = A.eval (.tmp 5) from rfl, e8] at hA
  rw [hns]
  have hrow := setRow_heap W b8 _ (bytesV (macOf root (headT t.ten t.id))).toArray 48 _ l8
  refine at_skip po9 d9 (wanted_of gd9) (run_storeRowT q9 e8 e7 l8 (infoSum _ (macOf_length _ _)) (by rw [bytesV_size _ 32 (noughts_length 32), bytesV_size _ 32 (macOf_length _ _)]) (bytesV_one _)) ?_
  have HW1 : Hid (ChW root t (.slice p n c) w b8 0 (W.setRow b8 (bytesV (macOf root (headT t.ten t.id))).toArray)) := ⟨HS.spares HCS.out (T := fun b => b = b8) (Spares.grown (grown_setRow _ _ _) rfl) (fun b e => by subst e; exact m8), hrow⟩
  have HB8 := Lib.hid m8
  generalize W.setRow b8 (bytesV (macOf root (headT t.ten t.id))).toArray = W1 at HW1 ⊢
  clear hall hdf hAs hfr hslots hns hf2 hf3 po0 q0 d0 gd0 po1 q1 d1 gd1 po2 q2 d2 gd2 dp2_1 po3 q3 d3 gd3 dp3_2 po4 q4 d4 gd4 po5 q5 d5 gd5 dp5_4 po6 q6 d6 gd6 dp6_3 dp6_5 po7 q7 d7 gd7 dp7_0 dp7_6 po8 q8 d8 gd8 po9 q9 d9 gd9 base2 base3
  have HA := Lib.hid hA
  clear hA HS HA0 hrow l8 l3 l6 e0 e1 e2 e3 e4 e5 e6 e7 e8
  rw [HA.out]
  go_frame
  clear HA
  have HSL : Hid (∀ k, (chainS (macOf root (headT t.ten t.id)) (t.gs.take k)).length = 32) := show ∀ _, _ from fun k => chainS_length _ _ (macOf_length _ _)
  go_upto_region 2 with (fail)
  go_wp2_with fail
  go_loopw [6] (fun i wr => ∃ k : Nat, k ≤ n ∧ i = .int .i64 (k : Int) ∧ ChW root t (.slice p n c) w b8 k wr) (fun i _ => n - (intOf i).toNat)
  case atStart => exact ⟨0, Nat.zero_le _, rfl, HW1.out⟩
  case round =>
    clear HW1
    obtain ⟨k, hk, rfl, hw⟩ := hrel
    have c2 := hw.base.tok.c2
    have HW := Lib.hid hw
    by_cases hlt : k < n
    · have hlt' : k < t.gs.length := by rw [HN.out]; exact hlt
      rcases HL.out.at' with h1 | ⟨b, off, rfl, hr⟩
      · exfalso; rw [h1] at hlt'; simp at hlt'
      have HR : Hid (∀ W, Below w.heap.size w W → W.rangeAt b (off + k * 4) (t.gs[k]).cells) := show ∀ _, _ → _ from fun W hb => range_keep (hr k hlt') hb
      have HSM := Lib.hid (HOK.out _ (List.getElem_mem hlt'))
      have HTG := Lib.hid (chainS_take (macOf root (headT t.ten t.id)) hlt')
      generalize t.gs[k] = x at HR HSM HTG
      have HKL := Lib.hid hlt
      obtain ⟨S, hS⟩ : ∃ S, S = chainS (macOf root (headT t.ten t.id)) (t.gs.take k) := ⟨_, rfl⟩
      have hSl : S.length = 32 := by rw [hS]; exact HSL.out k
      have hcode := hw.code
      rw [← hS] at hcode
      have htg := HTG.out
      rw [← hS] at htg
      have HTG3 := Lib.hid htg
      have HCO : Hid (ChB root t (.slice (some ⟨b, off, none⟩) n c) w wr ∧ BytesAt wr b8 48 S) := show _ ∧ _ from ⟨hw.base, hcode⟩
      have HSLL := Lib.hid hSl
      clear hS htg hcode hSl HTG hw hr hlt' HW
      have q0 : (k : Int) < (n : Int) := by omega
      go_upto_region 5 with (fail)
      refine region_grow (fun W => ChB root t (.slice (some ⟨b, off, none⟩) n c) w W ∧ BytesAt W b8 48 S) (fun i vz wz => match i with | 0 => vz = .agg (bytesV S).toArray | 1 => vz = .pointer (some ⟨w.heap.size + 1, 2, none⟩) | 2 => vz = .slice (some ⟨b, off, none⟩) n c | 3 => vz = .int .i64 (k : Int) | 4 => vz = .pointer (some ⟨b, off + k * 4, none⟩) | 5 => vz = .agg x.cells.toArray | 6 => ∃ (q : Option Addr) (c : Nat), vz = .slice q (x.pre.size + 32) c ∧ x.pre.size + 32 ≤ c ∧ c ≤ 9223372036854775807 ∧ Lies wz q (encG x) | 7 => vz = .agg (bytesV (macOf S (encG x))).toArray | _ => True) (by kernel_rfl) (by kernel_rfl) (by kernel_rfl) (by kernel_rfl) (by decide) (⟨HCO.out.1.step (Below.refl _ _).drew, HCO.out.2.keep (Below.refl _ _).drew⟩) ?_ ?_
      · skip
        intro i vz wz w2 hb hf
        match i, hf with
        | 0, hf => exact hf
        | 1, hf => exact hf
        | 2, hf => exact hf
        | 3, hf => exact hf
        | 4, hf => exact hf
        | 5, hf => exact hf
        | 6, hf => obtain ⟨q, c, e, h1, h2, h⟩ := hf; exact ⟨q, c, e, h1, h2, h.below hb⟩
        | 7, hf => exact hf
        | _ + 8, _ => trivial
      intro ops hops
      have hf3 : ∀ (i : Nat) (o : Oper), ops[i]? = some o → o.dst ≠ some 3 := by rw [hops]; exact fun i o h => slot_free (by kernel_rfl) i o h
      have hf5 : ∀ (i : Nat) (o : Oper), ops[i]? = some o → o.dst ≠ some 5 := by rw [hops]; exact fun i o h => slot_free (by kernel_rfl) i o h
      have hf6 : ∀ (i : Nat) (o : Oper), ops[i]? = some o → o.dst ≠ some 6 := by rw [hops]; exact fun i o h => slot_free (by kernel_rfl) i o h
      have hns : ops.size = 9 := by rw [hops]; rfl
      obtain ⟨o0, po0, q0, d0, gd0⟩ : ∃ o, ops[0]? = some o ∧ o.op = .load 48 (.tmp 5) ∧ o.dst = some 22 ∧ o.guard = none := ⟨_, by rw [hops]; rfl, rfl, rfl, rfl⟩
      obtain ⟨o1, po1, q1, d1, gd1⟩ : ∃ o, ops[1]? = some o ∧ o.op = .fieldAddr 50 (.tmp 3) 2 ∧ o.dst = some 23 ∧ o.guard = none := ⟨_, by rw [hops]; rfl, rfl, rfl, rfl⟩
      obtain ⟨o2, po2, q2, d2, gd2, dp2_1⟩ : ∃ o, ops[2]? = some o ∧ o.op = .load 44 (.tmp 23) ∧ o.dst = some 24 ∧ o.guard = none ∧ (o.after.any fun e => Region.binds .any e && decide (e.on = 1)) = true := ⟨_, by rw [hops]; rfl, rfl, rfl, rfl, by kernel_rfl⟩
      obtain ⟨o3, po3, q3, d3, gd3⟩ : ∃ o, ops[3]? = some o ∧ o.op = .move (.tmp 6) ∧ o.dst = some 25 ∧ o.guard = none := ⟨_, by rw [hops]; rfl, rfl, rfl, rfl⟩
      obtain ⟨o4, po4, q4, d4, gd4, dp4_2, dp4_3⟩ : ∃ o, ops[4]? = some o ∧ o.op = .indexAddr 44 (.tmp 24) (.tmp 25) ∧ o.dst = some 26 ∧ o.guard = none ∧ (o.after.any fun e => Region.binds .any e && decide (e.on = 2)) = true ∧ (o.after.any fun e => Region.binds .any e && decide (e.on = 3)) = true := ⟨_, by rw [hops]; rfl, rfl, rfl, rfl, by kernel_rfl, by kernel_rfl⟩
      obtain ⟨o5, po5, q5, d5, gd5, dp5_4⟩ : ∃ o, ops[5]? = some o ∧ o.op = .load 54 (.tmp 26) ∧ o.dst = some 27 ∧ o.guard = none ∧ (o.after.any fun e => Region.binds .any e && decide (e.on = 4)) = true := ⟨_, by rw [hops]; rfl, rfl, rfl, rfl, by kernel_rfl⟩
      obtain ⟨o6, po6, q6, d6, gd6, dp6_5⟩ : ∃ o, ops[6]? = some o ∧ o.op = .call { callee := .value (.func 106), args := #[.const (.slice none 0 0), .tmp 27], argTypes := #[24, 54] } ∧ o.dst = some 28 ∧ o.guard = none ∧ (o.after.any fun e => Region.binds .any e && decide (e.on = 5)) = true := ⟨_, by rw [hops]; rfl, rfl, rfl, rfl, by kernel_rfl⟩
      obtain ⟨o7, po7, q7, d7, gd7, dp7_0, dp7_6⟩ : ∃ o, ops[7]? = some o ∧ o.op = .call { callee := .value (.func 105), args := #[.tmp 22, .tmp 28], argTypes := #[48, 24] } ∧ o.dst = some 29 ∧ o.guard = none ∧ (o.after.any fun e => Region.binds .any e && decide (e.on = 0)) = true ∧ (o.after.any fun e => Region.binds .any e && decide (e.on = 6)) = true := ⟨_, by rw [hops]; rfl, rfl, rfl, rfl, by kernel_rfl, by kernel_rfl⟩
      obtain ⟨o8, po8, q8, d8, gd8⟩ : ∃ o, ops[8]? = some o ∧ o.op = .store 48 (.tmp 5) (.tmp 29) ∧ o.dst = none ∧ o.guard = none := ⟨_, by rw [hops]; rfl, rfl, rfl, rfl⟩
      have hslots : ∀ t, t ∉ [22, 23, 24, 25, 26, 27, 28, 29] → ∀ (i : Nat) (o : Oper), ops[i]? = some o → o.dst ≠ some t := by rw [hops]; exact fun t ht i o h => slots_free (by kernel_rfl) t ht i o h
      clear hops
      refine ⟨fun A W HS hfr hAs i o hi ho hdep => ?_, fun A W HS hdf hAs hfr hall => ?_⟩
      · skip
        have base3 : A.eval (.tmp 3) = .pointer (some ⟨w.heap.size + 1, 0, none⟩) := (hfr 3 hf3).trans rfl
        have base5 : A.eval (.tmp 5) = .pointer (some ⟨b8, 0, none⟩) := (hfr 5 hf5).trans rfl
        have base6 : A.eval (.tmp 6) = .int .i64 (k : Int) := (hfr 6 hf6).trans rfl
        rw [hns] at hi
        obtain rfl | rfl | rfl | rfl | rfl | rfl | rfl | rfl : i = 0 ∨ i = 1 ∨ i = 2 ∨ i = 3 ∨ i = 4 ∨ i = 5 ∨ i = 6 ∨ i = 7 := by omega
        · skip
          obtain rfl : o = o0 := Option.some.inj (ho.symm.trans po0)
          refine at_op po0 d0 (wanted_of gd0) (run_loadSum0 q0 base5 HSLL.out HS.2) ⟨_, by rw [d0], HS, Below.refl _ _, rfl⟩
        · skip
          obtain rfl : o = o1 := Option.some.inj (ho.symm.trans po1)
          refine at_op po1 d1 (wanted_of gd1) (run_fieldT (off := 2) q1 (fun _ => by kernel_rfl) base3 W) ⟨_, by rw [d1], HS, Below.refl _ _, rfl⟩
        · skip
          obtain rfl : o = o2 := Option.some.inj (ho.symm.trans po2)
          have e1 : A.eval (.tmp 23) = .pointer (some ⟨w.heap.size + 1, 2, none⟩) := hdep 1 _ 23 dp2_1 po1 d1
          refine at_op po2 d2 (wanted_of gd2) (run_loadSlG q2 e1 HS.1.tok.c2) ⟨_, by rw [d2], HS, Below.refl _ _, rfl⟩
        · skip
          obtain rfl : o = o3 := Option.some.inj (ho.symm.trans po3)
          refine at_op po3 d3 (wanted_of gd3) (run_move q3 base6 W) ⟨_, by rw [d3], HS, Below.refl _ _, rfl⟩
        · skip
          obtain rfl : o = o4 := Option.some.inj (ho.symm.trans po4)
          have e2 : A.eval (.tmp 24) = .slice (some ⟨b, off, none⟩) n c := hdep 2 _ 24 dp4_2 po2 d2
          have e3 : A.eval (.tmp 25) = .int .i64 (k : Int) := hdep 3 _ 25 dp4_3 po3 d3
          refine at_op po4 d4 (wanted_of gd4) (grantT.run_ix q4 e2 e3 HKL.out W) ⟨_, by rw [d4], HS, Below.refl _ _, rfl⟩
        · skip
          obtain rfl : o = o5 := Option.some.inj (ho.symm.trans po5)
          have e4 : A.eval (.tmp 26) = .pointer (some ⟨b, off + k * 4, none⟩) := hdep 4 _ 26 dp5_4 po4 d4
          refine at_op po5 d5 (wanted_of gd5) (grantT.run_ld Tryd.underlying54 rfl (GrantM.len x) q5 e4 (HR.out W HS.1.below)) ⟨_, by rw [d5], HS, Below.refl _ _, rfl⟩
        · skip
          obtain rfl : o = o6 := Option.some.inj (ho.symm.trans po6)
          have e5 : A.eval (.tmp 27) = .agg x.cells.toArray := hdep 5 _ 27 dp6_5 po5 d5
          refine at_enterT po6 d6 (wanted_of gd6) (run_callf2 q6 rfl rfl e5 Tryd.func106 (by kernel_rfl) _) (refGrant_any [] 0 0 none x W rfl (by omega) (by have := HSM.out; omega) (Or.inl rfl)) ?_
          rintro e w1 ⟨v, rfl, ho, hb⟩; obtain ⟨q3, c3, rfl, i3, j3, h3⟩ := ho.named3 (n := x.pre.size + 32) (by simp [encG_length])
          exact ⟨_, rfl, ⟨_, by rw [d6], ⟨HS.1.step hb, HS.2.keep hb⟩, hb, ⟨q3, c3, rfl, i3, j3, by simpa using h3⟩⟩⟩
        · skip
          obtain rfl : o = o7 := Option.some.inj (ho.symm.trans po7)
          have e0 : A.eval (.tmp 22) = .agg (bytesV S).toArray := hdep 0 _ 22 dp7_0 po0 d0
          have f6 : ∃ (q : Option Addr) (c : Nat), (A.eval (.tmp 28)) = .slice q (x.pre.size + 32) c ∧ x.pre.size + 32 ≤ c ∧ c ≤ 9223372036854775807 ∧ Lies W q (encG x) := hdep 6 _ 28 dp7_6 po6 d6
          obtain ⟨y6, k6, e6, m6, n6, l6⟩ := f6
          refine at_enterT po7 d7 (wanted_of gd7) (run_callf2 q7 rfl e0 e6 Tryd.func105 (by kernel_rfl) _) (refChain_len (x.pre.size + 32) S (encG x) y6 k6 W (encG_length x) HSLL.out l6 (by have := HSM.out; omega)) ?_
          rintro e w1 ⟨rfl, hb⟩
          exact ⟨_, rfl, ⟨_, by rw [d7], ⟨HS.1.step hb, HS.2.keep hb⟩, hb, rfl⟩⟩
      have base3 : A.eval (.tmp 3) = .pointer (some ⟨w.heap.size + 1, 0, none⟩) := (hfr 3 hf3).trans rfl
      have base5 : A.eval (.tmp 5) = .pointer (some ⟨b8, 0, none⟩) := (hfr 5 hf5).trans rfl
      have base6 : A.eval (.tmp 6) = .int .i64 (k : Int) := (hfr 6 hf6).trans rfl
      have e0 : A.eval (.tmp 22) = .agg (bytesV S).toArray := hall 0 _ 22 (by rw [hns]; decide) po0 d0
      have e1 : A.eval (.tmp 23) = .pointer (some ⟨w.heap.size + 1, 2, none⟩) := hall 1 _ 23 (by rw [hns]; decide) po1 d1
      have e2 : A.eval (.tmp 24) = .slice (some ⟨b, off, none⟩) n c := hall 2 _ 24 (by rw [hns]; decide) po2 d2
      have e3 : A.eval (.tmp 25) = .int .i64 (k : Int) := hall 3 _ 25 (by rw [hns]; decide) po3 d3
      have e4 : A.eval (.tmp 26) = .pointer (some ⟨b, off + k * 4, none⟩) := hall 4 _ 26 (by rw [hns]; decide) po4 d4
      have e5 : A.eval (.tmp 27) = .agg x.cells.toArray := hall 5 _ 27 (by rw [hns]; decide) po5 d5
      have f6 : ∃ (q : Option Addr) (c : Nat), (A.eval (.tmp 28)) = .slice q (x.pre.size + 32) c ∧ x.pre.size + 32 ≤ c ∧ c ≤ 9223372036854775807 ∧ Lies W q (encG x) := hall 6 _ 28 (by rw [hns]; decide) po6 d6
      obtain ⟨y6, k6, e6, m6, n6, l6⟩ := f6
      have e7 : A.eval (.tmp 29) = .agg (bytesV (macOf S (encG x))).toArray := hall 7 _ 29 (by rw [hns]; decide) po7 d7
      have hA := act_of_slots [22, 23, 24, 25, 26, 27, 28, 29] _ hAs hdf (fun t ht => hfr t (hslots t ht))
      simp only [List.foldl_cons, List.foldl_nil] at hA
      rw [show rdA A 22 = A.eval (.tmp 22) from rfl, e0] at hA
      rw [show rdA A 23 = A.eval (.tmp 23) from rfl, e1] at hA
      rw [show rdA A 24 = A.eval (.tmp 24) from rfl, e2] at hA
      rw [show rdA A 25 = A.eval (.tmp 25) from rfl, e3] at hA
      rw [show rdA A 26 = A.eval (.tmp 26) from rfl, e4] at hA
      rw [show rdA A 27 = A.eval (.tmp 27) from rfl, e5] at hA
      rw [show rdA A 28 = A.eval (.tmp 28) from rfl, e6] at hA
      rw [show rdA A 29 = A.eval (.tmp 29) from rfl, e7] at hA
      rw [hns]
      have hrow := setRow_heap W b8 _ (bytesV (macOf S (encG x))).toArray 48 _ HS.2
      refine at_skip po8 d8 (wanted_of gd8) (run_storeRowT q8 base5 e7 HS.2 (infoSum _ (macOf_length _ _)) (by rw [bytesV_size _ 32 HSLL.out, bytesV_size _ 32 (macOf_length _ _)]) (bytesV_one _)) ?_
      have HW2 : Hid (ChW root t (.slice (some ⟨b, off, none⟩) n c) w b8 (k + 1) (W.setRow b8 (bytesV (macOf S (encG x))).toArray)) := show ChW _ _ _ _ _ _ _ from ⟨HS.1.spares HCS.out (T := fun b => b = b8) (Spares.grown (grown_setRow _ _ _) rfl) (fun b e => by subst e; exact HB8.out), by rw [HTG3.out]; exact hrow⟩
      generalize W.setRow b8 (bytesV (macOf S (encG x))).toArray = W2 at HW2 ⊢
      clear hall hdf hAs hfr hslots hns hf3 hf5 hf6 po0 q0 d0 gd0 po1 q1 d1 gd1 po2 q2 d2 gd2 dp2_1 po3 q3 d3 gd3 po4 q4 d4 gd4 dp4_2 dp4_3 po5 q5 d5 gd5 dp5_4 po6 q6 d6 gd6 dp6_5 po7 q7 d7 gd7 dp7_0 dp7_6 po8 q8 d8 gd8 base3 base5 base6
      have HA := Lib.hid hA
      clear hA HS hrow l6 e0 e1 e2 e3 e4 e5 e6 e7
      rw [HA.out]
      go_frame
      clear HA
      go_wp2_with fail
      go_roundw
      case rel => exact ⟨k + 1, by omega, by go_num, HW2.out⟩
      case measure => simp [intOf]; omega
    · obtain rfl : k = n := by omega
      have hfull : t.gs.take k = t.gs := List.take_of_length_le (by rw [HN.out]; omega)
      have hcode := hw.code
      rw [hfull] at hcode
      have HCO := Lib.hid hcode
      have HBS := Lib.hid hw.base
      have HCL := Lib.hid (chainT_length root t.ten t.id t.gs)
      clear hw hcode hfull HW
      go_upto_region 6 with (fail)
      refine wp_region_lit ?_
      refine wpList_run (by rfl) (run_loadSum0 rfl rfl HCL.out HCO.out) ?_
      have hrow := setRow_heap wr (w.heap.size + 2) _ (bytesV (chainT root t.ten t.id t.gs)).toArray 48 _ HBS.out.out
      have hbel := below_setRow HBS.out.below (show w.heap.size ≤ w.heap.size + 2 by omega) (bytesV (chainT root t.ten t.id t.gs)).toArray
      refine wpList_store_row rfl 48 (.tmp 4) (.tmp 30) rfl (w.heap.size + 2) (bytesV (chainT root t.ten t.id t.gs)).toArray rfl rfl 48 _ HBS.out.out (infoSum _ HCL.out) (by rw [bytesV_size _ 32 (noughts_length 32), bytesV_size _ 32 HCL.out]) (bytesV_one _) ?_
      refine wpList_nil ?_
      go_frame
      go_wp2_with fail
      exact bodyPost_ret (v := .agg (bytesV (chainT root t.ten t.id t.gs)).toArray) (results_cell_row (P := Tryd.prog) (p := 4) (ty := 48) Tryd.results37 _ _ (w.heap.size + 2) 48 _ (0, 0) _ rfl hrow Tryd.underlying48 rfl (infoSum _ HCL.out)) rfl ⟨rfl, hbel⟩
end Go.Proofs.YtgeacocdnenhdaaDoor
