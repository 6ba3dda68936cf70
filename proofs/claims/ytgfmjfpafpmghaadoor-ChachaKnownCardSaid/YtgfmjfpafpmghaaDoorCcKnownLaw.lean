/-
  The walk of the law ChachaKnown: the published rows; it returns true, and nothing that was there changes.
-/
import Derived.Test.YtgfmjfpafpmghaaDoorCcKnownOps
namespace Go.Proofs.YtgfmjfpafpmghaaDoor
open Go.RowKit Go.Proofs.ShaWords
theorem run_slice16 {ρ : Operand → Value} {o : Oper} {x : Operand} {g : Nat} (ho : o.op = .slice 42 x none (some (.const (.int .i64 16))) none) (h0 : ∀ u, ρ (.const u) = u) (hx : ρ x = .pointer (some ⟨g, 0, none⟩)) (w : World) :
    (execOp ρ o).run Tryd.prog w = .ok (.value (.slice (some ⟨g, 0, none⟩) 16 64)) w := by
  obtain ⟨dst, op, ty', pos, after, guard⟩ := o
  simp only at ho
  subst ho
  have hc := h0 (.int .i64 16)
  go_simp
theorem run_build4w {ρ : Operand → Value} {o : Oper} {a b c d : Int} (ho : o.op = .buildSlice 22 4 #[(0, .const (.int .u32 a)), (1, .const (.int .u32 b)), (2, .const (.int .u32 c)), (3, .const (.int .u32 d))]) (h0 : ∀ u, ρ (.const u) = u) (w : World) :
    (execOp ρ o).run Tryd.prog w = .ok (.value (.slice (some ⟨w.heap.size, 0, none⟩) 4 4)) (w.alloc (.cells #[.int .u32 a, .int .u32 b, .int .u32 c, .int .u32 d] 25)) := by
  obtain ⟨dst, op, ty', pos, after, guard⟩ := o
  simp only at ho
  subst ho
  have ha := h0 (.int .u32 a)
  have hb := h0 (.int .u32 b)
  have hc := h0 (.int .u32 c)
  have hd := h0 (.int .u32 d)
  go_simp
theorem run_ixWords0 {ρ : Operand → Value} {o : Oper} {x y : Operand} {b n c k : Nat} (ho : o.op = .indexAddr 22 x y) (hx : ρ x = .slice (some ⟨b, 0, none⟩) n c) (hy : ρ y = .int .i64 (k : Int)) (hk : k < n) (w : World) :
    (execOp ρ o).run Tryd.prog w = .ok (.value (.pointer (some ⟨b, k, none⟩))) w := by
  have h := run_ixWords ho hx hy hk w
  rwa [Nat.zero_add] at h
/-- What the law has ahead of its loops. -/
structure KnS (w : World) (G : Nat) (qx : Option Addr) (cx : Nat) (wr : World) : Prop where
  blk : BytesAt wr G 42 zeroBlk
  x : Own w.heap.size wr (ladiesW.flatMap beBytes) (.slice qx 16 cx)
  below : Below w.heap.size w wr
theorem KnS.on {w wr w' : World} {G : Nat} {qx : Option Addr} {cx : Nat} (h : KnS w G qx cx wr) (hb : Below wr.heap.size wr w') : KnS w G qx cx w' := ⟨h.blk.keep hb, h.x.below hb, h.below.trans (hb.mono h.below.size)⟩
theorem KnS.xs {w wr : World} {G : Nat} {qx : Option Addr} {cx : Nat} (h : KnS w G qx cx wr) : Lies wr qx (ladiesW.flatMap beBytes) := h.x.liesOf
theorem KnS.first {w wr : World} {G : Nat} {qx : Option Addr} {cx : Nat} (h : KnS w G qx cx wr) : Lies wr (some ⟨G, 0, none⟩) (zeroW.flatMap beBytes) := by
  rw [← zeroRow]
  exact Lies.take (Or.inr ⟨G, 0, rfl, h.blk.range⟩) 16
attribute [local irreducible] ccBlock xorKs countedK zeroBlk kitRow nW
set_option maxRecDepth 100000 in
set_option maxHeartbeats 8000000 in
theorem ccKnown_any (w : World) (hq : Quads w) :
    Calls Tryd.prog 4 #[] w fun e w' => e = .returned (.bool true) ∧ Below w.heap.size w w' := by
  have hqs := hq.size
  have HQ := Lib.hid hq; clear hq
  have HKL : Hid (countedK.length = 32) := show _ = _ by unfold countedK; rfl
  have HBL : Hid (zeroBlk.length = 64) := show _ = _ by unfold zeroBlk; exact ccBlock_length _ _ _
  have HI := Lib.hid (infoBlk _ HBL.out)
  have HOLD := Lib.hid (show (bytesV (noughts 64)).toArray.size = (bytesV zeroBlk).toArray.size by rw [bytesV_size _ 64 HBL.out, bytesV_size _ 64 (noughts_length 64)])
  have HONE := Lib.hid (bytesV_one zeroBlk)
  have HLR := Lib.hid ladiesRow
  have kc := fun (w : World) (C : Array Value) (n c : Nat) => Lib.run_convert_bytes_const (P := Tryd.prog) w 26 5 C n c Tryd.underlying26 Tryd.underlying5
  have HZB := fun w' hq' => zeroBlk_any w' hq'
  go_enter Tryd.func4, Tryd.ntmps4
  go_wp2_with fail
  refine (refQuarter_any qIn w.heap.size w.heap.size 4 4 0 1 2 3 _ (by omega) (by omega) (by omega) (by omega) (by omega) (by omega) (by omega) (by omega) (by omega) (by omega) (ownW_new w _ qIn 4 (by rfl) rfl (by unfold maxLen; omega))).mono ?_
  rintro e w1 ⟨rfl, ho1, hg1⟩
  rw [qOut] at ho1
  have HB1 : Hid (Below w.heap.size w w1) := show Below _ _ _ from ((Below.refl _ _).alloc (Nat.le_refl _) _).grown hg1 (by simp) (fun k hk => by have := Option.some.inj hk; omega)
  have k0 : w1.cell? ⟨w.heap.size, 0, none⟩ = some (.int .u32 3928658676) := ho1.cell 0 (by decide)
  have k1 : w1.cell? ⟨w.heap.size, 1, none⟩ = some (.int .u32 3407673550) := ho1.cell 1 (by decide)
  have k2 : w1.cell? ⟨w.heap.size, 2, none⟩ = some (.int .u32 1166100270) := ho1.cell 2 (by decide)
  have k3 : w1.cell? ⟨w.heap.size, 3, none⟩ = some (.int .u32 1484899515) := ho1.cell 3 (by decide)
  clear ho1 hg1
  go_wp2_with fail
  refine (HZB w1 (HQ.out.below HB1.out hqs)).mono ?_
  rintro e w2 ⟨rfl, hb2⟩
  have HB2 := Lib.hid (HB1.out.trans (hb2.mono HB1.out.size)); clear hb2 HB1 k0 k1 k2 k3 HZB
  have sz2 := HB2.out.size
  go_wp2_with (refine wpList_store_new rfl 42 (.tmp 2) (.tmp 34) rfl w2.heap.size rfl (bytesV zeroBlk).toArray rfl rfl HI.out (by exact HOLD.out) HONE.out ?_; intro w3 h3 b3; have HK3 := Lib.hid (show BytesAt w3 w2.heap.size 42 zeroBlk from h3); have HB3 := Lib.hid (HB2.out.trans (b3.mono sz2)); clear h3 b3)
  generalize w2.heap.size = G at HK3 ⊢
  clear HB2 sz2 HI HOLD HONE
  refine (counted_any w3).mono ?_
  rintro e w4 ⟨rfl, hb4⟩
  have HK4 := Lib.hid (HK3.out.keep hb4)
  have HB4 := Lib.hid (HB3.out.trans (hb4.mono HB3.out.size)); clear hb4 HB3 HK3
  have sz4 := HB4.out.size
  go_wp2_with (refine wpList_build_eq rfl 46 #[(0, .const (.int .u8 0)), (1, .const (.int .u8 0)), (2, .const (.int .u8 0)), (3, .const (.int .u8 0)), (4, .const (.int .u8 0)), (5, .const (.int .u8 0)), (6, .const (.int .u8 0)), (7, .const (.int .u8 74))] rfl (bytesV ladiesNonce).toArray (by kernel_rfl) ?_)
  refine calls_gen (fun w5 => w5.rangeAt w4.heap.size 0 (bytesV ladies) ∧ BytesAt w5 G 42 zeroBlk ∧ Below w.heap.size w w5) ⟨fun j v hv => by
    rw [Nat.zero_add, cell_of_row _ _ j _ _ _ (heap_new_at rfl)]; simpa [bytesV, ladies, n8] using hv, HK4.out.keep ((Below.refl _ _).alloc (Nat.le_refl _) _), HB4.out.alloc (by omega) _⟩ ?_
  rintro w5 ⟨hr5, hk5, hb5⟩
  refine (ccXor_len countedK ladiesNonce ladies 16 1#32 _ 16 w5 rfl HKL.out rfl (by omega) (Or.inr ⟨_, _, rfl, hr5⟩) (HQ.out.below hb5 hqs)).mono ?_
  rintro e w6 ⟨qx, cx, rfl, -, ho6, hb6⟩
  rw [HLR.out] at ho6
  have H6 : Hid (KnS w G qx cx w6) := show KnS _ _ _ _ _ from ⟨hk5.keep hb6, ho6.base' (B' := w.heap.size) hb5.size, hb5.trans (hb6.mono hb5.size)⟩
  clear hr5 hk5 hb5 hb6 ho6 HK4 HB4 sz4 kc HLR HKL HBL
  go_upto_region 7 with (fail)
  refine wp_gen (KnS w G qx cx) H6.out ?_
  intro w5 hw5
  have H5d : Hid (KnS w G qx cx w5.drew) := show KnS _ _ _ _ _ from hw5.on ((Below.refl _ _).drew)
  clear hw5 H6
  refine region_phase (fun _ => True) (fun _ => True) 1 trivial trivial [(0, .free), (1, .behind), (2, .behind), (3, .behind), (4, .free), (5, .free), (6, .free), (7, .behind), (8, .behind), (9, .behind), (10, .free), (11, .free)] (by kernel_rfl) (by kernel_rfl) (by kernel_rfl) (by kernel_rfl) (fun ops hops A hA => ?_)
  have hsz : A.tmps.size = 112 := by rw [hA]; rfl
  have base2 : A.eval (.tmp 2) = .pointer (some ⟨G, 0, none⟩) := by rw [hA]; rfl
  have base3 : A.eval (.tmp 3) = .slice qx 16 cx := by rw [hA]; rfl
  have HAA := Lib.hid hA; clear hA
  obtain ⟨o0, po0, q0, d0, gd0⟩ : ∃ o, ops[0]? = some o ∧ o.op = .slice 42 (.tmp 2) none (some (.const (.int .i64 16))) none ∧ o.dst = some 40 ∧ o.guard = none := ⟨_, by rw [hops]; rfl, rfl, rfl, rfl⟩
  obtain ⟨o1, po1, q1, d1, gd1⟩ : ∃ o, ops[1]? = some o ∧ o.op = .buildSlice 22 4 #[(0, (.const (.int .u32 1991827629))), (1, (.const (.int .u32 2700164496))), (2, (.const (.int .u32 1079864037))), (3, (.const (.int .u32 1401339176)))] ∧ o.dst = some 41 ∧ o.guard = none := ⟨_, by rw [hops]; rfl, rfl, rfl, rfl⟩
  obtain ⟨o2, po2, q2, d2, gd2⟩ : ∃ o, ops[2]? = some o ∧ o.op = .call { callee := .value (.func 22), args := #[.tmp 41], argTypes := #[22] } ∧ o.dst = some 42 ∧ o.guard = none := ⟨_, by rw [hops]; rfl, rfl, rfl, rfl⟩
  obtain ⟨o3, po3, q3, d3, gd3⟩ : ∃ o, ops[3]? = some o ∧ o.op = .call { callee := .value (.func 21), args := #[.tmp 40, .tmp 42], argTypes := #[26, 26] } ∧ o.dst = some 43 ∧ o.guard = none := ⟨_, by rw [hops]; rfl, rfl, rfl, rfl⟩
  obtain ⟨o4, po4, q4, d4, gd4⟩ : ∃ o, ops[4]? = some o ∧ o.op = .unOp .not 4 (.tmp 43) ∧ o.dst = some 44 ∧ o.guard = none := ⟨_, by rw [hops]; rfl, rfl, rfl, rfl⟩
  obtain ⟨o5, po5, q5, d5, gd5⟩ : ∃ o, ops[5]? = some o ∧ o.op = .move (.tmp 44) ∧ o.dst = some 45 ∧ o.guard = none := ⟨_, by rw [hops]; rfl, rfl, rfl, rfl⟩
  obtain ⟨o6, po6, q6, d6, gd6⟩ : ∃ o, ops[6]? = some o ∧ o.op = .move (.tmp 3) ∧ o.dst = some 46 ∧ o.guard = some (5, false) := ⟨_, by rw [hops]; rfl, rfl, rfl, rfl⟩
  obtain ⟨o7, po7, q7, d7, gd7⟩ : ∃ o, ops[7]? = some o ∧ o.op = .buildSlice 22 4 #[(0, (.const (.int .u32 1848522138))), (1, (.const (.int .u32 627636608))), (2, (.const (.int .u32 1102710568))), (3, (.const (.int .u32 3708643713)))] ∧ o.dst = some 47 ∧ o.guard = some (5, false) := ⟨_, by rw [hops]; rfl, rfl, rfl, rfl⟩
  obtain ⟨o8, po8, q8, d8, gd8⟩ : ∃ o, ops[8]? = some o ∧ o.op = .call { callee := .value (.func 22), args := #[.tmp 47], argTypes := #[22] } ∧ o.dst = some 48 ∧ o.guard = some (5, false) := ⟨_, by rw [hops]; rfl, rfl, rfl, rfl⟩
  obtain ⟨o9, po9, q9, d9, gd9⟩ : ∃ o, ops[9]? = some o ∧ o.op = .call { callee := .value (.func 21), args := #[.tmp 46, .tmp 48], argTypes := #[26, 26] } ∧ o.dst = some 49 ∧ o.guard = some (5, false) := ⟨_, by rw [hops]; rfl, rfl, rfl, rfl⟩
  obtain ⟨o10, po10, q10, d10, gd10⟩ : ∃ o, ops[10]? = some o ∧ o.op = .unOp .not 4 (.tmp 49) ∧ o.dst = some 50 ∧ o.guard = some (5, false) := ⟨_, by rw [hops]; rfl, rfl, rfl, rfl⟩
  obtain ⟨o11, po11, q11, d11, gd11⟩ : ∃ o, ops[11]? = some o ∧ o.op = .pick (.tmp 45) (.const (.bool true)) (.tmp 50) ∧ o.dst = some 51 ∧ o.guard = none := ⟨_, by rw [hops]; rfl, rfl, rfl, rfl⟩
  clear hops
  refine met_free po0 d0 (wanted_of gd0) (fun w' _ => run_slice16 q0 (fun _ => rfl) base2 w') ?_
  refine met_op po1 d1 (wanted_of gd1) (run_build4w q1 (fun _ => rfl) _) trivial ?_
  refine met_enter po2 d2 (wanted_of gd2) (run_callf1 q2 rfl (eval_same _ _ _ (by simp only [put_size, hsz]; decide)) Tryd.func22 (by kernel_rfl) _) (words3_any zeroW 4 w5.drew.heap.size 4 _ rfl (by omega) (fun j v hv => by rw [Nat.zero_add, cell_of_row _ _ j _ _ _ (heap_alloc_new w5.drew _), ← zeroW_vals]; simpa using hv)) ?_
  rintro e w6 ⟨v2, rfl, ho2, hb2⟩
  have H6 := Lib.hid ((H5d.out.on ((Below.refl _ _).alloc (Nat.le_refl _) _)).on hb2); clear hb2
  obtain ⟨qv2, cv2, hv2, -, -, hl2⟩ := ho2.lies
  rw [show (zeroW.flatMap beBytes).length = 16 from by kernel_rfl] at hv2
  subst hv2
  have HLV2 := Lib.hid hl2; clear hl2 ho2
  refine ⟨_, rfl, trivial, ?_⟩
  refine met_enter po3 d3 (wanted_of gd3) (run_callf2 q3 rfl ((eval_other _ 42 40 _ (by decide)).trans ((eval_other _ 41 40 _ (by decide)).trans (eval_same _ _ _ (by rw [hsz]; decide)))) (eval_same _ _ _ (by simp only [put_size, hsz]; decide)) Tryd.func21 (by kernel_rfl) _) (same_any (zeroW.flatMap beBytes) 16 _ _ _ _ _ (by kernel_rfl) (by omega) (H6.out.first) HLV2.out) ?_
  rintro e w7 ⟨rfl, hb3⟩
  have H7 := Lib.hid (H6.out.on hb3); clear hb3
  refine ⟨_, rfl, trivial, ?_⟩
  refine met_free po4 d4 (wanted_of gd4) (fun w' _ => run_not q4 (eval_same _ _ _ (by simp only [put_size, hsz]; decide)) w') ?_
  refine met_free po5 d5 (wanted_of gd5) (fun w' _ => run_move q5 (eval_same _ _ _ (by simp only [put_size, hsz]; decide)) w') ?_
  refine met_free po6 d6 (wanted_guardF gd6 po5 d5 (eval_same _ _ _ (by simp only [put_size, hsz]; decide))) (fun w' _ => run_move q6 ((eval_other _ 45 3 _ (by decide)).trans ((eval_other _ 44 3 _ (by decide)).trans ((eval_other _ 43 3 _ (by decide)).trans ((eval_other _ 42 3 _ (by decide)).trans ((eval_other _ 41 3 _ (by decide)).trans ((eval_other _ 40 3 _ (by decide)).trans base3)))))) w') ?_
  refine met_op po7 d7 (wanted_guardF gd7 po5 d5 ((eval_other _ 46 45 _ (by decide)).trans (eval_same _ _ _ (by simp only [put_size, hsz]; decide)))) (run_build4w q7 (fun _ => rfl) _) trivial ?_
  refine met_enter po8 d8 (wanted_guardF gd8 po5 d5 ((eval_other _ 47 45 _ (by decide)).trans ((eval_other _ 46 45 _ (by decide)).trans (eval_same _ _ _ (by simp only [put_size, hsz]; decide))))) (run_callf1 q8 rfl (eval_same _ _ _ (by simp only [put_size, hsz]; decide)) Tryd.func22 (by kernel_rfl) _) (words3_any ladiesW 4 w7.heap.size 4 _ rfl (by omega) (fun j v hv => by rw [Nat.zero_add, cell_of_row _ _ j _ _ _ (heap_alloc_new w7 _), ← ladiesW_vals]; simpa using hv)) ?_
  rintro e w8 ⟨v8, rfl, ho8, hb8⟩
  have H8 := Lib.hid ((H7.out.on ((Below.refl _ _).alloc (Nat.le_refl _) _)).on hb8); clear hb8
  obtain ⟨qv8, cv8, hv8, -, -, hl8⟩ := ho8.lies
  rw [show (ladiesW.flatMap beBytes).length = 16 from by kernel_rfl] at hv8
  subst hv8
  have HLV8 := Lib.hid hl8; clear hl8 ho8
  refine ⟨_, rfl, trivial, ?_⟩
  refine met_enter po9 d9 (wanted_guardF gd9 po5 d5 ((eval_other _ 48 45 _ (by decide)).trans ((eval_other _ 47 45 _ (by decide)).trans ((eval_other _ 46 45 _ (by decide)).trans (eval_same _ _ _ (by simp only [put_size, hsz]; decide)))))) (run_callf2 q9 rfl ((eval_other _ 48 46 _ (by decide)).trans ((eval_other _ 47 46 _ (by decide)).trans (eval_same _ _ _ (by simp only [put_size, hsz]; decide)))) (eval_same _ _ _ (by simp only [put_size, hsz]; decide)) Tryd.func21 (by kernel_rfl) _) (same_any (ladiesW.flatMap beBytes) 16 _ _ _ _ _ (by kernel_rfl) (by omega) (H8.out.xs) HLV8.out) ?_
  rintro e w9 ⟨rfl, hb9⟩
  have H9 := Lib.hid (H8.out.on hb9); clear hb9
  refine ⟨_, rfl, trivial, ?_⟩
  refine met_free po10 d10 (wanted_guardF gd10 po5 d5 ((eval_other _ 49 45 _ (by decide)).trans ((eval_other _ 48 45 _ (by decide)).trans ((eval_other _ 47 45 _ (by decide)).trans ((eval_other _ 46 45 _ (by decide)).trans (eval_same _ _ _ (by simp only [put_size, hsz]; decide))))))) (fun w' _ => run_not q10 (eval_same _ _ _ (by simp only [put_size, hsz]; decide)) w') ?_
  refine met_free po11 d11 (wanted_of gd11) (fun w' _ => run_pickF q11 ((eval_other _ 50 45 _ (by decide)).trans ((eval_other _ 49 45 _ (by decide)).trans ((eval_other _ 48 45 _ (by decide)).trans ((eval_other _ 47 45 _ (by decide)).trans ((eval_other _ 46 45 _ (by decide)).trans (eval_same _ _ _ (by simp only [put_size, hsz]; decide))))))) (eval_same _ _ _ (by simp only [put_size, hsz]; decide)) w') ?_
  show NoPanic _ .normal _ _
  refine NoPanic.normal ?_
  rw [HAA.out]
  go_frame
  clear HAA
  have HB9 := Lib.hid H9.out.below
  clear H5d H6 H7 H8 H9 HLV2 HLV8
  have HKL : Hid (countedK.length = 32) := show _ = _ by unfold countedK; rfl
  go_wp2_with fail
  refine wp_gen (KL w w9.heap.size) ⟨(ownW_new w9 _ nW 7 (by unfold nW; rfl) (by unfold nW; rfl) (by unfold maxLen; omega)).base HB9.out.size, HB9.out.alloc HB9.out.size _⟩ ?_
  intro wa hwa
  have HWA := Lib.hid hwa; clear hwa HB9
  generalize w9.heap.size = Gn at HWA ⊢
  go_loopw [5, 6] (fun iv _ wr => ∃ j : Nat, j ≤ 7 ∧ iv = .int .i64 (j : Int) ∧ KL w Gn wr) (fun iv _ _ => 7 - (intOf iv).toNat)
  case atStart => exact ⟨0, by omega, rfl, HWA.out⟩
  case round =>
    clear HWA
    obtain ⟨j, hj, rfl, hr⟩ := hrel
    have HR := Lib.hid hr; clear hr
    by_cases hj7 : j < 7
    · have p0 : (j : Int) < 7 := by omega
      go_upto_region 13 with (fail)
      have HDd : Hid (KL w Gn wr.drew) := show KL _ _ _ from HR.out.on ((Below.refl _ _).drew)
      clear p0 HR
      refine region_phase (KL w Gn) (fun _ => True) 0 (HDd.out) trivial [(1, .free), (2, .free), (3, .free), (4, .free), (5, .free), (6, .free), (7, .free), (0, .behind), (8, .behind), (9, .free), (10, .free), (12, .free), (13, .free), (14, .free), (15, .free), (16, .free), (11, .behind), (17, .behind), (18, .free), (19, .free)] (by kernel_rfl) (by kernel_rfl) (by kernel_rfl) (by kernel_rfl) (fun ops hops A hA => ?_)
      have hsz : A.tmps.size = 112 := by rw [hA]; rfl
      have base4 : A.eval (.tmp 4) = .slice (some ⟨Gn, 0, none⟩) 7 7 := by rw [hA]; rfl
      have base5 : A.eval (.tmp 5) = .int .i64 (j : Int) := by rw [hA]; rfl
      have HAA := Lib.hid hA; clear hA
      obtain ⟨o0, po0, q0, d0, gd0⟩ : ∃ o, ops[0]? = some o ∧ o.op = .call { callee := .value (.func 20), args := #[], argTypes := #[] } ∧ o.dst = some 59 ∧ o.guard = none := ⟨_, by rw [hops]; rfl, rfl, rfl, rfl⟩
      obtain ⟨o1, po1, q1, d1, gd1⟩ : ∃ o, ops[1]? = some o ∧ o.op = .move (.tmp 4) ∧ o.dst = some 60 ∧ o.guard = none := ⟨_, by rw [hops]; rfl, rfl, rfl, rfl⟩
      obtain ⟨o2, po2, q2, d2, gd2⟩ : ∃ o, ops[2]? = some o ∧ o.op = .move (.tmp 5) ∧ o.dst = some 61 ∧ o.guard = none := ⟨_, by rw [hops]; rfl, rfl, rfl, rfl⟩
      obtain ⟨o3, po3, q3, d3, gd3⟩ : ∃ o, ops[3]? = some o ∧ o.op = .indexAddr 22 (.tmp 60) (.tmp 61) ∧ o.dst = some 62 ∧ o.guard = none := ⟨_, by rw [hops]; rfl, rfl, rfl, rfl⟩
      obtain ⟨o4, po4, q4, d4, gd4⟩ : ∃ o, ops[4]? = some o ∧ o.op = .load 25 (.tmp 62) ∧ o.dst = some 63 ∧ o.guard = none := ⟨_, by rw [hops]; rfl, rfl, rfl, rfl⟩
      obtain ⟨o5, po5, q5, d5, gd5⟩ : ∃ o, ops[5]? = some o ∧ o.op = .move (.tmp 5) ∧ o.dst = some 64 ∧ o.guard = none := ⟨_, by rw [hops]; rfl, rfl, rfl, rfl⟩
      obtain ⟨o6, po6, q6, d6, gd6⟩ : ∃ o, ops[6]? = some o ∧ o.op = .convert 3 5 (.tmp 64) ∧ o.dst = some 65 ∧ o.guard = none := ⟨_, by rw [hops]; rfl, rfl, rfl, rfl⟩
      obtain ⟨o7, po7, q7, d7, gd7⟩ : ∃ o, ops[7]? = some o ∧ o.op = .build 46 #[(0, (.tmp 65))] ∧ o.dst = some 66 ∧ o.guard = none := ⟨_, by rw [hops]; rfl, rfl, rfl, rfl⟩
      obtain ⟨o8, po8, q8, d8, gd8⟩ : ∃ o, ops[8]? = some o ∧ o.op = .call { callee := .value (.func 23), args := #[.tmp 59, .tmp 63, .tmp 66], argTypes := #[44, 25, 46] } ∧ o.dst = some 67 ∧ o.guard = none := ⟨_, by rw [hops]; rfl, rfl, rfl, rfl⟩
      obtain ⟨o9, po9, q9, d9, gd9⟩ : ∃ o, ops[9]? = some o ∧ o.op = .unOp .not 4 (.tmp 67) ∧ o.dst = some 68 ∧ o.guard = none := ⟨_, by rw [hops]; rfl, rfl, rfl, rfl⟩
      obtain ⟨o10, po10, q10, d10, gd10⟩ : ∃ o, ops[10]? = some o ∧ o.op = .move (.tmp 68) ∧ o.dst = some 69 ∧ o.guard = none := ⟨_, by rw [hops]; rfl, rfl, rfl, rfl⟩
      obtain ⟨o11, po11, q11, d11, gd11⟩ : ∃ o, ops[11]? = some o ∧ o.op = .call { callee := .value (.func 20), args := #[], argTypes := #[] } ∧ o.dst = some 70 ∧ o.guard = some (10, false) := ⟨_, by rw [hops]; rfl, rfl, rfl, rfl⟩
      obtain ⟨o12, po12, q12, d12, gd12⟩ : ∃ o, ops[12]? = some o ∧ o.op = .move (.tmp 4) ∧ o.dst = some 71 ∧ o.guard = some (10, false) := ⟨_, by rw [hops]; rfl, rfl, rfl, rfl⟩
      obtain ⟨o13, po13, q13, d13, gd13⟩ : ∃ o, ops[13]? = some o ∧ o.op = .move (.tmp 5) ∧ o.dst = some 72 ∧ o.guard = some (10, false) := ⟨_, by rw [hops]; rfl, rfl, rfl, rfl⟩
      obtain ⟨o14, po14, q14, d14, gd14⟩ : ∃ o, ops[14]? = some o ∧ o.op = .indexAddr 22 (.tmp 71) (.tmp 72) ∧ o.dst = some 73 ∧ o.guard = some (10, false) := ⟨_, by rw [hops]; rfl, rfl, rfl, rfl⟩
      obtain ⟨o15, po15, q15, d15, gd15⟩ : ∃ o, ops[15]? = some o ∧ o.op = .load 25 (.tmp 73) ∧ o.dst = some 74 ∧ o.guard = some (10, false) := ⟨_, by rw [hops]; rfl, rfl, rfl, rfl⟩
      obtain ⟨o16, po16, q16, d16, gd16⟩ : ∃ o, ops[16]? = some o ∧ o.op = .build 46 #[(0, (.const (.int .u8 1)))] ∧ o.dst = some 75 ∧ o.guard = some (10, false) := ⟨_, by rw [hops]; rfl, rfl, rfl, rfl⟩
      obtain ⟨o17, po17, q17, d17, gd17⟩ : ∃ o, ops[17]? = some o ∧ o.op = .call { callee := .value (.func 24), args := #[.tmp 70, .tmp 74, .tmp 75, .const (.int .i64 200)], argTypes := #[44, 25, 46, 3] } ∧ o.dst = some 76 ∧ o.guard = some (10, false) := ⟨_, by rw [hops]; rfl, rfl, rfl, rfl⟩
      obtain ⟨o18, po18, q18, d18, gd18⟩ : ∃ o, ops[18]? = some o ∧ o.op = .unOp .not 4 (.tmp 76) ∧ o.dst = some 77 ∧ o.guard = some (10, false) := ⟨_, by rw [hops]; rfl, rfl, rfl, rfl⟩
      obtain ⟨o19, po19, q19, d19, gd19⟩ : ∃ o, ops[19]? = some o ∧ o.op = .pick (.tmp 69) (.const (.bool true)) (.tmp 77) ∧ o.dst = some 78 ∧ o.guard = none := ⟨_, by rw [hops]; rfl, rfl, rfl, rfl⟩
      clear hops
      refine met_free po1 d1 (wanted_of gd1) (fun w' _ => run_move q1 base4 w') ?_
      refine met_free po2 d2 (wanted_of gd2) (fun w' _ => run_move q2 ((eval_other _ 60 5 _ (by decide)).trans base5) w') ?_
      refine met_free po3 d3 (wanted_of gd3) (fun w' _ => run_ixWords0 q3 ((eval_other _ 61 60 _ (by decide)).trans (eval_same _ _ _ (by rw [hsz]; decide))) (eval_same _ _ _ (by simp only [put_size, hsz]; decide)) hj7 w') ?_
      refine met_free po4 d4 (wanted_of gd4) (fun w' h' => run_ld32 q4 (eval_same _ _ _ (by simp only [put_size, hsz]; decide)) (h'.cell j hj7)) ?_
      refine met_free po5 d5 (wanted_of gd5) (fun w' _ => run_move q5 ((eval_other _ 63 5 _ (by decide)).trans ((eval_other _ 62 5 _ (by decide)).trans ((eval_other _ 61 5 _ (by decide)).trans ((eval_other _ 60 5 _ (by decide)).trans base5)))) w') ?_
      refine met_free po6 d6 (wanted_of gd6) (fun w' _ => run_cnv8 q6 (eval_same _ _ _ (by simp only [put_size, hsz]; decide)) w') ?_
      refine met_free po7 d7 (wanted_of gd7) (fun w' _ => run_bN1 q7 (eval_same _ _ _ (by simp only [put_size, hsz]; decide)) w') ?_
      refine met_enter po0 d0 (wanted_of gd0) (run_callf0 q0 rfl Tryd.func20 (by kernel_rfl) _) (counted_any _) ?_
      rintro e we0 ⟨rfl, hb0⟩
      have HE0 := Lib.hid (HDd.out.on hb0); clear hb0
      refine ⟨_, rfl, HE0.out, ?_⟩
      refine met_enter po8 d8 (wanted_of gd8) (run_callf3 q8 rfl (eval_same _ _ _ (by simp only [put_size, hsz]; decide)) ((eval_other _ 59 63 _ (by decide)).trans ((eval_other _ 66 63 _ (by decide)).trans ((eval_other _ 65 63 _ (by decide)).trans ((eval_other _ 64 63 _ (by decide)).trans (eval_same _ _ _ (by simp only [put_size, hsz]; decide)))))) ((eval_other _ 59 66 _ (by decide)).trans (eval_same _ _ _ (by simp only [put_size, hsz]; decide))) Tryd.func23 (by kernel_rfl) _) (blocks_any countedK (BitVec.ofNat 8 j :: noughts 11) _ _ HKL.out (by simp [noughts_length]) (HQ.out.below HE0.out.below hqs)) ?_
      rintro e we8 ⟨rfl, hb8⟩
      have HE8 := Lib.hid (HE0.out.on hb8); clear hb8
      refine ⟨_, rfl, HE8.out, ?_⟩
      refine met_free po9 d9 (wanted_of gd9) (fun w' _ => run_not q9 (eval_same _ _ _ (by simp only [put_size, hsz]; decide)) w') ?_
      refine met_free po10 d10 (wanted_of gd10) (fun w' _ => run_move q10 (eval_same _ _ _ (by simp only [put_size, hsz]; decide)) w') ?_
      refine met_free po12 d12 (wanted_guardF gd12 po10 d10 (eval_same _ _ _ (by simp only [put_size, hsz]; decide))) (fun w' _ => run_move q12 ((eval_other _ 69 4 _ (by decide)).trans ((eval_other _ 68 4 _ (by decide)).trans ((eval_other _ 67 4 _ (by decide)).trans ((eval_other _ 59 4 _ (by decide)).trans ((eval_other _ 66 4 _ (by decide)).trans ((eval_other _ 65 4 _ (by decide)).trans ((eval_other _ 64 4 _ (by decide)).trans ((eval_other _ 63 4 _ (by decide)).trans ((eval_other _ 62 4 _ (by decide)).trans ((eval_other _ 61 4 _ (by decide)).trans ((eval_other _ 60 4 _ (by decide)).trans base4))))))))))) w') ?_
      refine met_free po13 d13 (wanted_guardF gd13 po10 d10 ((eval_other _ 71 69 _ (by decide)).trans (eval_same _ _ _ (by simp only [put_size, hsz]; decide)))) (fun w' _ => run_move q13 ((eval_other _ 71 5 _ (by decide)).trans ((eval_other _ 69 5 _ (by decide)).trans ((eval_other _ 68 5 _ (by decide)).trans ((eval_other _ 67 5 _ (by decide)).trans ((eval_other _ 59 5 _ (by decide)).trans ((eval_other _ 66 5 _ (by decide)).trans ((eval_other _ 65 5 _ (by decide)).trans ((eval_other _ 64 5 _ (by decide)).trans ((eval_other _ 63 5 _ (by decide)).trans ((eval_other _ 62 5 _ (by decide)).trans ((eval_other _ 61 5 _ (by decide)).trans ((eval_other _ 60 5 _ (by decide)).trans base5)))))))))))) w') ?_
      refine met_free po14 d14 (wanted_guardF gd14 po10 d10 ((eval_other _ 72 69 _ (by decide)).trans ((eval_other _ 71 69 _ (by decide)).trans (eval_same _ _ _ (by simp only [put_size, hsz]; decide))))) (fun w' _ => run_ixWords0 q14 ((eval_other _ 72 71 _ (by decide)).trans (eval_same _ _ _ (by simp only [put_size, hsz]; decide))) (eval_same _ _ _ (by simp only [put_size, hsz]; decide)) hj7 w') ?_
      refine met_free po15 d15 (wanted_guardF gd15 po10 d10 ((eval_other _ 73 69 _ (by decide)).trans ((eval_other _ 72 69 _ (by decide)).trans ((eval_other _ 71 69 _ (by decide)).trans (eval_same _ _ _ (by simp only [put_size, hsz]; decide)))))) (fun w' h' => run_ld32 q15 (eval_same _ _ _ (by simp only [put_size, hsz]; decide)) (h'.cell j hj7)) ?_
      refine met_free po16 d16 (wanted_guardF gd16 po10 d10 ((eval_other _ 74 69 _ (by decide)).trans ((eval_other _ 73 69 _ (by decide)).trans ((eval_other _ 72 69 _ (by decide)).trans ((eval_other _ 71 69 _ (by decide)).trans (eval_same _ _ _ (by simp only [put_size, hsz]; decide))))))) (fun w' _ => run_bN1 (b := 1#8) q16 rfl w') ?_
      refine met_enter po11 d11 (wanted_guardF gd11 po10 d10 ((eval_other _ 75 69 _ (by decide)).trans ((eval_other _ 74 69 _ (by decide)).trans ((eval_other _ 73 69 _ (by decide)).trans ((eval_other _ 72 69 _ (by decide)).trans ((eval_other _ 71 69 _ (by decide)).trans (eval_same _ _ _ (by simp only [put_size, hsz]; decide)))))))) (run_callf0 q11 rfl Tryd.func20 (by kernel_rfl) _) (counted_any _) ?_
      rintro e we11 ⟨rfl, hb11⟩
      have HE11 := Lib.hid (HE8.out.on hb11); clear hb11
      refine ⟨_, rfl, HE11.out, ?_⟩
      refine met_enter po17 d17 (wanted_guardF gd17 po10 d10 ((eval_other _ 70 69 _ (by decide)).trans ((eval_other _ 75 69 _ (by decide)).trans ((eval_other _ 74 69 _ (by decide)).trans ((eval_other _ 73 69 _ (by decide)).trans ((eval_other _ 72 69 _ (by decide)).trans ((eval_other _ 71 69 _ (by decide)).trans (eval_same _ _ _ (by simp only [put_size, hsz]; decide))))))))) (run_callf4 q17 rfl (eval_same _ _ _ (by simp only [put_size, hsz]; decide)) ((eval_other _ 70 74 _ (by decide)).trans ((eval_other _ 75 74 _ (by decide)).trans (eval_same _ _ _ (by simp only [put_size, hsz]; decide)))) ((eval_other _ 70 75 _ (by decide)).trans (eval_same _ _ _ (by simp only [put_size, hsz]; decide))) rfl Tryd.func24 (by kernel_rfl) _) (stream_any countedK (1#8 :: noughts 11) _ _ _ HKL.out (by simp [noughts_length]) (HQ.out.below HE11.out.below hqs)) ?_
      rintro e we17 ⟨rfl, hb17⟩
      have HE17 := Lib.hid (HE11.out.on hb17); clear hb17
      refine ⟨_, rfl, HE17.out, ?_⟩
      refine met_free po18 d18 (wanted_guardF gd18 po10 d10 ((eval_other _ 76 69 _ (by decide)).trans ((eval_other _ 70 69 _ (by decide)).trans ((eval_other _ 75 69 _ (by decide)).trans ((eval_other _ 74 69 _ (by decide)).trans ((eval_other _ 73 69 _ (by decide)).trans ((eval_other _ 72 69 _ (by decide)).trans ((eval_other _ 71 69 _ (by decide)).trans (eval_same _ _ _ (by simp only [put_size, hsz]; decide)))))))))) (fun w' _ => run_not q18 (eval_same _ _ _ (by simp only [put_size, hsz]; decide)) w') ?_
      refine met_free po19 d19 (wanted_of gd19) (fun w' _ => run_pickF q19 ((eval_other _ 77 69 _ (by decide)).trans ((eval_other _ 76 69 _ (by decide)).trans ((eval_other _ 70 69 _ (by decide)).trans ((eval_other _ 75 69 _ (by decide)).trans ((eval_other _ 74 69 _ (by decide)).trans ((eval_other _ 73 69 _ (by decide)).trans ((eval_other _ 72 69 _ (by decide)).trans ((eval_other _ 71 69 _ (by decide)).trans (eval_same _ _ _ (by simp only [put_size, hsz]; decide)))))))))) (eval_same _ _ _ (by simp only [put_size, hsz]; decide)) w') ?_
      show NoPanic _ .normal _ _
      refine NoPanic.normal ?_
      rw [HAA.out]
      go_frame
      clear HAA
      clear HE0 HE8 HE11 HDd
      go_wp2_with fail
      rename World => wb
      go_loopw [6] (fun kv wr => ∃ q : Nat, q ≤ 10 ∧ kv = .int .i64 ((13 * q : Nat) : Int) ∧ KL w Gn wr) (fun kv _ => 130 - (intOf kv).toNat)
      case atStart => exact ⟨0, by omega, rfl, HE17.out⟩
      case round =>
        clear HE17
        obtain ⟨q, hq, rfl, hr⟩ := hrel
        have HR := Lib.hid hr; clear hr
        by_cases hq10 : q < 10
        · obtain ⟨kk, hkk⟩ : ∃ kk, kk = 13 * q := ⟨_, rfl⟩
          rw [← hkk]
          have hk130 : kk < 130 := by omega
          have p0 : (kk : Int) < 130 := by omega
          go_upto_region 18 with (fail)
          have HDd : Hid (KL w Gn wr.drew) := show KL _ _ _ from HR.out.on ((Below.refl _ _).drew)
          clear p0 HR
          refine region_phase (KL w Gn) (fun _ => True) 11 (HDd.out) trivial [(0, .free), (1, .free), (2, .free), (3, .free), (4, .free), (5, .free), (6, .free), (7, .free), (8, .free), (9, .free), (10, .free), (11, .behind), (12, .behind), (13, .free), (14, .free), (16, .free), (17, .free), (18, .free), (19, .free), (20, .free), (21, .free), (23, .free), (24, .free), (15, .behind), (22, .behind), (25, .behind), (26, .free), (27, .free)] (by kernel_rfl) (by kernel_rfl) (by kernel_rfl) (by kernel_rfl) (fun ops hops A hA => ?_)
          have hsz : A.tmps.size = 112 := by rw [hA]; rfl
          have base4 : A.eval (.tmp 4) = .slice (some ⟨Gn, 0, none⟩) 7 7 := by rw [hA]; rfl
          have base5 : A.eval (.tmp 5) = .int .i64 (j : Int) := by rw [hA]; rfl
          have base6 : A.eval (.tmp 6) = .int .i64 (kk : Int) := by rw [hA]; rfl
          have HAA := Lib.hid hA; clear hA
          obtain ⟨o0, po0, q0, d0, gd0⟩ : ∃ o, ops[0]? = some o ∧ o.op = .move (.tmp 6) ∧ o.dst = some 83 ∧ o.guard = none := ⟨_, by rw [hops]; rfl, rfl, rfl, rfl⟩
          obtain ⟨o1, po1, q1, d1, gd1⟩ : ∃ o, ops[1]? = some o ∧ o.op = .convert 3 5 (.tmp 83) ∧ o.dst = some 84 ∧ o.guard = none := ⟨_, by rw [hops]; rfl, rfl, rfl, rfl⟩
          obtain ⟨o2, po2, q2, d2, gd2⟩ : ∃ o, ops[2]? = some o ∧ o.op = .build 44 #[(0, (.tmp 84))] ∧ o.dst = some 85 ∧ o.guard = none := ⟨_, by rw [hops]; rfl, rfl, rfl, rfl⟩
          obtain ⟨o3, po3, q3, d3, gd3⟩ : ∃ o, ops[3]? = some o ∧ o.op = .move (.tmp 4) ∧ o.dst = some 86 ∧ o.guard = none := ⟨_, by rw [hops]; rfl, rfl, rfl, rfl⟩
          obtain ⟨o4, po4, q4, d4, gd4⟩ : ∃ o, ops[4]? = some o ∧ o.op = .move (.tmp 5) ∧ o.dst = some 87 ∧ o.guard = none := ⟨_, by rw [hops]; rfl, rfl, rfl, rfl⟩
          obtain ⟨o5, po5, q5, d5, gd5⟩ : ∃ o, ops[5]? = some o ∧ o.op = .indexAddr 22 (.tmp 86) (.tmp 87) ∧ o.dst = some 88 ∧ o.guard = none := ⟨_, by rw [hops]; rfl, rfl, rfl, rfl⟩
          obtain ⟨o6, po6, q6, d6, gd6⟩ : ∃ o, ops[6]? = some o ∧ o.op = .load 25 (.tmp 88) ∧ o.dst = some 89 ∧ o.guard = none := ⟨_, by rw [hops]; rfl, rfl, rfl, rfl⟩
          obtain ⟨o7, po7, q7, d7, gd7⟩ : ∃ o, ops[7]? = some o ∧ o.op = .move (.tmp 5) ∧ o.dst = some 90 ∧ o.guard = none := ⟨_, by rw [hops]; rfl, rfl, rfl, rfl⟩
          obtain ⟨o8, po8, q8, d8, gd8⟩ : ∃ o, ops[8]? = some o ∧ o.op = .convert 3 5 (.tmp 90) ∧ o.dst = some 91 ∧ o.guard = none := ⟨_, by rw [hops]; rfl, rfl, rfl, rfl⟩
          obtain ⟨o9, po9, q9, d9, gd9⟩ : ∃ o, ops[9]? = some o ∧ o.op = .build 46 #[(0, (.const (.int .u8 2))), (1, (.tmp 91))] ∧ o.dst = some 92 ∧ o.guard = none := ⟨_, by rw [hops]; rfl, rfl, rfl, rfl⟩
          obtain ⟨o10, po10, q10, d10, gd10⟩ : ∃ o, ops[10]? = some o ∧ o.op = .move (.tmp 6) ∧ o.dst = some 93 ∧ o.guard = none := ⟨_, by rw [hops]; rfl, rfl, rfl, rfl⟩
          obtain ⟨o11, po11, q11, d11, gd11⟩ : ∃ o, ops[11]? = some o ∧ o.op = .call { callee := .value (.func 8), args := #[.tmp 93], argTypes := #[3] } ∧ o.dst = some 94 ∧ o.guard = none := ⟨_, by rw [hops]; rfl, rfl, rfl, rfl⟩
          obtain ⟨o12, po12, q12, d12, gd12⟩ : ∃ o, ops[12]? = some o ∧ o.op = .call { callee := .value (.func 25), args := #[.tmp 85, .tmp 89, .tmp 92, .tmp 94], argTypes := #[44, 25, 46, 26] } ∧ o.dst = some 95 ∧ o.guard = none := ⟨_, by rw [hops]; rfl, rfl, rfl, rfl⟩
          obtain ⟨o13, po13, q13, d13, gd13⟩ : ∃ o, ops[13]? = some o ∧ o.op = .unOp .not 4 (.tmp 95) ∧ o.dst = some 96 ∧ o.guard = none := ⟨_, by rw [hops]; rfl, rfl, rfl, rfl⟩
          obtain ⟨o14, po14, q14, d14, gd14⟩ : ∃ o, ops[14]? = some o ∧ o.op = .move (.tmp 96) ∧ o.dst = some 97 ∧ o.guard = none := ⟨_, by rw [hops]; rfl, rfl, rfl, rfl⟩
          obtain ⟨o15, po15, q15, d15, gd15⟩ : ∃ o, ops[15]? = some o ∧ o.op = .call { callee := .value (.func 20), args := #[], argTypes := #[] } ∧ o.dst = some 98 ∧ o.guard = some (14, false) := ⟨_, by rw [hops]; rfl, rfl, rfl, rfl⟩
          obtain ⟨o16, po16, q16, d16, gd16⟩ : ∃ o, ops[16]? = some o ∧ o.op = .move (.tmp 4) ∧ o.dst = some 99 ∧ o.guard = some (14, false) := ⟨_, by rw [hops]; rfl, rfl, rfl, rfl⟩
          obtain ⟨o17, po17, q17, d17, gd17⟩ : ∃ o, ops[17]? = some o ∧ o.op = .move (.tmp 5) ∧ o.dst = some 100 ∧ o.guard = some (14, false) := ⟨_, by rw [hops]; rfl, rfl, rfl, rfl⟩
          obtain ⟨o18, po18, q18, d18, gd18⟩ : ∃ o, ops[18]? = some o ∧ o.op = .indexAddr 22 (.tmp 99) (.tmp 100) ∧ o.dst = some 101 ∧ o.guard = some (14, false) := ⟨_, by rw [hops]; rfl, rfl, rfl, rfl⟩
          obtain ⟨o19, po19, q19, d19, gd19⟩ : ∃ o, ops[19]? = some o ∧ o.op = .load 25 (.tmp 101) ∧ o.dst = some 102 ∧ o.guard = some (14, false) := ⟨_, by rw [hops]; rfl, rfl, rfl, rfl⟩
          obtain ⟨o20, po20, q20, d20, gd20⟩ : ∃ o, ops[20]? = some o ∧ o.op = .build 46 #[] ∧ o.dst = some 103 ∧ o.guard = some (14, false) := ⟨_, by rw [hops]; rfl, rfl, rfl, rfl⟩
          obtain ⟨o21, po21, q21, d21, gd21⟩ : ∃ o, ops[21]? = some o ∧ o.op = .move (.tmp 6) ∧ o.dst = some 104 ∧ o.guard = some (14, false) := ⟨_, by rw [hops]; rfl, rfl, rfl, rfl⟩
          obtain ⟨o22, po22, q22, d22, gd22⟩ : ∃ o, ops[22]? = some o ∧ o.op = .call { callee := .value (.func 8), args := #[.tmp 104], argTypes := #[3] } ∧ o.dst = some 105 ∧ o.guard = some (14, false) := ⟨_, by rw [hops]; rfl, rfl, rfl, rfl⟩
          obtain ⟨o23, po23, q23, d23, gd23⟩ : ∃ o, ops[23]? = some o ∧ o.op = .move (.tmp 6) ∧ o.dst = some 106 ∧ o.guard = some (14, false) := ⟨_, by rw [hops]; rfl, rfl, rfl, rfl⟩
          obtain ⟨o24, po24, q24, d24, gd24⟩ : ∃ o, ops[24]? = some o ∧ o.op = .binOp .sub 3 (.tmp 106) (.const (.int .i64 1)) 3 ∧ o.dst = some 107 ∧ o.guard = some (14, false) := ⟨_, by rw [hops]; rfl, rfl, rfl, rfl⟩
          obtain ⟨o25, po25, q25, d25, gd25⟩ : ∃ o, ops[25]? = some o ∧ o.op = .call { callee := .value (.func 26), args := #[.tmp 98, .tmp 102, .tmp 103, .tmp 105, .tmp 107, .const (.int .u8 1)], argTypes := #[44, 25, 46, 26, 3, 5] } ∧ o.dst = some 108 ∧ o.guard = some (14, false) := ⟨_, by rw [hops]; rfl, rfl, rfl, rfl⟩
          obtain ⟨o26, po26, q26, d26, gd26⟩ : ∃ o, ops[26]? = some o ∧ o.op = .unOp .not 4 (.tmp 108) ∧ o.dst = some 109 ∧ o.guard = some (14, false) := ⟨_, by rw [hops]; rfl, rfl, rfl, rfl⟩
          obtain ⟨o27, po27, q27, d27, gd27⟩ : ∃ o, ops[27]? = some o ∧ o.op = .pick (.tmp 97) (.const (.bool true)) (.tmp 109) ∧ o.dst = some 110 ∧ o.guard = none := ⟨_, by rw [hops]; rfl, rfl, rfl, rfl⟩
          clear hops
          refine met_free po0 d0 (wanted_of gd0) (fun w' _ => run_move q0 base6 w') ?_
          refine met_free po1 d1 (wanted_of gd1) (fun w' _ => run_cnv8 q1 (eval_same _ _ _ (by rw [hsz]; decide)) w') ?_
          refine met_free po2 d2 (wanted_of gd2) (fun w' _ => run_bK1 q2 (eval_same _ _ _ (by simp only [put_size, hsz]; decide)) w') ?_
          refine met_free po3 d3 (wanted_of gd3) (fun w' _ => run_move q3 ((eval_other _ 85 4 _ (by decide)).trans ((eval_other _ 84 4 _ (by decide)).trans ((eval_other _ 83 4 _ (by decide)).trans base4))) w') ?_
          refine met_free po4 d4 (wanted_of gd4) (fun w' _ => run_move q4 ((eval_other _ 86 5 _ (by decide)).trans ((eval_other _ 85 5 _ (by decide)).trans ((eval_other _ 84 5 _ (by decide)).trans ((eval_other _ 83 5 _ (by decide)).trans base5)))) w') ?_
          refine met_free po5 d5 (wanted_of gd5) (fun w' _ => run_ixWords0 q5 ((eval_other _ 87 86 _ (by decide)).trans (eval_same _ _ _ (by simp only [put_size, hsz]; decide))) (eval_same _ _ _ (by simp only [put_size, hsz]; decide)) hj7 w') ?_
          refine met_free po6 d6 (wanted_of gd6) (fun w' h' => run_ld32 q6 (eval_same _ _ _ (by simp only [put_size, hsz]; decide)) (h'.cell j hj7)) ?_
          refine met_free po7 d7 (wanted_of gd7) (fun w' _ => run_move q7 ((eval_other _ 89 5 _ (by decide)).trans ((eval_other _ 88 5 _ (by decide)).trans ((eval_other _ 87 5 _ (by decide)).trans ((eval_other _ 86 5 _ (by decide)).trans ((eval_other _ 85 5 _ (by decide)).trans ((eval_other _ 84 5 _ (by decide)).trans ((eval_other _ 83 5 _ (by decide)).trans base5))))))) w') ?_
          refine met_free po8 d8 (wanted_of gd8) (fun w' _ => run_cnv8 q8 (eval_same _ _ _ (by simp only [put_size, hsz]; decide)) w') ?_
          refine met_free po9 d9 (wanted_of gd9) (fun w' _ => run_bN2 (b := 2#8) q9 rfl (eval_same _ _ _ (by simp only [put_size, hsz]; decide)) w') ?_
          refine met_free po10 d10 (wanted_of gd10) (fun w' _ => run_move q10 ((eval_other _ 92 6 _ (by decide)).trans ((eval_other _ 91 6 _ (by decide)).trans ((eval_other _ 90 6 _ (by decide)).trans ((eval_other _ 89 6 _ (by decide)).trans ((eval_other _ 88 6 _ (by decide)).trans ((eval_other _ 87 6 _ (by decide)).trans ((eval_other _ 86 6 _ (by decide)).trans ((eval_other _ 85 6 _ (by decide)).trans ((eval_other _ 84 6 _ (by decide)).trans ((eval_other _ 83 6 _ (by decide)).trans base6)))))))))) w') ?_
          refine met_enter po11 d11 (wanted_of gd11) (run_callf1 q11 rfl (eval_same _ _ _ (by simp only [put_size, hsz]; decide)) Tryd.func8 (by kernel_rfl) _) (kitRow_any kk _ (by omega)) ?_
          rintro e wr11 ⟨v11, rfl, ho11, hb11⟩
          have HF11 := Lib.hid (HDd.out.on hb11); clear hb11
          obtain ⟨qr11, cr11, hv11, hc11, hm11, hl11⟩ := ho11.lies
          rw [kitRow_length] at hv11 hc11
          subst hv11
          have HLR11 := Lib.hid hl11; clear hl11 ho11
          refine ⟨_, rfl, HF11.out, ?_⟩
          refine met_enter po12 d12 (wanted_of gd12) (run_callf4 q12 rfl ((eval_other _ 94 85 _ (by decide)).trans ((eval_other _ 93 85 _ (by decide)).trans ((eval_other _ 92 85 _ (by decide)).trans ((eval_other _ 91 85 _ (by decide)).trans ((eval_other _ 90 85 _ (by decide)).trans ((eval_other _ 89 85 _ (by decide)).trans ((eval_other _ 88 85 _ (by decide)).trans ((eval_other _ 87 85 _ (by decide)).trans ((eval_other _ 86 85 _ (by decide)).trans (eval_same _ _ _ (by simp only [put_size, hsz]; decide))))))))))) ((eval_other _ 94 89 _ (by decide)).trans ((eval_other _ 93 89 _ (by decide)).trans ((eval_other _ 92 89 _ (by decide)).trans ((eval_other _ 91 89 _ (by decide)).trans ((eval_other _ 90 89 _ (by decide)).trans (eval_same _ _ _ (by simp only [put_size, hsz]; decide))))))) ((eval_other _ 94 92 _ (by decide)).trans ((eval_other _ 93 92 _ (by decide)).trans (eval_same _ _ _ (by simp only [put_size, hsz]; decide)))) (eval_same _ _ _ (by simp only [put_size, hsz]; decide)) Tryd.func25 (by kernel_rfl) _) (xors_any (BitVec.ofNat 8 kk :: noughts 31) (2#8 :: BitVec.ofNat 8 j :: noughts 10) (kitRow kk) kk _ _ _ _ (kitRow_length kk) hc11 (by omega) (by simp [noughts_length]) (by simp [noughts_length]) HLR11.out (HQ.out.below HF11.out.below hqs)) ?_
          rintro e wf12 ⟨rfl, hb12⟩
          have HF12 := Lib.hid (HF11.out.on hb12); clear hb12
          refine ⟨_, rfl, HF12.out, ?_⟩
          refine met_free po13 d13 (wanted_of gd13) (fun w' _ => run_not q13 (eval_same _ _ _ (by simp only [put_size, hsz]; decide)) w') ?_
          refine met_free po14 d14 (wanted_of gd14) (fun w' _ => run_move q14 (eval_same _ _ _ (by simp only [put_size, hsz]; decide)) w') ?_
          refine met_free po16 d16 (wanted_guardF gd16 po14 d14 (eval_same _ _ _ (by simp only [put_size, hsz]; decide))) (fun w' _ => run_move q16 ((eval_other _ 97 4 _ (by decide)).trans ((eval_other _ 96 4 _ (by decide)).trans ((eval_other _ 95 4 _ (by decide)).trans ((eval_other _ 94 4 _ (by decide)).trans ((eval_other _ 93 4 _ (by decide)).trans ((eval_other _ 92 4 _ (by decide)).trans ((eval_other _ 91 4 _ (by decide)).trans ((eval_other _ 90 4 _ (by decide)).trans ((eval_other _ 89 4 _ (by decide)).trans ((eval_other _ 88 4 _ (by decide)).trans ((eval_other _ 87 4 _ (by decide)).trans ((eval_other _ 86 4 _ (by decide)).trans ((eval_other _ 85 4 _ (by decide)).trans ((eval_other _ 84 4 _ (by decide)).trans ((eval_other _ 83 4 _ (by decide)).trans base4))))))))))))))) w') ?_
          refine met_free po17 d17 (wanted_guardF gd17 po14 d14 ((eval_other _ 99 97 _ (by decide)).trans (eval_same _ _ _ (by simp only [put_size, hsz]; decide)))) (fun w' _ => run_move q17 ((eval_other _ 99 5 _ (by decide)).trans ((eval_other _ 97 5 _ (by decide)).trans ((eval_other _ 96 5 _ (by decide)).trans ((eval_other _ 95 5 _ (by decide)).trans ((eval_other _ 94 5 _ (by decide)).trans ((eval_other _ 93 5 _ (by decide)).trans ((eval_other _ 92 5 _ (by decide)).trans ((eval_other _ 91 5 _ (by decide)).trans ((eval_other _ 90 5 _ (by decide)).trans ((eval_other _ 89 5 _ (by decide)).trans ((eval_other _ 88 5 _ (by decide)).trans ((eval_other _ 87 5 _ (by decide)).trans ((eval_other _ 86 5 _ (by decide)).trans ((eval_other _ 85 5 _ (by decide)).trans ((eval_other _ 84 5 _ (by decide)).trans ((eval_other _ 83 5 _ (by decide)).trans base5)))))))))))))))) w') ?_
          refine met_free po18 d18 (wanted_guardF gd18 po14 d14 ((eval_other _ 100 97 _ (by decide)).trans ((eval_other _ 99 97 _ (by decide)).trans (eval_same _ _ _ (by simp only [put_size, hsz]; decide))))) (fun w' _ => run_ixWords0 q18 ((eval_other _ 100 99 _ (by decide)).trans (eval_same _ _ _ (by simp only [put_size, hsz]; decide))) (eval_same _ _ _ (by simp only [put_size, hsz]; decide)) hj7 w') ?_
          refine met_free po19 d19 (wanted_guardF gd19 po14 d14 ((eval_other _ 101 97 _ (by decide)).trans ((eval_other _ 100 97 _ (by decide)).trans ((eval_other _ 99 97 _ (by decide)).trans (eval_same _ _ _ (by simp only [put_size, hsz]; decide)))))) (fun w' h' => run_ld32 q19 (eval_same _ _ _ (by simp only [put_size, hsz]; decide)) (h'.cell j hj7)) ?_
          refine met_free po20 d20 (wanted_guardF gd20 po14 d14 ((eval_other _ 102 97 _ (by decide)).trans ((eval_other _ 101 97 _ (by decide)).trans ((eval_other _ 100 97 _ (by decide)).trans ((eval_other _ 99 97 _ (by decide)).trans (eval_same _ _ _ (by simp only [put_size, hsz]; decide))))))) (fun w' _ => run_bN0 q20 w') ?_
          refine met_free po21 d21 (wanted_guardF gd21 po14 d14 ((eval_other _ 103 97 _ (by decide)).trans ((eval_other _ 102 97 _ (by decide)).trans ((eval_other _ 101 97 _ (by decide)).trans ((eval_other _ 100 97 _ (by decide)).trans ((eval_other _ 99 97 _ (by decide)).trans (eval_same _ _ _ (by simp only [put_size, hsz]; decide)))))))) (fun w' _ => run_move q21 ((eval_other _ 103 6 _ (by decide)).trans ((eval_other _ 102 6 _ (by decide)).trans ((eval_other _ 101 6 _ (by decide)).trans ((eval_other _ 100 6 _ (by decide)).trans ((eval_other _ 99 6 _ (by decide)).trans ((eval_other _ 97 6 _ (by decide)).trans ((eval_other _ 96 6 _ (by decide)).trans ((eval_other _ 95 6 _ (by decide)).trans ((eval_other _ 94 6 _ (by decide)).trans ((eval_other _ 93 6 _ (by decide)).trans ((eval_other _ 92 6 _ (by decide)).trans ((eval_other _ 91 6 _ (by decide)).trans ((eval_other _ 90 6 _ (by decide)).trans ((eval_other _ 89 6 _ (by decide)).trans ((eval_other _ 88 6 _ (by decide)).trans ((eval_other _ 87 6 _ (by decide)).trans ((eval_other _ 86 6 _ (by decide)).trans ((eval_other _ 85 6 _ (by decide)).trans ((eval_other _ 84 6 _ (by decide)).trans ((eval_other _ 83 6 _ (by decide)).trans base6)))))))))))))))))))) w') ?_
          refine met_free po23 d23 (wanted_guardF gd23 po14 d14 ((eval_other _ 104 97 _ (by decide)).trans ((eval_other _ 103 97 _ (by decide)).trans ((eval_other _ 102 97 _ (by decide)).trans ((eval_other _ 101 97 _ (by decide)).trans ((eval_other _ 100 97 _ (by decide)).trans ((eval_other _ 99 97 _ (by decide)).trans (eval_same _ _ _ (by simp only [put_size, hsz]; decide))))))))) (fun w' _ => run_move q23 ((eval_other _ 104 6 _ (by decide)).trans ((eval_other _ 103 6 _ (by decide)).trans ((eval_other _ 102 6 _ (by decide)).trans ((eval_other _ 101 6 _ (by decide)).trans ((eval_other _ 100 6 _ (by decide)).trans ((eval_other _ 99 6 _ (by decide)).trans ((eval_other _ 97 6 _ (by decide)).trans ((eval_other _ 96 6 _ (by decide)).trans ((eval_other _ 95 6 _ (by decide)).trans ((eval_other _ 94 6 _ (by decide)).trans ((eval_other _ 93 6 _ (by decide)).trans ((eval_other _ 92 6 _ (by decide)).trans ((eval_other _ 91 6 _ (by decide)).trans ((eval_other _ 90 6 _ (by decide)).trans ((eval_other _ 89 6 _ (by decide)).trans ((eval_other _ 88 6 _ (by decide)).trans ((eval_other _ 87 6 _ (by decide)).trans ((eval_other _ 86 6 _ (by decide)).trans ((eval_other _ 85 6 _ (by decide)).trans ((eval_other _ 84 6 _ (by decide)).trans ((eval_other _ 83 6 _ (by decide)).trans base6))))))))))))))))))))) w') ?_
          refine met_free po24 d24 (wanted_guardF gd24 po14 d14 ((eval_other _ 106 97 _ (by decide)).trans ((eval_other _ 104 97 _ (by decide)).trans ((eval_other _ 103 97 _ (by decide)).trans ((eval_other _ 102 97 _ (by decide)).trans ((eval_other _ 101 97 _ (by decide)).trans ((eval_other _ 100 97 _ (by decide)).trans ((eval_other _ 99 97 _ (by decide)).trans (eval_same _ _ _ (by simp only [put_size, hsz]; decide)))))))))) (fun w' _ => run_less1 q24 (fun _ => rfl) (eval_same _ _ _ (by simp only [put_size, hsz]; decide)) (by omega) (by omega) w') ?_
          refine met_enter po15 d15 (wanted_guardF gd15 po14 d14 ((eval_other _ 107 97 _ (by decide)).trans ((eval_other _ 106 97 _ (by decide)).trans ((eval_other _ 104 97 _ (by decide)).trans ((eval_other _ 103 97 _ (by decide)).trans ((eval_other _ 102 97 _ (by decide)).trans ((eval_other _ 101 97 _ (by decide)).trans ((eval_other _ 100 97 _ (by decide)).trans ((eval_other _ 99 97 _ (by decide)).trans (eval_same _ _ _ (by simp only [put_size, hsz]; decide))))))))))) (run_callf0 q15 rfl Tryd.func20 (by kernel_rfl) _) (counted_any _) ?_
          rintro e wf15 ⟨rfl, hb15⟩
          have HF15 := Lib.hid (HF12.out.on hb15); clear hb15
          refine ⟨_, rfl, HF15.out, ?_⟩
          refine met_enter po22 d22 (wanted_guardF gd22 po14 d14 ((eval_other _ 98 97 _ (by decide)).trans ((eval_other _ 107 97 _ (by decide)).trans ((eval_other _ 106 97 _ (by decide)).trans ((eval_other _ 104 97 _ (by decide)).trans ((eval_other _ 103 97 _ (by decide)).trans ((eval_other _ 102 97 _ (by decide)).trans ((eval_other _ 101 97 _ (by decide)).trans ((eval_other _ 100 97 _ (by decide)).trans ((eval_other _ 99 97 _ (by decide)).trans (eval_same _ _ _ (by simp only [put_size, hsz]; decide)))))))))))) (run_callf1 q22 rfl ((eval_other _ 98 104 _ (by decide)).trans ((eval_other _ 107 104 _ (by decide)).trans ((eval_other _ 106 104 _ (by decide)).trans (eval_same _ _ _ (by simp only [put_size, hsz]; decide))))) Tryd.func8 (by kernel_rfl) _) (kitRow_any kk _ (by omega)) ?_
          rintro e wr22 ⟨v22, rfl, ho22, hb22⟩
          have HF22 := Lib.hid (HF15.out.on hb22); clear hb22
          obtain ⟨qr22, cr22, hv22, hc22, hm22, hl22⟩ := ho22.lies
          rw [kitRow_length] at hv22 hc22
          subst hv22
          have HLR22 := Lib.hid hl22; clear hl22 ho22
          refine ⟨_, rfl, HF22.out, ?_⟩
          refine met_enter po25 d25 (wanted_guardF gd25 po14 d14 ((eval_other _ 105 97 _ (by decide)).trans ((eval_other _ 98 97 _ (by decide)).trans ((eval_other _ 107 97 _ (by decide)).trans ((eval_other _ 106 97 _ (by decide)).trans ((eval_other _ 104 97 _ (by decide)).trans ((eval_other _ 103 97 _ (by decide)).trans ((eval_other _ 102 97 _ (by decide)).trans ((eval_other _ 101 97 _ (by decide)).trans ((eval_other _ 100 97 _ (by decide)).trans ((eval_other _ 99 97 _ (by decide)).trans (eval_same _ _ _ (by simp only [put_size, hsz]; decide))))))))))))) (run_callf6 q25 rfl ((eval_other _ 105 98 _ (by decide)).trans (eval_same _ _ _ (by simp only [put_size, hsz]; decide))) ((eval_other _ 105 102 _ (by decide)).trans ((eval_other _ 98 102 _ (by decide)).trans ((eval_other _ 107 102 _ (by decide)).trans ((eval_other _ 106 102 _ (by decide)).trans ((eval_other _ 104 102 _ (by decide)).trans ((eval_other _ 103 102 _ (by decide)).trans (eval_same _ _ _ (by simp only [put_size, hsz]; decide)))))))) ((eval_other _ 105 103 _ (by decide)).trans ((eval_other _ 98 103 _ (by decide)).trans ((eval_other _ 107 103 _ (by decide)).trans ((eval_other _ 106 103 _ (by decide)).trans ((eval_other _ 104 103 _ (by decide)).trans (eval_same _ _ _ (by simp only [put_size, hsz]; decide))))))) (eval_same _ _ _ (by simp only [put_size, hsz]; decide)) ((eval_other _ 105 107 _ (by decide)).trans ((eval_other _ 98 107 _ (by decide)).trans (eval_same _ _ _ (by simp only [put_size, hsz]; decide)))) rfl Tryd.func26 (by kernel_rfl) _) (places_main countedK (noughts 12) (kitRow kk) kk _ _ _ _ 1#8 _ (kitRow_length kk) hc22 (by omega) HKL.out (noughts_length 12) HLR22.out (HQ.out.below HF22.out.below hqs)) ?_
          rintro e wf25 ⟨rfl, hb25⟩
          have HF25 := Lib.hid (HF22.out.on hb25); clear hb25
          refine ⟨_, rfl, HF25.out, ?_⟩
          refine met_free po26 d26 (wanted_guardF gd26 po14 d14 ((eval_other _ 108 97 _ (by decide)).trans ((eval_other _ 105 97 _ (by decide)).trans ((eval_other _ 98 97 _ (by decide)).trans ((eval_other _ 107 97 _ (by decide)).trans ((eval_other _ 106 97 _ (by decide)).trans ((eval_other _ 104 97 _ (by decide)).trans ((eval_other _ 103 97 _ (by decide)).trans ((eval_other _ 102 97 _ (by decide)).trans ((eval_other _ 101 97 _ (by decide)).trans ((eval_other _ 100 97 _ (by decide)).trans ((eval_other _ 99 97 _ (by decide)).trans (eval_same _ _ _ (by simp only [put_size, hsz]; decide)))))))))))))) (fun w' _ => run_not q26 (eval_same _ _ _ (by simp only [put_size, hsz]; decide)) w') ?_
          refine met_free po27 d27 (wanted_of gd27) (fun w' _ => run_pickF q27 ((eval_other _ 109 97 _ (by decide)).trans ((eval_other _ 108 97 _ (by decide)).trans ((eval_other _ 105 97 _ (by decide)).trans ((eval_other _ 98 97 _ (by decide)).trans ((eval_other _ 107 97 _ (by decide)).trans ((eval_other _ 106 97 _ (by decide)).trans ((eval_other _ 104 97 _ (by decide)).trans ((eval_other _ 103 97 _ (by decide)).trans ((eval_other _ 102 97 _ (by decide)).trans ((eval_other _ 101 97 _ (by decide)).trans ((eval_other _ 100 97 _ (by decide)).trans ((eval_other _ 99 97 _ (by decide)).trans (eval_same _ _ _ (by simp only [put_size, hsz]; decide)))))))))))))) (eval_same _ _ _ (by simp only [put_size, hsz]; decide)) w') ?_
          show NoPanic _ .normal _ _
          refine NoPanic.normal ?_
          rw [HAA.out]
          go_frame
          clear HAA
          clear HF11 HF12 HF15 HF22 HDd HLR11 HLR22
          go_wp2_with fail
          go_roundw
          case rel => exact ⟨q + 1, by omega, by go_num, HF25.out⟩
          case measure => simp [intOf]; omega
        · have p0 : ¬ ((13 * q : Nat) : Int) < 130 := by omega
          go_wp2_with fail
          go_roundw
          case rel => exact ⟨j + 1, by omega, by go_num, HR.out⟩
          case measure => simp [intOf]; omega
    · have p0 : ¬ (j : Int) < 7 := by omega
      go_wp2_with fail
      refine (works3_any wr (HQ.out.below HR.out.below hqs)).mono ?_
      rintro e wz ⟨rfl, hbz⟩
      have HZ := Lib.hid (HR.out.on hbz).below; clear hbz
      go_wp2_with fail
      go_ret
      exact ⟨rfl, HZ.out⟩
end Go.Proofs.YtgfmjfpafpmghaaDoor
