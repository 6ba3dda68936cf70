/-
  The walk of the law PolyMoves: for any key, any number and any bytes it returns true, and nothing that was there changes.
-/
import Derived.Test.YtgfmjfpafpmghaaPoTags
import Derived.Test.YtgfmjfpafpmghaaPoGoesLaw
import Derived.Test.YtgfmjfpafpmghaaTree
namespace Go.Proofs.Ytgfmjfpafpmghaa
open Go.RowKit Go.Proofs.ShaWords
/-- The key's block, the number's, that of s. -/
structure MvW (w : World) (key d : List (BitVec 8)) (G : Nat) (s : List (BitVec 8)) (wr : World) : Prop where
  key : BytesAt wr w.heap.size 23 key
  d : BytesAt wr (w.heap.size + 1) 28 d
  s : BytesAt wr G 28 s
  below : Below w.heap.size w wr
  later : w.heap.size + 1 < G
theorem MvW.on {w wr w' : World} {key d s : List (BitVec 8)} {G : Nat} (h : MvW w key d G s wr) (hb : Below wr.heap.size wr w') : MvW w key d G s w' := ⟨h.key.keep hb, h.d.keep hb, h.s.keep hb, h.below.trans (hb.mono h.below.size), h.later⟩
theorem MvW.past {w wr w' : World} {key d s : List (BitVec 8)} {G G8 : Nat} (h : MvW w key d G s wr) (hg : wr.grownBy w' (some G8)) (hl : G < G8) : MvW w key d G s w' := by
  have := h.later
  exact ⟨h.key.past hg (by omega), h.d.past hg (by omega), h.s.past hg (by omega), h.below.grown hg h.below.size (fun k hk => by cases hk; omega), h.later⟩
section
variable {ops : Array Oper} {Q : Exit → Act → World → Prop} {i : Nat} {o : Oper} {dst : Option Tmp} {a : Act} {w : World} {K : Act → World → Prop}
theorem at_allocKey (ho : ops[i]? = some o) (hd : o.dst = dst) (hw : Region.wanted o (yielded ops a.tmps) = true) (hq : o.op = .alloc 23)
    (h : ∀ G w', BytesAt w' G 23 zeros32 → Below w.heap.size w w' → w.heap.size ≤ G → K (a.put dst (.pointer (some ⟨G, 0, none⟩))) w') : wpOp Try.prog ops Q i K a w := by
  have hr : (execOp a.eval o).run Try.prog w = .ok (.value (.pointer (some ⟨w.heap.size, 0, none⟩))) (w.alloc (.cells (bytesV zeros32).toArray 23)) := by
    clear ho hw
    obtain ⟨dst, op, ty, pos, after, guard⟩ := o
    simp only at hq
    subst hq
    rw [zeros32_eq]
    go_simp
  exact at_op ho hd hw hr (h _ _ (heap_new_at rfl) ((Below.refl _ _).alloc (Nat.le_refl _) _) (Nat.le_refl _))
theorem at_storeKey {x y : Operand} {G : Nat} {X Z : List (BitVec 8)} (ho : ops[i]? = some o) (hd : o.dst = dst) (hw : Region.wanted o (yielded ops a.tmps) = true) (hq : o.op = .store 23 x y) (hx : a.eval x = .pointer (some ⟨G, 0, none⟩)) (hy : a.eval y = .agg (bytesV X).toArray)
    (hX : X.length = 32 ∧ Z.length = 32) (hZ : BytesAt w G 23 Z)
    (h : ∀ w', BytesAt w' G 23 X → w.grownBy w' (some G) → K (a.put dst undef) w') : wpOp Try.prog ops Q i K a w := by
  refine at_wp ho hw (wp_store_row 23 x y hq G (bytesV X).toArray hx hy 23 _ hZ (infoKey _ hX.1) (by rw [bytesV_size _ 32 hX.1, bytesV_size _ 32 hX.2]) (bytesV_one _) ?_)
  rw [hd]
  exact h _ (setRow_heap _ _ _ _ _ _ hZ) (grown_setRow _ _ _)
end
theorem with_none (s : List (BitVec 8)) (w : World) (hs : s.length = 16) :
    Calls Try.prog 14 #[.agg #[Value.int .u8 0, Value.int .u8 0, Value.int .u8 0, Value.int .u8 0, Value.int .u8 0, Value.int .u8 0, Value.int .u8 0, Value.int .u8 0, Value.int .u8 0, Value.int .u8 0, Value.int .u8 0, Value.int .u8 0, Value.int .u8 0, Value.int .u8 0, Value.int .u8 0, Value.int .u8 0], .agg (bytesV s).toArray] w fun e w' => e = .returned (.agg (bytesV (zeros16 ++ s)).toArray) ∧ Below w.heap.size w w' := by
  rw [← zeros16_eq]
  exact with_any zeros16 s w rfl hs
attribute [local irreducible] polyTag addB zeros16 zeros32
set_option maxRecDepth 100000 in
set_option maxHeartbeats 4000000 in
theorem moves_any (key d bs : List (BitVec 8)) (m : Nat) (p : Option Addr) (cap : Nat) (w : World) (hk : key.length = 32) (ht : d.length = 16) (hm : bs.length = m) (hc : m ≤ cap) (hcm : cap ≤ 140737488355328) (hL : Lies w p bs) :
    Calls Try.prog 4 #[.agg (bytesV key).toArray, .agg (bytesV d).toArray, .slice p m cap] w fun e w' => e = .returned (.bool true) ∧ Below w.heap.size w w' := by
  have HKL := Lib.hid hk; clear hk
  have HDL := Lib.hid ht; clear ht
  have HM := Lib.hid hm; clear hm
  have HL := Lib.hid hL; clear hL
  have HIK := Lib.hid (infoKey key HKL.out)
  by_cases hbig : 4096 < m
  · go_enter Try.func4, Try.ntmps4
    have p0 : (4096 : Int) < (m : Int) := by omega
    go_wp2_with fail
    refine calls_gen (fun w1 => Below w.heap.size w w1) (((Below.refl _ _).alloc (Nat.le_refl _) _).alloc (by simp) _) ?_
    intro w1 hb1
    refine (known_any w1).mono ?_
    rintro e w2 ⟨rfl, hb2⟩
    have HB2 := Lib.hid (hb1.trans (hb2.mono hb1.size)); clear hb1 hb2
    go_wp2_with fail
    go_ret
    exact ⟨rfl, HB2.out⟩
  · obtain ⟨s, hs⟩ : ∃ s, s = key.drop 16 := ⟨_, rfl⟩
    have HSL : Hid (s.length = 16) := show _ = _ by rw [hs, List.length_drop, HKL.out]
    have HS2 : Hid ((key.drop 16).take 16 = s) := show _ = _ by rw [hs]; exact List.take_of_length_le (by rw [List.length_drop, HKL.out]; omega)
    have HT1 : Hid (polyTag (key.take 16 ++ addB s d 16) bs = addB (polyTag key bs) d 16) := show _ = _ by rw [hs]; exact moved_tag key d bs HKL.out HDL.out
    have HT2 : Hid (polyTag key [] = s) := show _ = _ by rw [hs]; exact empty_tag key HKL.out
    have HT3 : Hid (polyTag (zeros16 ++ s) bs = s) := none_tag s bs HSL.out
    have HFL : Hid (((key.drop 0).take 16).length = 16) := show _ = _ by rw [List.drop_zero, List.length_take, HKL.out]; rfl
    have HFE : Hid ((key.drop 0).take 16 = key.take 16) := show _ = _ by rw [List.drop_zero]
    have HXL : Hid (((key.drop 0).take 16 ++ addB s d 16).length = 32 ∧ zeros32.length = 32) := show _ ∧ _ from ⟨by rw [List.length_append, HFL.out, addB_length], by unfold zeros32; rfl⟩
    clear hs
    have HIS := Lib.hid (infoTag s HSL.out)
    have HIO := Lib.hid (show (#[Value.int .u8 0, Value.int .u8 0, Value.int .u8 0, Value.int .u8 0, Value.int .u8 0, Value.int .u8 0, Value.int .u8 0, Value.int .u8 0, Value.int .u8 0, Value.int .u8 0, Value.int .u8 0, Value.int .u8 0, Value.int .u8 0, Value.int .u8 0, Value.int .u8 0, Value.int .u8 0] : Array Value).size = (bytesV s).toArray.size by rw [bytesV_size _ 16 HSL.out]; rfl)
    have HONE := Lib.hid (bytesV_one s)
    go_enter Try.func4, Try.ntmps4
    have p0 : ¬ (4096 : Int) < (m : Int) := by omega
    go_upto_region 1 with (fail)
    refine wp_gen (fun w1 => BytesAt w1 w.heap.size 23 key ∧ BytesAt w1 (w.heap.size + 1) 28 d ∧ Below w.heap.size w w1) ⟨BytesAt.keep (w := w.alloc _) (heap_alloc_new w _) ((Below.refl _ _).alloc (Nat.le_refl _) _), heap_new_at (size_alloc _ _), ((Below.refl _ _).alloc (Nat.le_refl _) _).alloc (by simp) _⟩ ?_
    rintro w0 ⟨hk0, hd0, hb0⟩
    have HK0 := Lib.hid (show w0.heap[w.heap.size]? = some (.cells (bytesV key).toArray 23 (0, 0)) from hk0)
    have HD0 := Lib.hid hd0
    have HB0 := Lib.hid hb0
    clear hk0 hd0 hb0
    go_wp2_with (refine wpList_load_row rfl 23 (.tmp 3) rfl w.heap.size rfl 23 _ (0, 0) _ HK0.out Try.underlying23 rfl HIK.out ?_)
    refine (half_any key 16 w0 HKL.out (by omega)).mono ?_
    rintro e w1 ⟨rfl, hb1⟩
    rw [HS2.out]
    have HK1 := Lib.hid (BytesAt.keep HK0.out hb1)
    have HD1 := Lib.hid (HD0.out.keep hb1)
    have HB1 := Lib.hid (HB0.out.trans (hb1.mono HB0.out.size))
    clear hb1 HK0 HD0 HB0
    go_upto_region 4 with (refine wpList_store_new rfl 28 (.tmp 7) (.tmp 15) rfl w1.heap.size rfl (bytesV s).toArray rfl rfl HIS.out HIO.out HONE.out ?_; intro w2 h2 hb2; have H2 := Lib.hid h2; have HB2 := Lib.hid hb2; clear h2 hb2)
    obtain ⟨G, hG⟩ : ∃ G, G = w1.heap.size := ⟨_, rfl⟩
    rw [← hG]
    have HSD : Hid (MvW w key d G s w2.drew) := show MvW _ _ _ _ _ _ by
      have hb : Below w1.heap.size w1 w2.drew := HB2.out.trans (((Below.refl _ w2).drew).mono HB2.out.size)
      refine ⟨HK1.out.keep hb, HD1.out.keep hb, ?_, HB1.out.trans (hb.mono HB1.out.size), ?_⟩
      · rw [hG]; exact H2.out
      · rw [hG]; exact HD1.out.size
    clear hG H2 HB2 HK1 HD1 HB1
    rw [put_none]
    go_cut [3, 4, 7, 8] (fun s3 s4 s7 s8 wx => s3 = .pointer (some ⟨w.heap.size, 0, none⟩) ∧ s4 = .pointer (some ⟨w.heap.size + 1, 0, none⟩) ∧ s7 = .pointer (some ⟨G, 0, none⟩) ∧ ∃ G8 : Nat, s8 = .pointer (some ⟨G8, 0, none⟩) ∧ BytesAt wx G8 23 ((key.drop 0).take 16 ++ addB s d 16) ∧ MvW w key d G s wx ∧ G < G8)
    case first =>
      refine region_tree (MvW w key d G s) HSD.out (.pure 0 (.pure 2 (.pure 3 (.two 1 6 (.two 4 6 (.two 5 6 (.one 6 (.one 7 .nil)) (.one 5 (.one 7 .nil))) (.one 4 (.one 5 (.one 7 .nil)))) (.one 1 (.one 4 (.one 5 (.one 7 .nil)))))))) (by kernel_rfl) (by kernel_rfl) (by kernel_rfl) (fun ops hops A2 hA => ?_)
      have hsz : A2.tmps.size = 50 := by rw [hA]; rfl
      have base3 : A2.eval (.tmp 3) = .pointer (some ⟨w.heap.size, 0, none⟩) := by rw [hA]; rfl
      have base4 : A2.eval (.tmp 4) = .pointer (some ⟨w.heap.size + 1, 0, none⟩) := by rw [hA]; rfl
      have base7 : A2.eval (.tmp 7) = .pointer (some ⟨G, 0, none⟩) := by rw [hA]; rfl
      have HAA := Lib.hid hA; clear hA
      obtain ⟨o0, po0, q0, d0, gd0⟩ : ∃ o, ops[0]? = some o ∧ o.op = .load 23 (.tmp 3) ∧ o.dst = some 16 ∧ o.guard = none := ⟨_, by rw [hops]; rfl, rfl, rfl, rfl⟩
      obtain ⟨o1, po1, q1, d1, gd1⟩ : ∃ o, ops[1]? = some o ∧ o.op = .call { callee := .value (.func 13), args := #[.tmp 16, .const (.int .i64 0)], argTypes := #[23, 3] } ∧ o.dst = some 17 ∧ o.guard = none := ⟨_, by rw [hops]; rfl, rfl, rfl, rfl⟩
      obtain ⟨o2, po2, q2, d2, gd2⟩ : ∃ o, ops[2]? = some o ∧ o.op = .load 28 (.tmp 7) ∧ o.dst = some 18 ∧ o.guard = none := ⟨_, by rw [hops]; rfl, rfl, rfl, rfl⟩
      obtain ⟨o3, po3, q3, d3, gd3⟩ : ∃ o, ops[3]? = some o ∧ o.op = .load 28 (.tmp 4) ∧ o.dst = some 19 ∧ o.guard = none := ⟨_, by rw [hops]; rfl, rfl, rfl, rfl⟩
      obtain ⟨o4, po4, q4, d4, gd4⟩ : ∃ o, ops[4]? = some o ∧ o.op = .call { callee := .value (.func 15), args := #[.tmp 18, .tmp 19], argTypes := #[28, 28] } ∧ o.dst = some 20 ∧ o.guard = none := ⟨_, by rw [hops]; rfl, rfl, rfl, rfl⟩
      obtain ⟨o5, po5, q5, d5, gd5⟩ : ∃ o, ops[5]? = some o ∧ o.op = .call { callee := .value (.func 14), args := #[.tmp 17, .tmp 20], argTypes := #[28, 28] } ∧ o.dst = some 21 ∧ o.guard = none := ⟨_, by rw [hops]; rfl, rfl, rfl, rfl⟩
      obtain ⟨o6, po6, q6, d6, gd6⟩ : ∃ o, ops[6]? = some o ∧ o.op = .alloc 23 ∧ o.dst = some 8 ∧ o.guard = none := ⟨_, by rw [hops]; rfl, rfl, rfl, rfl⟩
      obtain ⟨o7, po7, q7, d7, gd7⟩ : ∃ o, ops[7]? = some o ∧ o.op = .store 23 (.tmp 8) (.tmp 21) ∧ o.dst = none ∧ o.guard = none := ⟨_, by rw [hops]; rfl, rfl, rfl, rfl⟩
      clear hops
      refine Tr.takes po0 d0 (wanted_of gd0) (fun w' h' => run_loadKey q0 base3 HKL.out h'.key) ?_
      refine Tr.takes po2 d2 (wanted_of gd2) (fun w' h' => run_loadTag q2 ((eval_other _ 16 7 _ (by decide)).trans base7) HSL.out h'.s) ?_
      refine Tr.takes po3 d3 (wanted_of gd3) (fun w' h' => run_loadTag q3 ((eval_other _ 18 4 _ (by decide)).trans ((eval_other _ 16 4 _ (by decide)).trans base4)) HDL.out h'.d) ?_
      refine ⟨?_, ?_⟩
      · skip
        refine at_call po1 d1 (wanted_of gd1) (run_callf2 q1 rfl ((eval_other _ 19 16 _ (by decide)).trans ((eval_other _ 18 16 _ (by decide)).trans (eval_same _ _ _ (by rw [hsz]; decide)))) rfl Try.func13 (by kernel_rfl) _) (half_any key 0 _ HKL.out (by omega)) (fun wn0 hn0 => ⟨HSD.out.on hn0, ?_⟩)
        have HC0 := Lib.hid (HSD.out.on hn0)
        clear hn0
        refine ⟨?_, ?_⟩
        · skip
          refine at_call po4 d4 (wanted_of gd4) (run_callf2 q4 rfl ((eval_other _ 17 18 _ (by decide)).trans ((eval_other _ 19 18 _ (by decide)).trans (eval_same _ _ _ (by simp only [put_size, hsz]; decide)))) ((eval_other _ 17 19 _ (by decide)).trans (eval_same _ _ _ (by simp only [put_size, hsz]; decide))) Try.func15 (by kernel_rfl) _) (sumTag_any s d _ HSL.out HDL.out) (fun wn1 hn1 => ⟨HC0.out.on hn1, ?_⟩)
          have HC1 := Lib.hid (HC0.out.on hn1)
          clear hn1
          refine ⟨?_, ?_⟩
          · skip
            refine at_call po5 d5 (wanted_of gd5) (run_callf2 q5 rfl ((eval_other _ 20 17 _ (by decide)).trans (eval_same _ _ _ (by simp only [put_size, hsz]; decide))) (eval_same _ _ _ (by simp only [put_size, hsz]; decide)) Try.func14 (by kernel_rfl) _) (with_any ((key.drop 0).take 16) (addB s d 16) _ HFL.out (addB_length _ _ _)) (fun wn2 hn2 => ⟨HC1.out.on hn2, ?_⟩)
            have HC2 := Lib.hid (HC1.out.on hn2)
            clear hn2
            refine at_allocKey po6 d6 (wanted_of gd6) q6 (fun G3 wn3 hz3 hn3 hl3 => ⟨HC2.out.on hn3, ?_⟩)
            have HC3 := Lib.hid (HC2.out.on hn3)
            have HZ3 := Lib.hid hz3
            have hG3 : G < G3 := Nat.lt_of_lt_of_le HC2.out.s.size hl3
            clear hn3 hz3 hl3
            refine at_storeKey po7 d7 (wanted_of gd7) q7 (eval_same _ _ _ (by simp only [put_size, hsz]; decide)) ((eval_other _ 8 21 _ (by decide)).trans (eval_same _ _ _ (by simp only [put_size, hsz]; decide))) HXL.out HZ3.out (fun wz hz gz => ⟨HC3.out.past gz (by omega), ?_⟩)
            have HF := Lib.hid (HC3.out.past gz (show G < G3 by omega))
            have HZF := Lib.hid hz
            clear gz hz
            show NoPanic _ .normal _ _
            refine NoPanic.normal ?_
            rw [HAA.out]
            go_frame
            go_wp2_with fail
            go_meet
            exact ⟨rfl, rfl, rfl, _, rfl, HZF.out, HF.out, by omega⟩
          · skip
            refine at_allocKey po6 d6 (wanted_of gd6) q6 (fun G5 wn5 hz5 hn5 hl5 => ⟨HC1.out.on hn5, ?_⟩)
            have HC5 := Lib.hid (HC1.out.on hn5)
            have HZ5 := Lib.hid hz5
            have hG5 : G < G5 := Nat.lt_of_lt_of_le HC1.out.s.size hl5
            clear hn5 hz5 hl5
            refine at_call po5 d5 (wanted_of gd5) (run_callf2 q5 rfl ((eval_other _ 8 17 _ (by decide)).trans ((eval_other _ 20 17 _ (by decide)).trans (eval_same _ _ _ (by simp only [put_size, hsz]; decide)))) ((eval_other _ 8 20 _ (by decide)).trans (eval_same _ _ _ (by simp only [put_size, hsz]; decide))) Try.func14 (by kernel_rfl) _) (with_any ((key.drop 0).take 16) (addB s d 16) _ HFL.out (addB_length _ _ _)) (fun wn6 hn6 => ⟨HC5.out.on hn6, ?_⟩)
            have HC6 := Lib.hid (HC5.out.on hn6)
            have HZ6 := Lib.hid (HZ5.out.keep hn6)
            clear hn6
            refine at_storeKey po7 d7 (wanted_of gd7) q7 ((eval_other _ 21 8 _ (by decide)).trans (eval_same _ _ _ (by simp only [put_size, hsz]; decide))) (eval_same _ _ _ (by simp only [put_size, hsz]; decide)) HXL.out HZ6.out (fun wz hz gz => ⟨HC6.out.past gz (by omega), ?_⟩)
            have HF := Lib.hid (HC6.out.past gz (show G < G5 by omega))
            have HZF := Lib.hid hz
            clear gz hz
            show NoPanic _ .normal _ _
            refine NoPanic.normal ?_
            rw [HAA.out]
            go_frame
            go_wp2_with fail
            go_meet
            exact ⟨rfl, rfl, rfl, _, rfl, HZF.out, HF.out, by omega⟩
        · skip
          refine at_allocKey po6 d6 (wanted_of gd6) q6 (fun G8 wn8 hz8 hn8 hl8 => ⟨HC0.out.on hn8, ?_⟩)
          have HC8 := Lib.hid (HC0.out.on hn8)
          have HZ8 := Lib.hid hz8
          have hG8 : G < G8 := Nat.lt_of_lt_of_le HC0.out.s.size hl8
          clear hn8 hz8 hl8
          refine at_call po4 d4 (wanted_of gd4) (run_callf2 q4 rfl ((eval_other _ 8 18 _ (by decide)).trans ((eval_other _ 17 18 _ (by decide)).trans ((eval_other _ 19 18 _ (by decide)).trans (eval_same _ _ _ (by simp only [put_size, hsz]; decide))))) ((eval_other _ 8 19 _ (by decide)).trans ((eval_other _ 17 19 _ (by decide)).trans (eval_same _ _ _ (by simp only [put_size, hsz]; decide)))) Try.func15 (by kernel_rfl) _) (sumTag_any s d _ HSL.out HDL.out) (fun wn9 hn9 => ⟨HC8.out.on hn9, ?_⟩)
          have HC9 := Lib.hid (HC8.out.on hn9)
          have HZ9 := Lib.hid (HZ8.out.keep hn9)
          clear hn9
          refine at_call po5 d5 (wanted_of gd5) (run_callf2 q5 rfl ((eval_other _ 20 17 _ (by decide)).trans ((eval_other _ 8 17 _ (by decide)).trans (eval_same _ _ _ (by simp only [put_size, hsz]; decide)))) (eval_same _ _ _ (by simp only [put_size, hsz]; decide)) Try.func14 (by kernel_rfl) _) (with_any ((key.drop 0).take 16) (addB s d 16) _ HFL.out (addB_length _ _ _)) (fun wn10 hn10 => ⟨HC9.out.on hn10, ?_⟩)
          have HC10 := Lib.hid (HC9.out.on hn10)
          have HZ10 := Lib.hid (HZ9.out.keep hn10)
          clear hn10
          refine at_storeKey po7 d7 (wanted_of gd7) q7 ((eval_other _ 21 8 _ (by decide)).trans ((eval_other _ 20 8 _ (by decide)).trans (eval_same _ _ _ (by simp only [put_size, hsz]; decide)))) (eval_same _ _ _ (by simp only [put_size, hsz]; decide)) HXL.out HZ10.out (fun wz hz gz => ⟨HC10.out.past gz (by omega), ?_⟩)
          have HF := Lib.hid (HC10.out.past gz (show G < G8 by omega))
          have HZF := Lib.hid hz
          clear gz hz
          show NoPanic _ .normal _ _
          refine NoPanic.normal ?_
          rw [HAA.out]
          go_frame
          go_wp2_with fail
          go_meet
          exact ⟨rfl, rfl, rfl, _, rfl, HZF.out, HF.out, by omega⟩
      · skip
        refine at_allocKey po6 d6 (wanted_of gd6) q6 (fun G12 wn12 hz12 hn12 hl12 => ⟨HSD.out.on hn12, ?_⟩)
        have HC12 := Lib.hid (HSD.out.on hn12)
        have HZ12 := Lib.hid hz12
        have hG12 : G < G12 := Nat.lt_of_lt_of_le HSD.out.s.size hl12
        clear hn12 hz12 hl12
        refine at_call po1 d1 (wanted_of gd1) (run_callf2 q1 rfl ((eval_other _ 8 16 _ (by decide)).trans ((eval_other _ 19 16 _ (by decide)).trans ((eval_other _ 18 16 _ (by decide)).trans (eval_same _ _ _ (by rw [hsz]; decide))))) rfl Try.func13 (by kernel_rfl) _) (half_any key 0 _ HKL.out (by omega)) (fun wn13 hn13 => ⟨HC12.out.on hn13, ?_⟩)
        have HC13 := Lib.hid (HC12.out.on hn13)
        have HZ13 := Lib.hid (HZ12.out.keep hn13)
        clear hn13
        refine at_call po4 d4 (wanted_of gd4) (run_callf2 q4 rfl ((eval_other _ 17 18 _ (by decide)).trans ((eval_other _ 8 18 _ (by decide)).trans ((eval_other _ 19 18 _ (by decide)).trans (eval_same _ _ _ (by simp only [put_size, hsz]; decide))))) ((eval_other _ 17 19 _ (by decide)).trans ((eval_other _ 8 19 _ (by decide)).trans (eval_same _ _ _ (by simp only [put_size, hsz]; decide)))) Try.func15 (by kernel_rfl) _) (sumTag_any s d _ HSL.out HDL.out) (fun wn14 hn14 => ⟨HC13.out.on hn14, ?_⟩)
        have HC14 := Lib.hid (HC13.out.on hn14)
        have HZ14 := Lib.hid (HZ13.out.keep hn14)
        clear hn14
        refine at_call po5 d5 (wanted_of gd5) (run_callf2 q5 rfl ((eval_other _ 20 17 _ (by decide)).trans (eval_same _ _ _ (by simp only [put_size, hsz]; decide))) (eval_same _ _ _ (by simp only [put_size, hsz]; decide)) Try.func14 (by kernel_rfl) _) (with_any ((key.drop 0).take 16) (addB s d 16) _ HFL.out (addB_length _ _ _)) (fun wn15 hn15 => ⟨HC14.out.on hn15, ?_⟩)
        have HC15 := Lib.hid (HC14.out.on hn15)
        have HZ15 := Lib.hid (HZ14.out.keep hn15)
        clear hn15
        refine at_storeKey po7 d7 (wanted_of gd7) q7 ((eval_other _ 21 8 _ (by decide)).trans ((eval_other _ 20 8 _ (by decide)).trans ((eval_other _ 17 8 _ (by decide)).trans (eval_same _ _ _ (by simp only [put_size, hsz]; decide))))) (eval_same _ _ _ (by simp only [put_size, hsz]; decide)) HXL.out HZ15.out (fun wz hz gz => ⟨HC15.out.past gz (by omega), ?_⟩)
        have HF := Lib.hid (HC15.out.past gz (show G < G12 by omega))
        have HZF := Lib.hid hz
        clear gz hz
        show NoPanic _ .normal _ _
        refine NoPanic.normal ?_
        rw [HAA.out]
        go_frame
        go_wp2_with fail
        go_meet
        exact ⟨rfl, rfl, rfl, _, rfl, HZF.out, HF.out, by omega⟩
    case rest =>
      clear HSD
      obtain ⟨rfl, rfl, rfl, G8, rfl, hX, hM, hG8⟩ := hcut
      rw [HFE.out] at hX
      have HM1 := Lib.hid hM
      have HX1 := Lib.hid hX
      clear hX hM HXL
      have HROW := Lib.hid (show wc.heap[G]? = some (.cells (bytesV s).toArray 28 (0, 0)) from HM1.out.s)
      have HXL : Hid ((key.take 16 ++ addB s d 16).length = 32) := show _ = _ by rw [List.length_append, List.length_take, HKL.out, addB_length]; rfl
      have HYL : Hid ((zeros16 ++ s).length = 32) := show _ = _ by rw [List.length_append, HSL.out]; unfold zeros16; rfl
      have HIY := Lib.hid (infoKey _ HYL.out)
      have HYO := Lib.hid (show (#[Value.int .u8 0, Value.int .u8 0, Value.int .u8 0, Value.int .u8 0, Value.int .u8 0, Value.int .u8 0, Value.int .u8 0, Value.int .u8 0, Value.int .u8 0, Value.int .u8 0, Value.int .u8 0, Value.int .u8 0, Value.int .u8 0, Value.int .u8 0, Value.int .u8 0, Value.int .u8 0, Value.int .u8 0, Value.int .u8 0, Value.int .u8 0, Value.int .u8 0, Value.int .u8 0, Value.int .u8 0, Value.int .u8 0, Value.int .u8 0, Value.int .u8 0, Value.int .u8 0, Value.int .u8 0, Value.int .u8 0, Value.int .u8 0, Value.int .u8 0, Value.int .u8 0, Value.int .u8 0] : Array Value).size = (bytesV (zeros16 ++ s)).toArray.size by rw [bytesV_size _ 32 HYL.out]; rfl)
      have HYE := Lib.hid (bytesV_one (zeros16 ++ s))
      go_wp2_with (refine wpList_load_row rfl 28 (.tmp 7) rfl G rfl 28 _ (0, 0) _ HROW.out Try.underlying28 rfl HIS.out ?_)
      refine (with_none s wc HSL.out).mono ?_
      rintro e w3 ⟨rfl, hb3⟩
      have HM3 := Lib.hid (HM1.out.on hb3)
      have HX3 := Lib.hid (HX1.out.keep hb3)
      clear hb3 HM1 HX1 HROW
      go_upto_region 6 with (refine wpList_store_new rfl 23 (.tmp 9) (.tmp 24) rfl w3.heap.size rfl (bytesV (zeros16 ++ s)).toArray rfl rfl HIY.out HYO.out HYE.out ?_; intro w4 h4 hb4; have H4 := Lib.hid h4; have HB4 := Lib.hid hb4; clear h4 hb4)
      rw [put_none]
      obtain ⟨G9, hG9⟩ : ∃ G9, G9 = w3.heap.size := ⟨_, rfl⟩
      rw [← hG9]
      have hbd : Below w3.heap.size w3 w4.drew := HB4.out.trans (((Below.refl _ w4).drew).mono HB4.out.size)
      have H0 : Hid (MvW w key d G s w4.drew) := show MvW _ _ _ _ _ _ from HM3.out.on hbd
      have HX0 := Lib.hid (HX3.out.keep hbd)
      have HY0 : Hid (BytesAt w4.drew G9 23 (zeros16 ++ s)) := show BytesAt _ _ _ _ by rw [hG9]; exact H4.out
      clear hG9 hbd HM3 HX3 H4 HB4 HIY HYO HYE
      refine region_phase (fun w1 => MvW w key d G s w1 ∧ BytesAt w1 G8 23 (key.take 16 ++ addB s d 16) ∧ BytesAt w1 G9 23 (zeros16 ++ s)) (fun _ => True) 2 ⟨H0.out, HX0.out, HY0.out⟩ trivial [(0, .free), (1, .free), (3, .free), (4, .free), (6, .free), (2, .behind), (5, .behind), (7, .behind), (8, .free), (9, .free), (10, .free), (12, .free), (11, .behind), (13, .free), (14, .free), (15, .free), (16, .free), (17, .free), (19, .free), (18, .behind), (20, .free), (21, .free), (22, .free), (23, .behind), (24, .free), (25, .free)] (by kernel_rfl) (by kernel_rfl) (by kernel_rfl) (by kernel_rfl) (fun ops hops A2 hA => ?_)
      have hsz : A2.tmps.size = 50 := by rw [hA]; rfl
      have base2 : A2.eval (.tmp 2) = .slice p m cap := by rw [hA]; rfl
      have base3 : A2.eval (.tmp 3) = .pointer (some ⟨w.heap.size, 0, none⟩) := by rw [hA]; rfl
      have base4 : A2.eval (.tmp 4) = .pointer (some ⟨w.heap.size + 1, 0, none⟩) := by rw [hA]; rfl
      have base7 : A2.eval (.tmp 7) = .pointer (some ⟨G, 0, none⟩) := by rw [hA]; rfl
      have base8 : A2.eval (.tmp 8) = .pointer (some ⟨G8, 0, none⟩) := by rw [hA]; rfl
      have base9 : A2.eval (.tmp 9) = .pointer (some ⟨G9, 0, none⟩) := by rw [hA]; rfl
      have HAA := Lib.hid hA; clear hA
      obtain ⟨o0, po0, q0, d0, gd0⟩ : ∃ o, ops[0]? = some o ∧ o.op = .load 23 (.tmp 8) ∧ o.dst = some 25 ∧ o.guard = none := ⟨_, by rw [hops]; rfl, rfl, rfl, rfl⟩
      obtain ⟨o1, po1, q1, d1, gd1⟩ : ∃ o, ops[1]? = some o ∧ o.op = .move (.tmp 2) ∧ o.dst = some 26 ∧ o.guard = none := ⟨_, by rw [hops]; rfl, rfl, rfl, rfl⟩
      obtain ⟨o2, po2, q2, d2, gd2⟩ : ∃ o, ops[2]? = some o ∧ o.op = .call { callee := .value (.func 10), args := #[.tmp 25, .tmp 26], argTypes := #[23, 24] } ∧ o.dst = some 27 ∧ o.guard = none := ⟨_, by rw [hops]; rfl, rfl, rfl, rfl⟩
      obtain ⟨o3, po3, q3, d3, gd3⟩ : ∃ o, ops[3]? = some o ∧ o.op = .load 23 (.tmp 3) ∧ o.dst = some 28 ∧ o.guard = none := ⟨_, by rw [hops]; rfl, rfl, rfl, rfl⟩
      obtain ⟨o4, po4, q4, d4, gd4⟩ : ∃ o, ops[4]? = some o ∧ o.op = .move (.tmp 2) ∧ o.dst = some 29 ∧ o.guard = none := ⟨_, by rw [hops]; rfl, rfl, rfl, rfl⟩
      obtain ⟨o5, po5, q5, d5, gd5⟩ : ∃ o, ops[5]? = some o ∧ o.op = .call { callee := .value (.func 10), args := #[.tmp 28, .tmp 29], argTypes := #[23, 24] } ∧ o.dst = some 30 ∧ o.guard = none := ⟨_, by rw [hops]; rfl, rfl, rfl, rfl⟩
      obtain ⟨o6, po6, q6, d6, gd6⟩ : ∃ o, ops[6]? = some o ∧ o.op = .load 28 (.tmp 4) ∧ o.dst = some 31 ∧ o.guard = none := ⟨_, by rw [hops]; rfl, rfl, rfl, rfl⟩
      obtain ⟨o7, po7, q7, d7, gd7⟩ : ∃ o, ops[7]? = some o ∧ o.op = .call { callee := .value (.func 15), args := #[.tmp 30, .tmp 31], argTypes := #[28, 28] } ∧ o.dst = some 32 ∧ o.guard = none := ⟨_, by rw [hops]; rfl, rfl, rfl, rfl⟩
      obtain ⟨o8, po8, q8, d8, gd8⟩ : ∃ o, ops[8]? = some o ∧ o.op = .binOp .eql 28 (.tmp 27) (.tmp 32) 28 ∧ o.dst = some 33 ∧ o.guard = none := ⟨_, by rw [hops]; rfl, rfl, rfl, rfl⟩
      obtain ⟨o9, po9, q9, d9, gd9⟩ : ∃ o, ops[9]? = some o ∧ o.op = .move (.tmp 33) ∧ o.dst = some 34 ∧ o.guard = none := ⟨_, by rw [hops]; rfl, rfl, rfl, rfl⟩
      obtain ⟨o10, po10, q10, d10, gd10⟩ : ∃ o, ops[10]? = some o ∧ o.op = .load 23 (.tmp 3) ∧ o.dst = some 35 ∧ o.guard = some (9, true) := ⟨_, by rw [hops]; rfl, rfl, rfl, rfl⟩
      obtain ⟨o11, po11, q11, d11, gd11⟩ : ∃ o, ops[11]? = some o ∧ o.op = .call { callee := .value (.func 10), args := #[.tmp 35, .const (.slice none 0 0)], argTypes := #[23, 24] } ∧ o.dst = some 36 ∧ o.guard = some (9, true) := ⟨_, by rw [hops]; rfl, rfl, rfl, rfl⟩
      obtain ⟨o12, po12, q12, d12, gd12⟩ : ∃ o, ops[12]? = some o ∧ o.op = .load 28 (.tmp 7) ∧ o.dst = some 37 ∧ o.guard = some (9, true) := ⟨_, by rw [hops]; rfl, rfl, rfl, rfl⟩
      obtain ⟨o13, po13, q13, d13, gd13⟩ : ∃ o, ops[13]? = some o ∧ o.op = .binOp .eql 28 (.tmp 36) (.tmp 37) 28 ∧ o.dst = some 38 ∧ o.guard = some (9, true) := ⟨_, by rw [hops]; rfl, rfl, rfl, rfl⟩
      obtain ⟨o14, po14, q14, d14, gd14⟩ : ∃ o, ops[14]? = some o ∧ o.op = .pick (.tmp 34) (.tmp 38) (.const (.bool false)) ∧ o.dst = some 39 ∧ o.guard = none := ⟨_, by rw [hops]; rfl, rfl, rfl, rfl⟩
      obtain ⟨o15, po15, q15, d15, gd15⟩ : ∃ o, ops[15]? = some o ∧ o.op = .move (.tmp 39) ∧ o.dst = some 40 ∧ o.guard = none := ⟨_, by rw [hops]; rfl, rfl, rfl, rfl⟩
      obtain ⟨o16, po16, q16, d16, gd16⟩ : ∃ o, ops[16]? = some o ∧ o.op = .load 23 (.tmp 9) ∧ o.dst = some 41 ∧ o.guard = some (15, true) := ⟨_, by rw [hops]; rfl, rfl, rfl, rfl⟩
      obtain ⟨o17, po17, q17, d17, gd17⟩ : ∃ o, ops[17]? = some o ∧ o.op = .move (.tmp 2) ∧ o.dst = some 42 ∧ o.guard = some (15, true) := ⟨_, by rw [hops]; rfl, rfl, rfl, rfl⟩
      obtain ⟨o18, po18, q18, d18, gd18⟩ : ∃ o, ops[18]? = some o ∧ o.op = .call { callee := .value (.func 10), args := #[.tmp 41, .tmp 42], argTypes := #[23, 24] } ∧ o.dst = some 43 ∧ o.guard = some (15, true) := ⟨_, by rw [hops]; rfl, rfl, rfl, rfl⟩
      obtain ⟨o19, po19, q19, d19, gd19⟩ : ∃ o, ops[19]? = some o ∧ o.op = .load 28 (.tmp 7) ∧ o.dst = some 44 ∧ o.guard = some (15, true) := ⟨_, by rw [hops]; rfl, rfl, rfl, rfl⟩
      obtain ⟨o20, po20, q20, d20, gd20⟩ : ∃ o, ops[20]? = some o ∧ o.op = .binOp .eql 28 (.tmp 43) (.tmp 44) 28 ∧ o.dst = some 45 ∧ o.guard = some (15, true) := ⟨_, by rw [hops]; rfl, rfl, rfl, rfl⟩
      obtain ⟨o21, po21, q21, d21, gd21⟩ : ∃ o, ops[21]? = some o ∧ o.op = .pick (.tmp 40) (.tmp 45) (.const (.bool false)) ∧ o.dst = some 46 ∧ o.guard = none := ⟨_, by rw [hops]; rfl, rfl, rfl, rfl⟩
      obtain ⟨o22, po22, q22, d22, gd22⟩ : ∃ o, ops[22]? = some o ∧ o.op = .move (.tmp 46) ∧ o.dst = some 47 ∧ o.guard = none := ⟨_, by rw [hops]; rfl, rfl, rfl, rfl⟩
      obtain ⟨o23, po23, q23, d23, gd23⟩ : ∃ o, ops[23]? = some o ∧ o.op = .call { callee := .value (.func 8), args := #[], argTypes := #[] } ∧ o.dst = some 48 ∧ o.guard = some (22, true) := ⟨_, by rw [hops]; rfl, rfl, rfl, rfl⟩
      obtain ⟨o24, po24, q24, d24, gd24⟩ : ∃ o, ops[24]? = some o ∧ o.op = .pick (.tmp 47) (.tmp 48) (.const (.bool false)) ∧ o.dst = some 49 ∧ o.guard = none := ⟨_, by rw [hops]; rfl, rfl, rfl, rfl⟩
      obtain ⟨o25, po25, q25, d25, gd25⟩ : ∃ o, ops[25]? = some o ∧ o.op = .assign (.tmp 49) ∧ o.dst = some 6 ∧ o.guard = none := ⟨_, by rw [hops]; rfl, rfl, rfl, rfl⟩
      clear hops
      refine met_free po0 d0 (wanted_of gd0) (fun w' h' => run_loadKey q0 base8 HXL.out h'.2.1) ?_
      refine met_free po1 d1 (wanted_of gd1) (fun w' _ => run_move q1 ((eval_other _ 25 2 _ (by decide)).trans base2) w') ?_
      refine met_free po3 d3 (wanted_of gd3) (fun w' h' => run_loadKey q3 ((eval_other _ 26 3 _ (by decide)).trans ((eval_other _ 25 3 _ (by decide)).trans base3)) HKL.out h'.1.key) ?_
      refine met_free po4 d4 (wanted_of gd4) (fun w' _ => run_move q4 ((eval_other _ 28 2 _ (by decide)).trans ((eval_other _ 26 2 _ (by decide)).trans ((eval_other _ 25 2 _ (by decide)).trans base2))) w') ?_
      refine met_free po6 d6 (wanted_of gd6) (fun w' h' => run_loadTag q6 ((eval_other _ 29 4 _ (by decide)).trans ((eval_other _ 28 4 _ (by decide)).trans ((eval_other _ 26 4 _ (by decide)).trans ((eval_other _ 25 4 _ (by decide)).trans base4)))) HDL.out h'.1.d) ?_
      refine met_enterA po2 d2 (wanted_of gd2) (run_callf2 q2 rfl ((eval_other _ 31 25 _ (by decide)).trans ((eval_other _ 29 25 _ (by decide)).trans ((eval_other _ 28 25 _ (by decide)).trans ((eval_other _ 26 25 _ (by decide)).trans (eval_same _ _ _ (by rw [hsz]; decide)))))) ((eval_other _ 31 26 _ (by decide)).trans ((eval_other _ 29 26 _ (by decide)).trans ((eval_other _ 28 26 _ (by decide)).trans (eval_same _ _ _ (by simp only [put_size, hsz]; decide))))) Try.func10 (by kernel_rfl) _) (polySum_any (key.take 16 ++ addB s d 16) bs m p cap _ HXL.out HM.out hc hcm (HL.out.below H0.out.below)) ?_
      rintro e v0 ⟨rfl, hb0⟩
      have H1 := Lib.hid (H0.out.on hb0)
      have HX1 := Lib.hid (HX0.out.keep hb0)
      have HY1 := Lib.hid (HY0.out.keep hb0)
      clear hb0 H0 HX0 HY0
      rw [HT1.out]
      refine ⟨_, rfl, ⟨H1.out, HX1.out, HY1.out⟩, ?_⟩
      refine met_enterA po5 d5 (wanted_of gd5) (run_callf2 q5 rfl ((eval_other _ 27 28 _ (by decide)).trans ((eval_other _ 31 28 _ (by decide)).trans ((eval_other _ 29 28 _ (by decide)).trans (eval_same _ _ _ (by simp only [put_size, hsz]; decide))))) ((eval_other _ 27 29 _ (by decide)).trans ((eval_other _ 31 29 _ (by decide)).trans (eval_same _ _ _ (by simp only [put_size, hsz]; decide)))) Try.func10 (by kernel_rfl) _) (polySum_any key bs m p cap _ HKL.out HM.out hc hcm (HL.out.below H1.out.below)) ?_
      rintro e v1 ⟨rfl, hb1⟩
      have H2 := Lib.hid (H1.out.on hb1)
      have HX2 := Lib.hid (HX1.out.keep hb1)
      have HY2 := Lib.hid (HY1.out.keep hb1)
      clear hb1 H1 HX1 HY1
      refine ⟨_, rfl, ⟨H2.out, HX2.out, HY2.out⟩, ?_⟩
      refine met_enterA po7 d7 (wanted_of gd7) (run_callf2 q7 rfl (eval_same _ _ _ (by simp only [put_size, hsz]; decide)) ((eval_other _ 30 31 _ (by decide)).trans ((eval_other _ 27 31 _ (by decide)).trans (eval_same _ _ _ (by simp only [put_size, hsz]; decide)))) Try.func15 (by kernel_rfl) _) (sumTag_any (polyTag key bs) d _ (polyTag_length _ _) HDL.out) ?_
      rintro e v2 ⟨rfl, hb2⟩
      have H3 := Lib.hid (H2.out.on hb2)
      have HX3 := Lib.hid (HX2.out.keep hb2)
      have HY3 := Lib.hid (HY2.out.keep hb2)
      clear hb2 H2 HX2 HY2
      refine ⟨_, rfl, ⟨H3.out, HX3.out, HY3.out⟩, ?_⟩
      refine met_free po8 d8 (wanted_of gd8) (fun w' _ => run_eql_tag q8 (addB_length _ _ _) ((eval_other _ 32 27 _ (by decide)).trans ((eval_other _ 30 27 _ (by decide)).trans (eval_same _ _ _ (by simp only [put_size, hsz]; decide)))) (eval_same _ _ _ (by simp only [put_size, hsz]; decide)) w') ?_
      refine met_free po9 d9 (wanted_of gd9) (fun w' _ => run_move q9 (eval_same _ _ _ (by simp only [put_size, hsz]; decide)) w') ?_
      refine met_free po10 d10 (wanted_guard gd10 po9 d9 (eval_same _ _ _ (by simp only [put_size, hsz]; decide))) (fun w' h' => run_loadKey q10 ((eval_other _ 34 3 _ (by decide)).trans ((eval_other _ 33 3 _ (by decide)).trans ((eval_other _ 32 3 _ (by decide)).trans ((eval_other _ 30 3 _ (by decide)).trans ((eval_other _ 27 3 _ (by decide)).trans ((eval_other _ 31 3 _ (by decide)).trans ((eval_other _ 29 3 _ (by decide)).trans ((eval_other _ 28 3 _ (by decide)).trans ((eval_other _ 26 3 _ (by decide)).trans ((eval_other _ 25 3 _ (by decide)).trans base3)))))))))) HKL.out h'.1.key) ?_
      refine met_free po12 d12 (wanted_guard gd12 po9 d9 ((eval_other _ 35 34 _ (by decide)).trans (eval_same _ _ _ (by simp only [put_size, hsz]; decide)))) (fun w' h' => run_loadTag q12 ((eval_other _ 35 7 _ (by decide)).trans ((eval_other _ 34 7 _ (by decide)).trans ((eval_other _ 33 7 _ (by decide)).trans ((eval_other _ 32 7 _ (by decide)).trans ((eval_other _ 30 7 _ (by decide)).trans ((eval_other _ 27 7 _ (by decide)).trans ((eval_other _ 31 7 _ (by decide)).trans ((eval_other _ 29 7 _ (by decide)).trans ((eval_other _ 28 7 _ (by decide)).trans ((eval_other _ 26 7 _ (by decide)).trans ((eval_other _ 25 7 _ (by decide)).trans base7))))))))))) HSL.out h'.1.s) ?_
      refine met_enterA po11 d11 (wanted_guard gd11 po9 d9 ((eval_other _ 37 34 _ (by decide)).trans ((eval_other _ 35 34 _ (by decide)).trans (eval_same _ _ _ (by simp only [put_size, hsz]; decide))))) (run_callf2 q11 rfl ((eval_other _ 37 35 _ (by decide)).trans (eval_same _ _ _ (by simp only [put_size, hsz]; decide))) rfl Try.func10 (by kernel_rfl) _) (polySum_any key [] 0 none 0 _ HKL.out rfl (Nat.le_refl _) (by omega) (Or.inl rfl)) ?_
      rintro e v3 ⟨rfl, hb3⟩
      have H4 := Lib.hid (H3.out.on hb3)
      have HX4 := Lib.hid (HX3.out.keep hb3)
      have HY4 := Lib.hid (HY3.out.keep hb3)
      clear hb3 H3 HX3 HY3
      rw [HT2.out]
      refine ⟨_, rfl, ⟨H4.out, HX4.out, HY4.out⟩, ?_⟩
      refine met_free po13 d13 (wanted_guard gd13 po9 d9 ((eval_other _ 36 34 _ (by decide)).trans ((eval_other _ 37 34 _ (by decide)).trans ((eval_other _ 35 34 _ (by decide)).trans (eval_same _ _ _ (by simp only [put_size, hsz]; decide)))))) (fun w' _ => run_eql_tag q13 HSL.out (eval_same _ _ _ (by simp only [put_size, hsz]; decide)) ((eval_other _ 36 37 _ (by decide)).trans (eval_same _ _ _ (by simp only [put_size, hsz]; decide))) w') ?_
      refine met_free po14 d14 (wanted_of gd14) (fun w' _ => run_pick_true q14 ((eval_other _ 38 34 _ (by decide)).trans ((eval_other _ 36 34 _ (by decide)).trans ((eval_other _ 37 34 _ (by decide)).trans ((eval_other _ 35 34 _ (by decide)).trans (eval_same _ _ _ (by simp only [put_size, hsz]; decide)))))) (eval_same _ _ _ (by simp only [put_size, hsz]; decide)) w') ?_
      refine met_free po15 d15 (wanted_of gd15) (fun w' _ => run_move q15 (eval_same _ _ _ (by simp only [put_size, hsz]; decide)) w') ?_
      refine met_free po16 d16 (wanted_guard gd16 po15 d15 (eval_same _ _ _ (by simp only [put_size, hsz]; decide))) (fun w' h' => run_loadKey q16 ((eval_other _ 40 9 _ (by decide)).trans ((eval_other _ 39 9 _ (by decide)).trans ((eval_other _ 38 9 _ (by decide)).trans ((eval_other _ 36 9 _ (by decide)).trans ((eval_other _ 37 9 _ (by decide)).trans ((eval_other _ 35 9 _ (by decide)).trans ((eval_other _ 34 9 _ (by decide)).trans ((eval_other _ 33 9 _ (by decide)).trans ((eval_other _ 32 9 _ (by decide)).trans ((eval_other _ 30 9 _ (by decide)).trans ((eval_other _ 27 9 _ (by decide)).trans ((eval_other _ 31 9 _ (by decide)).trans ((eval_other _ 29 9 _ (by decide)).trans ((eval_other _ 28 9 _ (by decide)).trans ((eval_other _ 26 9 _ (by decide)).trans ((eval_other _ 25 9 _ (by decide)).trans base9)))))))))))))))) HYL.out h'.2.2) ?_
      refine met_free po17 d17 (wanted_guard gd17 po15 d15 ((eval_other _ 41 40 _ (by decide)).trans (eval_same _ _ _ (by simp only [put_size, hsz]; decide)))) (fun w' _ => run_move q17 ((eval_other _ 41 2 _ (by decide)).trans ((eval_other _ 40 2 _ (by decide)).trans ((eval_other _ 39 2 _ (by decide)).trans ((eval_other _ 38 2 _ (by decide)).trans ((eval_other _ 36 2 _ (by decide)).trans ((eval_other _ 37 2 _ (by decide)).trans ((eval_other _ 35 2 _ (by decide)).trans ((eval_other _ 34 2 _ (by decide)).trans ((eval_other _ 33 2 _ (by decide)).trans ((eval_other _ 32 2 _ (by decide)).trans ((eval_other _ 30 2 _ (by decide)).trans ((eval_other _ 27 2 _ (by decide)).trans ((eval_other _ 31 2 _ (by decide)).trans ((eval_other _ 29 2 _ (by decide)).trans ((eval_other _ 28 2 _ (by decide)).trans ((eval_other _ 26 2 _ (by decide)).trans ((eval_other _ 25 2 _ (by decide)).trans base2))))))))))))))))) w') ?_
      refine met_free po19 d19 (wanted_guard gd19 po15 d15 ((eval_other _ 42 40 _ (by decide)).trans ((eval_other _ 41 40 _ (by decide)).trans (eval_same _ _ _ (by simp only [put_size, hsz]; decide))))) (fun w' h' => run_loadTag q19 ((eval_other _ 42 7 _ (by decide)).trans ((eval_other _ 41 7 _ (by decide)).trans ((eval_other _ 40 7 _ (by decide)).trans ((eval_other _ 39 7 _ (by decide)).trans ((eval_other _ 38 7 _ (by decide)).trans ((eval_other _ 36 7 _ (by decide)).trans ((eval_other _ 37 7 _ (by decide)).trans ((eval_other _ 35 7 _ (by decide)).trans ((eval_other _ 34 7 _ (by decide)).trans ((eval_other _ 33 7 _ (by decide)).trans ((eval_other _ 32 7 _ (by decide)).trans ((eval_other _ 30 7 _ (by decide)).trans ((eval_other _ 27 7 _ (by decide)).trans ((eval_other _ 31 7 _ (by decide)).trans ((eval_other _ 29 7 _ (by decide)).trans ((eval_other _ 28 7 _ (by decide)).trans ((eval_other _ 26 7 _ (by decide)).trans ((eval_other _ 25 7 _ (by decide)).trans base7)))))))))))))))))) HSL.out h'.1.s) ?_
      refine met_enterA po18 d18 (wanted_guard gd18 po15 d15 ((eval_other _ 44 40 _ (by decide)).trans ((eval_other _ 42 40 _ (by decide)).trans ((eval_other _ 41 40 _ (by decide)).trans (eval_same _ _ _ (by simp only [put_size, hsz]; decide)))))) (run_callf2 q18 rfl ((eval_other _ 44 41 _ (by decide)).trans ((eval_other _ 42 41 _ (by decide)).trans (eval_same _ _ _ (by simp only [put_size, hsz]; decide)))) ((eval_other _ 44 42 _ (by decide)).trans (eval_same _ _ _ (by simp only [put_size, hsz]; decide))) Try.func10 (by kernel_rfl) _) (polySum_any (zeros16 ++ s) bs m p cap _ HYL.out HM.out hc hcm (HL.out.below H4.out.below)) ?_
      rintro e v4 ⟨rfl, hb4⟩
      have H5 := Lib.hid (H4.out.on hb4)
      have HX5 := Lib.hid (HX4.out.keep hb4)
      have HY5 := Lib.hid (HY4.out.keep hb4)
      clear hb4 H4 HX4 HY4
      rw [HT3.out]
      refine ⟨_, rfl, ⟨H5.out, HX5.out, HY5.out⟩, ?_⟩
      refine met_free po20 d20 (wanted_guard gd20 po15 d15 ((eval_other _ 43 40 _ (by decide)).trans ((eval_other _ 44 40 _ (by decide)).trans ((eval_other _ 42 40 _ (by decide)).trans ((eval_other _ 41 40 _ (by decide)).trans (eval_same _ _ _ (by simp only [put_size, hsz]; decide))))))) (fun w' _ => run_eql_tag q20 HSL.out (eval_same _ _ _ (by simp only [put_size, hsz]; decide)) ((eval_other _ 43 44 _ (by decide)).trans (eval_same _ _ _ (by simp only [put_size, hsz]; decide))) w') ?_
      refine met_free po21 d21 (wanted_of gd21) (fun w' _ => run_pick_true q21 ((eval_other _ 45 40 _ (by decide)).trans ((eval_other _ 43 40 _ (by decide)).trans ((eval_other _ 44 40 _ (by decide)).trans ((eval_other _ 42 40 _ (by decide)).trans ((eval_other _ 41 40 _ (by decide)).trans (eval_same _ _ _ (by simp only [put_size, hsz]; decide))))))) (eval_same _ _ _ (by simp only [put_size, hsz]; decide)) w') ?_
      refine met_free po22 d22 (wanted_of gd22) (fun w' _ => run_move q22 (eval_same _ _ _ (by simp only [put_size, hsz]; decide)) w') ?_
      refine met_enterA po23 d23 (wanted_guard gd23 po22 d22 (eval_same _ _ _ (by simp only [put_size, hsz]; decide))) (run_callf0 q23 rfl Try.func8 (by kernel_rfl) _) (known_any _) ?_
      rintro e v5 ⟨rfl, hb5⟩
      have H6 := Lib.hid (H5.out.on hb5)
      have HX6 := Lib.hid (HX5.out.keep hb5)
      have HY6 := Lib.hid (HY5.out.keep hb5)
      clear hb5 H5 HX5 HY5
      refine ⟨_, rfl, ⟨H6.out, HX6.out, HY6.out⟩, ?_⟩
      refine met_free po24 d24 (wanted_of gd24) (fun w' _ => run_pick_true q24 ((eval_other _ 48 47 _ (by decide)).trans (eval_same _ _ _ (by simp only [put_size, hsz]; decide))) (eval_same _ _ _ (by simp only [put_size, hsz]; decide)) w') ?_
      refine met_free po25 d25 (wanted_of gd25) (fun w' _ => run_assign q25 (eval_same _ _ _ (by simp only [put_size, hsz]; decide)) w') ?_
      show NoPanic _ .normal _ _
      refine NoPanic.normal ?_
      rw [HAA.out]
      go_frame
      clear HAA
      go_wp2_with fail
      go_ret
      exact ⟨rfl, H6.out.below⟩
end Go.Proofs.Ytgfmjfpafpmghaa
