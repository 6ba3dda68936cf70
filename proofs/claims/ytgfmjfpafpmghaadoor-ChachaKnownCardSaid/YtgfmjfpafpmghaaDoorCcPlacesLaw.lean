/-
  The walk of the law ChachaPlaces: for any key, counter, nonce, bytes, place and bits it returns true, and nothing that was there changes.
-/
import Derived.Test.YtgfmjfpafpmghaaDoorCcPlaces
namespace Go.Proofs.YtgfmjfpafpmghaaDoor
open Go.RowKit Go.Proofs.ShaWords
attribute [local go_sem] xor8

/-- What the law has: the boxes, what Xor made, what it made of the turned bytes. -/
structure PlW (w : World) (key nonce xs ys : List (BitVec 8)) (g1 c1 g2 c2 n : Nat) (wr : World) : Prop where
  two : TwoW w key nonce wr
  x : Own w.heap.size wr xs (.slice (some ⟨g1, 0, none⟩) n c1)
  y : Own w.heap.size wr ys (.slice (some ⟨g2, 0, none⟩) n c2)
theorem PlW.on {w wr w' : World} {key nonce xs ys : List (BitVec 8)} {g1 c1 g2 c2 n : Nat} (h : PlW w key nonce xs ys g1 c1 g2 c2 n wr) (hb : Below wr.heap.size wr w') : PlW w key nonce xs ys g1 c1 g2 c2 n w' := ⟨h.two.on hb, h.x.below hb, h.y.below hb⟩
theorem Own.base {B B' : Nat} {w : World} {l : List (BitVec 8)} {v : Value} (h : Own B w l v) (hb : B' ≤ B) : Own B' w l v :=
  ⟨h.1, h.2.imp id (fun ⟨g, cap, cur, a, b, r⟩ => ⟨g, cap, cur, a, Nat.le_trans hb b, r⟩)⟩
theorem TwoW.put {w wr : World} {key nonce : List (BitVec 8)} (h : TwoW w key nonce wr) {g : Nat} (hg : w.heap.size + 1 < g) (k : Nat) (v : Value) : TwoW w key nonce (wr.setCell ⟨g, k, none⟩ v) :=
  ⟨h.key.putOther (by omega) _ _, h.nonce.putOther (by omega) _ _, h.below.setCell (by show w.heap.size ≤ g; omega) _⟩
attribute [local irreducible] xorKs
set_option maxRecDepth 100000 in
set_option maxHeartbeats 1000000 in
theorem places_out (key nonce : List (BitVec 8)) (n : Nat) (c : BitVec 32) (p : Option Addr) (cap : Nat) (at' : Int) (t : BitVec 8) (w : World) (h : 8192 < n ∨ n = 0) (hnm : n ≤ 140737488351232) (hq : Quads w) :
    Calls Tryd.prog 26 #[.agg (bytesV key).toArray, .int .u32 (n32 c), .agg (bytesV nonce).toArray, .slice p n cap, .int .i64 at', .int .u8 (n8 t)] w fun e w' => e = .returned (.bool true) ∧ Below w.heap.size w w' := by
  have hqs := hq.size
  have HQ := Lib.hid hq; clear hq
  by_cases h1 : 8192 < n
  · clear h
    go_enter Tryd.func26, Tryd.ntmps26
    go_upto_region 1 with (fail)
    refine wp_gen (TwoW w key nonce) (two_start w key nonce) ?_
    intro w0 hw0
    have HW0 := Lib.hid hw0; clear hw0
    go_wp2_with fail
    refine (works3_any w0 (HQ.out.below HW0.out.below hqs)).mono ?_
    rintro e w1 ⟨rfl, hb1⟩
    have HB1 := Lib.hid (HW0.out.on hb1).below; clear hb1
    go_wp2_with fail
    go_ret
    exact ⟨rfl, HB1.out⟩
  · obtain rfl : n = 0 := by omega
    clear h h1 hnm
    go_enter Tryd.func26, Tryd.ntmps26
    go_upto_region 1 with (fail)
    refine wp_gen (TwoW w key nonce) (two_start w key nonce) ?_
    intro w0 hw0
    have HW0 := Lib.hid hw0; clear hw0
    go_wp2_with fail
    refine (works3_any w0 (HQ.out.below HW0.out.below hqs)).mono ?_
    rintro e w1 ⟨rfl, hb1⟩
    have HB1 := Lib.hid (HW0.out.on hb1).below; clear hb1
    go_wp2_with fail
    go_ret
    exact ⟨rfl, HB1.out⟩
set_option maxRecDepth 100000 in
set_option maxHeartbeats 4000000 in
theorem places_main (key nonce bs : List (BitVec 8)) (n : Nat) (c : BitVec 32) (p : Option Addr) (cap : Nat) (at' : Int) (t : BitVec 8) (w : World) (hbn : bs.length = n) (hcap : n ≤ cap) (hnm : n ≤ 140737488351232) (hk : key.length = 32) (hn : nonce.length = 12) (hL : Lies w p bs) (hq : Quads w) :
    Calls Tryd.prog 26 #[.agg (bytesV key).toArray, .int .u32 (n32 c), .agg (bytesV nonce).toArray, .slice p n cap, .int .i64 at', .int .u8 (n8 t)] w fun e w' => e = .returned (.bool true) ∧ Below w.heap.size w w' := by
  by_cases hout : 8192 < n ∨ n = 0
  · exact places_out key nonce n c p cap at' t w hout hnm hq
  · have hle : n ≤ 8192 := by omega
    have hpos : 1 ≤ n := by omega
    clear hout
    have hqs := hq.size
    have HQ := Lib.hid hq; clear hq
    have HKL := Lib.hid hk; clear hk
    have HNL := Lib.hid hn; clear hn
    obtain ⟨b, off, rfl⟩ : ∃ b off, p = some ⟨b, off, none⟩ := by
      rcases hL with h0 | ⟨b, off, h0, _⟩
      · rw [h0] at hbn; simp at hbn; omega
      · exact ⟨b, off, h0⟩
    have HL := Lib.hid hL; clear hL
    have HBN := Lib.hid hbn; clear hbn
    have HIK := Lib.hid (infoKey key HKL.out)
    have HIN := Lib.hid (infoNonce nonce HNL.out)
    go_enter Tryd.func26, Tryd.ntmps26
    go_upto_region 1 with (fail)
    refine wp_gen (TwoW w key nonce) (two_start w key nonce) ?_
    intro w0 hw0
    have HW0 := Lib.hid hw0; clear hw0
    have hg1 : decide ((8192 : Int) < (n : Int)) = false := by simp; omega
    have hg2 : ((n : Int) == 0) = false := by simp; omega
    go_wp2_with (first
      | (go_at_call 35; refine (pick_any _ _ _ (by omega) (by omega)).mono ?_; rintro e w' ⟨r, hr, rfl, rfl⟩)
      | (refine wpList_load_g (by rfl) 44 (.tmp 6) rfl w.heap.size rfl 44 (bytesV key).toArray (0, 0) _ HW0.out.key Tryd.underlying44 rfl HIK.out ?_)
      | (refine wpList_load_g (by rfl) 46 (.tmp 8) rfl (w.heap.size + 1) rfl 46 (bytesV nonce).toArray (0, 0) _ HW0.out.nonce Tryd.underlying46 rfl HIN.out ?_))
    clear hg1 hg2
    have hrn : r < n := by omega
    refine (ccXor_len key nonce bs n c _ cap w0 HBN.out HKL.out HNL.out (by omega) (HL.out.below HW0.out.below) (HQ.out.below HW0.out.below hqs)).mono ?_
    rintro e w1 ⟨q, c1, rfl, hc1, ho1, hb1⟩
    have HW1 := Lib.hid (HW0.out.on hb1)
    obtain ⟨g1, cc1, hv1, hg1, hg1s, -, -, -, -⟩ := ho1.form8 (by rw [xorKs_length, HBN.out]; exact hpos)
    injection hv1 with hq1 hn1 hcc1
    subst hq1
    have hg11 : w.heap.size + 1 < g1 := by have := HW0.out.nonce.size; omega
    have HO1 := Lib.hid (ho1.base (B' := w.heap.size) HW0.out.below.size)
    clear hb1 ho1 hn1 hcc1
    go_wp2_with fail
    have hbl : bs.length = n := HBN.out
    rw [← hbl]
    refine (copy_any bs _ cap w1 (by omega) (HL.out.below HW1.out.below)).mono ?_
    rw [hbl]
    clear hbl
    rintro e w2 ⟨v2, rfl, ho2, hb2⟩
    obtain ⟨g3, c3, rfl, hg3, hg3s, hc3, hm3, hcell, hfr⟩ := ho2.form8 (by rw [HBN.out]; exact hpos)
    have h3 := hcell r (by rw [HBN.out]; exact hrn)
    have f3 := hfr r
    have HW2 := Lib.hid (HW1.out.on hb2)
    have HO2 := Lib.hid (HO1.out.below hb2)
    have HC2 := Lib.hid ho2
    have hg31 : w.heap.size + 1 < g3 := by have := HW1.out.nonce.size; omega
    clear hcell hfr hb2 ho2 HW1 HO1
    have HTU := Lib.hid (xorKs_turn key c nonce bs r t (by rw [HBN.out]; exact hrn))
    have HTK := Lib.hid (xorKs_take key c nonce bs r (by rw [HBN.out]; omega))
    have HDR := Lib.hid (xorKs_drop key c nonce bs (r / 64))
    have HXL : Hid ((xorKs key c nonce bs).length = n) := show _ = _ by rw [xorKs_length]; exact HBN.out
    have HBN' := Lib.hid HBN.out
    rw [HBN'.out] at hc3 HC2 ⊢
    go_upto_region 7 with (fail)
    refine wp_gen (fun w3 => TwoW w key nonce w3 ∧ Own w.heap.size w3 (xorKs key c nonce bs) (.slice (some ⟨g1, 0, none⟩) n c1) ∧ Own w.heap.size w3 (bs.set r (bs.getD r 0#8 ^^^ t)) (.slice (some ⟨g3, 0, none⟩) n c3))
      ⟨HW2.out.put hg31 _ _, HO2.out.putOther (by simp [Value.ownBlock]; omega) _ _, (HC2.out.base (B' := w.heap.size) (by have := HW0.out.below.size; omega)).put _ _⟩ ?_
    rintro w3 ⟨hw3, ho3, hcs3⟩
    have HW3 := Lib.hid hw3
    have HO3 := Lib.hid ho3
    have HC3 := Lib.hid hcs3
    have HCL : Hid ((bs.set r (bs.getD r 0#8 ^^^ t)).length = n) := show _ = _ by rw [List.length_set]; exact HBN.out
    clear hw3 ho3 hcs3 h3 f3 HW2 HO2 HC2
    generalize bs.set r (bs.getD r 0#8 ^^^ t) = cs at HC3 HCL HTU
    go_wp2_with (first
      | (refine wpList_load_g (by rfl) 44 (.tmp 6) rfl w.heap.size rfl 44 (bytesV key).toArray (0, 0) _ HW3.out.key Tryd.underlying44 rfl HIK.out ?_)
      | (refine wpList_load_g (by rfl) 46 (.tmp 8) rfl (w.heap.size + 1) rfl 46 (bytesV nonce).toArray (0, 0) _ HW3.out.nonce Tryd.underlying46 rfl HIN.out ?_))
    refine (ccXor_len key nonce cs n c _ c3 w3 HCL.out HKL.out HNL.out (by omega) HC3.out.liesOf (HQ.out.below HW3.out.below hqs)).mono ?_
    rintro e w4 ⟨q2, c2, rfl, hc2, ho4, hb4⟩
    have hyl : (xorKs key c nonce cs).length = n := by rw [xorKs_length]; exact HCL.out
    obtain ⟨g2, cc2, hv2, hg2, hg2s, -, -, hcell, hfr⟩ := ho4.form8 (by rw [hyl]; exact hpos)
    injection hv2 with hq2 hn2 hcc2
    subst hq2
    have h4 := hcell r (by rw [hyl]; exact hrn)
    have f4 := hfr r
    have hg13 : g1 < w3.heap.size := by
      rcases HO3.out.2 with ⟨h0, _⟩ | ⟨g', _, _, he, _, hh, _⟩
      · cases h0
      · cases he; exact (Array.getElem?_eq_some_iff.1 hh).1
    have hg21 : w.heap.size + 1 < g2 := by have := HW3.out.nonce.size; omega
    have HW4 := Lib.hid (HW3.out.on hb4)
    have HO4 := Lib.hid (HO3.out.below hb4)
    have HY4 := Lib.hid (ho4.base (B' := w.heap.size) HW3.out.below.size)
    clear hcell hfr hb4 ho4 hyl hn2 hcc2 HW3 HO3 HC3
    go_upto_region 11 with (fail)
    have HXE : Hid ((xorKs key c nonce cs).set r ((xorKs key c nonce cs).getD r 0#8 ^^^ t) = xorKs key c nonce bs) := HTU
    generalize hxs : xorKs key c nonce bs = xs at HXE HXL HO4 HTK HDR
    have HXS := Lib.hid hxs; clear hxs HTU
    refine wp_gen (fun w5 => PlW w key nonce xs xs g1 c1 g2 c2 n w5.drew) ⟨(HW4.out.put hg21 _ _).on ((Below.refl _ _).drew), (HO4.out.putOther (by simp [Value.ownBlock]; omega) _ _).below ((Below.refl _ _).drew), by rw [← HXE.out]; exact (HY4.out.put _ _).below ((Below.refl _ _).drew)⟩ ?_
    intro w7 hw7
    have HP := Lib.hid hw7
    clear hw7 h4 f4 HW4 HO4 HY4
    refine region_phase (TwoW w key nonce) (fun _ => True) 2 (HP.out.two) trivial [(0, .free), (1, .free), (2, .behind), (3, .free), (4, .free), (5, .free), (6, .free), (7, .free), (8, .free), (9, .free), (10, .free), (12, .free), (13, .free), (14, .free), (11, .behind), (15, .behind), (16, .free), (17, .free)] (by kernel_rfl) (by kernel_rfl) (by kernel_rfl) (by kernel_rfl) (fun ops hops A hA => ?_)
    have hsz : A.tmps.size = 111 := by rw [hA]; rfl
    have base1 : A.eval (.tmp 1) = .int .u32 (n32 c) := by rw [hA]; rfl
    have base3 : A.eval (.tmp 3) = .slice (some ⟨b, off, none⟩) n cap := by rw [hA]; rfl
    have base4 : A.eval (.tmp 4) = .int .i64 (r : Int) := by rw [hA]; rfl
    have base6 : A.eval (.tmp 6) = .pointer (some ⟨w.heap.size, 0, none⟩) := by rw [hA]; rfl
    have base8 : A.eval (.tmp 8) = .pointer (some ⟨w.heap.size + 1, 0, none⟩) := by rw [hA]; rfl
    have base13 : A.eval (.tmp 13) = .slice (some ⟨g1, 0, none⟩) n c1 := by rw [hA]; rfl
    have base15 : A.eval (.tmp 15) = .slice (some ⟨g2, 0, none⟩) n c2 := by rw [hA]; rfl
    have HAA := Lib.hid hA; clear hA
    obtain ⟨o0, po0, q0, d0, gd0⟩ : ∃ o, ops[0]? = some o ∧ o.op = .move (.tmp 13) ∧ o.dst = some 72 ∧ o.guard = none := ⟨_, by rw [hops]; rfl, rfl, rfl, rfl⟩
    obtain ⟨o1, po1, q1, d1, gd1⟩ : ∃ o, ops[1]? = some o ∧ o.op = .move (.tmp 15) ∧ o.dst = some 73 ∧ o.guard = none := ⟨_, by rw [hops]; rfl, rfl, rfl, rfl⟩
    obtain ⟨o2, po2, q2, d2, gd2⟩ : ∃ o, ops[2]? = some o ∧ o.op = .call { callee := .value (.func 21), args := #[.tmp 72, .tmp 73], argTypes := #[26, 26] } ∧ o.dst = some 74 ∧ o.guard = none := ⟨_, by rw [hops]; rfl, rfl, rfl, rfl⟩
    obtain ⟨o3, po3, q3, d3, gd3⟩ : ∃ o, ops[3]? = some o ∧ o.op = .unOp .not 4 (.tmp 74) ∧ o.dst = some 75 ∧ o.guard = none := ⟨_, by rw [hops]; rfl, rfl, rfl, rfl⟩
    obtain ⟨o4, po4, q4, d4, gd4⟩ : ∃ o, ops[4]? = some o ∧ o.op = .move (.tmp 75) ∧ o.dst = some 76 ∧ o.guard = none := ⟨_, by rw [hops]; rfl, rfl, rfl, rfl⟩
    obtain ⟨o5, po5, q5, d5, gd5⟩ : ∃ o, ops[5]? = some o ∧ o.op = .load 44 (.tmp 6) ∧ o.dst = some 77 ∧ o.guard = some (4, false) := ⟨_, by rw [hops]; rfl, rfl, rfl, rfl⟩
    obtain ⟨o6, po6, q6, d6, gd6⟩ : ∃ o, ops[6]? = some o ∧ o.op = .move (.tmp 1) ∧ o.dst = some 78 ∧ o.guard = some (4, false) := ⟨_, by rw [hops]; rfl, rfl, rfl, rfl⟩
    obtain ⟨o7, po7, q7, d7, gd7⟩ : ∃ o, ops[7]? = some o ∧ o.op = .load 46 (.tmp 8) ∧ o.dst = some 79 ∧ o.guard = some (4, false) := ⟨_, by rw [hops]; rfl, rfl, rfl, rfl⟩
    obtain ⟨o8, po8, q8, d8, gd8⟩ : ∃ o, ops[8]? = some o ∧ o.op = .move (.tmp 3) ∧ o.dst = some 80 ∧ o.guard = some (4, false) := ⟨_, by rw [hops]; rfl, rfl, rfl, rfl⟩
    obtain ⟨o9, po9, q9, d9, gd9⟩ : ∃ o, ops[9]? = some o ∧ o.op = .move (.tmp 4) ∧ o.dst = some 81 ∧ o.guard = some (4, false) := ⟨_, by rw [hops]; rfl, rfl, rfl, rfl⟩
    obtain ⟨o10, po10, q10, d10, gd10⟩ : ∃ o, ops[10]? = some o ∧ o.op = .slice 26 (.tmp 80) none (some (.tmp 81)) none ∧ o.dst = some 82 ∧ o.guard = some (4, false) := ⟨_, by rw [hops]; rfl, rfl, rfl, rfl⟩
    obtain ⟨o11, po11, q11, d11, gd11⟩ : ∃ o, ops[11]? = some o ∧ o.op = .call { callee := .value (.func 19), args := #[.tmp 77, .tmp 78, .tmp 79, .tmp 82], argTypes := #[44, 25, 46, 26] } ∧ o.dst = some 83 ∧ o.guard = some (4, false) := ⟨_, by rw [hops]; rfl, rfl, rfl, rfl⟩
    obtain ⟨o12, po12, q12, d12, gd12⟩ : ∃ o, ops[12]? = some o ∧ o.op = .move (.tmp 13) ∧ o.dst = some 84 ∧ o.guard = some (4, false) := ⟨_, by rw [hops]; rfl, rfl, rfl, rfl⟩
    obtain ⟨o13, po13, q13, d13, gd13⟩ : ∃ o, ops[13]? = some o ∧ o.op = .move (.tmp 4) ∧ o.dst = some 85 ∧ o.guard = some (4, false) := ⟨_, by rw [hops]; rfl, rfl, rfl, rfl⟩
    obtain ⟨o14, po14, q14, d14, gd14⟩ : ∃ o, ops[14]? = some o ∧ o.op = .slice 26 (.tmp 84) none (some (.tmp 85)) none ∧ o.dst = some 86 ∧ o.guard = some (4, false) := ⟨_, by rw [hops]; rfl, rfl, rfl, rfl⟩
    obtain ⟨o15, po15, q15, d15, gd15⟩ : ∃ o, ops[15]? = some o ∧ o.op = .call { callee := .value (.func 21), args := #[.tmp 83, .tmp 86], argTypes := #[26, 26] } ∧ o.dst = some 87 ∧ o.guard = some (4, false) := ⟨_, by rw [hops]; rfl, rfl, rfl, rfl⟩
    obtain ⟨o16, po16, q16, d16, gd16⟩ : ∃ o, ops[16]? = some o ∧ o.op = .unOp .not 4 (.tmp 87) ∧ o.dst = some 88 ∧ o.guard = some (4, false) := ⟨_, by rw [hops]; rfl, rfl, rfl, rfl⟩
    obtain ⟨o17, po17, q17, d17, gd17⟩ : ∃ o, ops[17]? = some o ∧ o.op = .pick (.tmp 76) (.const (.bool true)) (.tmp 88) ∧ o.dst = some 89 ∧ o.guard = none := ⟨_, by rw [hops]; rfl, rfl, rfl, rfl⟩
    clear hops
    refine met_free po0 d0 (wanted_of gd0) (fun w' _ => run_move q0 base13 w') ?_
    refine met_free po1 d1 (wanted_of gd1) (fun w' _ => run_move q1 ((eval_other _ 72 15 _ (by decide)).trans base15) w') ?_
    refine met_enter po2 d2 (wanted_of gd2) (run_callf2 q2 rfl ((eval_other _ 73 72 _ (by decide)).trans (eval_same _ _ _ (by rw [hsz]; decide))) (eval_same _ _ _ (by simp only [put_size, hsz]; decide)) Tryd.func21 (by kernel_rfl) _) (same_any xs n _ _ _ _ _ HXL.out (by omega) HP.out.x.liesOf HP.out.y.liesOf) ?_
    rintro e w8 ⟨rfl, hb8⟩
    have HP8 := Lib.hid (HP.out.on hb8); clear hb8
    refine ⟨_, rfl, HP8.out.two, ?_⟩
    refine met_free po3 d3 (wanted_of gd3) (fun w' _ => run_not q3 (eval_same _ _ _ (by simp only [put_size, hsz]; decide)) w') ?_
    refine met_free po4 d4 (wanted_of gd4) (fun w' _ => run_move q4 (eval_same _ _ _ (by simp only [put_size, hsz]; decide)) w') ?_
    refine met_free po5 d5 (wanted_guardF gd5 po4 d4 (eval_same _ _ _ (by simp only [put_size, hsz]; decide))) (fun w' h' => run_loadKey q5 ((eval_other _ 76 6 _ (by decide)).trans ((eval_other _ 75 6 _ (by decide)).trans ((eval_other _ 74 6 _ (by decide)).trans ((eval_other _ 73 6 _ (by decide)).trans ((eval_other _ 72 6 _ (by decide)).trans base6))))) HKL.out h'.key) ?_
    refine met_free po6 d6 (wanted_guardF gd6 po4 d4 ((eval_other _ 77 76 _ (by decide)).trans (eval_same _ _ _ (by simp only [put_size, hsz]; decide)))) (fun w' _ => run_move q6 ((eval_other _ 77 1 _ (by decide)).trans ((eval_other _ 76 1 _ (by decide)).trans ((eval_other _ 75 1 _ (by decide)).trans ((eval_other _ 74 1 _ (by decide)).trans ((eval_other _ 73 1 _ (by decide)).trans ((eval_other _ 72 1 _ (by decide)).trans base1)))))) w') ?_
    refine met_free po7 d7 (wanted_guardF gd7 po4 d4 ((eval_other _ 78 76 _ (by decide)).trans ((eval_other _ 77 76 _ (by decide)).trans (eval_same _ _ _ (by simp only [put_size, hsz]; decide))))) (fun w' h' => run_loadNonce q7 ((eval_other _ 78 8 _ (by decide)).trans ((eval_other _ 77 8 _ (by decide)).trans ((eval_other _ 76 8 _ (by decide)).trans ((eval_other _ 75 8 _ (by decide)).trans ((eval_other _ 74 8 _ (by decide)).trans ((eval_other _ 73 8 _ (by decide)).trans ((eval_other _ 72 8 _ (by decide)).trans base8))))))) HNL.out h'.nonce) ?_
    refine met_free po8 d8 (wanted_guardF gd8 po4 d4 ((eval_other _ 79 76 _ (by decide)).trans ((eval_other _ 78 76 _ (by decide)).trans ((eval_other _ 77 76 _ (by decide)).trans (eval_same _ _ _ (by simp only [put_size, hsz]; decide)))))) (fun w' _ => run_move q8 ((eval_other _ 79 3 _ (by decide)).trans ((eval_other _ 78 3 _ (by decide)).trans ((eval_other _ 77 3 _ (by decide)).trans ((eval_other _ 76 3 _ (by decide)).trans ((eval_other _ 75 3 _ (by decide)).trans ((eval_other _ 74 3 _ (by decide)).trans ((eval_other _ 73 3 _ (by decide)).trans ((eval_other _ 72 3 _ (by decide)).trans base3)))))))) w') ?_
    refine met_free po9 d9 (wanted_guardF gd9 po4 d4 ((eval_other _ 80 76 _ (by decide)).trans ((eval_other _ 79 76 _ (by decide)).trans ((eval_other _ 78 76 _ (by decide)).trans ((eval_other _ 77 76 _ (by decide)).trans (eval_same _ _ _ (by simp only [put_size, hsz]; decide))))))) (fun w' _ => run_move q9 ((eval_other _ 80 4 _ (by decide)).trans ((eval_other _ 79 4 _ (by decide)).trans ((eval_other _ 78 4 _ (by decide)).trans ((eval_other _ 77 4 _ (by decide)).trans ((eval_other _ 76 4 _ (by decide)).trans ((eval_other _ 75 4 _ (by decide)).trans ((eval_other _ 74 4 _ (by decide)).trans ((eval_other _ 73 4 _ (by decide)).trans ((eval_other _ 72 4 _ (by decide)).trans base4))))))))) w') ?_
    refine met_free po10 d10 (wanted_guardF gd10 po4 d4 ((eval_other _ 81 76 _ (by decide)).trans ((eval_other _ 80 76 _ (by decide)).trans ((eval_other _ 79 76 _ (by decide)).trans ((eval_other _ 78 76 _ (by decide)).trans ((eval_other _ 77 76 _ (by decide)).trans (eval_same _ _ _ (by simp only [put_size, hsz]; decide)))))))) (fun w' _ => run_sliceTo q10 ((eval_other _ 81 80 _ (by decide)).trans (eval_same _ _ _ (by simp only [put_size, hsz]; decide))) (eval_same _ _ _ (by simp only [put_size, hsz]; decide)) (by omega) w') ?_
    refine met_free po12 d12 (wanted_guardF gd12 po4 d4 ((eval_other _ 82 76 _ (by decide)).trans ((eval_other _ 81 76 _ (by decide)).trans ((eval_other _ 80 76 _ (by decide)).trans ((eval_other _ 79 76 _ (by decide)).trans ((eval_other _ 78 76 _ (by decide)).trans ((eval_other _ 77 76 _ (by decide)).trans (eval_same _ _ _ (by simp only [put_size, hsz]; decide))))))))) (fun w' _ => run_move q12 ((eval_other _ 82 13 _ (by decide)).trans ((eval_other _ 81 13 _ (by decide)).trans ((eval_other _ 80 13 _ (by decide)).trans ((eval_other _ 79 13 _ (by decide)).trans ((eval_other _ 78 13 _ (by decide)).trans ((eval_other _ 77 13 _ (by decide)).trans ((eval_other _ 76 13 _ (by decide)).trans ((eval_other _ 75 13 _ (by decide)).trans ((eval_other _ 74 13 _ (by decide)).trans ((eval_other _ 73 13 _ (by decide)).trans ((eval_other _ 72 13 _ (by decide)).trans base13))))))))))) w') ?_
    refine met_free po13 d13 (wanted_guardF gd13 po4 d4 ((eval_other _ 84 76 _ (by decide)).trans ((eval_other _ 82 76 _ (by decide)).trans ((eval_other _ 81 76 _ (by decide)).trans ((eval_other _ 80 76 _ (by decide)).trans ((eval_other _ 79 76 _ (by decide)).trans ((eval_other _ 78 76 _ (by decide)).trans ((eval_other _ 77 76 _ (by decide)).trans (eval_same _ _ _ (by simp only [put_size, hsz]; decide)))))))))) (fun w' _ => run_move q13 ((eval_other _ 84 4 _ (by decide)).trans ((eval_other _ 82 4 _ (by decide)).trans ((eval_other _ 81 4 _ (by decide)).trans ((eval_other _ 80 4 _ (by decide)).trans ((eval_other _ 79 4 _ (by decide)).trans ((eval_other _ 78 4 _ (by decide)).trans ((eval_other _ 77 4 _ (by decide)).trans ((eval_other _ 76 4 _ (by decide)).trans ((eval_other _ 75 4 _ (by decide)).trans ((eval_other _ 74 4 _ (by decide)).trans ((eval_other _ 73 4 _ (by decide)).trans ((eval_other _ 72 4 _ (by decide)).trans base4)))))))))))) w') ?_
    refine met_free po14 d14 (wanted_guardF gd14 po4 d4 ((eval_other _ 85 76 _ (by decide)).trans ((eval_other _ 84 76 _ (by decide)).trans ((eval_other _ 82 76 _ (by decide)).trans ((eval_other _ 81 76 _ (by decide)).trans ((eval_other _ 80 76 _ (by decide)).trans ((eval_other _ 79 76 _ (by decide)).trans ((eval_other _ 78 76 _ (by decide)).trans ((eval_other _ 77 76 _ (by decide)).trans (eval_same _ _ _ (by simp only [put_size, hsz]; decide))))))))))) (fun w' _ => run_sliceTo q14 ((eval_other _ 85 84 _ (by decide)).trans (eval_same _ _ _ (by simp only [put_size, hsz]; decide))) (eval_same _ _ _ (by simp only [put_size, hsz]; decide)) (by omega) w') ?_
    refine met_enter po11 d11 (wanted_guardF gd11 po4 d4 ((eval_other _ 86 76 _ (by decide)).trans ((eval_other _ 85 76 _ (by decide)).trans ((eval_other _ 84 76 _ (by decide)).trans ((eval_other _ 82 76 _ (by decide)).trans ((eval_other _ 81 76 _ (by decide)).trans ((eval_other _ 80 76 _ (by decide)).trans ((eval_other _ 79 76 _ (by decide)).trans ((eval_other _ 78 76 _ (by decide)).trans ((eval_other _ 77 76 _ (by decide)).trans (eval_same _ _ _ (by simp only [put_size, hsz]; decide)))))))))))) (run_callf4 q11 rfl ((eval_other _ 86 77 _ (by decide)).trans ((eval_other _ 85 77 _ (by decide)).trans ((eval_other _ 84 77 _ (by decide)).trans ((eval_other _ 82 77 _ (by decide)).trans ((eval_other _ 81 77 _ (by decide)).trans ((eval_other _ 80 77 _ (by decide)).trans ((eval_other _ 79 77 _ (by decide)).trans ((eval_other _ 78 77 _ (by decide)).trans (eval_same _ _ _ (by simp only [put_size, hsz]; decide)))))))))) ((eval_other _ 86 78 _ (by decide)).trans ((eval_other _ 85 78 _ (by decide)).trans ((eval_other _ 84 78 _ (by decide)).trans ((eval_other _ 82 78 _ (by decide)).trans ((eval_other _ 81 78 _ (by decide)).trans ((eval_other _ 80 78 _ (by decide)).trans ((eval_other _ 79 78 _ (by decide)).trans (eval_same _ _ _ (by simp only [put_size, hsz]; decide))))))))) ((eval_other _ 86 79 _ (by decide)).trans ((eval_other _ 85 79 _ (by decide)).trans ((eval_other _ 84 79 _ (by decide)).trans ((eval_other _ 82 79 _ (by decide)).trans ((eval_other _ 81 79 _ (by decide)).trans ((eval_other _ 80 79 _ (by decide)).trans (eval_same _ _ _ (by simp only [put_size, hsz]; decide)))))))) ((eval_other _ 86 82 _ (by decide)).trans ((eval_other _ 85 82 _ (by decide)).trans ((eval_other _ 84 82 _ (by decide)).trans (eval_same _ _ _ (by simp only [put_size, hsz]; decide))))) Tryd.func19 (by kernel_rfl) _) (ccXor_len key nonce (bs.take r) r c _ cap w8 (by rw [List.length_take, HBN.out]; omega) HKL.out HNL.out (by omega) ((HL.out.below HP8.out.two.below).take r) (HQ.out.below HP8.out.two.below hqs)) ?_
    rintro e w9 ⟨q9, cq9, rfl, hcq9, ho9, hb9⟩
    have HP9 := Lib.hid (HP8.out.on hb9); clear hb9
    rw [HTK.out] at ho9
    have HO9 := Lib.hid ho9; clear ho9
    refine ⟨_, rfl, HP9.out.two, ?_⟩
    refine met_enter po15 d15 (wanted_guardF gd15 po4 d4 ((eval_other _ 83 76 _ (by decide)).trans ((eval_other _ 86 76 _ (by decide)).trans ((eval_other _ 85 76 _ (by decide)).trans ((eval_other _ 84 76 _ (by decide)).trans ((eval_other _ 82 76 _ (by decide)).trans ((eval_other _ 81 76 _ (by decide)).trans ((eval_other _ 80 76 _ (by decide)).trans ((eval_other _ 79 76 _ (by decide)).trans ((eval_other _ 78 76 _ (by decide)).trans ((eval_other _ 77 76 _ (by decide)).trans (eval_same _ _ _ (by simp only [put_size, hsz]; decide))))))))))))) (run_callf2 q15 rfl (eval_same _ _ _ (by simp only [put_size, hsz]; decide)) ((eval_other _ 83 86 _ (by decide)).trans (eval_same _ _ _ (by simp only [put_size, hsz]; decide))) Tryd.func21 (by kernel_rfl) _) (same_any (xs.take r) r _ _ _ _ _ (by rw [List.length_take, HXL.out]; omega) (by omega) HO9.out.liesOf (HP9.out.x.liesOf.take r)) ?_
    rintro e w10 ⟨rfl, hb10⟩
    have HP10 := Lib.hid (HP9.out.on hb10); clear hb10
    refine ⟨_, rfl, HP10.out.two, ?_⟩
    refine met_free po16 d16 (wanted_guardF gd16 po4 d4 ((eval_other _ 87 76 _ (by decide)).trans ((eval_other _ 83 76 _ (by decide)).trans ((eval_other _ 86 76 _ (by decide)).trans ((eval_other _ 85 76 _ (by decide)).trans ((eval_other _ 84 76 _ (by decide)).trans ((eval_other _ 82 76 _ (by decide)).trans ((eval_other _ 81 76 _ (by decide)).trans ((eval_other _ 80 76 _ (by decide)).trans ((eval_other _ 79 76 _ (by decide)).trans ((eval_other _ 78 76 _ (by decide)).trans ((eval_other _ 77 76 _ (by decide)).trans (eval_same _ _ _ (by simp only [put_size, hsz]; decide)))))))))))))) (fun w' _ => run_not q16 (eval_same _ _ _ (by simp only [put_size, hsz]; decide)) w') ?_
    refine met_free po17 d17 (wanted_of gd17) (fun w' _ => run_pickF q17 ((eval_other _ 88 76 _ (by decide)).trans ((eval_other _ 87 76 _ (by decide)).trans ((eval_other _ 83 76 _ (by decide)).trans ((eval_other _ 86 76 _ (by decide)).trans ((eval_other _ 85 76 _ (by decide)).trans ((eval_other _ 84 76 _ (by decide)).trans ((eval_other _ 82 76 _ (by decide)).trans ((eval_other _ 81 76 _ (by decide)).trans ((eval_other _ 80 76 _ (by decide)).trans ((eval_other _ 79 76 _ (by decide)).trans ((eval_other _ 78 76 _ (by decide)).trans ((eval_other _ 77 76 _ (by decide)).trans (eval_same _ _ _ (by simp only [put_size, hsz]; decide)))))))))))))) (eval_same _ _ _ (by simp only [put_size, hsz]; decide)) w') ?_
    show NoPanic _ .normal _ _
    refine NoPanic.normal ?_
    rw [HAA.out]
    go_frame
    have HPA := Lib.hid (HP10.out.on ((Below.refl _ _).drew))
    clear HP HP8 HP9 HP10 HO9 HAA
    go_upto_region 14 with (fail)
    refine wp_gen (fun w11 => PlW w key nonce xs xs g1 c1 g2 c2 n w11.drew) HPA.out ?_
    intro w11 hw11
    have HPB := Lib.hid hw11
    clear hw11 HPA
    refine region_phase (TwoW w key nonce) (fun _ => True) 10 (HPB.out.two) trivial [(0, .free), (1, .free), (2, .free), (3, .free), (4, .free), (5, .free), (6, .free), (7, .free), (8, .free), (9, .free), (11, .free), (12, .free), (13, .free), (14, .free), (10, .behind), (15, .behind), (16, .free), (17, .behind), (18, .free), (19, .free)] (by kernel_rfl) (by kernel_rfl) (by kernel_rfl) (by kernel_rfl) (fun ops hops A hA => ?_)
    have hsz : A.tmps.size = 111 := by rw [hA]; rfl
    have base1 : A.eval (.tmp 1) = .int .u32 (n32 c) := by rw [hA]; rfl
    have base3 : A.eval (.tmp 3) = .slice (some ⟨b, off, none⟩) n cap := by rw [hA]; rfl
    have base6 : A.eval (.tmp 6) = .pointer (some ⟨w.heap.size, 0, none⟩) := by rw [hA]; rfl
    have base8 : A.eval (.tmp 8) = .pointer (some ⟨w.heap.size + 1, 0, none⟩) := by rw [hA]; rfl
    have base13 : A.eval (.tmp 13) = .slice (some ⟨g1, 0, none⟩) n c1 := by rw [hA]; rfl
    have base16 : A.eval (.tmp 16) = .int .i64 ((r / 64 : Nat) : Int) := by rw [hA]; rfl
    have HAA := Lib.hid hA; clear hA
    obtain ⟨o0, po0, q0, d0, gd0⟩ : ∃ o, ops[0]? = some o ∧ o.op = .load 44 (.tmp 6) ∧ o.dst = some 92 ∧ o.guard = none := ⟨_, by rw [hops]; rfl, rfl, rfl, rfl⟩
    obtain ⟨o1, po1, q1, d1, gd1⟩ : ∃ o, ops[1]? = some o ∧ o.op = .move (.tmp 1) ∧ o.dst = some 93 ∧ o.guard = none := ⟨_, by rw [hops]; rfl, rfl, rfl, rfl⟩
    obtain ⟨o2, po2, q2, d2, gd2⟩ : ∃ o, ops[2]? = some o ∧ o.op = .move (.tmp 16) ∧ o.dst = some 94 ∧ o.guard = none := ⟨_, by rw [hops]; rfl, rfl, rfl, rfl⟩
    obtain ⟨o3, po3, q3, d3, gd3⟩ : ∃ o, ops[3]? = some o ∧ o.op = .convert 3 25 (.tmp 94) ∧ o.dst = some 95 ∧ o.guard = none := ⟨_, by rw [hops]; rfl, rfl, rfl, rfl⟩
    obtain ⟨o4, po4, q4, d4, gd4⟩ : ∃ o, ops[4]? = some o ∧ o.op = .binOp .add 25 (.tmp 93) (.tmp 95) 25 ∧ o.dst = some 96 ∧ o.guard = none := ⟨_, by rw [hops]; rfl, rfl, rfl, rfl⟩
    obtain ⟨o5, po5, q5, d5, gd5⟩ : ∃ o, ops[5]? = some o ∧ o.op = .load 46 (.tmp 8) ∧ o.dst = some 97 ∧ o.guard = none := ⟨_, by rw [hops]; rfl, rfl, rfl, rfl⟩
    obtain ⟨o6, po6, q6, d6, gd6⟩ : ∃ o, ops[6]? = some o ∧ o.op = .move (.tmp 3) ∧ o.dst = some 98 ∧ o.guard = none := ⟨_, by rw [hops]; rfl, rfl, rfl, rfl⟩
    obtain ⟨o7, po7, q7, d7, gd7⟩ : ∃ o, ops[7]? = some o ∧ o.op = .move (.tmp 16) ∧ o.dst = some 99 ∧ o.guard = none := ⟨_, by rw [hops]; rfl, rfl, rfl, rfl⟩
    obtain ⟨o8, po8, q8, d8, gd8⟩ : ∃ o, ops[8]? = some o ∧ o.op = .binOp .mul 3 (.const (.int .i64 64)) (.tmp 99) 3 ∧ o.dst = some 100 ∧ o.guard = none := ⟨_, by rw [hops]; rfl, rfl, rfl, rfl⟩
    obtain ⟨o9, po9, q9, d9, gd9⟩ : ∃ o, ops[9]? = some o ∧ o.op = .slice 26 (.tmp 98) (some (.tmp 100)) none none ∧ o.dst = some 101 ∧ o.guard = none := ⟨_, by rw [hops]; rfl, rfl, rfl, rfl⟩
    obtain ⟨o10, po10, q10, d10, gd10⟩ : ∃ o, ops[10]? = some o ∧ o.op = .call { callee := .value (.func 19), args := #[.tmp 92, .tmp 96, .tmp 97, .tmp 101], argTypes := #[44, 25, 46, 26] } ∧ o.dst = some 102 ∧ o.guard = none := ⟨_, by rw [hops]; rfl, rfl, rfl, rfl⟩
    obtain ⟨o11, po11, q11, d11, gd11⟩ : ∃ o, ops[11]? = some o ∧ o.op = .move (.tmp 13) ∧ o.dst = some 103 ∧ o.guard = none := ⟨_, by rw [hops]; rfl, rfl, rfl, rfl⟩
    obtain ⟨o12, po12, q12, d12, gd12⟩ : ∃ o, ops[12]? = some o ∧ o.op = .move (.tmp 16) ∧ o.dst = some 104 ∧ o.guard = none := ⟨_, by rw [hops]; rfl, rfl, rfl, rfl⟩
    obtain ⟨o13, po13, q13, d13, gd13⟩ : ∃ o, ops[13]? = some o ∧ o.op = .binOp .mul 3 (.const (.int .i64 64)) (.tmp 104) 3 ∧ o.dst = some 105 ∧ o.guard = none := ⟨_, by rw [hops]; rfl, rfl, rfl, rfl⟩
    obtain ⟨o14, po14, q14, d14, gd14⟩ : ∃ o, ops[14]? = some o ∧ o.op = .slice 26 (.tmp 103) (some (.tmp 105)) none none ∧ o.dst = some 106 ∧ o.guard = none := ⟨_, by rw [hops]; rfl, rfl, rfl, rfl⟩
    obtain ⟨o15, po15, q15, d15, gd15⟩ : ∃ o, ops[15]? = some o ∧ o.op = .call { callee := .value (.func 21), args := #[.tmp 102, .tmp 106], argTypes := #[26, 26] } ∧ o.dst = some 107 ∧ o.guard = none := ⟨_, by rw [hops]; rfl, rfl, rfl, rfl⟩
    obtain ⟨o16, po16, q16, d16, gd16⟩ : ∃ o, ops[16]? = some o ∧ o.op = .move (.tmp 107) ∧ o.dst = some 108 ∧ o.guard = none := ⟨_, by rw [hops]; rfl, rfl, rfl, rfl⟩
    obtain ⟨o17, po17, q17, d17, gd17⟩ : ∃ o, ops[17]? = some o ∧ o.op = .call { callee := .value (.func 27), args := #[], argTypes := #[] } ∧ o.dst = some 109 ∧ o.guard = some (16, true) := ⟨_, by rw [hops]; rfl, rfl, rfl, rfl⟩
    obtain ⟨o18, po18, q18, d18, gd18⟩ : ∃ o, ops[18]? = some o ∧ o.op = .pick (.tmp 108) (.tmp 109) (.const (.bool false)) ∧ o.dst = some 110 ∧ o.guard = none := ⟨_, by rw [hops]; rfl, rfl, rfl, rfl⟩
    obtain ⟨o19, po19, q19, d19, gd19⟩ : ∃ o, ops[19]? = some o ∧ o.op = .assign (.tmp 110) ∧ o.dst = some 12 ∧ o.guard = none := ⟨_, by rw [hops]; rfl, rfl, rfl, rfl⟩
    clear hops
    refine met_free po0 d0 (wanted_of gd0) (fun w' h' => run_loadKey q0 base6 HKL.out h'.key) ?_
    refine met_free po1 d1 (wanted_of gd1) (fun w' _ => run_move q1 ((eval_other _ 92 1 _ (by decide)).trans base1) w') ?_
    refine met_free po2 d2 (wanted_of gd2) (fun w' _ => run_move q2 ((eval_other _ 93 16 _ (by decide)).trans ((eval_other _ 92 16 _ (by decide)).trans base16)) w') ?_
    refine met_free po3 d3 (wanted_of gd3) (fun w' _ => run_cnv32 q3 (eval_same _ _ _ (by simp only [put_size, hsz]; decide)) w') ?_
    refine met_free po4 d4 (wanted_of gd4) (fun w' _ => run_add32 q4 ((eval_other _ 95 93 _ (by decide)).trans ((eval_other _ 94 93 _ (by decide)).trans (eval_same _ _ _ (by simp only [put_size, hsz]; decide)))) (eval_same _ _ _ (by simp only [put_size, hsz]; decide)) w') ?_
    refine met_free po5 d5 (wanted_of gd5) (fun w' h' => run_loadNonce q5 ((eval_other _ 96 8 _ (by decide)).trans ((eval_other _ 95 8 _ (by decide)).trans ((eval_other _ 94 8 _ (by decide)).trans ((eval_other _ 93 8 _ (by decide)).trans ((eval_other _ 92 8 _ (by decide)).trans base8))))) HNL.out h'.nonce) ?_
    refine met_free po6 d6 (wanted_of gd6) (fun w' _ => run_move q6 ((eval_other _ 97 3 _ (by decide)).trans ((eval_other _ 96 3 _ (by decide)).trans ((eval_other _ 95 3 _ (by decide)).trans ((eval_other _ 94 3 _ (by decide)).trans ((eval_other _ 93 3 _ (by decide)).trans ((eval_other _ 92 3 _ (by decide)).trans base3)))))) w') ?_
    refine met_free po7 d7 (wanted_of gd7) (fun w' _ => run_move q7 ((eval_other _ 98 16 _ (by decide)).trans ((eval_other _ 97 16 _ (by decide)).trans ((eval_other _ 96 16 _ (by decide)).trans ((eval_other _ 95 16 _ (by decide)).trans ((eval_other _ 94 16 _ (by decide)).trans ((eval_other _ 93 16 _ (by decide)).trans ((eval_other _ 92 16 _ (by decide)).trans base16))))))) w') ?_
    refine met_free po8 d8 (wanted_of gd8) (fun w' _ => run_mul64 q8 (fun _ => rfl) (eval_same _ _ _ (by simp only [put_size, hsz]; decide)) (by omega) w') ?_
    refine met_free po9 d9 (wanted_of gd9) (fun w' _ => run_sliceFrom q9 ((eval_other _ 100 98 _ (by decide)).trans ((eval_other _ 99 98 _ (by decide)).trans (eval_same _ _ _ (by simp only [put_size, hsz]; decide)))) (eval_same _ _ _ (by simp only [put_size, hsz]; decide)) (by omega) (by omega) hcap w') ?_
    refine met_free po11 d11 (wanted_of gd11) (fun w' _ => run_move q11 ((eval_other _ 101 13 _ (by decide)).trans ((eval_other _ 100 13 _ (by decide)).trans ((eval_other _ 99 13 _ (by decide)).trans ((eval_other _ 98 13 _ (by decide)).trans ((eval_other _ 97 13 _ (by decide)).trans ((eval_other _ 96 13 _ (by decide)).trans ((eval_other _ 95 13 _ (by decide)).trans ((eval_other _ 94 13 _ (by decide)).trans ((eval_other _ 93 13 _ (by decide)).trans ((eval_other _ 92 13 _ (by decide)).trans base13)))))))))) w') ?_
    refine met_free po12 d12 (wanted_of gd12) (fun w' _ => run_move q12 ((eval_other _ 103 16 _ (by decide)).trans ((eval_other _ 101 16 _ (by decide)).trans ((eval_other _ 100 16 _ (by decide)).trans ((eval_other _ 99 16 _ (by decide)).trans ((eval_other _ 98 16 _ (by decide)).trans ((eval_other _ 97 16 _ (by decide)).trans ((eval_other _ 96 16 _ (by decide)).trans ((eval_other _ 95 16 _ (by decide)).trans ((eval_other _ 94 16 _ (by decide)).trans ((eval_other _ 93 16 _ (by decide)).trans ((eval_other _ 92 16 _ (by decide)).trans base16))))))))))) w') ?_
    refine met_free po13 d13 (wanted_of gd13) (fun w' _ => run_mul64 q13 (fun _ => rfl) (eval_same _ _ _ (by simp only [put_size, hsz]; decide)) (by omega) w') ?_
    refine met_free po14 d14 (wanted_of gd14) (fun w' _ => run_sliceFrom q14 ((eval_other _ 105 103 _ (by decide)).trans ((eval_other _ 104 103 _ (by decide)).trans (eval_same _ _ _ (by simp only [put_size, hsz]; decide)))) (eval_same _ _ _ (by simp only [put_size, hsz]; decide)) (by omega) (by omega) (by omega) w') ?_
    refine met_enter po10 d10 (wanted_of gd10) (run_callf4 q10 rfl ((eval_other _ 106 92 _ (by decide)).trans ((eval_other _ 105 92 _ (by decide)).trans ((eval_other _ 104 92 _ (by decide)).trans ((eval_other _ 103 92 _ (by decide)).trans ((eval_other _ 101 92 _ (by decide)).trans ((eval_other _ 100 92 _ (by decide)).trans ((eval_other _ 99 92 _ (by decide)).trans ((eval_other _ 98 92 _ (by decide)).trans ((eval_other _ 97 92 _ (by decide)).trans ((eval_other _ 96 92 _ (by decide)).trans ((eval_other _ 95 92 _ (by decide)).trans ((eval_other _ 94 92 _ (by decide)).trans ((eval_other _ 93 92 _ (by decide)).trans (eval_same _ _ _ (by rw [hsz]; decide))))))))))))))) ((eval_other _ 106 96 _ (by decide)).trans ((eval_other _ 105 96 _ (by decide)).trans ((eval_other _ 104 96 _ (by decide)).trans ((eval_other _ 103 96 _ (by decide)).trans ((eval_other _ 101 96 _ (by decide)).trans ((eval_other _ 100 96 _ (by decide)).trans ((eval_other _ 99 96 _ (by decide)).trans ((eval_other _ 98 96 _ (by decide)).trans ((eval_other _ 97 96 _ (by decide)).trans (eval_same _ _ _ (by simp only [put_size, hsz]; decide))))))))))) ((eval_other _ 106 97 _ (by decide)).trans ((eval_other _ 105 97 _ (by decide)).trans ((eval_other _ 104 97 _ (by decide)).trans ((eval_other _ 103 97 _ (by decide)).trans ((eval_other _ 101 97 _ (by decide)).trans ((eval_other _ 100 97 _ (by decide)).trans ((eval_other _ 99 97 _ (by decide)).trans ((eval_other _ 98 97 _ (by decide)).trans (eval_same _ _ _ (by simp only [put_size, hsz]; decide)))))))))) ((eval_other _ 106 101 _ (by decide)).trans ((eval_other _ 105 101 _ (by decide)).trans ((eval_other _ 104 101 _ (by decide)).trans ((eval_other _ 103 101 _ (by decide)).trans (eval_same _ _ _ (by simp only [put_size, hsz]; decide)))))) Tryd.func19 (by kernel_rfl) _) (ccXor_len key nonce (bs.drop (64 * (r / 64))) (n - 64 * (r / 64)) (c + BitVec.ofNat 32 (r / 64)) _ _ _ (by rw [List.length_drop, HBN.out]) HKL.out HNL.out (by omega) ((HL.out.below HPB.out.two.below).drop _) (HQ.out.below HPB.out.two.below hqs)) ?_
    rintro e w12 ⟨q12, cq12, rfl, hcq12, ho12, hb12⟩
    have HP12 := Lib.hid (HPB.out.on hb12); clear hb12
    rw [HDR.out] at ho12
    have HO12 := Lib.hid ho12; clear ho12
    refine ⟨_, rfl, HP12.out.two, ?_⟩
    refine met_enter po15 d15 (wanted_of gd15) (run_callf2 q15 rfl (eval_same _ _ _ (by simp only [put_size, hsz]; decide)) ((eval_other _ 102 106 _ (by decide)).trans (eval_same _ _ _ (by simp only [put_size, hsz]; decide))) Tryd.func21 (by kernel_rfl) _) (same_any (xs.drop (64 * (r / 64))) (n - 64 * (r / 64)) _ _ _ _ _ (by rw [List.length_drop, HXL.out]) (by omega) HO12.out.liesOf (HP12.out.x.liesOf.drop _)) ?_
    rintro e w13 ⟨rfl, hb13⟩
    have HP13 := Lib.hid (HP12.out.on hb13); clear hb13
    refine ⟨_, rfl, HP13.out.two, ?_⟩
    refine met_free po16 d16 (wanted_of gd16) (fun w' _ => run_move q16 (eval_same _ _ _ (by simp only [put_size, hsz]; decide)) w') ?_
    refine met_enter po17 d17 (wanted_guard gd17 po16 d16 (eval_same _ _ _ (by simp only [put_size, hsz]; decide))) (run_callf0 q17 rfl Tryd.func27 (by kernel_rfl) _) (works3_any w13 (HQ.out.below HP13.out.two.below hqs)) ?_
    rintro e w14 ⟨rfl, hb14⟩
    have HP14 := Lib.hid (HP13.out.on hb14); clear hb14
    refine ⟨_, rfl, HP14.out.two, ?_⟩
    refine met_free po18 d18 (wanted_of gd18) (fun w' _ => run_pick_true q18 ((eval_other _ 109 108 _ (by decide)).trans (eval_same _ _ _ (by simp only [put_size, hsz]; decide))) (eval_same _ _ _ (by simp only [put_size, hsz]; decide)) w') ?_
    refine met_free po19 d19 (wanted_of gd19) (fun w' _ => run_assign q19 (eval_same _ _ _ (by simp only [put_size, hsz]; decide)) w') ?_
    show NoPanic _ .normal _ _
    refine NoPanic.normal ?_
    rw [HAA.out]
    go_frame
    go_wp2_with fail
    go_ret
    exact ⟨rfl, HP14.out.two.below⟩
theorem places_any (key nonce bs : List (BitVec 8)) (n : Nat) (c : BitVec 32) (p : Option Addr) (cap : Nat) (at' : Int) (t : BitVec 8) (w : World) (hbn : bs.length = n) (hcap : n ≤ cap) (hnm : n ≤ 140737488351232) (_hcm : cap ≤ 140737488351232) (hk : key.length = 32) (hn : nonce.length = 12) (hL : Lies w p bs) (hq : Quads w) :
    Calls Tryd.prog 26 #[.agg (bytesV key).toArray, .int .u32 (n32 c), .agg (bytesV nonce).toArray, .slice p n cap, .int .i64 at', .int .u8 (n8 t)] w fun e w' => e = .returned (.bool true) ∧ Below w.heap.size w w' :=
  places_main key nonce bs n c p cap at' t w hbn hcap hnm hk hn hL hq
end Go.Proofs.YtgfmjfpafpmghaaDoor
