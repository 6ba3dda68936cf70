/-
  The walk of the law PolyOne: for any s and any bytes it returns true, and nothing that was there changes.
-/
import Derived.Test.YtgfmjfpafpmghaaPoOneTag
import Derived.Test.YtgfmjfpafpmghaaPoGoesLaw
namespace Go.Proofs.Ytgfmjfpafpmghaa
open Go.RowKit Go.Proofs.ShaWords
/-- The block of s, the key's, the text's. -/
structure OneW (w : World) (s : List (BitVec 8)) (G5 G6 : Nat) (key t : List (BitVec 8)) (wr : World) : Prop where
  s : BytesAt wr w.heap.size 28 s
  key : BytesAt wr G5 23 key
  t : BytesAt wr G6 28 t
  below : Below w.heap.size w wr
  later : w.heap.size < G5 ∧ G5 < G6
theorem OneW.on {w wr w' : World} {s key t : List (BitVec 8)} {G5 G6 : Nat} (h : OneW w s G5 G6 key t wr) (hb : Below wr.heap.size wr w') : OneW w s G5 G6 key t w' := ⟨h.s.keep hb, h.key.keep hb, h.t.keep hb, h.below.trans (hb.mono h.below.size), h.later⟩
theorem OneW.past {w wr w' : World} {s key t t' : List (BitVec 8)} {G5 G6 : Nat} (h : OneW w s G5 G6 key t wr) (hg : wr.grownBy w' (some G6)) (ht : BytesAt w' G6 28 t') : OneW w s G5 G6 key t' w' := by
  have := h.later
  exact ⟨h.s.past hg (by omega), h.key.past hg (by omega), ht, h.below.grown hg h.below.size (fun k hk => by cases hk; omega), h.later⟩
theorem one16_eq : (bytesV one16).toArray = #[Value.int .u8 1, Value.int .u8 0, Value.int .u8 0, Value.int .u8 0, Value.int .u8 0, Value.int .u8 0, Value.int .u8 0, Value.int .u8 0, Value.int .u8 0, Value.int .u8 0, Value.int .u8 0, Value.int .u8 0, Value.int .u8 0, Value.int .u8 0, Value.int .u8 0, Value.int .u8 0] := rfl
theorem with_one (s : List (BitVec 8)) (w : World) (hs : s.length = 16) :
    Calls Try.prog 14 #[.agg #[Value.int .u8 1, Value.int .u8 0, Value.int .u8 0, Value.int .u8 0, Value.int .u8 0, Value.int .u8 0, Value.int .u8 0, Value.int .u8 0, Value.int .u8 0, Value.int .u8 0, Value.int .u8 0, Value.int .u8 0, Value.int .u8 0, Value.int .u8 0, Value.int .u8 0, Value.int .u8 0], .agg (bytesV s).toArray] w fun e w' => e = .returned (.agg (bytesV (one16 ++ s)).toArray) ∧ Below w.heap.size w w' := by
  rw [← one16_eq]
  exact with_any one16 s w rfl hs
attribute [local irreducible] polyTag addB zeros16 zeros32 one16 oneT
set_option maxRecDepth 100000 in
set_option maxHeartbeats 4000000 in
/-- The end of the law: the two tags compared. -/
theorem one_any (s bs : List (BitVec 8)) (n : Nat) (p : Option Addr) (cap : Nat) (w : World) (ht : s.length = 16) (hm : bs.length = n) (hc : n ≤ cap) (hcm : cap ≤ 140737488355328) (hL : Lies w p bs) :
    Calls Try.prog 6 #[.agg (bytesV s).toArray, .slice p n cap] w fun e w' => e = .returned (.bool true) ∧ Below w.heap.size w w' := by
  have HSL := Lib.hid ht; clear ht
  have HM := Lib.hid hm; clear hm
  have HL := Lib.hid hL; clear hL
  by_cases hbig : 16 < n
  · go_enter Try.func6, Try.ntmps6
    have p0 : (16 : Int) < (n : Int) := by omega
    go_wp2_with fail
    refine calls_gen (fun w1 => Below w.heap.size w w1) ((Below.refl _ _).alloc (Nat.le_refl _) _) ?_
    intro w1 hb1
    refine (known_any w1).mono ?_
    rintro e w2 ⟨rfl, hb2⟩
    have HB2 := Lib.hid (hb1.trans (hb2.mono hb1.size)); clear hb1 hb2
    go_wp2_with fail
    go_ret
    exact ⟨rfl, HB2.out⟩
  · have HXL : Hid ((one16 ++ s).length = 32) := show _ = _ by rw [List.length_append, HSL.out]; unfold one16; rfl
    have HZL : Hid (zeros16.length = 16) := show _ = _ by unfold zeros16; rfl
    have HTL := Lib.hid (oneT_length bs (by rw [HM.out]; omega))
    have HTG := Lib.hid (one_tag s bs HSL.out (by rw [HM.out]; omega))
    have HOE : Hid (oneT bs = if 0 < n ∧ n < 16 then (splice zeros16 0 bs).set n 1#8 else splice zeros16 0 bs) := show _ = _ by unfold oneT; rw [HM.out]
    generalize oneT bs = t at HTL HTG HOE
    have HIS := Lib.hid (infoTag s HSL.out)
    have HIX := Lib.hid (infoKey _ HXL.out)
    have HXO := Lib.hid (show (#[Value.int .u8 0, Value.int .u8 0, Value.int .u8 0, Value.int .u8 0, Value.int .u8 0, Value.int .u8 0, Value.int .u8 0, Value.int .u8 0, Value.int .u8 0, Value.int .u8 0, Value.int .u8 0, Value.int .u8 0, Value.int .u8 0, Value.int .u8 0, Value.int .u8 0, Value.int .u8 0, Value.int .u8 0, Value.int .u8 0, Value.int .u8 0, Value.int .u8 0, Value.int .u8 0, Value.int .u8 0, Value.int .u8 0, Value.int .u8 0, Value.int .u8 0, Value.int .u8 0, Value.int .u8 0, Value.int .u8 0, Value.int .u8 0, Value.int .u8 0, Value.int .u8 0, Value.int .u8 0] : Array Value).size = (bytesV (one16 ++ s)).toArray.size by rw [bytesV_size _ 32 HXL.out]; rfl)
    have HXE := Lib.hid (bytesV_one (one16 ++ s))
    go_enter Try.func6, Try.ntmps6
    have p0 : ¬ (16 : Int) < (n : Int) := by omega
    go_upto_region 1 with (fail)
    refine wp_gen (fun w1 => BytesAt w1 w.heap.size 28 s ∧ Below w.heap.size w w1) ⟨heap_alloc_new w _, (Below.refl _ _).alloc (Nat.le_refl _) _⟩ ?_
    rintro w0 ⟨hs0, hb0⟩
    have HS0 := Lib.hid (show w0.heap[w.heap.size]? = some (.cells (bytesV s).toArray 28 (0, 0)) from hs0)
    have HB0 := Lib.hid hb0
    clear hs0 hb0
    go_wp2_with (refine wpList_load_row rfl 28 (.tmp 2) rfl w.heap.size rfl 28 _ (0, 0) _ HS0.out Try.underlying28 rfl HIS.out ?_)
    refine (with_one s w0 HSL.out).mono ?_
    rintro e w1 ⟨rfl, hb1⟩
    have HS1 := Lib.hid (BytesAt.keep HS0.out hb1)
    have HB1 := Lib.hid (HB0.out.trans (hb1.mono HB0.out.size))
    clear hb1 HS0 HB0
    go_upto_region 4 with (refine wpList_store_new rfl 23 (.tmp 5) (.tmp 13) rfl w1.heap.size rfl (bytesV (one16 ++ s)).toArray rfl rfl HIX.out HXO.out HXE.out ?_; intro w2 h2 hb2; have H2 := Lib.hid h2; have HB2 := Lib.hid hb2; clear h2 hb2)
    rw [put_none]
    go_upto_region 5 with (fail)
    obtain ⟨G5, hG⟩ : ∃ G, G = w1.heap.size := ⟨_, rfl⟩
    rw [← hG]
    refine wp_gen (OneW w s G5 w2.heap.size (one16 ++ s) zeros16) ?_ ?_
    · have hb : Below w1.heap.size w1 (w2.alloc (.cells (bytesV zeros16).toArray 28)) := HB2.out.alloc HB2.out.size _
      have hz : BytesAt (w2.alloc (.cells (bytesV zeros16).toArray 28)) w2.heap.size 28 zeros16 := heap_new_at rfl
      have hk : BytesAt (w2.alloc (.cells (bytesV zeros16).toArray 28)) G5 23 (one16 ++ s) := by
        rw [hG]; exact BytesAt.keep H2.out ((Below.refl _ _).alloc (Nat.le_refl _) _)
      have hs5 : G5 < w2.heap.size := by rw [hG]; exact (Array.getElem?_eq_some_iff.1 H2.out).1
      have hs4 : w.heap.size < G5 := by rw [hG]; exact HS1.out.size
      rw [zeros16_eq] at hb hz hk
      exact ⟨HS1.out.keep hb, hk, hz, HB1.out.trans (hb.mono HB1.out.size), hs4, hs5⟩
    generalize w2.heap.size = G6
    clear hG H2 HB2 HS1 HB1 HIX HXO HXE
    intro w3 hw3
    have HW3 := Lib.hid hw3; clear hw3
    have HT3 := Lib.hid HW3.out.t
    go_upto_region 6 with (refine wpList_copy_bytes rfl (.tmp 14) (.tmp 15) rfl G6 16 16 28 zeros16 bs p n cap rfl rfl HT3.out HZL.out (HL.out.below HW3.out.below) HM.out (by omega) ?_; intro w4 h4 g4; have HW4 := Lib.hid (HW3.out.past g4 h4); clear h4 g4)
    clear HW3 HT3
    have n16 : (n : Int) ≤ 16 := by omega
    go_frame
    have hsl : (splice zeros16 0 bs).length = 16 := by rw [length_splice _ _ _ (by rw [HM.out, HZL.out]; omega), HZL.out]
    by_cases hA : 0 < n ∧ n < 16
    · have HE : Hid (t = (splice zeros16 0 bs).set n 1#8) := show _ = _ by rw [HOE.out, if_pos hA]
      have n0 : 0 < n := hA.1
      have n1 : (n : Int) < 16 := by omega
      have n2 : 0 ≤ (n : Int) := by omega
      have n3 : (n : Int).toNat = n := by omega
      have n4 : 0 < (n : Int) := by omega
      have n5 : n < 16 := hA.2
      have c0 := HW4.out.t.cell n (by rw [hsl]; omega)
      have cf := HW4.out.t.frozenAt n
      clear hA hsl
      generalize (splice zeros16 0 bs).getD n 0#8 = u at c0
      go_upto_region 8 with (fail)
      have HW5 : Hid (OneW w s G5 G6 (one16 ++ s) t (w4.setCell ⟨G6, n, none⟩ (.int .u8 1))) := show OneW _ _ _ _ _ _ _ by
        rw [HE.out]; exact HW4.out.past (grown_setCell _ _ _ _) (HW4.out.t.put n 1#8)
      clear c0 cf HE HOE n0 n1 n2 n3 n4 n5 HW4
      generalize w4.setCell ⟨G6, n, none⟩ (.int .u8 1) = w5 at HW5 ⊢
      have HSD : Hid (OneW w s G5 G6 (one16 ++ s) t w5.drew) := show OneW _ _ _ _ _ _ _ from HW5.out.on ((Below.refl _ _).drew)
      refine region_phase (OneW w s G5 G6 (one16 ++ s) t) (fun _ => True) 2 HSD.out trivial [(0, .free), (1, .free), (3, .free), (4, .free), (2, .behind), (5, .behind), (6, .free), (7, .free), (8, .behind), (9, .free), (10, .free)] (by kernel_rfl) (by kernel_rfl) (by kernel_rfl) (by kernel_rfl) (fun ops hops A2 hA => ?_)
      have hsz : A2.tmps.size = 38 := by rw [hA]; rfl
      have base1 : A2.eval (.tmp 1) = .slice p n cap := by rw [hA]; rfl
      have base2 : A2.eval (.tmp 2) = .pointer (some ⟨w.heap.size, 0, none⟩) := by rw [hA]; rfl
      have base5 : A2.eval (.tmp 5) = .pointer (some ⟨G5, 0, none⟩) := by rw [hA]; rfl
      have base6 : A2.eval (.tmp 6) = .pointer (some ⟨G6, 0, none⟩) := by rw [hA]; rfl
      have HAA := Lib.hid hA; clear hA
      obtain ⟨o0, po0, q0, d0, gd0⟩ : ∃ o, ops[0]? = some o ∧ o.op = .load 23 (.tmp 5) ∧ o.dst = some 28 ∧ o.guard = none := ⟨_, by rw [hops]; rfl, rfl, rfl, rfl⟩
      obtain ⟨o1, po1, q1, d1, gd1⟩ : ∃ o, ops[1]? = some o ∧ o.op = .move (.tmp 1) ∧ o.dst = some 29 ∧ o.guard = none := ⟨_, by rw [hops]; rfl, rfl, rfl, rfl⟩
      obtain ⟨o2, po2, q2, d2, gd2⟩ : ∃ o, ops[2]? = some o ∧ o.op = .call { callee := .value (.func 10), args := #[.tmp 28, .tmp 29], argTypes := #[23, 24] } ∧ o.dst = some 30 ∧ o.guard = none := ⟨_, by rw [hops]; rfl, rfl, rfl, rfl⟩
      obtain ⟨o3, po3, q3, d3, gd3⟩ : ∃ o, ops[3]? = some o ∧ o.op = .load 28 (.tmp 6) ∧ o.dst = some 31 ∧ o.guard = none := ⟨_, by rw [hops]; rfl, rfl, rfl, rfl⟩
      obtain ⟨o4, po4, q4, d4, gd4⟩ : ∃ o, ops[4]? = some o ∧ o.op = .load 28 (.tmp 2) ∧ o.dst = some 32 ∧ o.guard = none := ⟨_, by rw [hops]; rfl, rfl, rfl, rfl⟩
      obtain ⟨o5, po5, q5, d5, gd5⟩ : ∃ o, ops[5]? = some o ∧ o.op = .call { callee := .value (.func 15), args := #[.tmp 31, .tmp 32], argTypes := #[28, 28] } ∧ o.dst = some 33 ∧ o.guard = none := ⟨_, by rw [hops]; rfl, rfl, rfl, rfl⟩
      obtain ⟨o6, po6, q6, d6, gd6⟩ : ∃ o, ops[6]? = some o ∧ o.op = .binOp .eql 28 (.tmp 30) (.tmp 33) 28 ∧ o.dst = some 34 ∧ o.guard = none := ⟨_, by rw [hops]; rfl, rfl, rfl, rfl⟩
      obtain ⟨o7, po7, q7, d7, gd7⟩ : ∃ o, ops[7]? = some o ∧ o.op = .move (.tmp 34) ∧ o.dst = some 35 ∧ o.guard = none := ⟨_, by rw [hops]; rfl, rfl, rfl, rfl⟩
      obtain ⟨o8, po8, q8, d8, gd8⟩ : ∃ o, ops[8]? = some o ∧ o.op = .call { callee := .value (.func 8), args := #[], argTypes := #[] } ∧ o.dst = some 36 ∧ o.guard = some (7, true) := ⟨_, by rw [hops]; rfl, rfl, rfl, rfl⟩
      obtain ⟨o9, po9, q9, d9, gd9⟩ : ∃ o, ops[9]? = some o ∧ o.op = .pick (.tmp 35) (.tmp 36) (.const (.bool false)) ∧ o.dst = some 37 ∧ o.guard = none := ⟨_, by rw [hops]; rfl, rfl, rfl, rfl⟩
      obtain ⟨o10, po10, q10, d10, gd10⟩ : ∃ o, ops[10]? = some o ∧ o.op = .assign (.tmp 37) ∧ o.dst = some 4 ∧ o.guard = none := ⟨_, by rw [hops]; rfl, rfl, rfl, rfl⟩
      clear hops
      refine met_free po0 d0 (wanted_of gd0) (fun w' h' => run_loadKey q0 base5 HXL.out h'.key) ?_
      refine met_free po1 d1 (wanted_of gd1) (fun w' _ => run_move q1 ((eval_other _ 28 1 _ (by decide)).trans base1) w') ?_
      refine met_free po3 d3 (wanted_of gd3) (fun w' h' => run_loadTag q3 ((eval_other _ 29 6 _ (by decide)).trans ((eval_other _ 28 6 _ (by decide)).trans base6)) HTL.out h'.t) ?_
      refine met_free po4 d4 (wanted_of gd4) (fun w' h' => run_loadTag q4 ((eval_other _ 31 2 _ (by decide)).trans ((eval_other _ 29 2 _ (by decide)).trans ((eval_other _ 28 2 _ (by decide)).trans base2))) HSL.out h'.s) ?_
      refine met_enterA po2 d2 (wanted_of gd2) (run_callf2 q2 rfl ((eval_other _ 32 28 _ (by decide)).trans ((eval_other _ 31 28 _ (by decide)).trans ((eval_other _ 29 28 _ (by decide)).trans (eval_same _ _ _ (by rw [hsz]; decide))))) ((eval_other _ 32 29 _ (by decide)).trans ((eval_other _ 31 29 _ (by decide)).trans (eval_same _ _ _ (by simp only [put_size, hsz]; decide)))) Try.func10 (by kernel_rfl) _) (polySum_any (one16 ++ s) bs n p cap _ HXL.out HM.out hc hcm (HL.out.below HSD.out.below)) ?_
      rintro e w5 ⟨rfl, hb5⟩
      have H5 := Lib.hid (HSD.out.on hb5); clear hb5
      refine ⟨_, rfl, H5.out, ?_⟩
      rw [HTG.out]
      refine met_enterA po5 d5 (wanted_of gd5) (run_callf2 q5 rfl ((eval_other _ 30 31 _ (by decide)).trans ((eval_other _ 32 31 _ (by decide)).trans (eval_same _ _ _ (by simp only [put_size, hsz]; decide)))) ((eval_other _ 30 32 _ (by decide)).trans (eval_same _ _ _ (by simp only [put_size, hsz]; decide))) Try.func15 (by kernel_rfl) _) (sumTag_any t s _ HTL.out HSL.out) ?_
      rintro e w6 ⟨rfl, hb6⟩
      have H6 := Lib.hid (H5.out.on hb6); clear hb6
      refine ⟨_, rfl, H6.out, ?_⟩
      refine met_free po6 d6 (wanted_of gd6) (fun w' _ => run_eql_tag q6 (addB_length _ _ _) ((eval_other _ 33 30 _ (by decide)).trans (eval_same _ _ _ (by simp only [put_size, hsz]; decide))) (eval_same _ _ _ (by simp only [put_size, hsz]; decide)) w') ?_
      refine met_free po7 d7 (wanted_of gd7) (fun w' _ => run_move q7 (eval_same _ _ _ (by simp only [put_size, hsz]; decide)) w') ?_
      refine met_enterA po8 d8 (wanted_guard gd8 po7 d7 (eval_same _ _ _ (by simp only [put_size, hsz]; decide))) (run_callf0 q8 rfl Try.func8 (by kernel_rfl) _) (known_any _) ?_
      rintro e w7 ⟨rfl, hb7⟩
      have H7 := Lib.hid (H6.out.on hb7); clear hb7
      refine ⟨_, rfl, H7.out, ?_⟩
      refine met_free po9 d9 (wanted_of gd9) (fun w' _ => run_pick_true q9 ((eval_other _ 36 35 _ (by decide)).trans (eval_same _ _ _ (by simp only [put_size, hsz]; decide))) (eval_same _ _ _ (by simp only [put_size, hsz]; decide)) w') ?_
      refine met_free po10 d10 (wanted_of gd10) (fun w' _ => run_assign q10 (eval_same _ _ _ (by simp only [put_size, hsz]; decide)) w') ?_
      show NoPanic _ .normal _ _
      refine NoPanic.normal ?_
      rw [HAA.out]
      go_frame
      clear HAA
      go_wp2_with fail
      go_ret
      exact ⟨rfl, H7.out.below⟩
    · have HE : Hid (t = splice zeros16 0 bs) := show _ = _ by rw [HOE.out, if_neg hA]
      clear hsl
      rw [← HE.out] at HW4
      by_cases h0 : n = 0
      · subst h0
        go_upto_region 8 with (fail)
        have HSD : Hid (OneW w s G5 G6 (one16 ++ s) t w4.drew) := show OneW _ _ _ _ _ _ _ from HW4.out.on ((Below.refl _ _).drew)
        clear hA HE HOE HW4 n16
        refine region_phase (OneW w s G5 G6 (one16 ++ s) t) (fun _ => True) 2 HSD.out trivial [(0, .free), (1, .free), (3, .free), (4, .free), (2, .behind), (5, .behind), (6, .free), (7, .free), (8, .behind), (9, .free), (10, .free)] (by kernel_rfl) (by kernel_rfl) (by kernel_rfl) (by kernel_rfl) (fun ops hops A2 hA => ?_)
        have hsz : A2.tmps.size = 38 := by rw [hA]; rfl
        have base1 : A2.eval (.tmp 1) = .slice p 0 cap := by rw [hA]; rfl
        have base2 : A2.eval (.tmp 2) = .pointer (some ⟨w.heap.size, 0, none⟩) := by rw [hA]; rfl
        have base5 : A2.eval (.tmp 5) = .pointer (some ⟨G5, 0, none⟩) := by rw [hA]; rfl
        have base6 : A2.eval (.tmp 6) = .pointer (some ⟨G6, 0, none⟩) := by rw [hA]; rfl
        have HAA := Lib.hid hA; clear hA
        obtain ⟨o0, po0, q0, d0, gd0⟩ : ∃ o, ops[0]? = some o ∧ o.op = .load 23 (.tmp 5) ∧ o.dst = some 28 ∧ o.guard = none := ⟨_, by rw [hops]; rfl, rfl, rfl, rfl⟩
        obtain ⟨o1, po1, q1, d1, gd1⟩ : ∃ o, ops[1]? = some o ∧ o.op = .move (.tmp 1) ∧ o.dst = some 29 ∧ o.guard = none := ⟨_, by rw [hops]; rfl, rfl, rfl, rfl⟩
        obtain ⟨o2, po2, q2, d2, gd2⟩ : ∃ o, ops[2]? = some o ∧ o.op = .call { callee := .value (.func 10), args := #[.tmp 28, .tmp 29], argTypes := #[23, 24] } ∧ o.dst = some 30 ∧ o.guard = none := ⟨_, by rw [hops]; rfl, rfl, rfl, rfl⟩
        obtain ⟨o3, po3, q3, d3, gd3⟩ : ∃ o, ops[3]? = some o ∧ o.op = .load 28 (.tmp 6) ∧ o.dst = some 31 ∧ o.guard = none := ⟨_, by rw [hops]; rfl, rfl, rfl, rfl⟩
        obtain ⟨o4, po4, q4, d4, gd4⟩ : ∃ o, ops[4]? = some o ∧ o.op = .load 28 (.tmp 2) ∧ o.dst = some 32 ∧ o.guard = none := ⟨_, by rw [hops]; rfl, rfl, rfl, rfl⟩
        obtain ⟨o5, po5, q5, d5, gd5⟩ : ∃ o, ops[5]? = some o ∧ o.op = .call { callee := .value (.func 15), args := #[.tmp 31, .tmp 32], argTypes := #[28, 28] } ∧ o.dst = some 33 ∧ o.guard = none := ⟨_, by rw [hops]; rfl, rfl, rfl, rfl⟩
        obtain ⟨o6, po6, q6, d6, gd6⟩ : ∃ o, ops[6]? = some o ∧ o.op = .binOp .eql 28 (.tmp 30) (.tmp 33) 28 ∧ o.dst = some 34 ∧ o.guard = none := ⟨_, by rw [hops]; rfl, rfl, rfl, rfl⟩
        obtain ⟨o7, po7, q7, d7, gd7⟩ : ∃ o, ops[7]? = some o ∧ o.op = .move (.tmp 34) ∧ o.dst = some 35 ∧ o.guard = none := ⟨_, by rw [hops]; rfl, rfl, rfl, rfl⟩
        obtain ⟨o8, po8, q8, d8, gd8⟩ : ∃ o, ops[8]? = some o ∧ o.op = .call { callee := .value (.func 8), args := #[], argTypes := #[] } ∧ o.dst = some 36 ∧ o.guard = some (7, true) := ⟨_, by rw [hops]; rfl, rfl, rfl, rfl⟩
        obtain ⟨o9, po9, q9, d9, gd9⟩ : ∃ o, ops[9]? = some o ∧ o.op = .pick (.tmp 35) (.tmp 36) (.const (.bool false)) ∧ o.dst = some 37 ∧ o.guard = none := ⟨_, by rw [hops]; rfl, rfl, rfl, rfl⟩
        obtain ⟨o10, po10, q10, d10, gd10⟩ : ∃ o, ops[10]? = some o ∧ o.op = .assign (.tmp 37) ∧ o.dst = some 4 ∧ o.guard = none := ⟨_, by rw [hops]; rfl, rfl, rfl, rfl⟩
        clear hops
        refine met_free po0 d0 (wanted_of gd0) (fun w' h' => run_loadKey q0 base5 HXL.out h'.key) ?_
        refine met_free po1 d1 (wanted_of gd1) (fun w' _ => run_move q1 ((eval_other _ 28 1 _ (by decide)).trans base1) w') ?_
        refine met_free po3 d3 (wanted_of gd3) (fun w' h' => run_loadTag q3 ((eval_other _ 29 6 _ (by decide)).trans ((eval_other _ 28 6 _ (by decide)).trans base6)) HTL.out h'.t) ?_
        refine met_free po4 d4 (wanted_of gd4) (fun w' h' => run_loadTag q4 ((eval_other _ 31 2 _ (by decide)).trans ((eval_other _ 29 2 _ (by decide)).trans ((eval_other _ 28 2 _ (by decide)).trans base2))) HSL.out h'.s) ?_
        refine met_enterA po2 d2 (wanted_of gd2) (run_callf2 q2 rfl ((eval_other _ 32 28 _ (by decide)).trans ((eval_other _ 31 28 _ (by decide)).trans ((eval_other _ 29 28 _ (by decide)).trans (eval_same _ _ _ (by rw [hsz]; decide))))) ((eval_other _ 32 29 _ (by decide)).trans ((eval_other _ 31 29 _ (by decide)).trans (eval_same _ _ _ (by simp only [put_size, hsz]; decide)))) Try.func10 (by kernel_rfl) _) (polySum_any (one16 ++ s) bs 0 p cap _ HXL.out HM.out hc hcm (HL.out.below HSD.out.below)) ?_
        rintro e w5 ⟨rfl, hb5⟩
        have H5 := Lib.hid (HSD.out.on hb5); clear hb5
        refine ⟨_, rfl, H5.out, ?_⟩
        rw [HTG.out]
        refine met_enterA po5 d5 (wanted_of gd5) (run_callf2 q5 rfl ((eval_other _ 30 31 _ (by decide)).trans ((eval_other _ 32 31 _ (by decide)).trans (eval_same _ _ _ (by simp only [put_size, hsz]; decide)))) ((eval_other _ 30 32 _ (by decide)).trans (eval_same _ _ _ (by simp only [put_size, hsz]; decide))) Try.func15 (by kernel_rfl) _) (sumTag_any t s _ HTL.out HSL.out) ?_
        rintro e w6 ⟨rfl, hb6⟩
        have H6 := Lib.hid (H5.out.on hb6); clear hb6
        refine ⟨_, rfl, H6.out, ?_⟩
        refine met_free po6 d6 (wanted_of gd6) (fun w' _ => run_eql_tag q6 (addB_length _ _ _) ((eval_other _ 33 30 _ (by decide)).trans (eval_same _ _ _ (by simp only [put_size, hsz]; decide))) (eval_same _ _ _ (by simp only [put_size, hsz]; decide)) w') ?_
        refine met_free po7 d7 (wanted_of gd7) (fun w' _ => run_move q7 (eval_same _ _ _ (by simp only [put_size, hsz]; decide)) w') ?_
        refine met_enterA po8 d8 (wanted_guard gd8 po7 d7 (eval_same _ _ _ (by simp only [put_size, hsz]; decide))) (run_callf0 q8 rfl Try.func8 (by kernel_rfl) _) (known_any _) ?_
        rintro e w7 ⟨rfl, hb7⟩
        have H7 := Lib.hid (H6.out.on hb7); clear hb7
        refine ⟨_, rfl, H7.out, ?_⟩
        refine met_free po9 d9 (wanted_of gd9) (fun w' _ => run_pick_true q9 ((eval_other _ 36 35 _ (by decide)).trans (eval_same _ _ _ (by simp only [put_size, hsz]; decide))) (eval_same _ _ _ (by simp only [put_size, hsz]; decide)) w') ?_
        refine met_free po10 d10 (wanted_of gd10) (fun w' _ => run_assign q10 (eval_same _ _ _ (by simp only [put_size, hsz]; decide)) w') ?_
        show NoPanic _ .normal _ _
        refine NoPanic.normal ?_
        rw [HAA.out]
        go_frame
        clear HAA
        go_wp2_with fail
        go_ret
        exact ⟨rfl, H7.out.below⟩
      · have n0 : 0 < (n : Int) := by omega
        have n1 : ¬ (n : Int) < 16 := by omega
        have n2 : 0 < n := by omega
        have n3 : ¬ n < 16 := by omega
        go_upto_region 8 with (fail)
        have HSD : Hid (OneW w s G5 G6 (one16 ++ s) t w4.drew) := show OneW _ _ _ _ _ _ _ from HW4.out.on ((Below.refl _ _).drew)
        clear hA HE HOE HW4 n16 n0 n1 n2 n3
        refine region_phase (OneW w s G5 G6 (one16 ++ s) t) (fun _ => True) 2 HSD.out trivial [(0, .free), (1, .free), (3, .free), (4, .free), (2, .behind), (5, .behind), (6, .free), (7, .free), (8, .behind), (9, .free), (10, .free)] (by kernel_rfl) (by kernel_rfl) (by kernel_rfl) (by kernel_rfl) (fun ops hops A2 hA => ?_)
        have hsz : A2.tmps.size = 38 := by rw [hA]; rfl
        have base1 : A2.eval (.tmp 1) = .slice p n cap := by rw [hA]; rfl
        have base2 : A2.eval (.tmp 2) = .pointer (some ⟨w.heap.size, 0, none⟩) := by rw [hA]; rfl
        have base5 : A2.eval (.tmp 5) = .pointer (some ⟨G5, 0, none⟩) := by rw [hA]; rfl
        have base6 : A2.eval (.tmp 6) = .pointer (some ⟨G6, 0, none⟩) := by rw [hA]; rfl
        have HAA := Lib.hid hA; clear hA
        obtain ⟨o0, po0, q0, d0, gd0⟩ : ∃ o, ops[0]? = some o ∧ o.op = .load 23 (.tmp 5) ∧ o.dst = some 28 ∧ o.guard = none := ⟨_, by rw [hops]; rfl, rfl, rfl, rfl⟩
        obtain ⟨o1, po1, q1, d1, gd1⟩ : ∃ o, ops[1]? = some o ∧ o.op = .move (.tmp 1) ∧ o.dst = some 29 ∧ o.guard = none := ⟨_, by rw [hops]; rfl, rfl, rfl, rfl⟩
        obtain ⟨o2, po2, q2, d2, gd2⟩ : ∃ o, ops[2]? = some o ∧ o.op = .call { callee := .value (.func 10), args := #[.tmp 28, .tmp 29], argTypes := #[23, 24] } ∧ o.dst = some 30 ∧ o.guard = none := ⟨_, by rw [hops]; rfl, rfl, rfl, rfl⟩
        obtain ⟨o3, po3, q3, d3, gd3⟩ : ∃ o, ops[3]? = some o ∧ o.op = .load 28 (.tmp 6) ∧ o.dst = some 31 ∧ o.guard = none := ⟨_, by rw [hops]; rfl, rfl, rfl, rfl⟩
        obtain ⟨o4, po4, q4, d4, gd4⟩ : ∃ o, ops[4]? = some o ∧ o.op = .load 28 (.tmp 2) ∧ o.dst = some 32 ∧ o.guard = none := ⟨_, by rw [hops]; rfl, rfl, rfl, rfl⟩
        obtain ⟨o5, po5, q5, d5, gd5⟩ : ∃ o, ops[5]? = some o ∧ o.op = .call { callee := .value (.func 15), args := #[.tmp 31, .tmp 32], argTypes := #[28, 28] } ∧ o.dst = some 33 ∧ o.guard = none := ⟨_, by rw [hops]; rfl, rfl, rfl, rfl⟩
        obtain ⟨o6, po6, q6, d6, gd6⟩ : ∃ o, ops[6]? = some o ∧ o.op = .binOp .eql 28 (.tmp 30) (.tmp 33) 28 ∧ o.dst = some 34 ∧ o.guard = none := ⟨_, by rw [hops]; rfl, rfl, rfl, rfl⟩
        obtain ⟨o7, po7, q7, d7, gd7⟩ : ∃ o, ops[7]? = some o ∧ o.op = .move (.tmp 34) ∧ o.dst = some 35 ∧ o.guard = none := ⟨_, by rw [hops]; rfl, rfl, rfl, rfl⟩
        obtain ⟨o8, po8, q8, d8, gd8⟩ : ∃ o, ops[8]? = some o ∧ o.op = .call { callee := .value (.func 8), args := #[], argTypes := #[] } ∧ o.dst = some 36 ∧ o.guard = some (7, true) := ⟨_, by rw [hops]; rfl, rfl, rfl, rfl⟩
        obtain ⟨o9, po9, q9, d9, gd9⟩ : ∃ o, ops[9]? = some o ∧ o.op = .pick (.tmp 35) (.tmp 36) (.const (.bool false)) ∧ o.dst = some 37 ∧ o.guard = none := ⟨_, by rw [hops]; rfl, rfl, rfl, rfl⟩
        obtain ⟨o10, po10, q10, d10, gd10⟩ : ∃ o, ops[10]? = some o ∧ o.op = .assign (.tmp 37) ∧ o.dst = some 4 ∧ o.guard = none := ⟨_, by rw [hops]; rfl, rfl, rfl, rfl⟩
        clear hops
        refine met_free po0 d0 (wanted_of gd0) (fun w' h' => run_loadKey q0 base5 HXL.out h'.key) ?_
        refine met_free po1 d1 (wanted_of gd1) (fun w' _ => run_move q1 ((eval_other _ 28 1 _ (by decide)).trans base1) w') ?_
        refine met_free po3 d3 (wanted_of gd3) (fun w' h' => run_loadTag q3 ((eval_other _ 29 6 _ (by decide)).trans ((eval_other _ 28 6 _ (by decide)).trans base6)) HTL.out h'.t) ?_
        refine met_free po4 d4 (wanted_of gd4) (fun w' h' => run_loadTag q4 ((eval_other _ 31 2 _ (by decide)).trans ((eval_other _ 29 2 _ (by decide)).trans ((eval_other _ 28 2 _ (by decide)).trans base2))) HSL.out h'.s) ?_
        refine met_enterA po2 d2 (wanted_of gd2) (run_callf2 q2 rfl ((eval_other _ 32 28 _ (by decide)).trans ((eval_other _ 31 28 _ (by decide)).trans ((eval_other _ 29 28 _ (by decide)).trans (eval_same _ _ _ (by rw [hsz]; decide))))) ((eval_other _ 32 29 _ (by decide)).trans ((eval_other _ 31 29 _ (by decide)).trans (eval_same _ _ _ (by simp only [put_size, hsz]; decide)))) Try.func10 (by kernel_rfl) _) (polySum_any (one16 ++ s) bs n p cap _ HXL.out HM.out hc hcm (HL.out.below HSD.out.below)) ?_
        rintro e w5 ⟨rfl, hb5⟩
        have H5 := Lib.hid (HSD.out.on hb5); clear hb5
        refine ⟨_, rfl, H5.out, ?_⟩
        rw [HTG.out]
        refine met_enterA po5 d5 (wanted_of gd5) (run_callf2 q5 rfl ((eval_other _ 30 31 _ (by decide)).trans ((eval_other _ 32 31 _ (by decide)).trans (eval_same _ _ _ (by simp only [put_size, hsz]; decide)))) ((eval_other _ 30 32 _ (by decide)).trans (eval_same _ _ _ (by simp only [put_size, hsz]; decide))) Try.func15 (by kernel_rfl) _) (sumTag_any t s _ HTL.out HSL.out) ?_
        rintro e w6 ⟨rfl, hb6⟩
        have H6 := Lib.hid (H5.out.on hb6); clear hb6
        refine ⟨_, rfl, H6.out, ?_⟩
        refine met_free po6 d6 (wanted_of gd6) (fun w' _ => run_eql_tag q6 (addB_length _ _ _) ((eval_other _ 33 30 _ (by decide)).trans (eval_same _ _ _ (by simp only [put_size, hsz]; decide))) (eval_same _ _ _ (by simp only [put_size, hsz]; decide)) w') ?_
        refine met_free po7 d7 (wanted_of gd7) (fun w' _ => run_move q7 (eval_same _ _ _ (by simp only [put_size, hsz]; decide)) w') ?_
        refine met_enterA po8 d8 (wanted_guard gd8 po7 d7 (eval_same _ _ _ (by simp only [put_size, hsz]; decide))) (run_callf0 q8 rfl Try.func8 (by kernel_rfl) _) (known_any _) ?_
        rintro e w7 ⟨rfl, hb7⟩
        have H7 := Lib.hid (H6.out.on hb7); clear hb7
        refine ⟨_, rfl, H7.out, ?_⟩
        refine met_free po9 d9 (wanted_of gd9) (fun w' _ => run_pick_true q9 ((eval_other _ 36 35 _ (by decide)).trans (eval_same _ _ _ (by simp only [put_size, hsz]; decide))) (eval_same _ _ _ (by simp only [put_size, hsz]; decide)) w') ?_
        refine met_free po10 d10 (wanted_of gd10) (fun w' _ => run_assign q10 (eval_same _ _ _ (by simp only [put_size, hsz]; decide)) w') ?_
        show NoPanic _ .normal _ _
        refine NoPanic.normal ?_
        rw [HAA.out]
        go_frame
        clear HAA
        go_wp2_with fail
        go_ret
        exact ⟨rfl, H7.out.below⟩
end Go.Proofs.Ytgfmjfpafpmghaa
