/-
  The contract of the law's own check: where the package's two tables hold their numbers, works returns true, and nothing that was there changes.
-/
import Derived.Test.YtgfmjfpafpmghaaDoorOrder
namespace Go.Proofs.YtgfmjfpafpmghaaDoor
open Go.RowKit Go.Proofs.ShaWords

set_option maxRecDepth 100000 in
set_option maxHeartbeats 1000000 in
theorem works_any (w : World) (hk : Consts w) (hs : Starts w) :
    Calls Tryd.prog 16 #[] w fun e w' => e = .returned (.bool true) ∧ Below w.heap.size w w' := by
  have hs1 := hk.size
  have HK := Lib.hid hk; clear hk
  have HS := Lib.hid hs; clear hs
  have kc := fun (w : World) (C : Array Value) (n c : Nat) => Lib.run_convert_bytes_const (P := Tryd.prog) w 26 5 C n c Tryd.underlying26 Tryd.underlying5
  go_enter Tryd.func16, Tryd.ntmps16
  go_wp2_with fail
  refine (new_any w HS.out).mono ?_
  rintro e w1 ⟨rfl, ha1, hb1⟩
  have sz1 := ha1.size
  have HA1 := Lib.hid ha1; clear ha1
  have HB1 := Lib.hid hb1; clear hb1
  go_wp2_with fail
  refine calls_gen (fun w' => HashAt w' w.heap.size newHS ∧ Reads w' w.heap.size (some ⟨w1.heap.size, 0, none⟩) [97#8, 98#8] ∧ Below w.heap.size w w' ∧ w1.heap.size < w'.heap.size) ⟨HA1.out.keep ((Below.refl _ _).alloc (Nat.le_refl _) _), Or.inr ⟨w1.heap.size, 0, rfl, by omega, range_bytesV (l := [97#8, 98#8]) (heap_new_at rfl)⟩, HB1.out.alloc (by omega) _, by rw [size_alloc]; omega⟩ ?_
  rintro w1' ⟨ha1, hr1, hb1, hz1⟩
  refine (write_any w.heap.size newHS [97#8, 98#8] _ _ w1' ha1 hr1 (by decide) (by decide) (by decide) (HK.out.below hb1 hs1) (by omega)).mono ?_
  rintro e w2 ⟨rfl, ha2, hg2⟩
  have sz2 := ha2.size
  have HA2 := Lib.hid ha2
  have HB2 := Lib.hid (hb1.grown hg2 (by omega) (fun k hk => by have := Option.some.inj hk; omega))
  clear ha2 hg2 HA1 HB1 ha1 hr1 hb1 hz1
  go_wp2_with fail
  refine calls_gen (fun w' => HashAt w' w.heap.size (writeOf newHS [97#8, 98#8]) ∧ Reads w' w.heap.size (some ⟨w2.heap.size, 0, none⟩) [99#8] ∧ Below w.heap.size w w' ∧ w2.heap.size < w'.heap.size) ⟨HA2.out.keep ((Below.refl _ _).alloc (Nat.le_refl _) _), Or.inr ⟨w2.heap.size, 0, rfl, by omega, range_bytesV (l := [99#8]) (heap_new_at rfl)⟩, HB2.out.alloc (by omega) _, by rw [size_alloc]; omega⟩ ?_
  rintro w2' ⟨ha1, hr1, hb1, hz1⟩
  refine (write_any w.heap.size _ [99#8] _ _ w2' ha1 hr1 (by decide) (by decide) (by rw [writeOf_n]; decide) (HK.out.below hb1 hs1) (by omega)).mono ?_
  rintro e w3 ⟨rfl, ha3, hg3⟩
  rw [← writeOf_append] at ha3
  have sz3 := ha3.size
  have HA3 := Lib.hid (show HashAt w3 w.heap.size (writeOf newHS [97#8, 98#8, 99#8]) from ha3)
  have HB3 := Lib.hid (hb1.grown hg3 (by omega) (fun k hk => by have := Option.some.inj hk; omega))
  clear ha3 hg3 HA2 HB2 ha1 hr1 hb1 hz1
  go_wp2_with fail
  rw [← abc_vals]
  refine (lawSum_any abcSt w3).mono ?_
  rintro e w4 ⟨rfl, hb4⟩
  have HA4 := Lib.hid (HA3.out.keep hb4)
  have HB4 := Lib.hid (HB3.out.trans (hb4.mono (by omega)))
  have sz4 := HA4.out.size
  clear hb4 HA3 HB3
  have hdl := digestOf_length abcSt
  have HI := Lib.hid ((show (Tryd.prog.info? 33).map (·.size) = some 32 by kernel_rfl).trans (congrArg some (bytesV_size _ 32 hdl).symm))
  have HOLD := Lib.hid (show (bytesV (List.replicate 32 0#8)).toArray.size = (bytesV (digestOf abcSt)).toArray.size by rw [bytesV_size _ 32 hdl]; rfl)
  have HONE := Lib.hid (bytesV_one (digestOf abcSt))
  have HDL := Lib.hid hdl; clear hdl
  go_wp2_with (refine wpList_store_new rfl 33 (.tmp 2) (.tmp 15) rfl w4.heap.size rfl (bytesV (digestOf abcSt)).toArray rfl rfl HI.out (by rw [← noughts32]; exact HOLD.out) HONE.out ?_; intro w5 h5 b5; have HT5 := Lib.hid (range_bytesV h5); have HA5 := Lib.hid (HA4.out.keep b5); have HB5 := Lib.hid (HB4.out.trans (b5.mono (by omega))); have sz5 := (Array.getElem?_eq_some_iff.1 h5).1; clear h5 b5)
  go_frame
  have HSM : Hid (sumOf (writeOf newHS [97#8, 98#8, 99#8]) = digestOf abcSt) := show _ = _ by rw [show sumOf (writeOf newHS [97#8, 98#8, 99#8]) = shaOf [97#8, 98#8, 99#8] from rfl, abc_sum]
  have HSH := Lib.hid abc_sum
  clear HI HOLD HONE HB4 HA4
  generalize w4.heap.size = T at HT5 sz5 sz4 ⊢
  generalize digestOf abcSt = dg at HSM HSH HT5 HDL
  refine region_sched [(0, true), (2, true), (1, false), (3, true), (4, true), (8, true), (5, false), (6, false), (7, false), (9, true), (10, true), (11, true)] (by kernel_rfl) (by kernel_rfl) (by kernel_rfl) (by kernel_rfl) (fun ops hops A hA => ?_)
  have hsz : A.tmps.size = 27 := by rw [hA]; rfl
  have base1 : A.eval (.tmp 1) = .pointer (some ⟨w.heap.size, 0, none⟩) := by rw [hA]; rfl
  have base2 : A.eval (.tmp 2) = .pointer (some ⟨T, 0, none⟩) := by rw [hA]; rfl
  have HAA := Lib.hid hA; clear hA
  obtain ⟨o0, po0, q0, d0, g0⟩ : ∃ o, ops[0]? = some o ∧ o.op = .move (.tmp 1) ∧ o.dst = some 16 ∧ o.guard = none := ⟨_, by rw [hops]; rfl, rfl, rfl, rfl⟩
  obtain ⟨o1, po1, q1, d1, g1⟩ : ∃ o, ops[1]? = some o ∧ o.op = .call { callee := .value (.func 15), args := #[.tmp 16], argTypes := #[37] } ∧ o.dst = some 17 ∧ o.guard = none := ⟨_, by rw [hops]; rfl, rfl, rfl, rfl⟩
  obtain ⟨o2, po2, q2, d2, g2⟩ : ∃ o, ops[2]? = some o ∧ o.op = .load 33 (.tmp 2) ∧ o.dst = some 18 ∧ o.guard = none := ⟨_, by rw [hops]; rfl, rfl, rfl, rfl⟩
  obtain ⟨o3, po3, q3, d3, g3⟩ : ∃ o, ops[3]? = some o ∧ o.op = .binOp .eql 33 (.tmp 17) (.tmp 18) 33 ∧ o.dst = some 19 ∧ o.guard = none := ⟨_, by rw [hops]; rfl, rfl, rfl, rfl⟩
  obtain ⟨o4, po4, q4, d4, g4⟩ : ∃ o, ops[4]? = some o ∧ o.op = .move (.tmp 19) ∧ o.dst = some 20 ∧ o.guard = none := ⟨_, by rw [hops]; rfl, rfl, rfl, rfl⟩
  obtain ⟨o5, po5, q5, d5, g5⟩ : ∃ o, ops[5]? = some o ∧ o.op = .buildSlice 26 3 #[(0, .const (.int .u8 97)), (1, .const (.int .u8 98)), (2, .const (.int .u8 99))] ∧ o.dst = some 21 ∧ o.guard = some (4, true) := ⟨_, by rw [hops]; rfl, rfl, rfl, rfl⟩
  obtain ⟨o6, po6, q6, d6, g6⟩ : ∃ o, ops[6]? = some o ∧ o.op = .convert 26 26 (.tmp 21) ∧ o.dst = some 22 ∧ o.guard = some (4, true) := ⟨_, by rw [hops]; rfl, rfl, rfl, rfl⟩
  obtain ⟨o7, po7, q7, d7, g7⟩ : ∃ o, ops[7]? = some o ∧ o.op = .call { callee := .value (.func 13), args := #[.tmp 22], argTypes := #[26] } ∧ o.dst = some 23 ∧ o.guard = some (4, true) := ⟨_, by rw [hops]; rfl, rfl, rfl, rfl⟩
  obtain ⟨o8, po8, q8, d8, g8⟩ : ∃ o, ops[8]? = some o ∧ o.op = .load 33 (.tmp 2) ∧ o.dst = some 24 ∧ o.guard = some (4, true) := ⟨_, by rw [hops]; rfl, rfl, rfl, rfl⟩
  obtain ⟨o9, po9, q9, d9, g9⟩ : ∃ o, ops[9]? = some o ∧ o.op = .binOp .eql 33 (.tmp 23) (.tmp 24) 33 ∧ o.dst = some 25 ∧ o.guard = some (4, true) := ⟨_, by rw [hops]; rfl, rfl, rfl, rfl⟩
  obtain ⟨o10, po10, q10, d10, g10⟩ : ∃ o, ops[10]? = some o ∧ o.op = .pick (.tmp 20) (.tmp 25) (.const (.bool false)) ∧ o.dst = some 26 ∧ o.guard = none := ⟨_, by rw [hops]; rfl, rfl, rfl, rfl⟩
  obtain ⟨o11, po11, q11, d11, g11⟩ : ∃ o, ops[11]? = some o ∧ o.op = .assign (.tmp 26) ∧ o.dst = some 0 ∧ o.guard = none := ⟨_, by rw [hops]; rfl, rfl, rfl, rfl⟩
  clear hops
  refine step_pure po0 d0 (wanted_of g0) (fun w' _ => run_move q0 (by exact base1) w') ?_
  refine step_pure po2 d2 (wanted_of g2) (fun w' hw' => run_load_sum q2 (by rw [eval_other _ 16 2 _ (by decide)]; exact base2) HDL.out (range_keep (w := w5.drew) HT5.out hw')) ?_
  refine step_call po1 d1 (wanted_of g1) (run_call16 q1 rfl (by rw [eval_other _ 18 16 _ (by decide)]; exact eval_same _ _ _ (by rw [hsz]; decide)) _) (sum_any w.heap.size (writeOf newHS [97#8, 98#8, 99#8]) w5.drew HA5.out (HK.out.below HB5.out.drew hs1) (by rw [writeOf_n]; decide)) (fun w' hR => hR) ?_
  intro w6 hb6
  rw [HSM.out]
  refine step_pure po3 d3 (wanted_of g3) (fun w' _ => run_eql_sum q3 HDL.out (by exact eval_same _ _ _ (by simp only [put_size, hsz]; decide)) (by rw [eval_other _ 17 18 _ (by decide)]; exact eval_same _ _ _ (by simp only [put_size, hsz]; decide)) w') ?_
  refine step_pure po4 d4 (wanted_of g4) (fun w' _ => run_move q4 (by exact eval_same _ _ _ (by simp only [put_size, hsz]; decide)) w') ?_
  refine step_pure po8 d8 (wanted_guard g8 po4 d4 (by exact eval_same _ _ _ (by simp only [put_size, hsz]; decide))) (fun w' hw' => run_load_sum q8 (by rw [eval_other _ 20 2 _ (by decide), eval_other _ 19 2 _ (by decide), eval_other _ 17 2 _ (by decide), eval_other _ 18 2 _ (by decide), eval_other _ 16 2 _ (by decide)]; exact base2) HDL.out (range_keep (w := w5.drew) HT5.out hw')) ?_
  refine step_op po5 d5 (wanted_guard g5 po4 d4 (by rw [eval_other _ 24 20 _ (by decide)]; exact eval_same _ _ _ (by simp only [put_size, hsz]; decide))) (run_abc q5 (fun _ => rfl) w6) (hb6.alloc hb6.size _) ?_
  refine step_op po6 d6 (wanted_guard g6 po4 d4 (by rw [eval_other _ 21 20 _ (by decide), eval_other _ 24 20 _ (by decide)]; exact eval_same _ _ _ (by simp only [put_size, hsz]; decide))) (run_conv q6 _ 3 3 w6 (by exact eval_same _ _ _ (by simp only [put_size, hsz]; decide))) (hb6.alloc hb6.size _) ?_
  refine step_call po7 d7 (wanted_guard g7 po4 d4 (by rw [eval_other _ 22 20 _ (by decide), eval_other _ 21 20 _ (by decide), eval_other _ 24 20 _ (by decide)]; exact eval_same _ _ _ (by simp only [put_size, hsz]; decide))) (run_call10 q7 rfl (by exact eval_same _ _ _ (by simp only [put_size, hsz]; decide)) _) (shaSum_any [97#8, 98#8, 99#8] _ 3 _ (lies_new rfl) (by decide) (by decide) (by decide) (HK.out.below ((HB5.out.drew.trans (hb6.mono (by show w.heap.size ≤ w5.heap.size; omega))).alloc (by have := hb6.size; show w.heap.size ≤ w6.heap.size; have h1 : w5.heap.size ≤ w6.heap.size := hb6.size; omega) _) hs1) (HS.out.below ((HB5.out.drew.trans (hb6.mono (by show w.heap.size ≤ w5.heap.size; omega))).alloc (by have := hb6.size; show w.heap.size ≤ w6.heap.size; have h1 : w5.heap.size ≤ w6.heap.size := hb6.size; omega) _) (by omega))) (fun w' hR => (hb6.alloc hb6.size _).trans (hR.mono (by rw [size_alloc]; have := hb6.size; omega))) ?_
  intro w8 hb8
  rw [HSH.out]
  refine step_pure po9 d9 (wanted_guard g9 po4 d4 (by rw [eval_other _ 23 20 _ (by decide), eval_other _ 22 20 _ (by decide), eval_other _ 21 20 _ (by decide), eval_other _ 24 20 _ (by decide)]; exact eval_same _ _ _ (by simp only [put_size, hsz]; decide))) (fun w' _ => run_eql_sum q9 HDL.out (by exact eval_same _ _ _ (by simp only [put_size, hsz]; decide)) (by rw [eval_other _ 23 24 _ (by decide), eval_other _ 22 24 _ (by decide), eval_other _ 21 24 _ (by decide)]; exact eval_same _ _ _ (by simp only [put_size, hsz]; decide)) w') ?_
  refine step_pure po10 d10 (wanted_of g10) (fun w' _ => run_pick_true q10 (by rw [eval_other _ 25 20 _ (by decide), eval_other _ 23 20 _ (by decide), eval_other _ 22 20 _ (by decide), eval_other _ 21 20 _ (by decide), eval_other _ 24 20 _ (by decide)]; exact eval_same _ _ _ (by simp only [put_size, hsz]; decide)) (by exact eval_same _ _ _ (by simp only [put_size, hsz]; decide)) w') ?_
  refine step_pure po11 d11 (wanted_of g11) (fun w' _ => run_assign q11 (by exact eval_same _ _ _ (by simp only [put_size, hsz]; decide)) w') ?_
  have h56 : w5.heap.size ≤ w6.heap.size := hb6.size
  have HFIN := Lib.hid (((HB5.out.drew.trans (hb6.mono (by show w.heap.size ≤ w5.heap.size; omega))).alloc (show w.heap.size ≤ w6.heap.size by omega) (Obj.cells #[.int .u8 97, .int .u8 98, .int .u8 99] 5 (3, 4))).trans (hb8.mono (by rw [size_alloc]; omega)))
  show NoPanic _ .normal _ _
  refine NoPanic.normal ?_
  rw [HAA.out]
  go_frame
  go_wp2_with fail
  go_ret
  exact ⟨rfl, HFIN.out⟩
end Go.Proofs.YtgfmjfpafpmghaaDoor
