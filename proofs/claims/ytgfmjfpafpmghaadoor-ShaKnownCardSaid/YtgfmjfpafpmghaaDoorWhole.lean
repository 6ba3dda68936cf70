/-
  The walk of the law ShaWhole: at any slice of bytes and any two numbers it returns true, and nothing that was there changes.
-/
import Derived.Test.YtgfmjfpafpmghaaDoorWorks
import Derived.Test.YtgfmjfpafpmghaaDoorCap
import Derived.Test.YtgfmjfpafpmghaaDoorPick
namespace Go.Proofs.YtgfmjfpafpmghaaDoor
open Go.RowKit Go.Proofs.ShaWords

theorem range_take {w : World} {b off k : Nat} {l : List (BitVec 8)} (h : w.rangeAt b off (bytesV l)) : w.rangeAt b off (bytesV (l.take k)) := fun j v hv => by
  refine h j v ?_
  rw [bytesV_take, List.getElem?_take] at hv
  split at hv
  · exact hv
  · cases hv

theorem write_n (g : Nat) (h : HS) (bs : List (BitVec 8)) (p : Option Addr) (n cap : Nat) (w : World) (hbn : bs.length = n) (ha : HashAt w g h) (hr : Reads w g p bs) (hcap : n ≤ cap) (hcm : cap ≤ 9223372036854775807)
    (hn : h.n + n < 1099511627776) (hk : Consts w) (hg : g ≠ 2) :
    Calls Tryd.prog 33 #[.pointer (some ⟨g, 0, none⟩), .slice p n cap] w fun e w' => e = .returned (.tuple #[]) ∧ HashAt w' g (writeOf h bs) ∧ w.grownBy w' (some g) := by
  subst hbn; exact write_cap g h bs p cap w ha hr hcap hcm hn hk hg
theorem HashAt.grown {w w' : World} {g r : Nat} {h : HS} (ha : HashAt w g h) (hg : w.grownBy w' (some r)) (hne : g ≠ r) : HashAt w' g h :=
  ⟨(hg.block _ ha.size (fun e => hne (Option.some.inj e))).trans ha.1, ha.2⟩
theorem take_step (xs : List (BitVec 8)) (k n : Nat) : xs.take k ++ (xs.drop k).take n = xs.take (k + n) := by
  rw [List.take_add]

set_option maxRecDepth 100000 in
set_option maxHeartbeats 1000000 in
theorem whole_main (xs : List (BitVec 8)) (b off : Nat) (ca : Nat) (cut step : Int) (w : World) (hne : xs ≠ []) (hla : xs.length ≤ 8192) (hLa : w.rangeAt b off (bytesV xs))
    (hca : xs.length ≤ ca) (hcam : ca ≤ 9223372036854775807) (hk : Consts w) (hs : Starts w) :
    Calls Tryd.prog 11 #[.slice (some ⟨b, off, none⟩) xs.length ca, .int .i64 cut, .int .i64 step] w fun e w' => e = .returned (.bool true) ∧ Below w.heap.size w w' := by
  have hs1 := hk.size
  have hpos : 0 < xs.length := List.length_pos_iff.2 hne
  have hbw : b < w.heap.size := by
    cases xs with
    | nil => exact absurd rfl hne
    | cons x r => exact World.block_lt_of_cell? w _ (hLa 0 _ rfl)
  clear hne
  have HK := Lib.hid hk; clear hk
  have HS := Lib.hid hs; clear hs
  have HLA := Lib.hid hLa; clear hLa
  have hdec : decide ((8192 : Int) < (xs.length : Int)) = false := by simp; omega
  go_enter Tryd.func11, Tryd.ntmps11
  go_wp2_with fail
  refine (shaSum_cap xs _ _ w (Or.inr ⟨b, off, rfl, HLA.out⟩) hca hcam (by omega) HK.out HS.out).mono ?_
  rintro e w1 ⟨rfl, hb1⟩
  have HB1 := Lib.hid hb1
  have sz1 := hb1.size
  clear hb1
  have hdl := shaOf_length xs
  have HI := Lib.hid ((show (Tryd.prog.info? 33).map (·.size) = some 32 by kernel_rfl).trans (congrArg some (bytesV_size _ 32 hdl).symm))
  have HOLD := Lib.hid (show (bytesV (List.replicate 32 0#8)).toArray.size = (bytesV (shaOf xs)).toArray.size by rw [bytesV_size _ 32 hdl]; rfl)
  have HONE := Lib.hid (bytesV_one (shaOf xs))
  clear hdl
  go_wp2_with (refine wpList_store_new rfl 33 (.tmp 7) (.tmp 16) rfl w1.heap.size rfl (bytesV (shaOf xs)).toArray rfl rfl HI.out (by rw [← noughts32]; exact HOLD.out) HONE.out ?_; intro w2 h2 b2; have HT2 := Lib.hid (range_bytesV h2); have HB2 := Lib.hid (HB1.out.trans (b2.mono (by omega))); have sz2 := (Array.getElem?_eq_some_iff.1 h2).1; clear h2 b2)
  clear HI HOLD HONE HB1
  generalize w1.heap.size = T at HT2 sz1 sz2 ⊢
  refine (pick_any _ _ _ (by omega) (by omega)).mono ?_
  rintro e w2' ⟨c, hc, rfl, rfl⟩
  go_wp2_with fail
  refine (pick_any _ _ _ (by omega) (by omega)).mono ?_
  rintro e w2' ⟨r, hr, rfl, rfl⟩
  go_wp2_with fail
  refine (new_any w2 (HS.out.below HB2.out (by omega))).mono ?_
  rintro e w3 ⟨rfl, ha3, hb3⟩
  have HA3 := Lib.hid ha3
  have HB3 := Lib.hid (HB2.out.trans (hb3.mono (by omega)))
  have HT3 := Lib.hid (range_keep HT2.out hb3)
  have sz3 := ha3.size
  clear ha3 hb3 HB2 HT2
  generalize w2.heap.size = G1 at HA3 sz2 sz3 ⊢
  have hcl : c ≤ xs.length := by omega
  have hcc : (c : Int) ≤ (ca : Int) := by omega
  have hcc2 : (c : Int) ≤ (xs.length : Int) := by omega
  obtain ⟨p2, hp2, hp3⟩ : ∃ p2 : Option Addr, (if ca = c then some (⟨b, off, none⟩ : Addr) else some ⟨b, off + c, none⟩) = p2 ∧ (∀ w2 : World, w2.rangeAt b off (bytesV xs) → Lies w2 p2 (xs.drop c)) := by
    by_cases hck : ca = c
    · exact ⟨some ⟨b, off, none⟩, by rw [if_pos hck], fun _ _ => Or.inl (List.drop_of_length_le (by omega))⟩
    · exact ⟨some ⟨b, off + c, none⟩, by rw [if_neg hck], fun w2 hw2 => Or.inr ⟨b, off + c, rfl, range_drop hw2⟩⟩
  have HP3 := Lib.hid hp3; clear hp3
  go_wp2_with fail
  refine (write_n G1 newHS (xs.take c) _ c ca w3 (by rw [List.length_take]; omega) HA3.out (Lies.reads (w := w) (Or.inr ⟨b, off, rfl, range_take HLA.out⟩) HB3.out _ (by omega)) (by omega) hcam (by show 0 + c < _; omega) (HK.out.below HB3.out hs1) (by omega)).mono ?_
  rintro e w4 ⟨rfl, ha4, hg4⟩
  have HA4 := Lib.hid ha4
  have HB4 := Lib.hid (HB3.out.grown hg4 (by omega) (fun k hk => by have := Option.some.inj hk; omega))
  have HT4 := Lib.hid (Reads.grown HT3.out hg4 (by omega))
  have sz4 := ha4.size
  clear ha4 hg4 HA3 HB3 HT3
  go_wp2_with fail
  refine (write_n G1 _ (xs.drop c) p2 (xs.length - c) (ca - c) w4 (by rw [List.length_drop]) HA4.out (Lies.reads (w := w) (HP3.out w HLA.out) HB4.out _ (by omega)) (by omega) (by omega) (by rw [writeOf_n, List.length_take]; show 0 + _ + _ < _; omega) (HK.out.below HB4.out hs1) (by omega)).mono ?_
  rintro e w5 ⟨rfl, ha5, hg5⟩
  rw [← writeOf_append, List.take_append_drop] at ha5
  have HA5 := Lib.hid ha5
  have HB5 := Lib.hid (HB4.out.grown hg5 (by omega) (fun k hk => by have := Option.some.inj hk; omega))
  have HT5 := Lib.hid (Reads.grown HT4.out hg5 (by omega))
  have sz5 := ha5.size
  clear ha5 hg5 HA4 HB4 HT4
  go_wp2_with fail
  refine (new_any w5 (HS.out.below HB5.out (by omega))).mono ?_
  rintro e w6 ⟨rfl, ha6, hb6⟩
  have HA6 := Lib.hid (HA5.out.keep hb6)
  have HN6 := Lib.hid ha6
  have HB6 := Lib.hid (HB5.out.trans (hb6.mono (by omega)))
  have HT6 := Lib.hid (range_keep HT5.out hb6)
  clear ha6 hb6 HA5 HB5 HT5
  generalize w5.heap.size = G2 at HN6 sz5 ⊢
  clear hp2 HP3 hcc hcc2 hc
  have HC0 := Lib.hid hcl; clear hcl
  go_wp2_with fail
  go_loopw [10] (fun i wr => ∃ k : Nat, k ≤ 20000 ∧ i = .int .i64 k ∧ HashAt wr G1 (writeOf newHS xs) ∧ HashAt wr G2 (writeOf newHS (xs.take k)) ∧ wr.rangeAt T 0 (bytesV (shaOf xs)) ∧ Below w.heap.size w wr) (fun i _ => xs.length - (intOf i).toNat)
  case atStart => exact ⟨0, by omega, rfl, HA6.out, HN6.out, HT6.out, HB6.out⟩
  case round =>
    clear HA6 HN6 HT6 HB6
    obtain ⟨k, hk0, rfl, ha, hnw, ht, hb⟩ := hrel
    have HA := Lib.hid ha; clear ha
    have HN := Lib.hid hnw; clear hnw
    have HT := Lib.hid ht; clear ht
    have HB := Lib.hid hb; clear hb
    by_cases hlt : k < xs.length
    · have hkc : ¬ ca = k := by omega
      have HNN : Hid ((writeOf newHS (xs.take k)).n = k) := by
        show _ = _
        rw [writeOf_n, List.length_take]; show 0 + _ = _; omega
      have HST : Hid (writeOf (writeOf newHS (xs.take k)) ((xs.drop k).take (1 + r)) = writeOf newHS (xs.take (k + (1 + r)))) := by
        show _ = _
        rw [← writeOf_append, take_step]
      have szr := HN.out.size
      by_cases hmin : k + (1 + r) < xs.length
      all_goals
        go_wp2_with fail
        refine (write_n G2 _ ((xs.drop k).take (1 + r)) _ _ _ wr (by rw [List.length_take, List.length_drop]; omega) HN.out (Lies.reads (w := w) (Or.inr ⟨b, off + k, rfl, range_take (range_drop HLA.out)⟩) HB.out _ (by omega)) (by omega) (by omega) (by rw [HNN.out]; omega) (HK.out.below HB.out hs1) (by omega)).mono ?_
        rintro e w7 ⟨rfl, ha7, hg7⟩
        rw [HST.out] at ha7
        have HN7 := Lib.hid ha7
        have HA7 := Lib.hid (HA.out.grown hg7 (by omega))
        have HB7 := Lib.hid (HB.out.grown hg7 (by omega) (fun k hk => by have := Option.some.inj hk; omega))
        have HT7 := Lib.hid (Reads.grown HT.out hg7 (by omega))
        clear ha7 hg7
        go_wp2_with fail
        go_roundw
        case rel => exact ⟨k + (1 + r), by omega, by go_num, HA7.out, HN7.out, HT7.out, HB7.out⟩
        case measure => simp [intOf]; omega
    · have HN2 : Hid (HashAt wr G2 (writeOf newHS xs)) := by
        have h1 := HN.out
        rw [List.take_of_length_le (by omega)] at h1; exact h1
      have hn2 : (writeOf newHS xs).n < 549755813888 := by rw [writeOf_n]; show 0 + xs.length < _; omega
      have szr := HN.out.size
      have hz8 : w.heap.size ≤ wr.drew.heap.size := by show w.heap.size ≤ wr.heap.size; omega
      go_wp2_with fail
      refine region_sched [(0, true), (2, true), (1, false), (3, true), (4, true), (5, true), (7, true), (6, false), (8, true), (9, true), (10, true), (11, false), (12, true), (13, true)] (by kernel_rfl) (by kernel_rfl) (by kernel_rfl) (by kernel_rfl) (fun ops hops A hA => ?_)
      have hsz : A.tmps.size = 68 := by rw [hA]; rfl
      have base7 : A.eval (.tmp 7) = .pointer (some ⟨T, 0, none⟩) := by rw [hA]; rfl
      have base8 : A.eval (.tmp 8) = .pointer (some ⟨G1, 0, none⟩) := by rw [hA]; rfl
      have base9 : A.eval (.tmp 9) = .pointer (some ⟨G2, 0, none⟩) := by rw [hA]; rfl
      have HAA := Lib.hid hA; clear hA
      obtain ⟨o0, po0, q0, d0, g0⟩ : ∃ o, ops[0]? = some o ∧ o.op = .move (.tmp 8) ∧ o.dst = some 55 ∧ o.guard = none := ⟨_, by rw [hops]; rfl, rfl, rfl, rfl⟩
      obtain ⟨o1, po1, q1, d1, g1⟩ : ∃ o, ops[1]? = some o ∧ o.op = .call { callee := .value (.func 15), args := #[.tmp 55], argTypes := #[37] } ∧ o.dst = some 56 ∧ o.guard = none := ⟨_, by rw [hops]; rfl, rfl, rfl, rfl⟩
      obtain ⟨o2, po2, q2, d2, g2⟩ : ∃ o, ops[2]? = some o ∧ o.op = .load 33 (.tmp 7) ∧ o.dst = some 57 ∧ o.guard = none := ⟨_, by rw [hops]; rfl, rfl, rfl, rfl⟩
      obtain ⟨o3, po3, q3, d3, g3⟩ : ∃ o, ops[3]? = some o ∧ o.op = .binOp .eql 33 (.tmp 56) (.tmp 57) 33 ∧ o.dst = some 58 ∧ o.guard = none := ⟨_, by rw [hops]; rfl, rfl, rfl, rfl⟩
      obtain ⟨o4, po4, q4, d4, g4⟩ : ∃ o, ops[4]? = some o ∧ o.op = .move (.tmp 58) ∧ o.dst = some 59 ∧ o.guard = none := ⟨_, by rw [hops]; rfl, rfl, rfl, rfl⟩
      obtain ⟨o5, po5, q5, d5, g5⟩ : ∃ o, ops[5]? = some o ∧ o.op = .move (.tmp 9) ∧ o.dst = some 60 ∧ o.guard = some (4, true) := ⟨_, by rw [hops]; rfl, rfl, rfl, rfl⟩
      obtain ⟨o6, po6, q6, d6, g6⟩ : ∃ o, ops[6]? = some o ∧ o.op = .call { callee := .value (.func 15), args := #[.tmp 60], argTypes := #[37] } ∧ o.dst = some 61 ∧ o.guard = some (4, true) := ⟨_, by rw [hops]; rfl, rfl, rfl, rfl⟩
      obtain ⟨o7, po7, q7, d7, g7⟩ : ∃ o, ops[7]? = some o ∧ o.op = .load 33 (.tmp 7) ∧ o.dst = some 62 ∧ o.guard = some (4, true) := ⟨_, by rw [hops]; rfl, rfl, rfl, rfl⟩
      obtain ⟨o8, po8, q8, d8, g8⟩ : ∃ o, ops[8]? = some o ∧ o.op = .binOp .eql 33 (.tmp 61) (.tmp 62) 33 ∧ o.dst = some 63 ∧ o.guard = some (4, true) := ⟨_, by rw [hops]; rfl, rfl, rfl, rfl⟩
      obtain ⟨o9, po9, q9, d9, g9⟩ : ∃ o, ops[9]? = some o ∧ o.op = .pick (.tmp 59) (.tmp 63) (.const (.bool false)) ∧ o.dst = some 64 ∧ o.guard = none := ⟨_, by rw [hops]; rfl, rfl, rfl, rfl⟩
      obtain ⟨o10, po10, q10, d10, g10⟩ : ∃ o, ops[10]? = some o ∧ o.op = .move (.tmp 64) ∧ o.dst = some 65 ∧ o.guard = none := ⟨_, by rw [hops]; rfl, rfl, rfl, rfl⟩
      obtain ⟨o11, po11, q11, d11, g11⟩ : ∃ o, ops[11]? = some o ∧ o.op = .call { callee := .value (.func 16), args := #[], argTypes := #[] } ∧ o.dst = some 66 ∧ o.guard = some (10, true) := ⟨_, by rw [hops]; rfl, rfl, rfl, rfl⟩
      obtain ⟨o12, po12, q12, d12, g12⟩ : ∃ o, ops[12]? = some o ∧ o.op = .pick (.tmp 65) (.tmp 66) (.const (.bool false)) ∧ o.dst = some 67 ∧ o.guard = none := ⟨_, by rw [hops]; rfl, rfl, rfl, rfl⟩
      obtain ⟨o13, po13, q13, d13, g13⟩ : ∃ o, ops[13]? = some o ∧ o.op = .assign (.tmp 67) ∧ o.dst = some 6 ∧ o.guard = none := ⟨_, by rw [hops]; rfl, rfl, rfl, rfl⟩
      clear hops
      refine step_pure po0 d0 (wanted_of g0) (fun w' _ => run_move q0 base8 w') ?_
      refine step_pure po2 d2 (wanted_of g2) (fun w' hw' => run_load_sum q2 ((eval_other _ 55 7 _ (by decide)).trans base7) (shaOf_length xs) (range_keep (w := wr.drew) HT.out hw')) ?_
      refine step_call po1 d1 (wanted_of g1) (run_call16 q1 rfl ((eval_other _ 57 55 _ (by decide)).trans (eval_same _ _ _ (by rw [hsz]; decide))) _) (sum_any G1 (writeOf newHS xs) wr.drew HA.out (HK.out.below HB.out.drew hs1) hn2) (fun w' hR => hR) ?_
      intro w9 hb9
      rw [show sumOf (writeOf newHS xs) = shaOf xs from rfl]
      refine step_pure po3 d3 (wanted_of g3) (fun w' _ => run_eql_sum q3 (shaOf_length xs) (eval_same _ _ _ (by simp only [put_size, hsz]; decide)) ((eval_other _ 56 57 _ (by decide)).trans (eval_same _ _ _ (by simp only [put_size, hsz]; decide))) w') ?_
      refine step_pure po4 d4 (wanted_of g4) (fun w' _ => run_move q4 (eval_same _ _ _ (by simp only [put_size, hsz]; decide)) w') ?_
      refine step_pure po5 d5 (wanted_guard g5 po4 d4 (eval_same _ _ _ (by simp only [put_size, hsz]; decide))) (fun w' _ => run_move q5 ((eval_other _ 59 9 _ (by decide)).trans ((eval_other _ 58 9 _ (by decide)).trans ((eval_other _ 56 9 _ (by decide)).trans ((eval_other _ 57 9 _ (by decide)).trans ((eval_other _ 55 9 _ (by decide)).trans base9))))) w') ?_
      refine step_pure po7 d7 (wanted_guard g7 po4 d4 ((eval_other _ 60 59 _ (by decide)).trans (eval_same _ _ _ (by simp only [put_size, hsz]; decide)))) (fun w' hw' => run_load_sum q7 ((eval_other _ 60 7 _ (by decide)).trans ((eval_other _ 59 7 _ (by decide)).trans ((eval_other _ 58 7 _ (by decide)).trans ((eval_other _ 56 7 _ (by decide)).trans ((eval_other _ 57 7 _ (by decide)).trans ((eval_other _ 55 7 _ (by decide)).trans base7)))))) (shaOf_length xs) (range_keep (w := wr.drew) HT.out hw')) ?_
      refine step_call po6 d6 (wanted_guard g6 po4 d4 ((eval_other _ 62 59 _ (by decide)).trans ((eval_other _ 60 59 _ (by decide)).trans (eval_same _ _ _ (by simp only [put_size, hsz]; decide))))) (run_call16 q6 rfl ((eval_other _ 62 60 _ (by decide)).trans (eval_same _ _ _ (by simp only [put_size, hsz]; decide))) _) (sum_any G2 (writeOf newHS xs) w9 (HashAt.keep (w := wr.drew) HN2.out hb9) (HK.out.below (HB.out.drew.trans (hb9.mono hz8)) hs1) hn2) (fun w' hR => hb9.trans (hR.mono hb9.size)) ?_
      intro w10 hb10
      replace hb10 := hb9.trans (hb10.mono hb9.size)
      rw [show sumOf (writeOf newHS xs) = shaOf xs from rfl]
      refine step_pure po8 d8 (wanted_guard g8 po4 d4 ((eval_other _ 61 59 _ (by decide)).trans ((eval_other _ 62 59 _ (by decide)).trans ((eval_other _ 60 59 _ (by decide)).trans (eval_same _ _ _ (by simp only [put_size, hsz]; decide)))))) (fun w' _ => run_eql_sum q8 (shaOf_length xs) (eval_same _ _ _ (by simp only [put_size, hsz]; decide)) ((eval_other _ 61 62 _ (by decide)).trans (eval_same _ _ _ (by simp only [put_size, hsz]; decide))) w') ?_
      refine step_pure po9 d9 (wanted_of g9) (fun w' _ => run_pick_true q9 ((eval_other _ 63 59 _ (by decide)).trans ((eval_other _ 61 59 _ (by decide)).trans ((eval_other _ 62 59 _ (by decide)).trans ((eval_other _ 60 59 _ (by decide)).trans (eval_same _ _ _ (by simp only [put_size, hsz]; decide)))))) (eval_same _ _ _ (by simp only [put_size, hsz]; decide)) w') ?_
      refine step_pure po10 d10 (wanted_of g10) (fun w' _ => run_move q10 (eval_same _ _ _ (by simp only [put_size, hsz]; decide)) w') ?_
      refine step_call po11 d11 (wanted_guard g11 po10 d10 (eval_same _ _ _ (by simp only [put_size, hsz]; decide))) (run_call8 q11 rfl _) (works_any w10 (HK.out.below (HB.out.drew.trans (hb10.mono hz8)) hs1) (HS.out.below (HB.out.drew.trans (hb10.mono hz8)) (by omega))) (fun w' hR => hb10.trans (hR.mono hb10.size)) ?_
      intro w12 hb12
      replace hb12 := hb10.trans (hb12.mono hb10.size)
      refine step_pure po12 d12 (wanted_of g12) (fun w' _ => run_pick_true q12 ((eval_other _ 66 65 _ (by decide)).trans (eval_same _ _ _ (by simp only [put_size, hsz]; decide))) (eval_same _ _ _ (by simp only [put_size, hsz]; decide)) w') ?_
      refine step_pure po13 d13 (wanted_of g13) (fun w' _ => run_assign q13 (eval_same _ _ _ (by simp only [put_size, hsz]; decide)) w') ?_
      have HFIN := Lib.hid (HB.out.drew.trans (hb12.mono hz8))
      show NoPanic _ .normal _ _
      refine NoPanic.normal ?_
      rw [HAA.out]
      go_frame
      go_wp2_with fail
      go_ret
      exact ⟨rfl, HFIN.out⟩

theorem shaSum_n (bs : List (BitVec 8)) (p : Option Addr) (n cap : Nat) (w : World) (hbn : bs.length = n) (hr : Lies w p bs) (hcap : n ≤ cap) (hcm : cap ≤ 9223372036854775807) (hn : n < 549755813888) (hk : Consts w) (hs : Starts w) :
    Calls Tryd.prog 13 #[.slice p n cap] w fun e w' => e = .returned (.agg (bytesV (shaOf bs)).toArray) ∧ Below w.heap.size w w' := by
  subst hbn; exact shaSum_cap bs p cap w hr hcap hcm hn hk hs

set_option maxRecDepth 100000 in
set_option maxHeartbeats 1000000 in
theorem whole_empty (p : Option Addr) (ca : Nat) (cut step : Int) (w : World) (hcam : ca ≤ 9223372036854775807) (hk : Consts w) (hs : Starts w) :
    Calls Tryd.prog 11 #[.slice p 0 ca, .int .i64 cut, .int .i64 step] w fun e w' => e = .returned (.bool true) ∧ Below w.heap.size w w' := by
  have hs1 := hk.size
  have HK := Lib.hid hk; clear hk
  have HS := Lib.hid hs; clear hs
  go_enter Tryd.func11, Tryd.ntmps11
  go_wp2_with fail
  refine (shaSum_n [] _ 0 _ w rfl (Or.inl rfl) (by omega) hcam (by omega) HK.out HS.out).mono ?_
  rintro e w1 ⟨rfl, hb1⟩
  have HB1 := Lib.hid hb1
  have sz1 := hb1.size
  clear hb1
  have hdl := shaOf_length []
  have HI := Lib.hid ((show (Tryd.prog.info? 33).map (·.size) = some 32 by kernel_rfl).trans (congrArg some (bytesV_size _ 32 hdl).symm))
  have HOLD := Lib.hid (show (bytesV (List.replicate 32 0#8)).toArray.size = (bytesV (shaOf [])).toArray.size by rw [bytesV_size _ 32 hdl]; rfl)
  have HONE := Lib.hid (bytesV_one (shaOf []))
  clear hdl
  go_wp2_with (refine wpList_store_new rfl 33 (.tmp 7) (.tmp 16) rfl w1.heap.size rfl (bytesV (shaOf [])).toArray rfl rfl HI.out (by rw [← noughts32]; exact HOLD.out) HONE.out ?_; intro w2 h2 b2; have HT2 := Lib.hid (range_bytesV h2); have HB2 := Lib.hid (HB1.out.trans (b2.mono (by omega))); have sz2 := (Array.getElem?_eq_some_iff.1 h2).1; clear h2 b2)
  clear HI HOLD HONE HB1
  generalize w1.heap.size = T at HT2 sz1 sz2 ⊢
  refine (pick_any _ _ _ (by omega) (by omega)).mono ?_
  rintro e w2' ⟨c, hc, rfl, rfl⟩
  obtain rfl : c = 0 := by omega
  clear hc
  go_wp2_with fail
  refine (pick_any _ _ _ (by omega) (by omega)).mono ?_
  rintro e w2' ⟨r, hr, rfl, rfl⟩
  go_wp2_with fail
  refine (new_any w2 (HS.out.below HB2.out (by omega))).mono ?_
  rintro e w3 ⟨rfl, ha3, hb3⟩
  have HA3 := Lib.hid ha3
  have HB3 := Lib.hid (HB2.out.trans (hb3.mono (by omega)))
  have HT3 := Lib.hid (range_keep HT2.out hb3)
  have sz3 := ha3.size
  clear ha3 hb3 HB2 HT2
  generalize w2.heap.size = G1 at HA3 sz2 sz3 ⊢
  go_wp2_with fail
  all_goals
    refine (write_n G1 newHS [] _ 0 _ w3 rfl HA3.out (Or.inl rfl) (by omega) (by omega) (by decide) (HK.out.below HB3.out hs1) (by omega)).mono ?_
    rintro e w4 ⟨rfl, ha4, hg4⟩
    have HA4 := Lib.hid (show HashAt w4 G1 newHS from ha4)
    have HB4 := Lib.hid (HB3.out.grown hg4 (by omega) (fun k hk => by have := Option.some.inj hk; omega))
    have HT4 := Lib.hid (Reads.grown HT3.out hg4 (by omega))
    have sz4 := ha4.size
    clear ha4 hg4 HA3 HB3 HT3
    go_wp2_with fail
  all_goals
    refine (write_n G1 newHS [] _ 0 _ w4 rfl HA4.out (Or.inl rfl) (by omega) (by omega) (by decide) (HK.out.below HB4.out hs1) (by omega)).mono ?_
    rintro e w5 ⟨rfl, ha5, hg5⟩
    have HA5 := Lib.hid (show HashAt w5 G1 newHS from ha5)
    have HB5 := Lib.hid (HB4.out.grown hg5 (by omega) (fun k hk => by have := Option.some.inj hk; omega))
    have HT5 := Lib.hid (Reads.grown HT4.out hg5 (by omega))
    have sz5 := ha5.size
    clear ha5 hg5 HA4 HB4 HT4
    go_wp2_with fail
    refine (new_any w5 (HS.out.below HB5.out (by omega))).mono ?_
    rintro e w6 ⟨rfl, ha6, hb6⟩
    have HA6 := Lib.hid (HA5.out.keep hb6)
    have HN6 := Lib.hid ha6
    have HB6 := Lib.hid (HB5.out.trans (hb6.mono (by omega)))
    have HT6 := Lib.hid (range_keep HT5.out hb6)
    have sz6 := ha6.size
    clear ha6 hb6 HA5 HB5 HT5
    generalize w5.heap.size = G2 at HN6 sz5 sz6 ⊢
    have hz8 : w.heap.size ≤ w6.drew.heap.size := by show w.heap.size ≤ w6.heap.size; omega
    go_wp2_with fail
    refine wp_loop_rounds 1 ?_
    rw [_root_.Go.rounds_succ]
    go_wp2_with fail
    refine region_sched [(0, true), (2, true), (1, false), (3, true), (4, true), (5, true), (7, true), (6, false), (8, true), (9, true), (10, true), (11, false), (12, true), (13, true)] (by kernel_rfl) (by kernel_rfl) (by kernel_rfl) (by kernel_rfl) (fun ops hops A hA => ?_)
    have hsz : A.tmps.size = 68 := by rw [hA]; rfl
    have base7 : A.eval (.tmp 7) = .pointer (some ⟨T, 0, none⟩) := by rw [hA]; rfl
    have base8 : A.eval (.tmp 8) = .pointer (some ⟨G1, 0, none⟩) := by rw [hA]; rfl
    have base9 : A.eval (.tmp 9) = .pointer (some ⟨G2, 0, none⟩) := by rw [hA]; rfl
    have HAA := Lib.hid hA; clear hA
    obtain ⟨o0, po0, q0, d0, g0⟩ : ∃ o, ops[0]? = some o ∧ o.op = .move (.tmp 8) ∧ o.dst = some 55 ∧ o.guard = none := ⟨_, by rw [hops]; rfl, rfl, rfl, rfl⟩
    obtain ⟨o1, po1, q1, d1, g1⟩ : ∃ o, ops[1]? = some o ∧ o.op = .call { callee := .value (.func 15), args := #[.tmp 55], argTypes := #[37] } ∧ o.dst = some 56 ∧ o.guard = none := ⟨_, by rw [hops]; rfl, rfl, rfl, rfl⟩
    obtain ⟨o2, po2, q2, d2, g2⟩ : ∃ o, ops[2]? = some o ∧ o.op = .load 33 (.tmp 7) ∧ o.dst = some 57 ∧ o.guard = none := ⟨_, by rw [hops]; rfl, rfl, rfl, rfl⟩
    obtain ⟨o3, po3, q3, d3, g3⟩ : ∃ o, ops[3]? = some o ∧ o.op = .binOp .eql 33 (.tmp 56) (.tmp 57) 33 ∧ o.dst = some 58 ∧ o.guard = none := ⟨_, by rw [hops]; rfl, rfl, rfl, rfl⟩
    obtain ⟨o4, po4, q4, d4, g4⟩ : ∃ o, ops[4]? = some o ∧ o.op = .move (.tmp 58) ∧ o.dst = some 59 ∧ o.guard = none := ⟨_, by rw [hops]; rfl, rfl, rfl, rfl⟩
    obtain ⟨o5, po5, q5, d5, g5⟩ : ∃ o, ops[5]? = some o ∧ o.op = .move (.tmp 9) ∧ o.dst = some 60 ∧ o.guard = some (4, true) := ⟨_, by rw [hops]; rfl, rfl, rfl, rfl⟩
    obtain ⟨o6, po6, q6, d6, g6⟩ : ∃ o, ops[6]? = some o ∧ o.op = .call { callee := .value (.func 15), args := #[.tmp 60], argTypes := #[37] } ∧ o.dst = some 61 ∧ o.guard = some (4, true) := ⟨_, by rw [hops]; rfl, rfl, rfl, rfl⟩
    obtain ⟨o7, po7, q7, d7, g7⟩ : ∃ o, ops[7]? = some o ∧ o.op = .load 33 (.tmp 7) ∧ o.dst = some 62 ∧ o.guard = some (4, true) := ⟨_, by rw [hops]; rfl, rfl, rfl, rfl⟩
    obtain ⟨o8, po8, q8, d8, g8⟩ : ∃ o, ops[8]? = some o ∧ o.op = .binOp .eql 33 (.tmp 61) (.tmp 62) 33 ∧ o.dst = some 63 ∧ o.guard = some (4, true) := ⟨_, by rw [hops]; rfl, rfl, rfl, rfl⟩
    obtain ⟨o9, po9, q9, d9, g9⟩ : ∃ o, ops[9]? = some o ∧ o.op = .pick (.tmp 59) (.tmp 63) (.const (.bool false)) ∧ o.dst = some 64 ∧ o.guard = none := ⟨_, by rw [hops]; rfl, rfl, rfl, rfl⟩
    obtain ⟨o10, po10, q10, d10, g10⟩ : ∃ o, ops[10]? = some o ∧ o.op = .move (.tmp 64) ∧ o.dst = some 65 ∧ o.guard = none := ⟨_, by rw [hops]; rfl, rfl, rfl, rfl⟩
    obtain ⟨o11, po11, q11, d11, g11⟩ : ∃ o, ops[11]? = some o ∧ o.op = .call { callee := .value (.func 16), args := #[], argTypes := #[] } ∧ o.dst = some 66 ∧ o.guard = some (10, true) := ⟨_, by rw [hops]; rfl, rfl, rfl, rfl⟩
    obtain ⟨o12, po12, q12, d12, g12⟩ : ∃ o, ops[12]? = some o ∧ o.op = .pick (.tmp 65) (.tmp 66) (.const (.bool false)) ∧ o.dst = some 67 ∧ o.guard = none := ⟨_, by rw [hops]; rfl, rfl, rfl, rfl⟩
    obtain ⟨o13, po13, q13, d13, g13⟩ : ∃ o, ops[13]? = some o ∧ o.op = .assign (.tmp 67) ∧ o.dst = some 6 ∧ o.guard = none := ⟨_, by rw [hops]; rfl, rfl, rfl, rfl⟩
    clear hops
    refine step_pure po0 d0 (wanted_of g0) (fun w' _ => run_move q0 base8 w') ?_
    refine step_pure po2 d2 (wanted_of g2) (fun w' hw' => run_load_sum q2 ((eval_other _ 55 7 _ (by decide)).trans base7) (shaOf_length []) (range_keep (w := w6.drew) HT6.out hw')) ?_
    refine step_call po1 d1 (wanted_of g1) (run_call16 q1 rfl ((eval_other _ 57 55 _ (by decide)).trans (eval_same _ _ _ (by rw [hsz]; decide))) _) (sum_any G1 newHS w6.drew HA6.out (HK.out.below HB6.out.drew hs1) (by decide)) (fun w' hR => hR) ?_
    intro w9 hb9
    rw [show sumOf newHS = shaOf [] from rfl]
    refine step_pure po3 d3 (wanted_of g3) (fun w' _ => run_eql_sum q3 (shaOf_length []) (eval_same _ _ _ (by simp only [put_size, hsz]; decide)) ((eval_other _ 56 57 _ (by decide)).trans (eval_same _ _ _ (by simp only [put_size, hsz]; decide))) w') ?_
    refine step_pure po4 d4 (wanted_of g4) (fun w' _ => run_move q4 (eval_same _ _ _ (by simp only [put_size, hsz]; decide)) w') ?_
    refine step_pure po5 d5 (wanted_guard g5 po4 d4 (eval_same _ _ _ (by simp only [put_size, hsz]; decide))) (fun w' _ => run_move q5 ((eval_other _ 59 9 _ (by decide)).trans ((eval_other _ 58 9 _ (by decide)).trans ((eval_other _ 56 9 _ (by decide)).trans ((eval_other _ 57 9 _ (by decide)).trans ((eval_other _ 55 9 _ (by decide)).trans base9))))) w') ?_
    refine step_pure po7 d7 (wanted_guard g7 po4 d4 ((eval_other _ 60 59 _ (by decide)).trans (eval_same _ _ _ (by simp only [put_size, hsz]; decide)))) (fun w' hw' => run_load_sum q7 ((eval_other _ 60 7 _ (by decide)).trans ((eval_other _ 59 7 _ (by decide)).trans ((eval_other _ 58 7 _ (by decide)).trans ((eval_other _ 56 7 _ (by decide)).trans ((eval_other _ 57 7 _ (by decide)).trans ((eval_other _ 55 7 _ (by decide)).trans base7)))))) (shaOf_length []) (range_keep (w := w6.drew) HT6.out hw')) ?_
    refine step_call po6 d6 (wanted_guard g6 po4 d4 ((eval_other _ 62 59 _ (by decide)).trans ((eval_other _ 60 59 _ (by decide)).trans (eval_same _ _ _ (by simp only [put_size, hsz]; decide))))) (run_call16 q6 rfl ((eval_other _ 62 60 _ (by decide)).trans (eval_same _ _ _ (by simp only [put_size, hsz]; decide))) _) (sum_any G2 newHS w9 (HashAt.keep (w := w6.drew) HN6.out hb9) (HK.out.below (HB6.out.drew.trans (hb9.mono hz8)) hs1) (by decide)) (fun w' hR => hb9.trans (hR.mono hb9.size)) ?_
    intro w10 hb10
    replace hb10 := hb9.trans (hb10.mono hb9.size)
    rw [show sumOf newHS = shaOf [] from rfl]
    refine step_pure po8 d8 (wanted_guard g8 po4 d4 ((eval_other _ 61 59 _ (by decide)).trans ((eval_other _ 62 59 _ (by decide)).trans ((eval_other _ 60 59 _ (by decide)).trans (eval_same _ _ _ (by simp only [put_size, hsz]; decide)))))) (fun w' _ => run_eql_sum q8 (shaOf_length []) (eval_same _ _ _ (by simp only [put_size, hsz]; decide)) ((eval_other _ 61 62 _ (by decide)).trans (eval_same _ _ _ (by simp only [put_size, hsz]; decide))) w') ?_
    refine step_pure po9 d9 (wanted_of g9) (fun w' _ => run_pick_true q9 ((eval_other _ 63 59 _ (by decide)).trans ((eval_other _ 61 59 _ (by decide)).trans ((eval_other _ 62 59 _ (by decide)).trans ((eval_other _ 60 59 _ (by decide)).trans (eval_same _ _ _ (by simp only [put_size, hsz]; decide)))))) (eval_same _ _ _ (by simp only [put_size, hsz]; decide)) w') ?_
    refine step_pure po10 d10 (wanted_of g10) (fun w' _ => run_move q10 (eval_same _ _ _ (by simp only [put_size, hsz]; decide)) w') ?_
    refine step_call po11 d11 (wanted_guard g11 po10 d10 (eval_same _ _ _ (by simp only [put_size, hsz]; decide))) (run_call8 q11 rfl _) (works_any w10 (HK.out.below (HB6.out.drew.trans (hb10.mono hz8)) hs1) (HS.out.below (HB6.out.drew.trans (hb10.mono hz8)) (by omega))) (fun w' hR => hb10.trans (hR.mono hb10.size)) ?_
    intro w12 hb12
    replace hb12 := hb10.trans (hb12.mono hb10.size)
    refine step_pure po12 d12 (wanted_of g12) (fun w' _ => run_pick_true q12 ((eval_other _ 66 65 _ (by decide)).trans (eval_same _ _ _ (by simp only [put_size, hsz]; decide))) (eval_same _ _ _ (by simp only [put_size, hsz]; decide)) w') ?_
    refine step_pure po13 d13 (wanted_of g13) (fun w' _ => run_assign q13 (eval_same _ _ _ (by simp only [put_size, hsz]; decide)) w') ?_
    have HFIN := Lib.hid (HB6.out.drew.trans (hb12.mono hz8))
    show NoPanic _ .normal _ _
    refine NoPanic.normal ?_
    rw [HAA.out]
    go_frame
    go_wp2_with fail
    go_ret
    exact ⟨rfl, HFIN.out⟩

set_option maxRecDepth 100000 in
set_option maxHeartbeats 400000 in
theorem whole_long (la : Nat) (pa : Option Addr) (ca : Nat) (cut step : Int) (w : World) (h : 8192 < la) (hla : la ≤ 140737488351232) (hk : Consts w) (hs : Starts w) :
    Calls Tryd.prog 11 #[.slice pa la ca, .int .i64 cut, .int .i64 step] w fun e w' => e = .returned (.bool true) ∧ Below w.heap.size w w' := by
  have HK := Lib.hid hk; clear hk
  have HS := Lib.hid hs; clear hs
  go_enter Tryd.func11, Tryd.ntmps11
  go_wp2_with fail
  refine (works_any w HK.out HS.out).mono ?_
  rintro e w' ⟨rfl, hb⟩
  have HB := Lib.hid hb; clear hb
  go_wp2_with fail
  go_ret
  exact ⟨rfl, HB.out⟩

theorem whole_small (xs : List (BitVec 8)) (la : Nat) (pa : Option Addr) (ca : Nat) (cut step : Int) (w : World) (hl : xs.length = la) (hLa : Lies w pa xs)
    (hla : la ≤ 8192) (hca : la ≤ ca) (hcam : ca ≤ 9223372036854775807) (hk : Consts w) (hs : Starts w) :
    Calls Tryd.prog 11 #[.slice pa la ca, .int .i64 cut, .int .i64 step] w fun e w' => e = .returned (.bool true) ∧ Below w.heap.size w w' := by
  subst hl
  by_cases hne : xs = []
  · subst hne
    exact whole_empty pa ca cut step w hcam hk hs
  · rcases hLa with h | ⟨b, off, rfl, hr⟩
    · exact absurd h hne
    · exact whole_main xs b off ca cut step w hne hla hr hca hcam hk hs
theorem whole_any (xs : List (BitVec 8)) (la : Nat) (pa : Option Addr) (ca : Nat) (cut step : Int) (w : World) (hl : xs.length = la) (hLa : Lies w pa xs)
    (hca : la ≤ ca) (hcam : ca ≤ 140737488351232) (hk : Consts w) (hs : Starts w) :
    Calls Tryd.prog 11 #[.slice pa la ca, .int .i64 cut, .int .i64 step] w fun e w' => e = .returned (.bool true) ∧ Below w.heap.size w w' := by
  subst hl
  by_cases h : 8192 < xs.length
  · exact whole_long _ pa ca cut step w h (by omega) hk hs
  · by_cases hne : xs = []
    · subst hne; exact whole_empty pa ca cut step w (by omega) hk hs
    · rcases hLa with h0 | ⟨b, off, rfl, hr⟩
      · exact absurd h0 hne
      · exact whole_main xs b off ca cut step w hne (by omega) hr hca (by omega) hk hs
end Go.Proofs.YtgfmjfpafpmghaaDoor
