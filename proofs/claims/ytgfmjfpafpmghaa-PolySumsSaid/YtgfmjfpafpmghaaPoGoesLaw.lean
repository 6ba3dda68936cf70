/-
  The walk of the law PolyGoes: for any key, any bits and any bytes it returns true, and nothing that was there changes.
-/
import Derived.Test.YtgfmjfpafpmghaaPoClear
namespace Go.Proofs.Ytgfmjfpafpmghaa
open Go.RowKit Go.Proofs.ShaWords
theorem run_loadKey {ρ : Operand → Value} {o : Oper} {x : Operand} {w : World} {l : List (BitVec 8)} {b : Nat} (ho : o.op = .load 23 x) (hx : ρ x = .pointer (some ⟨b, 0, none⟩)) (hl : l.length = 32) (hr : BytesAt w b 23 l) : (execOp ρ o).run Try.prog w = .ok (.value (.agg (bytesV l).toArray)) w := by
  have h := run_loadAt_mid (P := Try.prog) w b 0 23 (bytesV l) _ hr.range Try.underlying23 rfl (by rw [bytesV_length, hl]; kernel_rfl)
  unfold execOp
  simp only [ho, hx, Sem.run_bind, h, Result.andThen_ok, Sem.run_pure]
theorem run_loadTag {ρ : Operand → Value} {o : Oper} {x : Operand} {w : World} {l : List (BitVec 8)} {b : Nat} (ho : o.op = .load 28 x) (hx : ρ x = .pointer (some ⟨b, 0, none⟩)) (hl : l.length = 16) (hr : BytesAt w b 28 l) : (execOp ρ o).run Try.prog w = .ok (.value (.agg (bytesV l).toArray)) w := by
  have h := run_loadAt_mid (P := Try.prog) w b 0 28 (bytesV l) _ hr.range Try.underlying28 rfl (by rw [bytesV_length, hl]; kernel_rfl)
  unfold execOp
  simp only [ho, hx, Sem.run_bind, h, Result.andThen_ok, Sem.run_pure]
theorem quo16 (t : BitVec 8) : (n8 t).tdiv 16 = n8 (t >>> 4) := by
  unfold n8; rw [BitVec.toNat_ushiftRight, Nat.shiftRight_eq_div_pow, Int.tdiv_eq_ediv_of_nonneg (by omega)]; omega
theorem mul16 (t : BitVec 8) : IntKind.u8.wrap (n8 t * 16) = n8 (t <<< 4) := by
  unfold n8; rw [IntKind.wrap_u8', BitVec.toNat_shiftLeft, Nat.shiftLeft_eq]; omega
theorem wrap_n8 (t : BitVec 8) : IntKind.u8.wrap (n8 t) = n8 t := by
  unfold n8; rw [IntKind.wrap_u8']; have := t.isLt; omega
theorem rem4 (t : BitVec 8) : (n8 t).tmod 4 = n8 (t &&& 3#8) := by
  unfold n8; rw [BitVec.toNat_and, show (3#8).toNat = 2 ^ 2 - 1 from rfl, Nat.and_two_pow_sub_one_eq_mod, Int.tmod_eq_emod_of_nonneg (by omega)]; omega
attribute [local go_sem] xor8 quo16 mul16 wrap_n8 rem4
/-- The key's block, the bits', the other key's. -/
structure GoW (w : World) (key turn oth : List (BitVec 8)) (wr : World) : Prop where
  key : BytesAt wr w.heap.size 23 key
  turn : BytesAt wr (w.heap.size + 1) 28 turn
  oth : BytesAt wr (w.heap.size + 1 + 1) 23 oth
  below : Below w.heap.size w wr
theorem GoW.on {w wr w' : World} {key turn oth : List (BitVec 8)} (h : GoW w key turn oth wr) (hb : Below wr.heap.size wr w') : GoW w key turn oth w' := ⟨h.key.keep hb, h.turn.keep hb, h.oth.keep hb, h.below.trans (hb.mono h.below.size)⟩
theorem GoW.set {w wr : World} {key turn oth : List (BitVec 8)} (h : GoW w key turn oth wr) (k : Nat) (v : BitVec 8) : GoW w key turn (oth.set k v) (wr.setCell ⟨w.heap.size + 1 + 1, k, none⟩ (.int .u8 (n8 v))) :=
  ⟨h.key.putOther (by omega) _ _, h.turn.putOther (by omega) _ _, h.oth.put k v, h.below.setCell (show w.heap.size ≤ w.heap.size + 1 + 1 by omega) _⟩
attribute [local irreducible] polyTag twK
set_option maxRecDepth 100000 in
set_option maxHeartbeats 4000000 in
theorem goes_any (key turn bs : List (BitVec 8)) (m : Nat) (p : Option Addr) (cap : Nat) (w : World) (hk : key.length = 32) (ht : turn.length = 16) (hm : bs.length = m) (hc : m ≤ cap) (hcm : cap ≤ 140737488355328) (hL : Lies w p bs) :
    Calls Try.prog 5 #[.agg (bytesV key).toArray, .agg (bytesV turn).toArray, .slice p m cap] w fun e w' => e = .returned (.bool true) ∧ Below w.heap.size w w' := by
  have HKL := Lib.hid hk; clear hk
  have HTL := Lib.hid ht; clear ht
  have HM := Lib.hid hm; clear hm
  have HL := Lib.hid hL; clear hL
  have HIK := Lib.hid (infoKey key HKL.out)
  have HTG := Lib.hid (twK_tag key turn bs HKL.out)
  have HLN := Lib.hid (fun k => (twK_length key turn k).trans HKL.out)
  by_cases hbig : 4096 < m
  · go_enter Try.func5, Try.ntmps5
    have p0 : (4096 : Int) < (m : Int) := by omega
    go_wp2_with fail
    refine calls_gen (fun w1 => Below w.heap.size w w1) (((Below.refl _ _).alloc (Nat.le_refl _) _).alloc (by simp) _) ?_
    intro w1 hb1
    refine (known_any w1).mono ?_
    rintro e w2 ⟨rfl, hb2⟩
    have HB2 := Lib.hid (hb1.trans (hb2.mono hb1.size)); clear hb1 hb2
    go_wp2_with fail
    go_ret
    exact ⟨rfl, HB2.out⟩
  · go_enter Try.func5, Try.ntmps5
    have p0 : ¬ (4096 : Int) < (m : Int) := by omega
    go_upto_region 1 with (fail)
    refine wp_gen (fun w1 => BytesAt w1 w.heap.size 23 key ∧ BytesAt w1 (w.heap.size + 1) 28 turn ∧ Below w.heap.size w w1 ∧ w1.heap.size = w.heap.size + 1 + 1) ⟨BytesAt.keep (w := w.alloc _) (heap_alloc_new w _) ((Below.refl _ _).alloc (Nat.le_refl _) _), heap_new_at (size_alloc _ _), ((Below.refl _ _).alloc (Nat.le_refl _) _).alloc (by simp) _, by simp⟩ ?_
    rintro w0 ⟨hk0, ht0, hb0, hs0⟩
    have HK0 := Lib.hid (show w0.heap[w.heap.size]? = some (.cells (bytesV key).toArray 23 (0, 0)) from hk0)
    have HT0 := Lib.hid ht0
    have HB0 := Lib.hid hb0
    have HZ0 := Lib.hid hs0
    have HIO := Lib.hid (show (#[Value.int .u8 0, Value.int .u8 0, Value.int .u8 0, Value.int .u8 0, Value.int .u8 0, Value.int .u8 0, Value.int .u8 0, Value.int .u8 0, Value.int .u8 0, Value.int .u8 0, Value.int .u8 0, Value.int .u8 0, Value.int .u8 0, Value.int .u8 0, Value.int .u8 0, Value.int .u8 0, Value.int .u8 0, Value.int .u8 0, Value.int .u8 0, Value.int .u8 0, Value.int .u8 0, Value.int .u8 0, Value.int .u8 0, Value.int .u8 0, Value.int .u8 0, Value.int .u8 0, Value.int .u8 0, Value.int .u8 0, Value.int .u8 0, Value.int .u8 0, Value.int .u8 0, Value.int .u8 0] : Array Value).size = (bytesV key).toArray.size by rw [bytesV_size _ 32 HKL.out]; rfl)
    have HONE := Lib.hid (bytesV_one key)
    clear hk0 ht0 hb0 hs0
    go_upto_region 4 with (first
      | (refine wpList_load_row rfl 23 (.tmp 3) rfl w.heap.size rfl 23 _ (0, 0) _ HK0.out Try.underlying23 rfl HIK.out ?_)
      | (refine wpList_store_new rfl 23 (.tmp 7) (.tmp 13) rfl w0.heap.size rfl (bytesV key).toArray rfl rfl HIK.out HIO.out HONE.out ?_; intro w1 h1 hb1; have H1 := Lib.hid h1; have HB1 := Lib.hid hb1; clear h1 hb1))
    rw [HZ0.out]
    refine wp_gen (GoW w key turn (twK key turn 0)) ⟨BytesAt.keep HK0.out HB1.out, HT0.out.keep HB1.out, by rw [twK_zero, ← HZ0.out]; exact H1.out, HB0.out.trans (HB1.out.mono HB0.out.size)⟩ ?_
    clear HK0 HT0 HB0 HZ0 HIO HONE H1 HB1
    intro w2 hw2
    have HW2 := Lib.hid hw2; clear hw2
    go_wp2_with fail
    go_loopw [8] (fun i wr => ∃ k : Nat, k ≤ 16 ∧ i = .int .i64 (k : Int) ∧ GoW w key turn (twK key turn k) wr) (fun i _ => 16 - (intOf i).toNat)
    case atStart => exact ⟨0, by omega, rfl, HW2.out⟩
    case round =>
      clear HW2
      obtain ⟨k, hk, rfl, hw⟩ := hrel
      by_cases hlt : k < 16
      · have HS := Lib.hid (twK_succ key turn k)
        have c0 := hw.oth.cell k (by rw [HLN.out]; omega)
        have cf := hw.oth.frozenAt k
        have c1 := hw.turn.cell k (by rw [HTL.out]; omega)
        have HW := Lib.hid hw; clear hw
        generalize hx : (twK key turn k).getD k 0#8 = x at c0 HS
        generalize turn.getD k 0#8 = t at c1 HS
        have HX := Lib.hid hx; clear hx
        have q0 : (k : Int) < 16 := by omega
        have q1 : (k : Int) < 32 := by omega
        have kp : 0 ≤ (k : Int) := by omega
        have z0 : (k : Int).toNat = k := by omega
        by_cases h3 : k % 4 = 3
        · have HT3 : Hid (tw k x t = x ^^^ t >>> 4 <<< 4) := show _ = _ from if_pos h3
          have e3 : (k : Int).tmod 4 = 3 := by rw [Int.tmod_eq_emod_of_nonneg (by omega)]; omega
          go_wp2_with fail
          go_still_tail 11, (by kernel_rfl)
          change wpList _ _ _ _ _ wr.drew
          go_wp2_with fail
          go_roundw
          case rel =>
            refine ⟨k + 1, by omega, by go_num, ?_⟩
            rw [HS.out, HT3.out]
            exact (HW.out.on ((Below.refl _ _).drew)).set k _
          case measure => simp [intOf]; omega
        · by_cases h0 : k % 4 = 0 ∧ 0 < k
          · have HT3 : Hid (tw k x t = x ^^^ (t &&& 3#8)) := show _ = _ from (if_neg h3).trans (if_pos h0)
            have e3 : (k : Int).tmod 4 = 0 := by rw [Int.tmod_eq_emod_of_nonneg (by omega)]; omega
            have e4 : 0 < (k : Int) := by omega
            have e5 : 0 < k := by omega
            go_wp2_with fail
            go_still_tail 10, (by kernel_rfl)
            change wpList _ _ _ _ _ wr.drew
            go_wp2_with fail
            go_roundw
            case rel =>
              refine ⟨k + 1, by omega, by go_num, ?_⟩
              rw [HS.out, HT3.out]
              exact (HW.out.on ((Below.refl _ _).drew)).set k _
            case measure => simp [intOf]; omega
          · have HT3 : Hid (twK key turn (k + 1) = twK key turn k) := show _ = _ by
              rw [HS.out]
              have e : tw k x t = x := (if_neg h3).trans (if_neg h0)
              rw [e, ← HX.out]
              apply ext_getD _ _ (by rw [List.length_set])
              intro i _
              rw [getD_set _ _ _ _ (by rw [HLN.out]; omega)]
              split
              · next h => rw [h]
              · rfl
            obtain ⟨r, hr⟩ : ∃ r, r = k % 4 := ⟨_, rfl⟩
            have e3 : (k : Int).tmod 4 = (r : Int) := by rw [Int.tmod_eq_emod_of_nonneg (by omega)]; omega
            have e6 : ¬ (r : Int) = 3 := by omega
            have e7 : ¬ r = 3 := by omega
            have wr4 : IntKind.i64.wrap (r : Int) = (r : Int) := IntWalk.i64_in _ (by omega)
            by_cases hk0 : k = 0
            · subst hk0
              go_wp2_with fail
              go_roundw
              case rel => exact ⟨1, by omega, by go_num, by rw [HT3.out]; exact HW.out⟩
              case measure => simp [intOf]
            · have e8 : ¬ (r : Int) = 0 := by omega
              have e9 : ¬ r = 0 := by omega
              clear hr
              go_wp2_with fail
              go_roundw
              case rel => exact ⟨k + 1, by omega, by go_num, by rw [HT3.out]; exact HW.out⟩
              case measure => simp [intOf]; omega
      · obtain rfl : k = 16 := by omega
        have HOL := Lib.hid (HLN.out 16)
        go_upto_region 11 with (fail)
        have HSD : Hid (GoW w key turn (twK key turn 16) wr.drew) := show GoW _ _ _ _ _ from hw.on ((Below.refl _ _).drew)
        clear hw
        generalize twK key turn 16 = oth at HSD HTG HOL
        refine region_phase (fun w1 => BytesAt w1 w.heap.size 23 key ∧ BytesAt w1 (w.heap.size + 1 + 1) 23 oth) (fun _ => True) 2 ⟨HSD.out.key, HSD.out.oth⟩ trivial [(0, .free), (1, .free), (3, .free), (4, .free), (2, .behind), (5, .behind), (6, .free), (7, .free), (8, .behind), (9, .free), (10, .free)] (by kernel_rfl) (by kernel_rfl) (by kernel_rfl) (by kernel_rfl) (fun ops hops A2 hA => ?_)
        have hsz : A2.tmps.size = 59 := by rw [hA]; rfl
        have base2 : A2.eval (.tmp 2) = .slice p m cap := by rw [hA]; rfl
        have base3 : A2.eval (.tmp 3) = .pointer (some ⟨w.heap.size, 0, none⟩) := by rw [hA]; rfl
        have base7 : A2.eval (.tmp 7) = .pointer (some ⟨w.heap.size + 1 + 1, 0, none⟩) := by rw [hA]; rfl
        have HAA := Lib.hid hA; clear hA
        obtain ⟨o0, po0, q0, d0, gd0⟩ : ∃ o, ops[0]? = some o ∧ o.op = .load 23 (.tmp 7) ∧ o.dst = some 49 ∧ o.guard = none := ⟨_, by rw [hops]; rfl, rfl, rfl, rfl⟩
        obtain ⟨o1, po1, q1, d1, gd1⟩ : ∃ o, ops[1]? = some o ∧ o.op = .move (.tmp 2) ∧ o.dst = some 50 ∧ o.guard = none := ⟨_, by rw [hops]; rfl, rfl, rfl, rfl⟩
        obtain ⟨o2, po2, q2, d2, gd2⟩ : ∃ o, ops[2]? = some o ∧ o.op = .call { callee := .value (.func 10), args := #[.tmp 49, .tmp 50], argTypes := #[23, 24] } ∧ o.dst = some 51 ∧ o.guard = none := ⟨_, by rw [hops]; rfl, rfl, rfl, rfl⟩
        obtain ⟨o3, po3, q3, d3, gd3⟩ : ∃ o, ops[3]? = some o ∧ o.op = .load 23 (.tmp 3) ∧ o.dst = some 52 ∧ o.guard = none := ⟨_, by rw [hops]; rfl, rfl, rfl, rfl⟩
        obtain ⟨o4, po4, q4, d4, gd4⟩ : ∃ o, ops[4]? = some o ∧ o.op = .move (.tmp 2) ∧ o.dst = some 53 ∧ o.guard = none := ⟨_, by rw [hops]; rfl, rfl, rfl, rfl⟩
        obtain ⟨o5, po5, q5, d5, gd5⟩ : ∃ o, ops[5]? = some o ∧ o.op = .call { callee := .value (.func 10), args := #[.tmp 52, .tmp 53], argTypes := #[23, 24] } ∧ o.dst = some 54 ∧ o.guard = none := ⟨_, by rw [hops]; rfl, rfl, rfl, rfl⟩
        obtain ⟨o6, po6, q6, d6, gd6⟩ : ∃ o, ops[6]? = some o ∧ o.op = .binOp .eql 28 (.tmp 51) (.tmp 54) 28 ∧ o.dst = some 55 ∧ o.guard = none := ⟨_, by rw [hops]; rfl, rfl, rfl, rfl⟩
        obtain ⟨o7, po7, q7, d7, gd7⟩ : ∃ o, ops[7]? = some o ∧ o.op = .move (.tmp 55) ∧ o.dst = some 56 ∧ o.guard = none := ⟨_, by rw [hops]; rfl, rfl, rfl, rfl⟩
        obtain ⟨o8, po8, q8, d8, gd8⟩ : ∃ o, ops[8]? = some o ∧ o.op = .call { callee := .value (.func 8), args := #[], argTypes := #[] } ∧ o.dst = some 57 ∧ o.guard = some (7, true) := ⟨_, by rw [hops]; rfl, rfl, rfl, rfl⟩
        obtain ⟨o9, po9, q9, d9, gd9⟩ : ∃ o, ops[9]? = some o ∧ o.op = .pick (.tmp 56) (.tmp 57) (.const (.bool false)) ∧ o.dst = some 58 ∧ o.guard = none := ⟨_, by rw [hops]; rfl, rfl, rfl, rfl⟩
        obtain ⟨o10, po10, q10, d10, gd10⟩ : ∃ o, ops[10]? = some o ∧ o.op = .assign (.tmp 58) ∧ o.dst = some 6 ∧ o.guard = none := ⟨_, by rw [hops]; rfl, rfl, rfl, rfl⟩
        clear hops
        refine met_free po0 d0 (wanted_of gd0) (fun w' h' => run_loadKey q0 base7 HOL.out h'.2) ?_
        refine met_free po1 d1 (wanted_of gd1) (fun w' _ => run_move q1 ((eval_other _ 49 2 _ (by decide)).trans base2) w') ?_
        refine met_free po3 d3 (wanted_of gd3) (fun w' h' => run_loadKey q3 ((eval_other _ 50 3 _ (by decide)).trans ((eval_other _ 49 3 _ (by decide)).trans base3)) HKL.out h'.1) ?_
        refine met_free po4 d4 (wanted_of gd4) (fun w' _ => run_move q4 ((eval_other _ 52 2 _ (by decide)).trans ((eval_other _ 50 2 _ (by decide)).trans ((eval_other _ 49 2 _ (by decide)).trans base2))) w') ?_
        refine met_enterA po2 d2 (wanted_of gd2) (run_callf2 q2 rfl ((eval_other _ 53 49 _ (by decide)).trans ((eval_other _ 52 49 _ (by decide)).trans ((eval_other _ 50 49 _ (by decide)).trans (eval_same _ _ _ (by rw [hsz]; decide))))) ((eval_other _ 53 50 _ (by decide)).trans ((eval_other _ 52 50 _ (by decide)).trans (eval_same _ _ _ (by simp only [put_size, hsz]; decide)))) Try.func10 (by kernel_rfl) _) (polySum_any oth bs m p cap _ HOL.out HM.out hc hcm (HL.out.below HSD.out.below)) ?_
        rintro e w5 ⟨rfl, hb5⟩
        have H5 := Lib.hid (HSD.out.on hb5); clear hb5
        refine ⟨_, rfl, ⟨H5.out.key, H5.out.oth⟩, ?_⟩
        refine met_enterA po5 d5 (wanted_of gd5) (run_callf2 q5 rfl ((eval_other _ 51 52 _ (by decide)).trans ((eval_other _ 53 52 _ (by decide)).trans (eval_same _ _ _ (by simp only [put_size, hsz]; decide)))) ((eval_other _ 51 53 _ (by decide)).trans (eval_same _ _ _ (by simp only [put_size, hsz]; decide))) Try.func10 (by kernel_rfl) _) (polySum_any key bs m p cap _ HKL.out HM.out hc hcm (HL.out.below H5.out.below)) ?_
        rintro e w6 ⟨rfl, hb6⟩
        have H6 := Lib.hid (H5.out.on hb6); clear hb6
        refine ⟨_, rfl, ⟨H6.out.key, H6.out.oth⟩, ?_⟩
        rw [HTG.out]
        refine met_free po6 d6 (wanted_of gd6) (fun w' _ => run_eql_tag q6 (polyTag_length _ _) ((eval_other _ 54 51 _ (by decide)).trans (eval_same _ _ _ (by simp only [put_size, hsz]; decide))) (eval_same _ _ _ (by simp only [put_size, hsz]; decide)) w') ?_
        refine met_free po7 d7 (wanted_of gd7) (fun w' _ => run_move q7 (eval_same _ _ _ (by simp only [put_size, hsz]; decide)) w') ?_
        refine met_enterA po8 d8 (wanted_guard gd8 po7 d7 (eval_same _ _ _ (by simp only [put_size, hsz]; decide))) (run_callf0 q8 rfl Try.func8 (by kernel_rfl) _) (known_any _) ?_
        rintro e w7 ⟨rfl, hb7⟩
        have H7 := Lib.hid (H6.out.on hb7); clear hb7
        refine ⟨_, rfl, ⟨H7.out.key, H7.out.oth⟩, ?_⟩
        refine met_free po9 d9 (wanted_of gd9) (fun w' _ => run_pick_true q9 ((eval_other _ 57 56 _ (by decide)).trans (eval_same _ _ _ (by simp only [put_size, hsz]; decide))) (eval_same _ _ _ (by simp only [put_size, hsz]; decide)) w') ?_
        refine met_free po10 d10 (wanted_of gd10) (fun w' _ => run_assign q10 (eval_same _ _ _ (by simp only [put_size, hsz]; decide)) w') ?_
        show NoPanic _ .normal _ _
        refine NoPanic.normal ?_
        rw [HAA.out]
        go_frame
        clear HAA
        clear H5 H6 HSD
        go_wp2_with fail
        go_ret
        exact ⟨rfl, H7.out.below⟩
end Go.Proofs.Ytgfmjfpafpmghaa
