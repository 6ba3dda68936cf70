/-
  The walk of the law ChachaStream: for any key, counter, nonce and number it returns true, and nothing that was there changes.
-/
import Derived.Test.YtgfmjfpafpmghaaDoorCcOps
import Derived.Test.YtgfmjfpafpmghaaDoorPick
namespace Go.Proofs.YtgfmjfpafpmghaaDoor
open Go.RowKit Go.Proofs.ShaWords
attribute [local go_sem] add32

theorem xorKs_noughts (key : List (BitVec 8)) (c : BitVec 32) (nonce : List (BitVec 8)) (n k : Nat) (hk : k < n) : (xorKs key c nonce (noughts n)).getD k 0#8 = (ccBlock key (c + BitVec.ofNat 32 (k / 64)) nonce).getD (k % 64) 0#8 := by
  rw [xorKs_get _ _ _ _ k (by rw [noughts_length]; exact hk)]
  simp [noughts, List.getD, hk, ksAt, blkAt]
/-- In the loop. -/
structure StrW (w : World) (key nonce zs : List (BitVec 8)) (B : Nat) (v : Value) (wr : World) : Prop where
  two : TwoW w key nonce wr
  own : Own B wr zs v
theorem StrW.on {w wr w' : World} {key nonce zs : List (BitVec 8)} {B : Nat} {v : Value} (h : StrW w key nonce zs B v wr) (hb : Below wr.heap.size wr w') : StrW w key nonce zs B v w' := ⟨h.two.on hb, h.own.below hb⟩
attribute [local irreducible] xorKs ccBlock
set_option maxRecDepth 100000 in
set_option maxHeartbeats 4000000 in
theorem stream_any (key nonce : List (BitVec 8)) (c : BitVec 32) (many : Int) (w : World) (hk : key.length = 32) (hn : nonce.length = 12) (hq : Quads w) :
    Calls Tryd.prog 24 #[.agg (bytesV key).toArray, .int .u32 (n32 c), .agg (bytesV nonce).toArray, .int .i64 many] w fun e w' => e = .returned (.bool true) ∧ Below w.heap.size w w' := by
  have hqs := hq.size
  have HQ := Lib.hid hq; clear hq
  have HKL := Lib.hid hk; clear hk
  have HNL := Lib.hid hn; clear hn
  have HIK := Lib.hid (infoKey key HKL.out)
  have HIN := Lib.hid (infoNonce nonce HNL.out)
  go_enter Tryd.func24, Tryd.ntmps24
  go_upto_region 1 with (fail)
  refine wp_gen (TwoW w key nonce) (two_start w key nonce) ?_
  intro w0 hw0
  have HW0 := Lib.hid (hw0.on ((Below.refl _ _).drew)); clear hw0
  go_wp2_with (go_at_call 35; refine (pick_any _ _ _ (by omega) (by omega)).mono ?_; rintro e w' ⟨r, hr, rfl, rfl⟩)
  have hr301 : r ≤ 300 := by omega
  refine region_phase (TwoW w key nonce) (fun _ => True) 4 HW0.out trivial [(0, .free), (1, .free), (2, .free), (3, .free), (4, .behind), (5, .behind), (6, .free)] (by kernel_rfl) (by kernel_rfl) (by kernel_rfl) (by kernel_rfl) (fun ops hops A hA => ?_)
  have hsz : A.tmps.size = 47 := by rw [hA]; rfl
  have base1 : A.eval (.tmp 1) = .int .u32 (n32 c) := by rw [hA]; rfl
  have base3 : A.eval (.tmp 3) = .int .i64 (r : Int) := by rw [hA]; rfl
  have base4 : A.eval (.tmp 4) = .pointer (some ⟨w.heap.size, 0, none⟩) := by rw [hA]; rfl
  have base6 : A.eval (.tmp 6) = .pointer (some ⟨w.heap.size + 1, 0, none⟩) := by rw [hA]; rfl
  have HAA := Lib.hid hA; clear hA
  obtain ⟨o0, po0, q0, d0, gd0⟩ : ∃ o, ops[0]? = some o ∧ o.op = .load 44 (.tmp 4) ∧ o.dst = some 14 ∧ o.guard = none := ⟨_, by rw [hops]; rfl, rfl, rfl, rfl⟩
  obtain ⟨o1, po1, q1, d1, gd1⟩ : ∃ o, ops[1]? = some o ∧ o.op = .move (.tmp 1) ∧ o.dst = some 15 ∧ o.guard = none := ⟨_, by rw [hops]; rfl, rfl, rfl, rfl⟩
  obtain ⟨o2, po2, q2, d2, gd2⟩ : ∃ o, ops[2]? = some o ∧ o.op = .load 46 (.tmp 6) ∧ o.dst = some 16 ∧ o.guard = none := ⟨_, by rw [hops]; rfl, rfl, rfl, rfl⟩
  obtain ⟨o3, po3, q3, d3, gd3⟩ : ∃ o, ops[3]? = some o ∧ o.op = .move (.tmp 3) ∧ o.dst = some 17 ∧ o.guard = none := ⟨_, by rw [hops]; rfl, rfl, rfl, rfl⟩
  obtain ⟨o4, po4, q4, d4, gd4⟩ : ∃ o, ops[4]? = some o ∧ o.op = .makeSlice 26 (.tmp 17) (.tmp 17) ∧ o.dst = some 18 ∧ o.guard = none := ⟨_, by rw [hops]; rfl, rfl, rfl, rfl⟩
  obtain ⟨o5, po5, q5, d5, gd5⟩ : ∃ o, ops[5]? = some o ∧ o.op = .call { callee := .value (.func 19), args := #[.tmp 14, .tmp 15, .tmp 16, .tmp 18], argTypes := #[44, 25, 46, 26] } ∧ o.dst = some 19 ∧ o.guard = none := ⟨_, by rw [hops]; rfl, rfl, rfl, rfl⟩
  obtain ⟨o6, po6, q6, d6, gd6⟩ : ∃ o, ops[6]? = some o ∧ o.op = .assign (.tmp 19) ∧ o.dst = some 9 ∧ o.guard = none := ⟨_, by rw [hops]; rfl, rfl, rfl, rfl⟩
  clear hops
  refine met_free po0 d0 (wanted_of gd0) (fun w' h' => run_loadKey q0 base4 HKL.out h'.key) ?_
  refine met_free po1 d1 (wanted_of gd1) (fun w' _ => run_move q1 ((eval_other _ 14 1 _ (by decide)).trans base1) w') ?_
  refine met_free po2 d2 (wanted_of gd2) (fun w' h' => run_loadNonce q2 ((eval_other _ 15 6 _ (by decide)).trans ((eval_other _ 14 6 _ (by decide)).trans base6)) HNL.out h'.nonce) ?_
  refine met_free po3 d3 (wanted_of gd3) (fun w' _ => run_move q3 ((eval_other _ 16 3 _ (by decide)).trans ((eval_other _ 15 3 _ (by decide)).trans ((eval_other _ 14 3 _ (by decide)).trans base3))) w') ?_
  refine met_make po4 d4 (wanted_of gd4) q4 (eval_same _ _ _ (by simp only [put_size, hsz]; decide)) (eval_same _ _ _ (by simp only [put_size, hsz]; decide)) (by omega) ?_
  intro wm hbm hlm
  have HWM := Lib.hid (HW0.out.on hlm)
  refine ⟨HWM.out, ?_⟩
  refine met_enter po5 d5 (wanted_of gd5) (run_callf4 q5 rfl ((eval_other _ 18 14 _ (by decide)).trans ((eval_other _ 17 14 _ (by decide)).trans ((eval_other _ 16 14 _ (by decide)).trans ((eval_other _ 15 14 _ (by decide)).trans (eval_same _ _ _ (by rw [hsz]; decide)))))) ((eval_other _ 18 15 _ (by decide)).trans ((eval_other _ 17 15 _ (by decide)).trans ((eval_other _ 16 15 _ (by decide)).trans (eval_same _ _ _ (by simp only [put_size, hsz]; decide))))) ((eval_other _ 18 16 _ (by decide)).trans ((eval_other _ 17 16 _ (by decide)).trans (eval_same _ _ _ (by simp only [put_size, hsz]; decide)))) (eval_same _ _ _ (by simp only [put_size, hsz]; decide)) Tryd.func19 (by kernel_rfl) _) (ccXor_len key nonce (noughts r) r c _ r wm (noughts_length r) HKL.out HNL.out (by omega) (Or.inr ⟨_, 0, rfl, hbm.range⟩) (HQ.out.below HWM.out.below hqs)) ?_
  rintro e w2 ⟨q, cq, rfl, hcq, ho2, hb2⟩
  have HW2 := Lib.hid (HWM.out.on hb2)
  have HO2 := Lib.hid ho2; clear ho2 hb2 hbm hlm
  refine ⟨_, rfl, HW2.out, ?_⟩
  refine met_free po6 d6 (wanted_of gd6) (fun w' _ => run_assign q6 (eval_same _ _ _ (by simp only [put_size, hsz]; decide)) w') ?_

  show NoPanic _ .normal _ _
  refine NoPanic.normal ?_
  rw [HAA.out]
  go_frame
  have HS2 : Hid (StrW w key nonce (xorKs key c nonce (noughts r)) wm.heap.size (.slice q r cq) w2) := ⟨HW2.out, HO2.out⟩
  have HZL : Hid ((xorKs key c nonce (noughts r)).length = r) := show _ = _ by rw [xorKs_length, noughts_length]
  have HZG := Lib.hid (xorKs_noughts key c nonce r)
  clear HW2 HO2 HWM
  generalize xorKs key c nonce (noughts r) = zs at HS2 HZL HZG
  generalize wm.heap.size = B at HS2
  go_wp2_with fail
  go_loopw [10, 11] (fun i _ wr => ∃ k : Nat, k ≤ r ∧ i = .int .i64 (k : Int) ∧ StrW w key nonce zs B (.slice q r cq) wr) (fun i _ _ => r - (intOf i).toNat)
  case atStart => exact ⟨0, by omega, rfl, HS2.out⟩
  case round =>
    clear HS2
    obtain ⟨k, hk, rfl, hs⟩ := hrel
    by_cases hlt : k < r
    · have HS := Lib.hid hs; clear hs
      have HZ := Lib.hid (HZG.out k hlt)
      have hwr : IntKind.u32.wrap ((k : Int) / 64) = n32 (BitVec.ofNat 32 (k / 64)) := wrap32_nat (k / 64)
      have HBL := Lib.hid (ccBlock_length key (c + BitVec.ofNat 32 (k / 64)) nonce)
      have HIB := Lib.hid (infoBlk _ HBL.out)
      have HOLD := Lib.hid (show (bytesV (noughts 64)).toArray.size = (bytesV (ccBlock key (c + BitVec.ofNat 32 (k / 64)) nonce)).toArray.size by rw [bytesV_size _ 64 HBL.out, bytesV_size _ 64 (noughts_length 64)])
      have HONE := Lib.hid (bytesV_one (ccBlock key (c + BitVec.ofNat 32 (k / 64)) nonce))
      go_upto_region 9 with (first
        | (refine wpList_load_g (by rfl) 44 (.tmp 4) rfl w.heap.size rfl 44 (bytesV key).toArray (0, 0) _ HS.out.two.key Tryd.underlying44 rfl HIK.out ?_)
        | (refine wpList_load_g (by rfl) 46 (.tmp 6) rfl (w.heap.size + 1) rfl 46 (bytesV nonce).toArray (0, 0) _ HS.out.two.nonce Tryd.underlying46 rfl HIN.out ?_)
        | (go_at_call 18; refine (ccBlock_any key nonce _ _ HKL.out HNL.out (HQ.out.below HS.out.two.below hqs)).mono ?_; rintro e w6 ⟨rfl, hb6⟩; have HS6 := Lib.hid (HS.out.on hb6); clear hb6)
        | (refine wpList_store_new rfl 42 (.tmp 11) (.tmp 36) rfl w6.heap.size rfl (bytesV (ccBlock key (c + BitVec.ofNat 32 (k / 64)) nonce)).toArray rfl rfl HIB.out (by exact HOLD.out) HONE.out ?_; intro w7 h7 b7; have HP7 := Lib.hid (show BytesAt w7 w6.heap.size 42 (ccBlock key (c + BitVec.ofNat 32 (k / 64)) nonce) from h7); have HS7 := Lib.hid (HS6.out.on b7); clear h7 b7))
      have hp := HP7.out.cell (k % 64) (by rw [HBL.out]; omega)
      rw [← HZ.out] at hp
      obtain ⟨b, off, rfl, hx⟩ : ∃ b off, q = some ⟨b, off, none⟩ ∧ w7.cell? ⟨b, off + k, none⟩ = some (.int .u8 (n8 (zs.getD k 0#8))) := by
        rcases HS7.out.own.liesOf with h0 | ⟨b, off, rfl, hr7⟩
        · exfalso; have := HZL.out; rw [h0] at this; simp at this; omega
        · exact ⟨b, off, rfl, range_cell hr7 k (by rw [HZL.out]; exact hlt)⟩
      generalize zs.getD k 0#8 = z at hp hx
      have n0 : ((k : Int) % 64).toNat = k % 64 := by omega
      have l0 : (k : Int) % 64 < 64 := by omega
      have p0 : 0 ≤ (k : Int) % 64 := by omega
      have q0 : (k : Int) < (r : Int) := by omega
      have mt : (k : Int).tmod 64 = (k : Int) % 64 := Int.tmod_eq_emod_of_nonneg (by omega)
      clear HIB HOLD HONE HP7 HS6 HS
      generalize w6.heap.size = G at hp ⊢
      go_quiet (fail)
      clear n0 l0 p0 mt
      go_wp2_with fail
      go_roundw
      case rel => ((repeat apply Exists.intro); exact ⟨⟨k + 1, by omega, by go_num, HS7.out.on ⟨rfl, rfl, rfl, Nat.le_refl _, fun _ _ => rfl⟩⟩, rfl⟩)
      case measure => simp [intOf]; omega
    · have HS := Lib.hid hs; clear hs
      go_wp2_with fail
      refine (works3_any wr (HQ.out.below HS.out.two.below hqs)).mono ?_
      rintro e w4 ⟨rfl, hb4⟩
      have HB4 := Lib.hid (HS.out.two.on hb4).below; clear hb4
      go_wp2_with fail
      go_ret
      exact ⟨rfl, HB4.out⟩
end Go.Proofs.YtgfmjfpafpmghaaDoor
