/-
  AeadBack, for any key, nonce, head and bytes: the law returns true, and what came in reads afterwards as it read before; the package's table starts as the program's own text lays it (the tie is given).
-/
import Derived.Test.YtagkkihnfipfeaaDoorPkE
import Derived.Test.YtagkkihnfipfeaaDoorTie
import Derived.Test.YtagkkihnfipfeaaDoorCards
import Derived.SevenTiedAt
/-
  The walk of the law AeadBack: for any key, nonce, head and bytes it returns true, and nothing that was there changes.
-/
namespace Go.Proofs.YtagkkihnfipfeaaDoor
open Go.RowKit Go.Proofs.ShaWords

attribute [local irreducible] sealOf openOf openIs xorKs
set_option maxRecDepth 100000 in
set_option maxHeartbeats 4000000 in
theorem aeBack_any (key nonce head b : List (BitVec 8)) (n m : Nat) (p q : Option Addr) (cp cq : Nat) (w : World) (hk : key.length = 32) (hn : nonce.length = 12) (hhl : head.length = n) (hml : b.length = m) (hmq : m ≤ cq) (hp : Lies w p head) (hb : Lies w q b) (hq : Quads w) :
    Calls Tryd.prog 5 #[.agg (bytesV key).toArray, .agg (bytesV nonce).toArray, .slice p n cp, .slice q m cq] w fun e w' => e = .returned (.bool true) ∧ Below w.heap.size w w' := by
  have hqs := hq.size
  have HQ := Lib.hid hq; clear hq
  have HKL := Lib.hid hk; clear hk
  have HNL := Lib.hid hn; clear hn
  have HHL := Lib.hid hhl
  have HML := Lib.hid hml
  have HLI : Hid (∀ x ∈ [(p, head), (q, b)], Lies w x.1 x.2) := show ∀ x ∈ _, _ from by
    intro x hx
    simp only [List.mem_cons, List.not_mem_nil, or_false] at hx
    rcases hx with rfl | rfl
    · exact hp
    · exact hb
  clear hp hb
  have HIK := Lib.hid (infoKey key HKL.out)
  have HIN := Lib.hid (infoNonce nonce HNL.out)
  obtain ⟨mx, hmx⟩ : ∃ mx, mx = max n m := ⟨_, rfl⟩
  have HMX := Lib.hid hmx
  by_cases hbig : 4096 < mx
  · have p0 : (4096 : Int) < (mx : Int) := by omega
    clear hmx hhl hml
    go_enter Tryd.func5, Tryd.ntmps5
    go_upto_region 1 with (fail)
    refine wp_gen (KnL w key nonce [(p, head), (q, b)]) (knl_start w key nonce _ HLI.out) ?_
    intro w0 hw0
    have HW0 := Lib.hid hw0; clear hw0
    go_wp2_with (refine wpList_max2 rfl (.tmp 17) (.tmp 19) rfl n m mx rfl rfl HMX.out ?_)
    refine (works5_any w0 (HQ.out.below HW0.out.below hqs)).mono ?_
    rintro e w1 ⟨rfl, hb1⟩
    have HW1 := Lib.hid (HW0.out.on hb1); clear hb1 HW0
    go_wp2_with fail
    go_ret
    exact ⟨rfl, HW1.out.below⟩
  · have p0 : ¬ (4096 : Int) < (mx : Int) := by omega
    have b1 : n ≤ 4096 := by omega
    have b3 : m ≤ 4096 := by omega
    have HS1 : Hid ((sealOf key nonce head b).length = m + 16) := show _ = _ by rw [sealOf_length, hml]
    have HIS := Lib.hid (openIs_seal key nonce head b)
    have HOF := Lib.hid (openOf_seal key nonce head b)
    have HMQ := Lib.hid hmq
    clear hmx hhl hbig
    go_enter Tryd.func5, Tryd.ntmps5
    go_upto_region 1 with (fail)
    refine wp_gen (KnL w key nonce [(p, head), (q, b)]) (knl_start w key nonce _ HLI.out) ?_
    intro w0 hw0
    have HW0 := Lib.hid hw0; clear hw0
    go_wp2_with (refine wpList_max2 rfl (.tmp 17) (.tmp 19) rfl n m mx rfl rfl HMX.out ?_)
    refine (new_any _).mono ?_
    rintro e w1 ⟨v1, rfl, hb1⟩
    have HW1 := Lib.hid (HW0.out.on hb1); clear hb1 HW0
    go_wp2_with (first
      | (refine wpList_load_row rfl 23 (.tmp 4) rfl w.heap.size rfl 23 (bytesV key).toArray (0, 0) _ HW1.out.key Tryd.underlying23 rfl HIK.out ?_)
      | (refine wpList_load_row rfl 25 (.tmp 5) rfl (w.heap.size + 1) rfl 25 (bytesV nonce).toArray (0, 0) _ HW1.out.nonce Tryd.underlying25 rfl HIN.out ?_))
    refine (seal_any v1 key nonce head b n m p q cp cq w1 HKL.out HNL.out HHL.out HML.out (by omega) (by omega) (HW1.out.lies (p, head) (by simp)) (HW1.out.lies (q, b) (by simp)) (HQ.out.below HW1.out.below hqs)).mono ?_
    rintro e w2 ⟨r2, c2, rfl, hr2, hm2, ho2, hb2⟩
    have HW2 := Lib.hid ((HW1.out.on hb2).add (r2, sealOf key nonce head b) ho2.liesOf); clear ho2 hb2 HW1
    obtain ⟨N, hN⟩ : ∃ N, N = m + 16 := ⟨_, rfl⟩
    have HN := Lib.hid hN
    rw [← hN] at HS1 hr2 ⊢
    have HR2 := Lib.hid hr2
    have m0 : IntKind.i64.wrap ((m : Int) + 16) = (N : Int) := by rw [IntWalk.i64_in _ (by omega)]; omega
    have hN2 : N ≤ 5000 := by omega
    clear hN
    go_wp2_with (first
      | (refine wpList_load_row rfl 23 (.tmp 4) rfl w.heap.size rfl 23 (bytesV key).toArray (0, 0) _ HW2.out.key Tryd.underlying23 rfl HIK.out ?_)
      | (refine wpList_load_row rfl 25 (.tmp 5) rfl (w.heap.size + 1) rfl 25 (bytesV nonce).toArray (0, 0) _ HW2.out.nonce Tryd.underlying25 rfl HIN.out ?_))
    refine (open_any v1 key nonce head (sealOf key nonce head b) n N p r2 cp c2 w2 HKL.out HNL.out HHL.out HS1.out (by omega) (by omega) HR2.out (HW2.out.lies (p, head) (by simp)) (HW2.out.lies (r2, sealOf key nonce head b) (by simp)) (HQ.out.below HW2.out.below hqs)).mono ?_
    rintro e w3 ⟨v3, rfl, ho3, hb3⟩
    rw [HOF.out] at ho3
    rw [HIS.out]
    obtain ⟨p3, c3, rfl, -, -, hl3⟩ := ho3.lies
    have HW3 := Lib.hid ((HW2.out.on hb3).add (p3, b) hl3); clear ho3 hl3 hb3 HW2
    rw [hml]
    go_wp2_with fail
    refine (same_any b m p3 q c3 cq w3 HML.out (by omega) (HW3.out.lies (p3, b) (by simp)) (HW3.out.lies (q, b) (by simp))).mono ?_
    rintro e w4 ⟨rfl, hb4⟩
    have HW4 := Lib.hid (HW3.out.on hb4); clear hb4 HW3
    go_wp2_with (first
      | (refine wpList_load_row rfl 23 (.tmp 4) rfl w.heap.size rfl 23 (bytesV key).toArray (0, 0) _ HW4.out.key Tryd.underlying23 rfl HIK.out ?_)
      | (refine wpList_load_row rfl 25 (.tmp 5) rfl (w.heap.size + 1) rfl 25 (bytesV nonce).toArray (0, 0) _ HW4.out.nonce Tryd.underlying25 rfl HIN.out ?_))
    refine (open_any v1 key nonce head b n m p q cp cq w4 HKL.out HNL.out HHL.out HML.out (by omega) (by omega) HMQ.out (HW4.out.lies (p, head) (by simp)) (HW4.out.lies (q, b) (by simp)) (HQ.out.below HW4.out.below hqs)).mono ?_
    rintro e w5 ⟨v5, rfl, ho5, hb5⟩
    cases his : openIs key nonce head b with
    | false =>
      rw [openOf_not his] at ho5
      obtain ⟨p5, c5, rfl, -, -, -⟩ := ho5.lies
      have HW5 := Lib.hid (HW4.out.on hb5); clear ho5 hb5 HW4 his
      go_wp2_with fail
      refine (works5_any w5 (HQ.out.below HW5.out.below hqs)).mono ?_
      rintro e w6 ⟨rfl, hb6⟩
      have HW6 := Lib.hid (HW5.out.on hb6); clear hb6 HW5
      go_wp2_with fail
      go_ret
      exact ⟨rfl, HW6.out.below⟩
    | true =>
      have HSO := Lib.hid (seal_open his)
      have hol := openOf_length his
      obtain ⟨p5, c5, rfl, -, -, hl5⟩ := ho5.lies
      obtain ⟨k, hk5⟩ : ∃ k, k = (openOf key nonce head b).length := ⟨_, rfl⟩
      rw [← hk5] at hol ⊢
      have HKL5 := Lib.hid hk5.symm
      have HW5 := Lib.hid ((HW4.out.on hb5).add (p5, openOf key nonce head b) hl5); clear ho5 hb5 hl5 HW4 his
      have m5 : IntKind.i64.wrap ((m : Int) - 16) = (k : Int) := by rw [IntWalk.i64_in _ (by omega)]; omega
      have hk2 : k ≤ 4096 := by omega
      have HKM : Hid (k + 16 = m) := show _ = _ by omega
      clear hol hk5
      go_wp2_with (first
        | (refine wpList_load_g (by rfl) 23 (.tmp 4) rfl w.heap.size rfl 23 (bytesV key).toArray (0, 0) _ HW5.out.key Tryd.underlying23 rfl HIK.out ?_)
        | (refine wpList_load_g (by rfl) 25 (.tmp 5) rfl (w.heap.size + 1) rfl 25 (bytesV nonce).toArray (0, 0) _ HW5.out.nonce Tryd.underlying25 rfl HIN.out ?_))
      refine (seal_any v1 key nonce head (openOf key nonce head b) n k p p5 cp c5 w5 HKL.out HNL.out HHL.out HKL5.out (by omega) (by omega) (HW5.out.lies (p, head) (by simp)) (HW5.out.lies (p5, openOf key nonce head b) (by simp)) (HQ.out.below HW5.out.below hqs)).mono ?_
      rintro e w6 ⟨r6, c6, rfl, hr6, hm6, ho6, hb6⟩
      rw [HSO.out] at ho6
      rw [HKM.out] at ho6 ⊢
      have HW6 := Lib.hid ((HW5.out.on hb6).add (r6, b) ho6.liesOf); clear ho6 hb6 HW5
      go_wp2_with fail
      refine (same_any b m r6 q c6 cq w6 HML.out (by omega) (HW6.out.lies (r6, b) (by simp)) (HW6.out.lies (q, b) (by simp))).mono ?_
      rintro e w7 ⟨rfl, hb7⟩
      have HW7 := Lib.hid (HW6.out.on hb7); clear hb7 HW6
      go_wp2_with fail
      refine (works5_any w7 (HQ.out.below HW7.out.below hqs)).mono ?_
      rintro e w8 ⟨rfl, hb8⟩
      have HW8 := Lib.hid (HW7.out.on hb8); clear hb8 HW7
      go_wp2_with fail
      go_ret
      exact ⟨rfl, HW8.out.below⟩
end Go.Proofs.YtagkkihnfipfeaaDoor

/-
  AeadBack, for any key, nonce, head and bytes: the law returns true, and what came in reads afterwards as it read before; the package's table starts as the program's own text lays it (the tie is given).
-/
namespace Go.Proofs.YtagkkihnfipfeaaDoor
open Go.ChangeShapes Go.WideShapes Go.ChangeAt Go.RowKit Go.Proofs.ShaWords

set_option maxRecDepth 100000 in
theorem aeadBack_lifted (os : Os) (started : os.Started) (H : Type) (enc : TypeId × Value → H) :
    ReturnsInHanded {} Tryd.checked os 5 .any (fun w args => (Rows.aeadBackSpec.pre enc Tryd.prog Tryd.f5 [] false w args ∧ laidMetH Tryd.prog laid3 w) ∧ sizedMet enc Tryd.prog Tryd.f5 (OpenSpec.ofChange Rows.aeadBackSpec) false w args)
      (Rows.aeadBackSpec.post enc Tryd.prog Tryd.f5 false true false false) := by
  refine returnsInHanded_of_change_and (C := Tryd.checked) (X := fun w _ => laidMetH Tryd.prog laid3 w) (fun _ _ _ hh h => h.of_heap hh) own started (by kernel_rfl) Tryd.func5
    (ChangeSpec.witness_shaped (enc := enc) (C := Tryd.checked) (os := os) (X := fun w _ => laidMetH Tryd.prog laid3 w) false (World.doorLaid Tryd.prog 400 os) #[.agg (Array.replicate 32 (.int .u8 0)), .agg (Array.replicate 12 (.int .u8 0)), .slice none 0 0, .slice none 0 0] 8 rfl (World.shaped_of_RefB (by kernel_rfl) (by kernel_rfl)) (by kernel_rfl) (by kernel_rfl) (by kernel_rfl) (door_met3 os _)) ?_
  intro W base args ds gs before hval0 hW _ hsz hL _
  have hW' := hW
  obtain ⟨p, q, hA0, hV, rfl, hfz, hnd⟩ := hW
  have hA : DataW.TrodAll enc Tryd.prog W 0 (fun _ => true) true Tryd.f5.params.toList args.toList ds p := hA0
  have hval : ∀ (j : Nat) t v, Tryd.f5.params[j]? = some t → args[j]? = some v → Value.okWide Tryd.prog W .any base t v := hval0
  have hsz2 : (DataW.weightsEach Tryd.prog (Tryd.f5.params.toList ++ Rows.aeadBackSpec.plain.varTypes Tryd.prog) (ds ++ gs)).all (· ≤ reachBytes) = true := hsz
  rw [Tryd.params5] at hA hval hsz2
  obtain ⟨v0, vs0, d0, ds0, p0, q0, hargs, rfl, rfl, h0, r0⟩ := trodAll_cons hA
  obtain ⟨v1, vs1, d1, ds1, p1, q1, rfl, rfl, rfl, h1, r1⟩ := trodAll_cons r0
  obtain ⟨v2, vs2, d2, ds2, p2, q2, rfl, rfl, rfl, h2, r2⟩ := trodAll_cons r1
  obtain ⟨v3, vs3, d3, ds3, p3, q3, rfl, rfl, rfl, h3, r3⟩ := trodAll_cons r2
  obtain ⟨rfl, rfl, rfl⟩ := trodAll_nil r3
  obtain rfl : args = #[v0, v1, v2, v3] := by cases args; simp_all
  obtain ⟨rfl, rfl⟩ := trodVars_none hV
  have hb5 : Tryd.prog.bytesOf 5 = 1 := by kernel_rfl
  obtain ⟨cs0, rfl⟩ := okWide_key (hval 0 23 v0 rfl rfl)
  have k0 := h0
  have lt0 : ∀ x ∈ p0, x.block < W.heap.size := by obtain ⟨m, hm⟩ := k0; exact DataW.trod_lt m _ _ _ hm
  obtain ⟨f0, hf0⟩ := h0
  obtain ⟨xs0, hx0a, hx0b⟩ := open_key hf0
  obtain rfl : cs0 = (bytesV xs0).toArray := by rw [← hx0b]; rfl
  obtain ⟨cs1, rfl⟩ := okWide_nonce (hval 1 25 v1 rfl rfl)
  have k1 := h1
  have lt1 : ∀ x ∈ p1, x.block < W.heap.size := by obtain ⟨m, hm⟩ := k1; exact DataW.trod_lt m _ _ _ hm
  obtain ⟨f1, hf1⟩ := h1
  obtain ⟨xs1, hx1a, hx1b⟩ := open_nonce hf1
  obtain rfl : cs1 = (bytesV xs1).toArray := by rw [← hx1b]; rfl
  obtain ⟨a2, len2, cap2, rfl⟩ := okWide_slice Tryd.underlying26 (hval 2 26 v2 rfl rfl)
  have k2 := h2
  have lt2 : ∀ x ∈ p2, x.block < W.heap.size := by obtain ⟨m, hm⟩ := k2; exact DataW.trod_lt m _ _ _ hm
  obtain ⟨f2, hf2⟩ := h2
  obtain ⟨xs2, hx2a, hx2b, hx2c, hx2d⟩ := open_bytes hf2
  have hc2 : cap2 ≤ 140737488351232 := by
    rcases hx2d with ⟨_, h⟩ | ⟨e, sp, he, hl⟩
    · omega
    · have h := sized_slice hsz2 (j := 2) (t := 26) (elems := e) (spare := sp) rfl (by rw [← he]; rfl) Tryd.underlying26
      rw [hb5] at h; unfold reachBytes at h; omega
  obtain ⟨a3, len3, cap3, rfl⟩ := okWide_slice Tryd.underlying26 (hval 3 26 v3 rfl rfl)
  have k3 := h3
  have lt3 : ∀ x ∈ p3, x.block < W.heap.size := by obtain ⟨m, hm⟩ := k3; exact DataW.trod_lt m _ _ _ hm
  obtain ⟨f3, hf3⟩ := h3
  obtain ⟨xs3, hx3a, hx3b, hx3c, hx3d⟩ := open_bytes hf3
  have hc3 : cap3 ≤ 140737488351232 := by
    rcases hx3d with ⟨_, h⟩ | ⟨e, sp, he, hl⟩
    · omega
    · have h := sized_slice hsz2 (j := 3) (t := 26) (elems := e) (spare := sp) rfl (by rw [← he]; rfl) Tryd.underlying26
      rw [hb5] at h; unfold reachBytes at h; omega
  have hQ := of_laid3 hL
  clear hA0 hval0
  refine (aeBack_any xs0 xs1 xs2 xs3 len2 len3 a2 a3 cap2 cap3 W hx0a hx1a hx2a hx3a hx3b hx2c hx3c hQ).mono fun e W' ⟨he, bel⟩ => ?_
  subst he
  exact ⟨_, rfl, _, _, _, [], _, [], hW', trodAll_mk1 (shut_bool Tryd.underlying4 _), (trodAll_cons_mk (Below.trod laidOut (by kernel_rfl) (of_decide_eq_true (by kernel_rfl)) k0 bel lt0) (trodAll_cons_mk (Below.trod laidOut (by kernel_rfl) (of_decide_eq_true (by kernel_rfl)) k1 bel lt1) (trodAll_cons_mk (Below.trod laidOut (by kernel_rfl) (of_decide_eq_true (by kernel_rfl)) k2 bel lt2) (trodAll_cons_mk (Below.trod laidOut (by kernel_rfl) (of_decide_eq_true (by kernel_rfl)) k3 bel lt3) trodAll_mk0)))), rfl, bel.frame _, fun h => by cases h⟩

theorem aeadBack_holds : Rows.AeadBackSaid :=
  OpenClaim.holds_of_wide 5 Tryd.f5 rfl rfl rfl rfl rfl rfl rfl ⟨rfl, rfl, rfl, rfl, rfl⟩ rfl rfl rfl rfl rfl (by kernel_rfl) Tryd.func5 (by kernel_rfl)
    (of_decide_eq_true (by kernel_rfl)) (by unfold Func.isWrapper; first | (rw [if_pos (by decide +kernel)]; kernel_rfl) | (rw [if_neg (by decide +kernel)]; exact ⟨rfl, rfl⟩))
    (fun os started H enc _ => aeadBack_lifted os started H enc)

theorem aeadBack_card : Rows.AeadBackCardSaid :=
  Claim7.holds_tied_plain_at .later [] [.data] true Rows.aeadBackCard.stood.harness false
    aeadBack_holds (fun _ h => by cases h) (by kernel_rfl) (fun _ h => by cases h) aeadBack_row_tie rfl ⟨rfl, rfl⟩ (by kernel_rfl) rfl
    (fun f fn hf hfn => by
      obtain rfl : f = 5 := Option.some.inj (hf.symm.trans (show _ = some 5 by kernel_rfl))
      obtain rfl : fn = Tryd.f5 := (Option.some.inj (Tryd.func5.symm.trans hfn)).symm
      exact ⟨by kernel_rfl, fun j t ht => by
        rw [Tryd.params5] at ht
        have hm : t ∈ [23, 25, 26, 26] := by simpa using Array.mem_of_getElem? ht
        have hall : ([23, 25, 26, 26].all fun u => !Tryd.prog.wantsStandIn u) = true := by kernel_rfl
        exact (show Tryd.prog.wantsStandIn t = false by simpa using List.all_eq_true.1 hall t hm)⟩)
    (by kernel_rfl)
#print axioms aeadBack_card
end Go.Proofs.YtagkkihnfipfeaaDoor
