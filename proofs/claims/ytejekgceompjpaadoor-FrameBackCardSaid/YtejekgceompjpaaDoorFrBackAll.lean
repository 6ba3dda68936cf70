/-
  FrameBack, for any kind, body, bytes behind and place: the law returns true, and what came in reads afterwards as it read before; the package's table starts as the program's own text lays it (the tie is given).
-/
import Derived.Test.YtejekgceompjpaaDoorPkA
import Derived.Test.YtejekgceompjpaaDoorPkD
import Derived.Test.YtejekgceompjpaaDoorTie
import Derived.Test.YtejekgceompjpaaDoorCards
import Derived.SevenTiedAt
/- The kit's Pick: some number below its bound. -/
namespace Go.Proofs.YtejekgceompjpaaDoor
open Go.RowKit Go.Proofs.ShaWords

theorem tmod_bounds (v n : Int) (h : 1 ≤ n) : -n < v.tmod n ∧ v.tmod n < n := by
  have h1 := Int.tmod_lt_of_pos v (show 0 < n by omega)
  have h2 := Int.tmod_lt_of_pos (-v) (show 0 < n by omega)
  rw [Int.neg_tmod] at h2
  omega
def SomeIn (n : Int) (w : World) (e : Ending) (w' : World) : Prop := ∃ r : Nat, (r : Int) < n ∧ e = .returned (.int .i64 (r : Int)) ∧ w = w'
set_option maxHeartbeats 400000 in
theorem pick_any (v n : Int) (w : World) (h1 : 1 ≤ n) (h2 : n ≤ 1000000) : Calls Tryd.prog 27 #[.int .i64 v, .int .i64 n] w (SomeIn n w) := by
  have hb := tmod_bounds v n h1
  obtain ⟨hb1, hb2⟩ := hb
  have hn0 : ¬ n = 0 := by omega
  by_cases hneg : v.tmod n < 0
  · go_enter Tryd.func27, Tryd.ntmps27
    go_wp2_with fail
    go_ret
    exact ⟨(v.tmod n + n).toNat, by omega, by
      have : ((v.tmod n + n).toNat : Int) = v.tmod n + n := by omega
      rw [this]; rfl, rfl⟩
  · go_enter Tryd.func27, Tryd.ntmps27
    go_wp2_with fail
    go_ret
    exact ⟨(v.tmod n).toNat, by omega, by
      have : ((v.tmod n).toNat : Int) = v.tmod n := by omega
      rw [this]; rfl, rfl⟩

end Go.Proofs.YtejekgceompjpaaDoor

/-
  FrameBack: what was put is got again, whatever stands behind it; cut short it is too short.
-/
namespace Go.Proofs.YtejekgceompjpaaDoor
open Go.RowKit Go.Proofs.ShaWords
theorem pickF_any (v : Int) (n : Nat) (w : World) (h1 : 0 < n) (h2 : n ≤ 1000000) : Calls Tryd.prog 27 #[.int .i64 v, .int .i64 (n : Int)] w fun e w' => ∃ r : Nat, r < n ∧ e = .returned (.int .i64 (r : Int)) ∧ w = w' := by
  refine (pick_any v (n : Int) w (by omega) (by omega)).mono ?_
  rintro e w' ⟨r, hr, rfl, rfl⟩
  exact ⟨r, by omega, rfl, rfl⟩
set_option maxRecDepth 100000 in
set_option maxHeartbeats 4000000 in
theorem frBack_any (z : Int) (l m : List (BitVec 8)) (z3 : Int) (n1 n2 : Nat) (p q : Option Addr) (c d : Nat) (w : World) (hl : l.length = n1) (hm : m.length = n2) (hc : n1 ≤ c) (hd : n2 ≤ d) (hc1 : c ≤ 140737488351232) (hd1 : d ≤ 140737488351232) (hL : Lies w p l) (hM : Lies w q m) (hR : Rem w) :
    Calls Tryd.prog 5 #[.int .i64 z, .slice p n1 c, .slice q n2 d, .int .i64 z3] w fun e w' => e = .returned (.bool true) ∧ Below w.heap.size w w' := by
  have HL := Lib.hid hL
  have HM := Lib.hid hM
  have HR := Lib.hid hR
  have HN1 := Lib.hid hl
  have HN2 := Lib.hid hm
  have hmx : (n1 : Int) < (n2 : Int) ∨ ¬ (n1 : Int) < (n2 : Int) := Classical.em _
  clear hL hM hR hl hm
  by_cases h8 : 8192 < max n1 n2
  · rcases hmx with hq | hq
    all_goals
      (try have h8a : (8192 : Int) < (n2 : Int) := by omega)
      (try have h8a : (8192 : Int) < (n1 : Int) := by omega)
      clear h8
      go_enter Tryd.func5, Tryd.ntmps5
      go_wp2_with fail
      refine (works9_any w HR.out).mono ?_
      rintro e w1 ⟨rfl, b1⟩
      have HB1 := Lib.hid b1
      clear b1
      go_wp2_with fail
      go_ret
      exact ⟨rfl, HB1.out⟩
  have h8a : ¬ (8192 : Int) < (n1 : Int) := by omega
  have h8b : ¬ (8192 : Int) < (n2 : Int) := by omega
  have hn1 : n1 ≤ 8192 := by omega
  have hn2 : n2 ≤ 8192 := by omega
  have HP := Lib.hid (put_any z l n1 p c w HN1.out (by omega) HL.out HR.out)
  clear h8
  by_cases hz : z < 1 ∨ 255 < z
  · have HE := Lib.hid (putE_kind (l := l) hz)
    rcases hmx with hq | hq
    all_goals
      rcases hz with hz1 | hz1
      all_goals
        (try have hz0 : ¬ z < 1 := by omega)
        go_enter Tryd.func5, Tryd.ntmps5
        go_wp2_with fail
        refine HP.out.mono ?_
        rintro e w1 ⟨b1, v, rfl, ho⟩
        rw [HE.out.1]
        rw [HE.out.2] at ho
        obtain ⟨q1, c1, rfl, -, -, -⟩ := ho.slN (n := 0) rfl
        have HB1 := Lib.hid b1
        clear b1 ho
        go_wp2_with fail
        refine (works9_any w1 (HR.out.on HB1.out)).mono ?_
        rintro e w2 ⟨rfl, b2⟩
        have HB2 : Hid (Below w.heap.size w w2) := show Below _ _ _ from HB1.out.trans (b2.mono HB1.out.size)
        clear b2
        go_wp2_with fail
        go_ret
        exact ⟨rfl, HB2.out⟩
  have hz1 : ¬ z < 1 := by omega
  have hz2 : ¬ 255 < z := by omega
  clear hz
  by_cases h9 : 2039 < n1
  · have HE := Lib.hid (putE_long (l := l) (show 1 ≤ z by omega) (show z ≤ 255 by omega) (by rw [HN1.out]; exact h9))
    have h9a : (2039 : Int) < (n1 : Int) := by omega
    rcases hmx with hq | hq
    all_goals
      go_enter Tryd.func5, Tryd.ntmps5
      go_wp2_with fail
      refine HP.out.mono ?_
      rintro e w1 ⟨b1, v, rfl, ho⟩
      rw [HE.out.1]
      rw [HE.out.2] at ho
      obtain ⟨q1, c1, rfl, -, -, -⟩ := ho.slN (n := 0) rfl
      have HB1 := Lib.hid b1
      clear b1 ho
      go_wp2_with fail
      refine (works9_any w1 (HR.out.on HB1.out)).mono ?_
      rintro e w2 ⟨rfl, b2⟩
      have HB2 : Hid (Below w.heap.size w w2) := show Below _ _ _ from HB1.out.trans (b2.mono HB1.out.size)
      clear b2
      go_wp2_with fail
      go_ret
      exact ⟨rfl, HB2.out⟩
  have HE := Lib.hid (putE_ok (l := l) (show 1 ≤ z by omega) (show z ≤ 255 by omega) (by rw [HN1.out]; omega))
  have HNE := Lib.hid (kb_ne (show 1 ≤ z by omega) (show z ≤ 255 by omega))
  have HZ8 := Lib.hid (n8_kb (show 0 ≤ z by omega) (show z < 256 by omega))
  have HFL : Hid ((frameB (kb z) l).length = n1 + 9) := show _ = _ by rw [frameB_length, HN1.out]
  have HG := Lib.hid (got_frame (kb z) l m HNE.out (by rw [HN1.out]; omega))
  have HCUT := Lib.hid (fun r (hr : r < n1 + 9) => getE_cut (kb z) l r HNE.out (by rw [HN1.out]; omega) (by rw [HN1.out]; omega))
  rw [HZ8.out, HN1.out] at HG
  generalize frameB (kb z) l = F at HE HFL HG HCUT
  have HFM : Hid ((F ++ m).length = n1 + 9 + n2) := show _ = _ by rw [List.length_append, HFL.out, HN2.out]
  rcases hmx with hq | hq
  all_goals
    go_enter Tryd.func5, Tryd.ntmps5
    go_wp2_with fail
    refine HP.out.mono ?_
    rintro e w1 ⟨b1, v, rfl, ho⟩
    rw [HE.out.1]
    rw [HE.out.2] at ho
    obtain ⟨q1, c1, rfl, hc1, -, l1⟩ := ho.slN HFL.out
    have HB1 := Lib.hid b1
    have HL1 := Lib.hid l1
    have HC1 := Lib.hid hc1
    clear b1 ho l1 hc1
    go_wp2_with fail
    refine (copy_bigN F (n1 + 9) q1 c1 w1 HFL.out (by omega) HL1.out).mono ?_
    rintro e w2 ⟨v2, rfl, h2, b2⟩
    have HO2 := Lib.hid h2
    have HB2 : Hid (Below w.heap.size w w2) := show Below _ _ _ from HB1.out.trans (b2.mono HB1.out.size)
    have HB12 := Lib.hid b2
    have hs2 := b2.size
    clear h2 b2
    go_wp2_with (at_builtin; refine wpList_append_listB rfl (.tmp 50) (.tmp 51) rfl w1.heap.size _ F m q d rfl HO2.out (by rw [HN2.out]; rfl) (HM.out.below HB2.out) (by rw [HFL.out, HN2.out]; omega) hs2 ?_; intro v3 w3 h3 b3; obtain ⟨q3, c3, rfl, hc3, -, l3⟩ := h3.slN HFM.out; have HL3 := Lib.hid l3; have HC3 := Lib.hid hc3; have HB3 : Hid (Below w.heap.size w w3) := show Below _ _ _ from HB2.out.trans (b3.mono HB1.out.size); have HB13 : Hid (Below w1.heap.size w1 w3) := show Below _ _ _ from HB12.out.trans b3; clear h3 b3 l3 hc3)
    refine (get_any (F ++ m) (n1 + 9 + n2) q3 c3 w3 HFM.out (by omega) HC3.out HL3.out (HR.out.on HB3.out)).mono ?_
    rintro e w4 ⟨b4, v4, rfl, ho4⟩
    obtain ⟨g1, g2, g3, g4⟩ := HG.out
    rw [g1, g2, g3]
    rw [g4] at ho4
    obtain ⟨q4, c4, rfl, -, -, l4⟩ := ho4.slN HN1.out
    have HL4 := Lib.hid l4
    have HB4 : Hid (Below w.heap.size w w4) := show Below _ _ _ from HB3.out.trans (b4.mono HB3.out.size)
    have HB14 : Hid (Below w1.heap.size w1 w4) := show Below _ _ _ from HB13.out.trans (b4.mono HB13.out.size)
    clear b4 g1 g2 g3 g4 ho4 l4
    go_wp2_with fail
    refine calls_gen (fun w' => Below w4.heap.size w4 w') ((Below.refl _ _).alloc (Nat.le_refl _) _) ?_
    rintro w5 b5
    have HB5 : Hid (Below w.heap.size w w5) := show Below _ _ _ from HB4.out.trans (b5.mono HB4.out.size)
    have HB15 : Hid (Below w1.heap.size w1 w5) := show Below _ _ _ from HB14.out.trans (b5.mono HB14.out.size)
    refine (same_big l n1 q4 p c4 c w5 HN1.out (by omega) (HL4.out.below b5) (HL.out.below HB5.out)).mono ?_
    rintro e w6 ⟨rfl, b6⟩
    have HB6 : Hid (Below w.heap.size w w6) := show Below _ _ _ from HB5.out.trans (b6.mono HB5.out.size)
    have HB16 : Hid (Below w1.heap.size w1 w6) := show Below _ _ _ from HB15.out.trans (b6.mono HB15.out.size)
    clear b5 b6
    go_wp2_with fail
    refine (show Calls Tryd.prog 27 #[.int .i64 z3, .int .i64 ((n1 : Int) + 9)] w6 _ from pickF_any z3 (n1 + 9) w6 (by omega) (by omega)).mono ?_
    rintro e w7 ⟨r, hr, rfl, rfl⟩
    have hrc : (r : Int) ≤ (c1 : Int) := by have := HC1.out; omega
    have HCU := Lib.hid (HCUT.out r hr)
    have HGE := Lib.hid (get_err HCU.out (by decide))
    have hrl : (F.take r).length = r := by rw [List.length_take, HFL.out]; omega
    have HRL := Lib.hid hrl
    clear hrl
    go_wp2_with fail
    refine (get_any (F.take r) r q1 c1 w6 HRL.out (by omega) (by have := HC1.out; omega) (lies_takeF (HL1.out.below HB16.out) r) (HR.out.on HB6.out)).mono ?_
    rintro e w8 ⟨b8, v8, rfl, ho8⟩
    rw [HGE.out.1, HGE.out.2.1, HCU.out]
    have HB8 : Hid (Below w.heap.size w w8) := show Below _ _ _ from HB6.out.trans (b8.mono HB6.out.size)
    clear b8 ho8
    go_wp2_with fail
    refine (works9_any w8 (HR.out.on HB8.out)).mono ?_
    rintro e w9 ⟨rfl, b9⟩
    have HB9 : Hid (Below w.heap.size w w9) := show Below _ _ _ from HB8.out.trans (b9.mono HB8.out.size)
    clear b9
    go_wp2_with fail
    go_ret
    exact ⟨rfl, HB9.out⟩
end Go.Proofs.YtejekgceompjpaaDoor

/-
  FrameBack, for any kind, body, bytes behind and place: the law returns true, and what came in reads afterwards as it read before; the package's table starts as the program's own text lays it (the tie is given).
-/
namespace Go.Proofs.YtejekgceompjpaaDoor
open Go.ChangeShapes Go.WideShapes Go.ChangeAt Go.RowKit Go.Proofs.ShaWords

set_option maxRecDepth 100000 in
theorem frameBack_lifted (os : Os) (started : os.Started) (H : Type) (enc : TypeId × Value → H) :
    ReturnsInHanded {} Tryd.checked os 5 .any (fun w args => (Rows.frameBackSpec.pre enc Tryd.prog Tryd.f5 [] false w args ∧ laidMetH Tryd.prog laid9 w) ∧ sizedMet enc Tryd.prog Tryd.f5 (OpenSpec.ofChange Rows.frameBackSpec) false w args)
      (Rows.frameBackSpec.post enc Tryd.prog Tryd.f5 false true false false) := by
  refine returnsInHanded_of_change_and (C := Tryd.checked) (X := fun w _ => laidMetH Tryd.prog laid9 w) (fun _ _ _ hh h => h.of_heap hh) own started (by kernel_rfl) Tryd.func5
    (ChangeSpec.witness_shaped (enc := enc) (C := Tryd.checked) (os := os) (X := fun w _ => laidMetH Tryd.prog laid9 w) false (World.doorLaid Tryd.prog 400 os) #[.int .i64 0, .slice none 0 0, .slice none 0 0, .int .i64 0] 8 rfl (World.shaped_of_RefB (by kernel_rfl) (by kernel_rfl)) (by kernel_rfl) (by kernel_rfl) (by kernel_rfl) (door_met9 os _)) ?_
  intro W base args ds gs before hval0 hW _ hsz hL _
  have hW' := hW
  obtain ⟨p, q, hA0, hV, rfl, hfz, hnd⟩ := hW
  have hA : DataW.TrodAll enc Tryd.prog W 0 (fun _ => true) true Tryd.f5.params.toList args.toList ds p := hA0
  have hval : ∀ (j : Nat) t v, Tryd.f5.params[j]? = some t → args[j]? = some v → Value.okWide Tryd.prog W .any base t v := hval0
  have hsz2 : (DataW.weightsEach Tryd.prog (Tryd.f5.params.toList ++ Rows.frameBackSpec.plain.varTypes Tryd.prog) (ds ++ gs)).all (· ≤ reachBytes) = true := hsz
  rw [Tryd.params5] at hA hval hsz2
  obtain ⟨v0, vs0, d0, ds0, p0, q0, hargs, rfl, rfl, h0, r0⟩ := trodAll_cons hA
  obtain ⟨v1, vs1, d1, ds1, p1, q1, rfl, rfl, rfl, h1, r1⟩ := trodAll_cons r0
  obtain ⟨v2, vs2, d2, ds2, p2, q2, rfl, rfl, rfl, h2, r2⟩ := trodAll_cons r1
  obtain ⟨v3, vs3, d3, ds3, p3, q3, rfl, rfl, rfl, h3, r3⟩ := trodAll_cons r2
  obtain ⟨rfl, rfl, rfl⟩ := trodAll_nil r3
  obtain rfl : args = #[v0, v1, v2, v3] := by cases args; simp_all
  obtain ⟨rfl, rfl⟩ := trodVars_none hV
  have hb5 : Tryd.prog.bytesOf 5 = 1 := by kernel_rfl
  obtain ⟨z0, rfl, rfl, rfl, wz0⟩ := open_int Tryd.underlying3 (hval 0 3 v0 rfl rfl) h0
  obtain ⟨a1, len1, cap1, rfl⟩ := okWide_slice Tryd.underlying22 (hval 1 22 v1 rfl rfl)
  have k1 := h1
  have lt1 : ∀ x ∈ p1, x.block < W.heap.size := by obtain ⟨m, hm⟩ := k1; exact DataW.trod_lt m _ _ _ hm
  obtain ⟨f1, hf1⟩ := h1
  obtain ⟨xs1, hx1a, hx1b, hx1c, hx1d⟩ := open_bytes hf1
  have hc1 : cap1 ≤ 140737488351232 := by
    rcases hx1d with ⟨_, h⟩ | ⟨e, sp, he, hl⟩
    · omega
    · have h := sized_slice hsz2 (j := 1) (t := 22) (elems := e) (spare := sp) rfl (by rw [← he]; rfl) Tryd.underlying22
      rw [hb5] at h; unfold reachBytes at h; omega
  obtain ⟨a2, len2, cap2, rfl⟩ := okWide_slice Tryd.underlying22 (hval 2 22 v2 rfl rfl)
  have k2 := h2
  have lt2 : ∀ x ∈ p2, x.block < W.heap.size := by obtain ⟨m, hm⟩ := k2; exact DataW.trod_lt m _ _ _ hm
  obtain ⟨f2, hf2⟩ := h2
  obtain ⟨xs2, hx2a, hx2b, hx2c, hx2d⟩ := open_bytes hf2
  have hc2 : cap2 ≤ 140737488351232 := by
    rcases hx2d with ⟨_, h⟩ | ⟨e, sp, he, hl⟩
    · omega
    · have h := sized_slice hsz2 (j := 2) (t := 22) (elems := e) (spare := sp) rfl (by rw [← he]; rfl) Tryd.underlying22
      rw [hb5] at h; unfold reachBytes at h; omega
  obtain ⟨z3, rfl, rfl, rfl, wz3⟩ := open_int Tryd.underlying3 (hval 3 3 v3 rfl rfl) h3
  have hQ := of_laid9 hL
  clear hA0 hval0
  refine (frBack_any z0 xs1 xs2 z3 len1 len2 a1 a2 cap1 cap2 W hx1a hx2a hx1b hx2b hc1 hc2 hx1c hx2c hQ).mono fun e W' ⟨he, bel⟩ => ?_
  subst he
  exact ⟨_, rfl, _, _, _, [], _, [], hW', trodAll_mk1 (shut_bool Tryd.underlying4 _), (trodAll_cons_mk (shut_int Tryd.underlying3 wz0) (trodAll_cons_mk (Below.trod laidOut (by kernel_rfl) (of_decide_eq_true (by kernel_rfl)) k1 bel lt1) (trodAll_cons_mk (Below.trod laidOut (by kernel_rfl) (of_decide_eq_true (by kernel_rfl)) k2 bel lt2) (trodAll_cons_mk (shut_int Tryd.underlying3 wz3) trodAll_mk0)))), rfl, bel.frame _, fun h => by cases h⟩

theorem frameBack_holds : Rows.FrameBackSaid :=
  OpenClaim.holds_of_wide 5 Tryd.f5 rfl rfl rfl rfl rfl rfl rfl ⟨rfl, rfl, rfl, rfl, rfl⟩ rfl rfl rfl rfl rfl (by kernel_rfl) Tryd.func5 (by kernel_rfl)
    (of_decide_eq_true (by kernel_rfl)) (by unfold Func.isWrapper; first | (rw [if_pos (by decide +kernel)]; kernel_rfl) | (rw [if_neg (by decide +kernel)]; exact ⟨rfl, rfl⟩))
    (fun os started H enc _ => frameBack_lifted os started H enc)

theorem frameBack_card : Rows.FrameBackCardSaid :=
  Claim7.holds_tied_plain_at .later [] [.data] true Rows.frameBackCard.stood.harness false
    frameBack_holds (fun _ h => by cases h) (by kernel_rfl) (fun _ h => by cases h) frameBack_row_tie rfl ⟨rfl, rfl⟩ (by kernel_rfl) rfl
    (fun f fn hf hfn => by
      obtain rfl : f = 5 := Option.some.inj (hf.symm.trans (show _ = some 5 by kernel_rfl))
      obtain rfl : fn = Tryd.f5 := (Option.some.inj (Tryd.func5.symm.trans hfn)).symm
      exact ⟨by kernel_rfl, fun j t ht => by
        rw [Tryd.params5] at ht
        have hm : t ∈ [3, 22, 22, 3] := by simpa using Array.mem_of_getElem? ht
        have hall : ([3, 22, 22, 3].all fun u => !Tryd.prog.wantsStandIn u) = true := by kernel_rfl
        exact (show Tryd.prog.wantsStandIn t = false by simpa using List.all_eq_true.1 hall t hm)⟩)
    (by kernel_rfl)
#print axioms frameBack_card
end Go.Proofs.YtejekgceompjpaaDoor
