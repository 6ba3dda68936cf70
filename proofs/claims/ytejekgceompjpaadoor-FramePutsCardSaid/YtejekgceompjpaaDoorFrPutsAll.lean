/-
  FramePuts, for any kind and body: the law returns true, and what came in reads afterwards as it read before; the package's table starts as the program's own text lays it (the tie is given).
-/
import Derived.Test.YtejekgceompjpaaDoorPkD
import Derived.Test.YtejekgceompjpaaDoorPkF
import Derived.Test.YtejekgceompjpaaDoorTie
import Derived.Test.YtejekgceompjpaaDoorCards
import Derived.SevenTiedAt
/-
  FramePuts: whatever kind and body, the document's bytes, in new memory.
-/
namespace Go.Proofs.YtejekgceompjpaaDoor
open Go.RowKit Go.Proofs.ShaWords
theorem lent_bigN (l : List (BitVec 8)) (n : Nat) (p : Option Addr) (cap : Nat) (w : World) (hn : l.length = n) (hl : n + 5 < 140737488355328) (hL : Lies w p l) :
    Calls Tryd.prog 12 #[.slice p n cap] w fun e w' => ∃ v, e = .returned v ∧ Own w.heap.size w' (l ++ marks 5) v ∧ Below w.heap.size w w' := by
  subst hn
  exact lent_big l p cap w hl hL
theorem below_over {w0 w w' : World} {r : Option Nat} (hb : Below w0.heap.size w0 w) (hg : w.grownBy w' r) (hr : ∀ g, r = some g → w0.heap.size ≤ g) : Below w0.heap.size w0 w' := hb.grown hg hb.size hr
theorem Own.over {B : Nat} {w w' : World} {l : List (BitVec 8)} {v : Value} {r : Option Nat} (h : Own B w l v) (hg : w.grownBy w' r) (hr : ∀ g, r = some g → g < B) : Own B w' l v := by
  refine ⟨h.1, ?_⟩
  rcases h.2 with h0 | ⟨g, cap, cur, he, hb, hh, k⟩
  · exact Or.inl h0
  · exact Or.inr ⟨g, cap, cur, he, hb, (hg.block g (Array.getElem?_eq_some_iff.1 hh).1 (fun e => by have := hr g e.symm; omega)).trans hh, k⟩
theorem Own.ownLt {B : Nat} {w : World} {l : List (BitVec 8)} {v : Value} (h : Own B w l v) : ∀ g, v.ownBlock = some g → B ≤ g ∧ g < w.heap.size := fun g e => h.lt g e
theorem take_lent {l : List (BitVec 8)} {n : Nat} (hn : l.length = n) : (l ++ marks 5).take n = l := by
  rw [List.take_append_of_le_length (by omega), List.take_of_length_le (by omega)]
set_option maxRecDepth 100000 in
set_option maxHeartbeats 4000000 in
theorem frPuts_any (z : Int) (l : List (BitVec 8)) (n : Nat) (p : Option Addr) (c : Nat) (w : World) (hl : l.length = n) (_hc : n ≤ c) (_hc1 : c ≤ 140737488351232) (hL : Lies w p l) (hR : Rem w) :
    Calls Tryd.prog 3 #[.int .i64 z, .slice p n c] w fun e w' => e = .returned (.bool true) ∧ Below w.heap.size w w' := by
  have HL := Lib.hid hL
  have HR := Lib.hid hR
  have HN := Lib.hid hl
  clear hL hR hl
  by_cases h8 : 8192 < n
  · have h8a : (8192 : Int) < (n : Int) := by omega
    go_enter Tryd.func3, Tryd.ntmps3
    go_wp2_with fail
    refine (works9_any w HR.out).mono ?_
    rintro e w1 ⟨rfl, b1⟩
    have HB1 := Lib.hid b1
    clear b1
    go_wp2_with fail
    go_ret
    exact ⟨rfl, HB1.out⟩
  have h8a : ¬ (8192 : Int) < (n : Int) := by omega
  have hn1 : n ≤ 8192 := by omega
  clear h8
  have HLN : Hid ((l ++ marks 5).length = n + 5) := show _ = _ by rw [List.length_append, marks_length, HN.out]
  have HTK := Lib.hid (take_lent HN.out)
  obtain ⟨PE, hPE⟩ : ∃ PE, PE = putE z l := ⟨_, rfl⟩
  obtain ⟨V, hV⟩ : ∃ V, V = putV z l := ⟨_, rfl⟩
  have HPE := Lib.hid hPE
  have HV := Lib.hid hV
  obtain ⟨M, hM⟩ : ∃ M, V.length = M := ⟨_, rfl⟩
  have hM2 : M ≤ 100000 := by
    rw [← hM, hV]
    unfold putV
    split
    · simp
    · split
      · simp
      · rw [frameB_length, HN.out]; omega
  have HM := Lib.hid hM
  clear hPE hV hM
  go_enter Tryd.func3, Tryd.ntmps3
  go_wp2_with fail
  refine (lent_bigN l n p c w HN.out (by omega) HL.out).mono ?_
  rintro e w1 ⟨v1, rfl, h1, b1⟩
  obtain ⟨q1, c1, rfl, hc1', -, l1⟩ := h1.slN HLN.out
  have HL1 := Lib.hid l1
  have HP1 : Hid (Lies w1 q1 l) := show Lies _ _ _ by have := lies_takeF l1 n; rwa [HTK.out] at this
  have HB1 := Lib.hid b1
  have z1 : (n : Int) ≤ (c1 : Int) := by omega
  have HC1 := Lib.hid hc1'
  clear h1 b1 l1 hc1'
  go_wp2_with fail
  refine (put_any z l n q1 c1 w1 HN.out (by omega) HP1.out (HR.out.on HB1.out)).mono ?_
  rintro e w2 ⟨b2, v2, rfl, h2⟩
  rw [← HV.out] at h2
  rw [← HPE.out]
  obtain ⟨q2, c2, rfl, -, -, l2⟩ := h2.slN HM.out
  have HB2 := Lib.hid b2
  have HO2 := Lib.hid h2
  have HL2 := Lib.hid l2
  clear b2 h2 l2
  go_wp2_with fail
  refine (put_any z l n q1 c1 w2 HN.out (by omega) (HP1.out.below HB2.out) (HR.out.on (HB1.out.trans (HB2.out.mono HB1.out.size)))).mono ?_
  rintro e w3 ⟨b3, v3, rfl, h3⟩
  rw [← HV.out] at h3
  rw [← HPE.out]
  obtain ⟨q3, c3, rfl, -, -, -⟩ := h3.slN HM.out
  have HB3 := Lib.hid b3
  have HO3 := Lib.hid h3
  clear b3 h3
  go_wp2_with fail
  have HW3 : Hid (Below w.heap.size w w3) := show Below _ _ _ from HB1.out.trans ((HB2.out.trans (HB3.out.mono HB2.out.size)).mono HB1.out.size)
  refine (refPut9_any z l n p c w3 HN.out (by omega) (HL.out.below HW3.out)).mono ?_
  rintro e w4 ⟨b4, v4, rfl, h4⟩
  rw [← HV.out] at h4
  rw [← HPE.out]
  obtain ⟨q4, c4, rfl, -, -, l4⟩ := h4.slN HM.out
  have HB4 := Lib.hid b4
  have HO4 := Lib.hid h4
  have HL4 := Lib.hid l4
  have HO24 := Lib.hid ((HO2.out.below HB3.out).below b4)
  have HO34 := Lib.hid (HO3.out.below b4)
  have HW4 : Hid (Below w.heap.size w w4) := show Below _ _ _ from HW3.out.trans (b4.mono HW3.out.size)
  have HW14 : Hid (Below w1.heap.size w1 w4) := show Below _ _ _ from HB2.out.trans ((HB3.out.trans (b4.mono HB3.out.size)).mono HB2.out.size)
  have HL24 := Lib.hid ((HL2.out.below HB3.out).below b4)
  have s12 := HB2.out.size
  have s23 := HB3.out.size
  have s34 := b4.size
  clear b4 h4 l4
  go_wp2_with fail
  refine (same_big V M q2 q4 c2 c4 w4 HM.out (by omega) HL24.out HL4.out).mono ?_
  rintro e w5 ⟨rfl, b5⟩
  have HW5 : Hid (Below w.heap.size w w5) := show Below _ _ _ from HW4.out.trans (b5.mono HW4.out.size)
  have HW15 : Hid (Below w1.heap.size w1 w5) := show Below _ _ _ from HW14.out.trans (b5.mono HW14.out.size)
  have HO25 := Lib.hid (HO24.out.below b5)
  have HO35 := Lib.hid (HO34.out.below b5)
  have HO45 := Lib.hid (HO4.out.below b5)
  clear b5
  go_wp2_with fail
  refine (sum_any l n q1 c1 w5 HN.out (by omega) (HP1.out.below HW15.out) (HR.out.on HW5.out)).mono ?_
  rintro e w5 ⟨rfl, rfl⟩
  go_wp2_with fail
  refine (refSum9_any l n p c w5 HN.out (by omega) (HL.out.below HW5.out)).mono ?_
  rintro e w5 ⟨rfl, rfl⟩
  go_wp2_with fail
  refine (spoil_big V w1.heap.size M c2 q2 w5 HM.out (by omega) HO25.out).mono ?_
  rintro e w6 ⟨rfl, g6⟩
  have hob := HO2.out.ownLt
  have HW6 : Hid (Below w.heap.size w w6) := show Below _ _ _ from below_over HW5.out g6 (fun g e => by have := hob g e; have := HB1.out.size; omega)
  have HW16 : Hid (Below w1.heap.size w1 w6) := show Below _ _ _ from below_over HW15.out g6 (fun g e => (hob g e).1)
  obtain ⟨_, _, e3, -, -, l36⟩ := (HO35.out.over g6 (fun g e => (hob g e).2)).slN HM.out
  obtain ⟨_, _, e4, -, -, l46⟩ := (HO45.out.over g6 (fun g e => by have := (hob g e).2; omega)).slN HM.out
  cases e3
  cases e4
  have HL36 := Lib.hid l36
  have HL46 := Lib.hid l46
  clear g6 hob l36 l46
  go_wp2_with fail
  refine (same_big V M q3 q4 c3 c4 w6 HM.out (by omega) HL36.out HL46.out).mono ?_
  rintro e w7 ⟨rfl, b7⟩
  have HW7 : Hid (Below w.heap.size w w7) := show Below _ _ _ from HW6.out.trans (b7.mono HW6.out.size)
  have HW17 : Hid (Below w1.heap.size w1 w7) := show Below _ _ _ from HW16.out.trans (b7.mono HW16.out.size)
  clear b7
  go_wp2_with fail
  refine (kept_big l n (n + 5) q1 p c1 c w7 HN.out (Nat.le_refl _) (Nat.le_refl _) (by omega) HC1.out (HL1.out.below HW17.out) (HL.out.below HW7.out)).mono ?_
  rintro e w8 ⟨rfl, b8⟩
  have HW8 : Hid (Below w.heap.size w w8) := show Below _ _ _ from HW7.out.trans (b8.mono HW7.out.size)
  clear b8
  go_wp2_with fail
  refine (works9_any w8 (HR.out.on HW8.out)).mono ?_
  rintro e w9 ⟨rfl, b9⟩
  have HW9 : Hid (Below w.heap.size w w9) := show Below _ _ _ from HW8.out.trans (b9.mono HW8.out.size)
  clear b9
  go_wp2_with fail
  go_ret
  exact ⟨rfl, HW9.out⟩
end Go.Proofs.YtejekgceompjpaaDoor

/-
  FramePuts, for any kind and body: the law returns true, and what came in reads afterwards as it read before; the package's table starts as the program's own text lays it (the tie is given).
-/
namespace Go.Proofs.YtejekgceompjpaaDoor
open Go.ChangeShapes Go.WideShapes Go.ChangeAt Go.RowKit Go.Proofs.ShaWords

set_option maxRecDepth 100000 in
theorem framePuts_lifted (os : Os) (started : os.Started) (H : Type) (enc : TypeId × Value → H) :
    ReturnsInHanded {} Tryd.checked os 3 .any (fun w args => (Rows.framePutsSpec.pre enc Tryd.prog Tryd.f3 [] false w args ∧ laidMetH Tryd.prog laid9 w) ∧ sizedMet enc Tryd.prog Tryd.f3 (OpenSpec.ofChange Rows.framePutsSpec) false w args)
      (Rows.framePutsSpec.post enc Tryd.prog Tryd.f3 false true false false) := by
  refine returnsInHanded_of_change_and (C := Tryd.checked) (X := fun w _ => laidMetH Tryd.prog laid9 w) (fun _ _ _ hh h => h.of_heap hh) own started (by kernel_rfl) Tryd.func3
    (ChangeSpec.witness_shaped (enc := enc) (C := Tryd.checked) (os := os) (X := fun w _ => laidMetH Tryd.prog laid9 w) false (World.doorLaid Tryd.prog 400 os) #[.int .i64 0, .slice none 0 0] 8 rfl (World.shaped_of_RefB (by kernel_rfl) (by kernel_rfl)) (by kernel_rfl) (by kernel_rfl) (by kernel_rfl) (door_met9 os _)) ?_
  intro W base args ds gs before hval0 hW _ hsz hL _
  have hW' := hW
  obtain ⟨p, q, hA0, hV, rfl, hfz, hnd⟩ := hW
  have hA : DataW.TrodAll enc Tryd.prog W 0 (fun _ => true) true Tryd.f3.params.toList args.toList ds p := hA0
  have hval : ∀ (j : Nat) t v, Tryd.f3.params[j]? = some t → args[j]? = some v → Value.okWide Tryd.prog W .any base t v := hval0
  have hsz2 : (DataW.weightsEach Tryd.prog (Tryd.f3.params.toList ++ Rows.framePutsSpec.plain.varTypes Tryd.prog) (ds ++ gs)).all (· ≤ reachBytes) = true := hsz
  rw [Tryd.params3] at hA hval hsz2
  obtain ⟨v0, vs0, d0, ds0, p0, q0, hargs, rfl, rfl, h0, r0⟩ := trodAll_cons hA
  obtain ⟨v1, vs1, d1, ds1, p1, q1, rfl, rfl, rfl, h1, r1⟩ := trodAll_cons r0
  obtain ⟨rfl, rfl, rfl⟩ := trodAll_nil r1
  obtain rfl : args = #[v0, v1] := by cases args; simp_all
  obtain ⟨rfl, rfl⟩ := trodVars_none hV
  have hb5 : Tryd.prog.bytesOf 5 = 1 := by kernel_rfl
  obtain ⟨z0, rfl, rfl, rfl, wz0⟩ := open_int Tryd.underlying3 (hval 0 3 v0 rfl rfl) h0
  obtain ⟨a1, len1, cap1, rfl⟩ := okWide_slice Tryd.underlying22 (hval 1 22 v1 rfl rfl)
  have k1 := h1
  have lt1 : ∀ x ∈ p1, x.block < W.heap.size := by obtain ⟨m, hm⟩ := k1; exact DataW.trod_lt m _ _ _ hm
  obtain ⟨f1, hf1⟩ := h1
  obtain ⟨xs1, hx1a, hx1b, hx1c, hx1d⟩ := open_bytes hf1
  have hc1 : cap1 ≤ 140737488351232 := by
    rcases hx1d with ⟨_, h⟩ | ⟨e, sp, he, hl⟩
    · omega
    · have h := sized_slice hsz2 (j := 1) (t := 22) (elems := e) (spare := sp) rfl (by rw [← he]; rfl) Tryd.underlying22
      rw [hb5] at h; unfold reachBytes at h; omega
  have hQ := of_laid9 hL
  clear hA0 hval0
  refine (frPuts_any z0 xs1 len1 a1 cap1 W hx1a hx1b hc1 hx1c hQ).mono fun e W' ⟨he, bel⟩ => ?_
  subst he
  exact ⟨_, rfl, _, _, _, [], _, [], hW', trodAll_mk1 (shut_bool Tryd.underlying4 _), (trodAll_cons_mk (shut_int Tryd.underlying3 wz0) (trodAll_cons_mk (Below.trod laidOut (by kernel_rfl) (of_decide_eq_true (by kernel_rfl)) k1 bel lt1) trodAll_mk0)), rfl, bel.frame _, fun h => by cases h⟩

theorem framePuts_holds : Rows.FramePutsSaid :=
  OpenClaim.holds_of_wide 3 Tryd.f3 rfl rfl rfl rfl rfl rfl rfl ⟨rfl, rfl, rfl, rfl, rfl⟩ rfl rfl rfl rfl rfl (by kernel_rfl) Tryd.func3 (by kernel_rfl)
    (of_decide_eq_true (by kernel_rfl)) (by unfold Func.isWrapper; first | (rw [if_pos (by decide +kernel)]; kernel_rfl) | (rw [if_neg (by decide +kernel)]; exact ⟨rfl, rfl⟩))
    (fun os started H enc _ => framePuts_lifted os started H enc)

theorem framePuts_card : Rows.FramePutsCardSaid :=
  Claim7.holds_tied_plain_at .later [] [.data] true Rows.framePutsCard.stood.harness false
    framePuts_holds (fun _ h => by cases h) (by kernel_rfl) (fun _ h => by cases h) framePuts_row_tie rfl ⟨rfl, rfl⟩ (by kernel_rfl) rfl
    (fun f fn hf hfn => by
      obtain rfl : f = 3 := Option.some.inj (hf.symm.trans (show _ = some 3 by kernel_rfl))
      obtain rfl : fn = Tryd.f3 := (Option.some.inj (Tryd.func3.symm.trans hfn)).symm
      exact ⟨by kernel_rfl, fun j t ht => by
        rw [Tryd.params3] at ht
        have hm : t ∈ [3, 22] := by simpa using Array.mem_of_getElem? ht
        have hall : ([3, 22].all fun u => !Tryd.prog.wantsStandIn u) = true := by kernel_rfl
        exact (show Tryd.prog.wantsStandIn t = false by simpa using List.all_eq_true.1 hall t hm)⟩)
    (by kernel_rfl)
#print axioms framePuts_card
end Go.Proofs.YtejekgceompjpaaDoor
