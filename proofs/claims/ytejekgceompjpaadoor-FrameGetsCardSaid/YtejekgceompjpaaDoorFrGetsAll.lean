/-
  FrameGets, for any bytes: the law returns true, and what came in reads afterwards as it read before; the package's table starts as the program's own text lays it (the tie is given).
-/
import Derived.Test.YtejekgceompjpaaDoorPkD
import Derived.Test.YtejekgceompjpaaDoorPkF
import Derived.Test.YtejekgceompjpaaDoorTie
import Derived.Test.YtejekgceompjpaaDoorCards
import Derived.SevenTiedAt
/-
  FrameGets: whatever bytes, the document's frame and frames, in new memory.
-/
namespace Go.Proofs.YtejekgceompjpaaDoor
open Go.RowKit Go.Proofs.ShaWords
theorem getV_len (l : List (BitVec 8)) : (getV l).length ≤ l.length := by
  unfold getV
  split
  · unfold getB; rw [List.length_take, List.length_drop]; omega
  · simp
theorem FrL.over {B : Nat} {w w' : World} {hv : Value} {vs : List Value} {fs : List Fr9} {r : Option Nat} (h : FrL B w hv vs fs) (hg : w.grownBy w' r) (hr : ∀ g, r = some g → g < B) : FrL B w' hv vs fs :=
  h.keep (grown_stays (F := fun k => r = some k) hg (fun k e => e)) (fun k hk _ e => by have := hr k e; omega)
theorem below_stays9 {w0 w w' : World} {F : Nat → Prop} (hb : Below w0.heap.size w0 w) (hs : Stays F w w') (hF : ∀ k, F k → w0.heap.size ≤ k) : Below w0.heap.size w0 w' := hb.trans (hs.below hF hb.size)
set_option maxRecDepth 100000 in
set_option maxHeartbeats 8000000 in
theorem frGets_any (l : List (BitVec 8)) (n : Nat) (p : Option Addr) (c : Nat) (w : World) (hl : l.length = n) (hc : n ≤ c) (_hc1 : c ≤ 140737488351232) (hp : 0 < c → ∃ b off, p = some ⟨b, off, none⟩) (hL : Lies w p l) (hR : Rem w) :
    Calls Tryd.prog 4 #[.slice p n c] w fun e w' => e = .returned (.bool true) ∧ Below w.heap.size w w' := by
  have HL := Lib.hid hL
  have HR := Lib.hid hR
  have HN := Lib.hid hl
  have HP := Lib.hid hp
  clear hL hR hl hp
  by_cases h8 : 8192 < n
  · have h8a : (8192 : Int) < (n : Int) := by omega
    go_enter Tryd.func4, Tryd.ntmps4
    go_wp2_with fail
    refine (works9_any w HR.out).mono ?_
    rintro e w1 ⟨rfl, b1⟩
    have HB1 := Lib.hid b1
    clear b1
    go_wp2_with fail
    go_ret
    exact ⟨rfl, HB1.out⟩
  have h8a : ¬ (8192 : Int) < (n : Int) := by omega
  have hn1 : n ≤ 8192 := by omega
  clear h8
  obtain ⟨fs, r, hS⟩ := scan_ex l.length l (Nat.le_refl _)
  have HS := Lib.hid hS
  have hfl : fs.length ≤ 100000 := by
    have h1 := framesB_many fs
    have h2 : (framesB fs).length ≤ l.length := by rw [hS.eq, List.length_append]; omega
    have := HN.out
    omega
  have HFB : Hid (∀ f ∈ fs, f.2.length < 100000) := show _ from fun f hf => by have := (HS.out.ok f hf).2; omega
  obtain ⟨S, hSS⟩ : ∃ S, (framesB fs).length = S := ⟨_, rfl⟩
  have HSS := Lib.hid hSS
  clear hS hSS
  have HLN : Hid ((l ++ marks 5).length = n + 5) := show _ = _ by rw [List.length_append, marks_length, HN.out]
  have HTK := Lib.hid (take_lent HN.out)
  obtain ⟨M, hM⟩ : ∃ M, (getV l).length = M := ⟨_, rfl⟩
  have hM2 : M ≤ 8192 := by have := getV_len l; have := HN.out; omega
  have HM := Lib.hid hM
  obtain ⟨V, hV⟩ : ∃ V, V = getV l := ⟨_, rfl⟩
  obtain ⟨K, hK⟩ : ∃ K, K = getK l := ⟨_, rfl⟩
  obtain ⟨E, hE⟩ : ∃ E, E = getE l := ⟨_, rfl⟩
  obtain ⟨G, hG⟩ : ∃ G, G = getN l := ⟨_, rfl⟩
  have HV := Lib.hid hV
  have HK := Lib.hid hK
  have HE := Lib.hid hE
  have HG := Lib.hid hG
  rw [← hV] at HM
  have HM := HM
  clear hM hV hK hE hG
  have HGET : Hid (∀ (q : Option Addr) (d : Nat) (w' : World), n ≤ d → Lies w' q l → Rem w' → Calls Tryd.prog 20 #[.slice q n d] w' fun e w2 => Below w'.heap.size w' w2 ∧ ∃ q2 c2, e = .returned (.tuple #[.agg #[.int .i64 K, .slice q2 M c2], .int .i64 (G : Int), .int .i64 (E : Int)]) ∧ Own w'.heap.size w2 V (.slice q2 M c2)) := show _ from fun q d w' hd hq hr => by
    refine (get_any l n q d w' HN.out (by omega) hd hq hr).mono ?_
    rintro e w2 ⟨b2, v, rfl, ho⟩
    rw [← HV.out] at ho
    obtain ⟨q2, c2, rfl, -, -, -⟩ := ho.slN HM.out
    exact ⟨b2, q2, c2, by rw [HK.out, HG.out, HE.out], ho⟩
  have HREF : Hid (∀ (w' : World), Lies w' p l → Calls Tryd.prog 21 #[.slice p n c] w' fun e w2 => Below w'.heap.size w' w2 ∧ ∃ q2 c2, e = .returned (.tuple #[.agg #[.int .i64 K, .slice q2 M c2], .int .i64 (G : Int), .int .i64 (E : Int)]) ∧ Own w'.heap.size w2 V (.slice q2 M c2)) := show _ from fun w' hq => by
    refine (refGet9_any l n p c w' HN.out (by omega) hc hq).mono ?_
    rintro e w2 ⟨b2, v, rfl, ho⟩
    rw [← HV.out] at ho
    obtain ⟨q2, c2, rfl, -, -, -⟩ := ho.slN HM.out
    exact ⟨b2, q2, c2, by rw [HK.out, HG.out, HE.out], ho⟩
  clear HV HK HE HG
  go_enter Tryd.func4, Tryd.ntmps4
  go_wp2_with fail
  refine (lent_bigN l n p c w HN.out (by omega) HL.out).mono ?_
  rintro e w1 ⟨v1, rfl, h1, b1⟩
  obtain ⟨q1, c1, rfl, hc1', -, l1⟩ := h1.slN HLN.out
  have HL1 := Lib.hid l1
  have HP1 : Hid (Lies w1 q1 l) := show Lies _ _ _ by have := lies_takeF l1 n; rwa [HTK.out] at this
  have HB1 := Lib.hid b1
  have z1 : (n : Int) ≤ (c1 : Int) := by omega
  have hnc1 : n ≤ c1 := by omega
  have HC1 := Lib.hid hc1'
  have s01 := b1.size
  clear h1 b1 l1 hc1'
  go_wp2_with fail
  refine (HGET.out q1 c1 w1 hnc1 HP1.out (HR.out.on HB1.out)).mono ?_
  rintro e w2 ⟨b2, q2, c2, rfl, h2⟩
  have HB2 := Lib.hid b2
  have HO2 := Lib.hid h2
  clear b2 h2
  go_wp2_with fail
  refine calls_gen (fun w' => Below w2.heap.size w2 w' ∧ FrC w' w2.heap.size (.int .i64 K) (.slice q2 M c2) ∧ w2.heap.size < w'.heap.size) ⟨(Below.refl _ _).alloc (Nat.le_refl _) _, heap_new_at rfl, by rw [size_alloc]; omega⟩ ?_
  rintro w3 ⟨b3, hF3, hz3⟩
  have HB3 : Hid (Below w1.heap.size w1 w3) := show Below _ _ _ from HB2.out.trans (b3.mono HB2.out.size)
  have HF3 := Lib.hid hF3
  have HO3 := Lib.hid (HO2.out.below b3)
  have s12 := HB2.out.size
  clear b3 hF3
  refine (HREF.out w3 (HL.out.below (HB1.out.trans (HB3.out.mono s01)))).mono ?_
  rintro e w4 ⟨b4, q4, c4, rfl, h4⟩
  have HB4 := Lib.hid b4
  have HO4 := Lib.hid h4
  have s34 := b4.size
  clear b4 h4
  go_wp2_with fail
  refine calls_gen (fun w' => Below w4.heap.size w4 w' ∧ FrC w' w4.heap.size (.int .i64 K) (.slice q4 M c4)) ⟨(Below.refl _ _).alloc (Nat.le_refl _) _, heap_new_at rfl⟩ ?_
  rintro w5 ⟨b5, hF5⟩
  have HB35 : Hid (Below w3.heap.size w3 w5) := show Below _ _ _ from HB4.out.trans (b5.mono HB4.out.size)
  have HB15 : Hid (Below w1.heap.size w1 w5) := show Below _ _ _ from HB3.out.trans (HB35.out.mono HB3.out.size)
  have HF5 := Lib.hid hF5
  have HO35 := Lib.hid (HO3.out.below HB35.out)
  have HF35 := Lib.hid (HF3.out.on HB35.out)
  have HO45 := Lib.hid (HO4.out.below b5)
  have s45 := b5.size
  have s13 := HB3.out.size
  clear b5 hF5
  refine (scan_any l n q1 c1 w5 fs r HN.out hnc1 (by omega) (HP1.out.below HB15.out) (HR.out.on (HB1.out.trans (HB15.out.mono s01))) HS.out).mono ?_
  rintro e w6 ⟨hv6, vs6, rfl, hl6, b6⟩
  obtain ⟨qa, ca, rfl, -⟩ := hl6.sl9 (n := fs.length) rfl
  have HL6 := Lib.hid hl6
  have HB6 := Lib.hid b6
  have s56 := b6.size
  clear hl6 b6
  rw [HSS.out]
  go_wp2_with fail
  refine (scan_any l n q1 c1 w6 fs r HN.out hnc1 (by omega) (HP1.out.below (HB15.out.trans (HB6.out.mono HB15.out.size))) (HR.out.on (HB1.out.trans ((HB15.out.trans (HB6.out.mono HB15.out.size)).mono s01))) HS.out).mono ?_
  rintro e w7 ⟨hv7, vs7, rfl, hl7, b7⟩
  obtain ⟨qb, cb, rfl, -⟩ := hl7.sl9 (n := fs.length) rfl
  have HL7 := Lib.hid hl7
  have HB7 := Lib.hid b7
  have s67 := b7.size
  clear hl7 b7
  rw [HSS.out]
  go_wp2_with fail
  have HB57 : Hid (Below w5.heap.size w5 w7) := show Below _ _ _ from HB6.out.trans (HB7.out.mono s56)
  refine (refScan9_any l n p c w7 fs r HN.out hc (by omega) HP.out (HL.out.below (HB1.out.trans ((HB15.out.trans (HB57.out.mono HB15.out.size)).mono s01))) HS.out).mono ?_
  rintro e w8 ⟨hv8, vs8, rfl, hl8, b8⟩
  obtain ⟨qc, cc, rfl, -⟩ := hl8.sl9 (n := fs.length) rfl
  have HL8 := Lib.hid hl8
  have HB8 := Lib.hid b8
  have s78 := b8.size
  clear hl8 b8
  rw [HSS.out]
  have HB58 : Hid (Below w5.heap.size w5 w8) := show Below _ _ _ from HB57.out.trans (HB8.out.mono HB57.out.size)
  obtain ⟨f40, f41, -⟩ := (HF35.out.on HB58.out).cells
  obtain ⟨f70, f71, -⟩ := (HF5.out.on HB58.out).cells
  have HO38 := Lib.hid (HO35.out.below HB58.out)
  have HO48 := Lib.hid (HO45.out.below HB58.out)
  have HL68 := Lib.hid ((HL6.out.below HB7.out).below HB8.out)
  have HL78 := Lib.hid (HL7.out.below HB8.out)
  have HB18 : Hid (Below w1.heap.size w1 w8) := show Below _ _ _ from HB15.out.trans (HB58.out.mono HB15.out.size)
  obtain ⟨_, _, e3, -, -, l38⟩ := HO38.out.slN HM.out
  obtain ⟨_, _, e4, -, -, l48⟩ := HO48.out.slN HM.out
  cases e3
  cases e4
  have HSB := Lib.hid (same_big V M q2 q4 c2 c4 w8 HM.out (by omega) l38 l48)
  clear l38 l48
  go_wp2_with fail
  refine HSB.out.mono ?_
  rintro e w9 ⟨rfl, b9⟩
  have HB59 : Hid (Below w5.heap.size w5 w9) := show Below _ _ _ from HB58.out.trans (b9.mono HB58.out.size)
  have HB19 : Hid (Below w1.heap.size w1 w9) := show Below _ _ _ from HB18.out.trans (b9.mono HB18.out.size)
  have HO39 := Lib.hid (HO38.out.below b9)
  have HL69 := Lib.hid (HL68.out.below b9)
  have HL79 := Lib.hid (HL78.out.below b9)
  have HL89 := Lib.hid (HL8.out.below b9)
  clear b9 f40 f41 f70 f71 HSB
  go_wp2_with fail
  refine (sameFrames_any fs vs6 vs8 _ _ _ _ w9 hfl HFB.out HL69.out HL89.out).mono ?_
  rintro e w10 ⟨rfl, b10⟩
  have HB510 : Hid (Below w5.heap.size w5 w10) := show Below _ _ _ from HB59.out.trans (b10.mono HB59.out.size)
  have HB110 : Hid (Below w1.heap.size w1 w10) := show Below _ _ _ from HB19.out.trans (b10.mono HB19.out.size)
  have HO310 := Lib.hid (HO39.out.below b10)
  have HL610 := Lib.hid (HL69.out.below b10)
  have HL710 := Lib.hid (HL79.out.below b10)
  have HL810 := Lib.hid (HL89.out.below b10)
  obtain ⟨f40, f41, -⟩ := (HF35.out.on HB510.out).cells
  have hob : ∀ g, (Value.slice q2 M c2).ownBlock = some g → w1.heap.size ≤ g ∧ g < w2.heap.size := HO2.out.ownLt
  have HOB := Lib.hid hob
  clear b10 hob
  go_wp2_with fail
  refine (spoil_big V w1.heap.size M c2 q2 w10 HM.out (by omega) HO310.out).mono ?_
  rintro e w11 ⟨rfl, g11⟩
  have HB111 : Hid (Below w1.heap.size w1 w11) := show Below _ _ _ from below_over HB110.out g11 (fun g e => (HOB.out g e).1)
  have HL611 := Lib.hid (HL610.out.over g11 (fun g e => by have := (HOB.out g e).2; omega))
  have HL711 := Lib.hid (HL710.out.over g11 (fun g e => by have := (HOB.out g e).2; omega))
  have HL811 := Lib.hid (HL810.out.over g11 (fun g e => by have := (HOB.out g e).2; omega))
  clear g11 f40 f41
  go_wp2_with fail
  refine (spoilDeep_any fs vs6 _ _ w11 hfl HFB.out HL611.out).mono ?_
  rintro e w12 ⟨rfl, s12'⟩
  have hF : ∀ k, ((Value.slice qa fs.length ca).ownBlock = some k ∨ ∃ (j : Nat) (v : Value), vs6[j]? = some v ∧ v.ownBlock = some k) → w5.heap.size ≤ k ∧ k < w6.heap.size := fun k h => by
    rcases h with h | ⟨j, v, h1, h2⟩
    · exact World.ownsRow.lt HL6.out.rows k h
    · exact HL6.out.lt h1 h2
  have HB112 : Hid (Below w1.heap.size w1 w12) := show Below _ _ _ from below_stays9 HB111.out s12' (fun k h => by have := (hF k h).1; omega)
  have HL712 := Lib.hid (HL711.out.keep s12' (fun k h1 _ h => by have := (hF k h).2; omega))
  have HL812 := Lib.hid (HL811.out.keep s12' (fun k h1 _ h => by have := (hF k h).2; omega))
  clear s12' hF
  go_wp2_with fail
  refine (sameFrames_any fs vs7 vs8 _ _ _ _ w12 hfl HFB.out HL712.out HL812.out).mono ?_
  rintro e w13 ⟨rfl, b13⟩
  have HB113 : Hid (Below w1.heap.size w1 w13) := show Below _ _ _ from HB112.out.trans (b13.mono HB112.out.size)
  have HW13 : Hid (Below w.heap.size w w13) := show Below _ _ _ from HB1.out.trans (HB113.out.mono s01)
  clear b13
  go_wp2_with fail
  refine (kept_big l n (n + 5) q1 p c1 c w13 HN.out (Nat.le_refl _) (Nat.le_refl _) (by omega) HC1.out (HL1.out.below HB113.out) (HL.out.below HW13.out)).mono ?_
  rintro e w14 ⟨rfl, b14⟩
  have HW14 : Hid (Below w.heap.size w w14) := show Below _ _ _ from HW13.out.trans (b14.mono HW13.out.size)
  clear b14
  go_wp2_with fail
  refine (works9_any w14 (HR.out.on HW14.out)).mono ?_
  rintro e w15 ⟨rfl, b15⟩
  have HW15 : Hid (Below w.heap.size w w15) := show Below _ _ _ from HW14.out.trans (b15.mono HW14.out.size)
  clear b15
  go_wp2_with fail
  go_ret
  exact ⟨rfl, HW15.out⟩
end Go.Proofs.YtejekgceompjpaaDoor

/-
  FrameGets, for any bytes: the law returns true, and what came in reads afterwards as it read before; the package's table starts as the program's own text lays it (the tie is given).
-/
namespace Go.Proofs.YtejekgceompjpaaDoor
open Go.ChangeShapes Go.WideShapes Go.ChangeAt Go.RowKit Go.Proofs.ShaWords

set_option maxRecDepth 100000 in
theorem frameGets_lifted (os : Os) (started : os.Started) (H : Type) (enc : TypeId × Value → H) :
    ReturnsInHanded {} Tryd.checked os 4 .any (fun w args => (Rows.frameGetsSpec.pre enc Tryd.prog Tryd.f4 [] false w args ∧ laidMetH Tryd.prog laid9 w) ∧ sizedMet enc Tryd.prog Tryd.f4 (OpenSpec.ofChange Rows.frameGetsSpec) false w args)
      (Rows.frameGetsSpec.post enc Tryd.prog Tryd.f4 false true false false) := by
  refine returnsInHanded_of_change_and (C := Tryd.checked) (X := fun w _ => laidMetH Tryd.prog laid9 w) (fun _ _ _ hh h => h.of_heap hh) own started (by kernel_rfl) Tryd.func4
    (ChangeSpec.witness_shaped (enc := enc) (C := Tryd.checked) (os := os) (X := fun w _ => laidMetH Tryd.prog laid9 w) false (World.doorLaid Tryd.prog 400 os) #[.slice none 0 0] 8 rfl (World.shaped_of_RefB (by kernel_rfl) (by kernel_rfl)) (by kernel_rfl) (by kernel_rfl) (by kernel_rfl) (door_met9 os _)) ?_
  intro W base args ds gs before hval0 hW _ hsz hL _
  have hW' := hW
  obtain ⟨p, q, hA0, hV, rfl, hfz, hnd⟩ := hW
  have hA : DataW.TrodAll enc Tryd.prog W 0 (fun _ => true) true Tryd.f4.params.toList args.toList ds p := hA0
  have hval : ∀ (j : Nat) t v, Tryd.f4.params[j]? = some t → args[j]? = some v → Value.okWide Tryd.prog W .any base t v := hval0
  have hsz2 : (DataW.weightsEach Tryd.prog (Tryd.f4.params.toList ++ Rows.frameGetsSpec.plain.varTypes Tryd.prog) (ds ++ gs)).all (· ≤ reachBytes) = true := hsz
  rw [Tryd.params4] at hA hval hsz2
  obtain ⟨v0, vs0, d0, ds0, p0, q0, hargs, rfl, rfl, h0, r0⟩ := trodAll_cons hA
  obtain ⟨rfl, rfl, rfl⟩ := trodAll_nil r0
  obtain rfl : args = #[v0] := by cases args; simp_all
  obtain ⟨rfl, rfl⟩ := trodVars_none hV
  have hb5 : Tryd.prog.bytesOf 5 = 1 := by kernel_rfl
  obtain ⟨a0, len0, cap0, rfl⟩ := okWide_slice Tryd.underlying22 (hval 0 22 v0 rfl rfl)
  have k0 := h0
  have lt0 : ∀ x ∈ p0, x.block < W.heap.size := by obtain ⟨m, hm⟩ := k0; exact DataW.trod_lt m _ _ _ hm
  obtain ⟨f0, hf0⟩ := h0
  obtain ⟨xs0, hx0a, hx0b, hx0c, hx0d⟩ := open_bytes hf0
  have hc0 : cap0 ≤ 140737488351232 := by
    rcases hx0d with ⟨_, h⟩ | ⟨e, sp, he, hl⟩
    · omega
    · have h := sized_slice hsz2 (j := 0) (t := 22) (elems := e) (spare := sp) rfl (by rw [← he]; rfl) Tryd.underlying22
      rw [hb5] at h; unfold reachBytes at h; omega
  have hQ := of_laid9 hL
  clear hA0 hval0
  have hp0 := bytes_place hf0
  refine (frGets_any xs0 len0 a0 cap0 W hx0a hx0b hc0 hp0 hx0c hQ).mono fun e W' ⟨he, bel⟩ => ?_
  subst he
  exact ⟨_, rfl, _, _, _, [], _, [], hW', trodAll_mk1 (shut_bool Tryd.underlying4 _), (trodAll_cons_mk (Below.trod laidOut (by kernel_rfl) (of_decide_eq_true (by kernel_rfl)) k0 bel lt0) trodAll_mk0), rfl, bel.frame _, fun h => by cases h⟩

theorem frameGets_holds : Rows.FrameGetsSaid :=
  OpenClaim.holds_of_wide 4 Tryd.f4 rfl rfl rfl rfl rfl rfl rfl ⟨rfl, rfl, rfl, rfl, rfl⟩ rfl rfl rfl rfl rfl (by kernel_rfl) Tryd.func4 (by kernel_rfl)
    (of_decide_eq_true (by kernel_rfl)) (by unfold Func.isWrapper; first | (rw [if_pos (by decide +kernel)]; kernel_rfl) | (rw [if_neg (by decide +kernel)]; exact ⟨rfl, rfl⟩))
    (fun os started H enc _ => frameGets_lifted os started H enc)

theorem frameGets_card : Rows.FrameGetsCardSaid :=
  Claim7.holds_tied_plain_at .later [] [.data] true Rows.frameGetsCard.stood.harness false
    frameGets_holds (fun _ h => by cases h) (by kernel_rfl) (fun _ h => by cases h) frameGets_row_tie rfl ⟨rfl, rfl⟩ (by kernel_rfl) rfl
    (fun f fn hf hfn => by
      obtain rfl : f = 4 := Option.some.inj (hf.symm.trans (show _ = some 4 by kernel_rfl))
      obtain rfl : fn = Tryd.f4 := (Option.some.inj (Tryd.func4.symm.trans hfn)).symm
      exact ⟨by kernel_rfl, fun j t ht => by
        rw [Tryd.params4] at ht
        have hm : t ∈ [22] := by simpa using Array.mem_of_getElem? ht
        have hall : ([22].all fun u => !Tryd.prog.wantsStandIn u) = true := by kernel_rfl
        exact (show Tryd.prog.wantsStandIn t = false by simpa using List.all_eq_true.1 hall t hm)⟩)
    (by kernel_rfl)
#print axioms frameGets_card
end Go.Proofs.YtejekgceompjpaaDoor
