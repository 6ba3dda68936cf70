/-
  FrameKnown: the law returns true; the package's table starts as the program's own text lays it (the tie is given).
-/
import Derived.Test.YtejekgceompjpaaDoorPkA
import Derived.Test.YtejekgceompjpaaDoorPkD
import Derived.Test.YtejekgceompjpaaDoorPkF
import Derived.Test.YtejekgceompjpaaDoorTie
import Derived.Test.YtejekgceompjpaaDoorCards
import Derived.SevenTiedAt
/-
  FramePuts: whatever kind and body, the document's bytes, in new memory.
-/
namespace Go.Proofs.YtejekgceompjpaaDoor
open Go.RowKit Go.Proofs.ShaWords
set_option maxRecDepth 100000 in
set_option maxHeartbeats 4000000 in
theorem frPuts_any (z : Int) (l : List (BitVec 8)) (n : Nat) (p : Option Addr) (c : Nat) (w : World) (hl : l.length = n) (hL : Lies w p l) (hR : Rem w) :
    Calls Tryd.prog 3 #[.int .i64 z, .slice p n c] w fun e w' => e = .returned (.bool true) ∧ Below w.heap.size w w' := by
  have HL := Lib.hid hL
  have HR := Lib.hid hR
  have HN := Lib.hid hl
  clear hL hR hl
  by_cases h8 : 8192 < n
  · have h8a : (8192 : Int) < (n : Int) := by omega
    go_enter Tryd.func3, Tryd.ntmps3
    go_wp2_with fail
    refine (works9_any w HR.out).mono ?_
    rintro e w1 ⟨rfl, b1⟩
    have HB1 := Lib.hid b1
    clear b1
    go_wp2_with fail
    go_ret
    exact ⟨rfl, HB1.out⟩
  have h8a : ¬ (8192 : Int) < (n : Int) := by omega
  have hn1 : n ≤ 8192 := by omega
  clear h8
  have HLN : Hid ((l ++ marks 5).length = n + 5) := show _ = _ by rw [List.length_append, marks_length, HN.out]
  have HTK := Lib.hid (take_lent HN.out)
  obtain ⟨PE, hPE⟩ : ∃ PE, PE = putE z l := ⟨_, rfl⟩
  obtain ⟨V, hV⟩ : ∃ V, V = putV z l := ⟨_, rfl⟩
  have HPE := Lib.hid hPE
  have HV := Lib.hid hV
  obtain ⟨M, hM⟩ : ∃ M, V.length = M := ⟨_, rfl⟩
  have hM2 : M ≤ 100000 := by
    rw [← hM, hV]
    unfold putV
    split
    · simp
    · split
      · simp
      · rw [frameB_length, HN.out]; omega
  have HM := Lib.hid hM
  clear hPE hV hM
  go_enter Tryd.func3, Tryd.ntmps3
  go_wp2_with fail
  refine (lent_bigN l n p c w HN.out (by omega) HL.out).mono ?_
  rintro e w1 ⟨v1, rfl, h1, b1⟩
  obtain ⟨q1, c1, rfl, hc1', -, l1⟩ := h1.slN HLN.out
  have HL1 := Lib.hid l1
  have HP1 : Hid (Lies w1 q1 l) := show Lies _ _ _ by have := lies_takeF l1 n; rwa [HTK.out] at this
  have HB1 := Lib.hid b1
  have z1 : (n : Int) ≤ (c1 : Int) := by omega
  have HC1 := Lib.hid hc1'
  clear h1 b1 l1 hc1'
  go_wp2_with fail
  refine (put_any z l n q1 c1 w1 HN.out (by omega) HP1.out (HR.out.on HB1.out)).mono ?_
  rintro e w2 ⟨b2, v2, rfl, h2⟩
  rw [← HV.out] at h2
  rw [← HPE.out]
  obtain ⟨q2, c2, rfl, -, -, l2⟩ := h2.slN HM.out
  have HB2 := Lib.hid b2
  have HO2 := Lib.hid h2
  have HL2 := Lib.hid l2
  clear b2 h2 l2
  go_wp2_with fail
  refine (put_any z l n q1 c1 w2 HN.out (by omega) (HP1.out.below HB2.out) (HR.out.on (HB1.out.trans (HB2.out.mono HB1.out.size)))).mono ?_
  rintro e w3 ⟨b3, v3, rfl, h3⟩
  rw [← HV.out] at h3
  rw [← HPE.out]
  obtain ⟨q3, c3, rfl, -, -, -⟩ := h3.slN HM.out
  have HB3 := Lib.hid b3
  have HO3 := Lib.hid h3
  clear b3 h3
  go_wp2_with fail
  have HW3 : Hid (Below w.heap.size w w3) := show Below _ _ _ from HB1.out.trans ((HB2.out.trans (HB3.out.mono HB2.out.size)).mono HB1.out.size)
  refine (refPut9_any z l n p c w3 HN.out (by omega) (HL.out.below HW3.out)).mono ?_
  rintro e w4 ⟨b4, v4, rfl, h4⟩
  rw [← HV.out] at h4
  rw [← HPE.out]
  obtain ⟨q4, c4, rfl, -, -, l4⟩ := h4.slN HM.out
  have HB4 := Lib.hid b4
  have HO4 := Lib.hid h4
  have HL4 := Lib.hid l4
  have HO24 := Lib.hid ((HO2.out.below HB3.out).below b4)
  have HO34 := Lib.hid (HO3.out.below b4)
  have HW4 : Hid (Below w.heap.size w w4) := show Below _ _ _ from HW3.out.trans (b4.mono HW3.out.size)
  have HW14 : Hid (Below w1.heap.size w1 w4) := show Below _ _ _ from HB2.out.trans ((HB3.out.trans (b4.mono HB3.out.size)).mono HB2.out.size)
  have HL24 := Lib.hid ((HL2.out.below HB3.out).below b4)
  have s12 := HB2.out.size
  have s23 := HB3.out.size
  have s34 := b4.size
  clear b4 h4 l4
  go_wp2_with fail
  refine (same_big V M q2 q4 c2 c4 w4 HM.out (by omega) HL24.out HL4.out).mono ?_
  rintro e w5 ⟨rfl, b5⟩
  have HW5 : Hid (Below w.heap.size w w5) := show Below _ _ _ from HW4.out.trans (b5.mono HW4.out.size)
  have HW15 : Hid (Below w1.heap.size w1 w5) := show Below _ _ _ from HW14.out.trans (b5.mono HW14.out.size)
  have HO25 := Lib.hid (HO24.out.below b5)
  have HO35 := Lib.hid (HO34.out.below b5)
  have HO45 := Lib.hid (HO4.out.below b5)
  clear b5
  go_wp2_with fail
  refine (sum_any l n q1 c1 w5 HN.out (by omega) (HP1.out.below HW15.out) (HR.out.on HW5.out)).mono ?_
  rintro e w5 ⟨rfl, rfl⟩
  go_wp2_with fail
  refine (refSum9_any l n p c w5 HN.out (by omega) (HL.out.below HW5.out)).mono ?_
  rintro e w5 ⟨rfl, rfl⟩
  go_wp2_with fail
  refine (spoil_big V w1.heap.size M c2 q2 w5 HM.out (by omega) HO25.out).mono ?_
  rintro e w6 ⟨rfl, g6⟩
  have hob := HO2.out.ownLt
  have HW6 : Hid (Below w.heap.size w w6) := show Below _ _ _ from below_over HW5.out g6 (fun g e => by have := hob g e; have := HB1.out.size; omega)
  have HW16 : Hid (Below w1.heap.size w1 w6) := show Below _ _ _ from below_over HW15.out g6 (fun g e => (hob g e).1)
  obtain ⟨_, _, e3, -, -, l36⟩ := (HO35.out.over g6 (fun g e => (hob g e).2)).slN HM.out
  obtain ⟨_, _, e4, -, -, l46⟩ := (HO45.out.over g6 (fun g e => by have := (hob g e).2; omega)).slN HM.out
  cases e3
  cases e4
  have HL36 := Lib.hid l36
  have HL46 := Lib.hid l46
  clear g6 hob l36 l46
  go_wp2_with fail
  refine (same_big V M q3 q4 c3 c4 w6 HM.out (by omega) HL36.out HL46.out).mono ?_
  rintro e w7 ⟨rfl, b7⟩
  have HW7 : Hid (Below w.heap.size w w7) := show Below _ _ _ from HW6.out.trans (b7.mono HW6.out.size)
  have HW17 : Hid (Below w1.heap.size w1 w7) := show Below _ _ _ from HW16.out.trans (b7.mono HW16.out.size)
  clear b7
  go_wp2_with fail
  refine (kept_big l n (n + 5) q1 p c1 c w7 HN.out (Nat.le_refl _) (Nat.le_refl _) (by omega) HC1.out (HL1.out.below HW17.out) (HL.out.below HW7.out)).mono ?_
  rintro e w8 ⟨rfl, b8⟩
  have HW8 : Hid (Below w.heap.size w w8) := show Below _ _ _ from HW7.out.trans (b8.mono HW7.out.size)
  clear b8
  go_wp2_with fail
  refine (works9_any w8 (HR.out.on HW8.out)).mono ?_
  rintro e w9 ⟨rfl, b9⟩
  have HW9 : Hid (Below w.heap.size w w9) := show Below _ _ _ from HW8.out.trans (b9.mono HW8.out.size)
  clear b9
  go_wp2_with fail
  go_ret
  exact ⟨rfl, HW9.out⟩
end Go.Proofs.YtejekgceompjpaaDoor

/-
  FrameBack: what was put is got again, whatever stands behind it; cut short it is too short.
-/
namespace Go.Proofs.YtejekgceompjpaaDoor
open Go.RowKit Go.Proofs.ShaWords
theorem pickF_any (v : Int) (n : Nat) (w : World) (h1 : 0 < n) (h2 : n ≤ 1000000) : Calls Tryd.prog 27 #[.int .i64 v, .int .i64 (n : Int)] w fun e w' => ∃ r : Nat, r < n ∧ e = .returned (.int .i64 (r : Int)) ∧ w = w' := by
  refine (pick_any v (n : Int) w (by omega) (by omega)).mono ?_
  rintro e w' ⟨r, hr, rfl, rfl⟩
  exact ⟨r, by omega, rfl, rfl⟩
set_option maxRecDepth 100000 in
set_option maxHeartbeats 4000000 in
theorem frBack_any (z : Int) (l m : List (BitVec 8)) (z3 : Int) (n1 n2 : Nat) (p q : Option Addr) (c d : Nat) (w : World) (hl : l.length = n1) (hm : m.length = n2) (hL : Lies w p l) (hM : Lies w q m) (hR : Rem w) :
    Calls Tryd.prog 5 #[.int .i64 z, .slice p n1 c, .slice q n2 d, .int .i64 z3] w fun e w' => e = .returned (.bool true) ∧ Below w.heap.size w w' := by
  have HL := Lib.hid hL
  have HM := Lib.hid hM
  have HR := Lib.hid hR
  have HN1 := Lib.hid hl
  have HN2 := Lib.hid hm
  have hmx : (n1 : Int) < (n2 : Int) ∨ ¬ (n1 : Int) < (n2 : Int) := Classical.em _
  clear hL hM hR hl hm
  by_cases h8 : 8192 < max n1 n2
  · rcases hmx with hq | hq
    all_goals
      (try have h8a : (8192 : Int) < (n2 : Int) := by omega)
      (try have h8a : (8192 : Int) < (n1 : Int) := by omega)
      clear h8
      go_enter Tryd.func5, Tryd.ntmps5
      go_wp2_with fail
      refine (works9_any w HR.out).mono ?_
      rintro e w1 ⟨rfl, b1⟩
      have HB1 := Lib.hid b1
      clear b1
      go_wp2_with fail
      go_ret
      exact ⟨rfl, HB1.out⟩
  have h8a : ¬ (8192 : Int) < (n1 : Int) := by omega
  have h8b : ¬ (8192 : Int) < (n2 : Int) := by omega
  have hn1 : n1 ≤ 8192 := by omega
  have hn2 : n2 ≤ 8192 := by omega
  have HP := Lib.hid (put_any z l n1 p c w HN1.out (by omega) HL.out HR.out)
  clear h8
  by_cases hz : z < 1 ∨ 255 < z
  · have HE := Lib.hid (putE_kind (l := l) hz)
    rcases hmx with hq | hq
    all_goals
      rcases hz with hz1 | hz1
      all_goals
        (try have hz0 : ¬ z < 1 := by omega)
        go_enter Tryd.func5, Tryd.ntmps5
        go_wp2_with fail
        refine HP.out.mono ?_
        rintro e w1 ⟨b1, v, rfl, ho⟩
        rw [HE.out.1]
        rw [HE.out.2] at ho
        obtain ⟨q1, c1, rfl, -, -, -⟩ := ho.slN (n := 0) rfl
        have HB1 := Lib.hid b1
        clear b1 ho
        go_wp2_with fail
        refine (works9_any w1 (HR.out.on HB1.out)).mono ?_
        rintro e w2 ⟨rfl, b2⟩
        have HB2 : Hid (Below w.heap.size w w2) := show Below _ _ _ from HB1.out.trans (b2.mono HB1.out.size)
        clear b2
        go_wp2_with fail
        go_ret
        exact ⟨rfl, HB2.out⟩
  have hz1 : ¬ z < 1 := by omega
  have hz2 : ¬ 255 < z := by omega
  clear hz
  by_cases h9 : 2039 < n1
  · have HE := Lib.hid (putE_long (l := l) (show 1 ≤ z by omega) (show z ≤ 255 by omega) (by rw [HN1.out]; exact h9))
    have h9a : (2039 : Int) < (n1 : Int) := by omega
    rcases hmx with hq | hq
    all_goals
      go_enter Tryd.func5, Tryd.ntmps5
      go_wp2_with fail
      refine HP.out.mono ?_
      rintro e w1 ⟨b1, v, rfl, ho⟩
      rw [HE.out.1]
      rw [HE.out.2] at ho
      obtain ⟨q1, c1, rfl, -, -, -⟩ := ho.slN (n := 0) rfl
      have HB1 := Lib.hid b1
      clear b1 ho
      go_wp2_with fail
      refine (works9_any w1 (HR.out.on HB1.out)).mono ?_
      rintro e w2 ⟨rfl, b2⟩
      have HB2 : Hid (Below w.heap.size w w2) := show Below _ _ _ from HB1.out.trans (b2.mono HB1.out.size)
      clear b2
      go_wp2_with fail
      go_ret
      exact ⟨rfl, HB2.out⟩
  have HE := Lib.hid (putE_ok (l := l) (show 1 ≤ z by omega) (show z ≤ 255 by omega) (by rw [HN1.out]; omega))
  have HNE := Lib.hid (kb_ne (show 1 ≤ z by omega) (show z ≤ 255 by omega))
  have HZ8 := Lib.hid (n8_kb (show 0 ≤ z by omega) (show z < 256 by omega))
  have HFL : Hid ((frameB (kb z) l).length = n1 + 9) := show _ = _ by rw [frameB_length, HN1.out]
  have HG := Lib.hid (got_frame (kb z) l m HNE.out (by rw [HN1.out]; omega))
  have HCUT := Lib.hid (fun r (hr : r < n1 + 9) => getE_cut (kb z) l r HNE.out (by rw [HN1.out]; omega) (by rw [HN1.out]; omega))
  rw [HZ8.out, HN1.out] at HG
  generalize frameB (kb z) l = F at HE HFL HG HCUT
  have HFM : Hid ((F ++ m).length = n1 + 9 + n2) := show _ = _ by rw [List.length_append, HFL.out, HN2.out]
  rcases hmx with hq | hq
  all_goals
    go_enter Tryd.func5, Tryd.ntmps5
    go_wp2_with fail
    refine HP.out.mono ?_
    rintro e w1 ⟨b1, v, rfl, ho⟩
    rw [HE.out.1]
    rw [HE.out.2] at ho
    obtain ⟨q1, c1, rfl, hc1, -, l1⟩ := ho.slN HFL.out
    have HB1 := Lib.hid b1
    have HL1 := Lib.hid l1
    have HC1 := Lib.hid hc1
    clear b1 ho l1 hc1
    go_wp2_with fail
    refine (copy_bigN F (n1 + 9) q1 c1 w1 HFL.out (by omega) HL1.out).mono ?_
    rintro e w2 ⟨v2, rfl, h2, b2⟩
    have HO2 := Lib.hid h2
    have HB2 : Hid (Below w.heap.size w w2) := show Below _ _ _ from HB1.out.trans (b2.mono HB1.out.size)
    have HB12 := Lib.hid b2
    have hs2 := b2.size
    clear h2 b2
    go_wp2_with (at_builtin; refine wpList_append_listB rfl (.tmp 50) (.tmp 51) rfl w1.heap.size _ F m q d rfl HO2.out (by rw [HN2.out]; rfl) (HM.out.below HB2.out) (by rw [HFL.out, HN2.out]; omega) hs2 ?_; intro v3 w3 h3 b3; obtain ⟨q3, c3, rfl, hc3, -, l3⟩ := h3.slN HFM.out; have HL3 := Lib.hid l3; have HC3 := Lib.hid hc3; have HB3 : Hid (Below w.heap.size w w3) := show Below _ _ _ from HB2.out.trans (b3.mono HB1.out.size); have HB13 : Hid (Below w1.heap.size w1 w3) := show Below _ _ _ from HB12.out.trans b3; clear h3 b3 l3 hc3)
    refine (get_any (F ++ m) (n1 + 9 + n2) q3 c3 w3 HFM.out (by omega) HC3.out HL3.out (HR.out.on HB3.out)).mono ?_
    rintro e w4 ⟨b4, v4, rfl, ho4⟩
    obtain ⟨g1, g2, g3, g4⟩ := HG.out
    rw [g1, g2, g3]
    rw [g4] at ho4
    obtain ⟨q4, c4, rfl, -, -, l4⟩ := ho4.slN HN1.out
    have HL4 := Lib.hid l4
    have HB4 : Hid (Below w.heap.size w w4) := show Below _ _ _ from HB3.out.trans (b4.mono HB3.out.size)
    have HB14 : Hid (Below w1.heap.size w1 w4) := show Below _ _ _ from HB13.out.trans (b4.mono HB13.out.size)
    clear b4 g1 g2 g3 g4 ho4 l4
    go_wp2_with fail
    refine calls_gen (fun w' => Below w4.heap.size w4 w') ((Below.refl _ _).alloc (Nat.le_refl _) _) ?_
    rintro w5 b5
    have HB5 : Hid (Below w.heap.size w w5) := show Below _ _ _ from HB4.out.trans (b5.mono HB4.out.size)
    have HB15 : Hid (Below w1.heap.size w1 w5) := show Below _ _ _ from HB14.out.trans (b5.mono HB14.out.size)
    refine (same_big l n1 q4 p c4 c w5 HN1.out (by omega) (HL4.out.below b5) (HL.out.below HB5.out)).mono ?_
    rintro e w6 ⟨rfl, b6⟩
    have HB6 : Hid (Below w.heap.size w w6) := show Below _ _ _ from HB5.out.trans (b6.mono HB5.out.size)
    have HB16 : Hid (Below w1.heap.size w1 w6) := show Below _ _ _ from HB15.out.trans (b6.mono HB15.out.size)
    clear b5 b6
    go_wp2_with fail
    refine (show Calls Tryd.prog 27 #[.int .i64 z3, .int .i64 ((n1 : Int) + 9)] w6 _ from pickF_any z3 (n1 + 9) w6 (by omega) (by omega)).mono ?_
    rintro e w7 ⟨r, hr, rfl, rfl⟩
    have hrc : (r : Int) ≤ (c1 : Int) := by have := HC1.out; omega
    have HCU := Lib.hid (HCUT.out r hr)
    have HGE := Lib.hid (get_err HCU.out (by decide))
    have hrl : (F.take r).length = r := by rw [List.length_take, HFL.out]; omega
    have HRL := Lib.hid hrl
    clear hrl
    go_wp2_with fail
    refine (get_any (F.take r) r q1 c1 w6 HRL.out (by omega) (by have := HC1.out; omega) (lies_takeF (HL1.out.below HB16.out) r) (HR.out.on HB6.out)).mono ?_
    rintro e w8 ⟨b8, v8, rfl, ho8⟩
    rw [HGE.out.1, HGE.out.2.1, HCU.out]
    have HB8 : Hid (Below w.heap.size w w8) := show Below _ _ _ from HB6.out.trans (b8.mono HB6.out.size)
    clear b8 ho8
    go_wp2_with fail
    refine (works9_any w8 (HR.out.on HB8.out)).mono ?_
    rintro e w9 ⟨rfl, b9⟩
    have HB9 : Hid (Below w.heap.size w w9) := show Below _ _ _ from HB8.out.trans (b9.mono HB8.out.size)
    clear b9
    go_wp2_with fail
    go_ret
    exact ⟨rfl, HB9.out⟩
end Go.Proofs.YtejekgceompjpaaDoor

/-
  FrameTurned: a frame with some bits turned is none.
-/
namespace Go.Proofs.YtejekgceompjpaaDoor
open Go.RowKit Go.Proofs.ShaWords
theorem turned_stop (l : List (BitVec 8)) (a fin : Nat) (x : BitVec 32) (i : Nat) (h : fin ≤ a + i) : ∀ j, turned l a fin x (i + j) = turned l a fin x i
  | 0 => rfl
  | j + 1 => by
    show (if x.getLsbD (i + j) && decide (a + (i + j) < fin) then _ else _) = _
    rw [decide_eq_false (by omega), Bool.and_false, if_neg (by decide)]
    exact turned_stop l a fin x i h j
theorem turned_on {l : List (BitVec 8)} {a fin : Nat} {x : BitVec 32} {i : Nat} (h1 : x.getLsbD i = true) (h2 : a + i < fin) : turned l a fin x (i + 1) = flip1 (turned l a fin x i) (a + i) := by
  show (if x.getLsbD i && decide (a + i < fin) then _ else _) = _
  rw [h1, decide_eq_true h2]; rfl
theorem turned_off {l : List (BitVec 8)} {a fin : Nat} {x : BitVec 32} {i : Nat} (h1 : x.getLsbD i = false) : turned l a fin x (i + 1) = turned l a fin x i := by
  show (if x.getLsbD i && decide (a + i < fin) then _ else _) = _
  rw [h1]; rfl
theorem or_one (x : BitVec 32) : bits .or .u32 (n32 x) 1 = n32 (x ||| 1#32) := or32 x 1#32
theorem or_one_bit (x : BitVec 32) : (x ||| 1#32).getLsbD 0 = true := by rw [BitVec.getLsbD_or]; simp
theorem shl8_one (r : Nat) : IntKind.u8.wrap (2 ^ r : Int) = n8 (1#8 <<< r) := by
  unfold n8
  have e : (2 ^ r : Int) = ((2 ^ r : Nat) : Int) := by simp
  rw [IntKind.wrap_u8', BitVec.toNat_shiftLeft, Nat.shiftLeft_eq, e, show (1#8).toNat = 1 from rfl, Nat.one_mul]
  generalize 2 ^ r = m
  omega
theorem bit_of (x : BitVec 32) (k : Nat) : n32 (x >>> k) % 2 = if x.getLsbD k then 1 else 0 := by
  rw [mod2_32, BitVec.getLsbD_ushiftRight, Nat.add_zero]
theorem tmod2 (x : BitVec 32) : (n32 x).tmod 2 = n32 x % 2 := Int.tmod_eq_emod_of_nonneg (n32_nonneg x)
attribute [local go_sem] shr32 or_one xor8 shl8_one
set_option maxRecDepth 100000 in
set_option maxHeartbeats 4000000 in
theorem frTurned_any (z : Int) (l : List (BitVec 8)) (z2 : Int) (x : BitVec 32) (n1 : Nat) (p : Option Addr) (c : Nat) (w : World) (hl : l.length = n1) (hc1 : n1 < 140737488355000) (hL : Lies w p l) (hR : Rem w) :
    Calls Tryd.prog 6 #[.int .i64 z, .slice p n1 c, .int .i64 z2, .int .u32 (n32 x)] w fun e w' => e = .returned (.bool true) ∧ Below w.heap.size w w' := by
  have HL := Lib.hid hL
  have HR := Lib.hid hR
  have HN1 := Lib.hid hl
  have HPK : Hid (Calls Tryd.prog 27 #[.int .i64 z, .int .i64 255] w fun e w' => ∃ r : Nat, r < 255 ∧ e = .returned (.int .i64 (r : Int)) ∧ w = w') := show Calls _ _ _ _ _ from pickF_any z 255 w (by decide) (by decide)
  clear hL hR hl
  by_cases h9 : 2039 < n1
  · go_enter Tryd.func6, Tryd.ntmps6
    go_wp2_with fail
    refine HPK.out.mono ?_
    rintro e w0 ⟨r, hr, rfl, rfl⟩
    have HE := Lib.hid (putE_long (z := 1 + (r : Int)) (l := l) (by omega) (by omega) (by rw [HN1.out]; exact h9))
    go_wp2_with fail
    refine (put_any (1 + (r : Int)) l n1 p c w HN1.out (by omega) HL.out HR.out).mono ?_
    rintro e w1 ⟨b1, v, rfl, ho⟩
    rw [HE.out.1]
    have HB1 := Lib.hid b1
    clear b1 ho
    by_cases h8 : 8192 < n1
    all_goals
      (try have h8a : (8192 : Int) < (n1 : Int) := by omega)
      (try have h8a : ¬ (8192 : Int) < (n1 : Int) := by omega)
      go_wp2_with fail
      refine (works9_any w1 (HR.out.on HB1.out)).mono ?_
      rintro e w2 ⟨rfl, b2⟩
      have HB2 : Hid (Below w.heap.size w w2) := show Below _ _ _ from HB1.out.trans (b2.mono HB1.out.size)
      clear b2
      go_wp2_with fail
      go_ret
      exact ⟨rfl, HB2.out⟩
  have h8a : ¬ (8192 : Int) < (n1 : Int) := by omega
  have hn1 : n1 ≤ 2039 := by omega
  clear h9
  go_enter Tryd.func6, Tryd.ntmps6
  go_wp2_with fail
  refine HPK.out.mono ?_
  rintro e w0 ⟨r, hr, rfl, rfl⟩
  have HE := Lib.hid (putE_ok (z := 1 + (r : Int)) (l := l) (by omega) (by omega) (by rw [HN1.out]; exact hn1))
  have HNE := Lib.hid (kb_ne (z := 1 + (r : Int)) (by omega) (by omega))
  have HFL : Hid ((frameB (kb (1 + (r : Int))) l).length = n1 + 9) := show _ = _ by rw [frameB_length, HN1.out]
  have HT := Lib.hid (fun a fin y => turned_not (kb (1 + (r : Int))) l a fin y (by rw [HN1.out]; exact hn1))
  rw [HN1.out] at HT
  go_wp2_with fail
  refine (put_any (1 + (r : Int)) l n1 p c w HN1.out (by omega) HL.out HR.out).mono ?_
  rintro e w1 ⟨b1, v, rfl, ho⟩
  rw [HE.out.1]
  rw [HE.out.2] at ho
  clear HE HPK
  generalize frameB (kb (1 + (r : Int))) l = F at HFL HT ho
  obtain ⟨q1, c1, rfl, hcc1, -, l1⟩ := ho.slN HFL.out
  have HB1 := Lib.hid b1
  have HL1 := Lib.hid l1
  have HC1 := Lib.hid hcc1
  clear b1 ho l1 hcc1
  go_wp2_with fail
  rw [show 8 * ((n1 : Int) + 9 - 5) = ((8 * (n1 + 4) : Nat) : Int) by omega]
  refine (pickF_any z2 (8 * (n1 + 4)) w1 (by omega) (by omega)).mono ?_
  rintro e w1 ⟨r2, hr2, rfl, rfl⟩
  have HXO := Lib.hid (or_one_bit x)
  have hm2 := mod2_32 x
  have ht2 := tmod2 x
  cases hx0 : x.getLsbD 0 with
  | false =>
    rw [hx0] at hm2
    simp only [Bool.false_eq_true, if_false] at hm2
    rw [hm2] at ht2
    clear hx0
    go_wp2_with fail
    refine (pickF_any (40 + (r2 : Int)) 8 w1 (by omega) (by omega)).mono ?_
    rintro e w1 ⟨a, ha, rfl, rfl⟩
    obtain ⟨fin, hfin⟩ : ∃ fin : Nat, fin = 8 := ⟨_, rfl⟩
    have HCASE := Lib.hid (HT.out a fin (x ||| 1#32) HXO.out (Or.inl ⟨ha, hfin⟩))
    have hfl9 : fin ≤ 8 * (n1 + 9) := by omega
    have ha9 : a ≤ 20000 := by omega
    have ha8 : (a : Int) < 8 := by omega
    clear HT
    go_upto_region 14 with (fail)
    rw [show Value.int IntKind.i64 8 = Value.int IntKind.i64 (fin : Int) by rw [hfin]; rfl]
    clear hfin ha8 ha hm2 ht2
    go_wp2_with fail
    refine (copy_bigN F (n1 + 9) q1 c1 w1 HFL.out (by omega) HL1.out).mono ?_
    rintro e w2 ⟨v2, rfl, h2, b2⟩
    obtain ⟨g, cg, rfl, hg1, hg2, hg3, hg4, -, -⟩ := h2.form8 (by rw [HFL.out]; omega)
    rw [HFL.out] at h2 hg3 ⊢
    have HO2 := Lib.hid h2
    have HB2 := Lib.hid b2
    have hs2 := b2.size
    have HG3 := Lib.hid hg3
    clear h2 b2 hg3 hg4
    go_wp2_with fail
    go_loopw [13] (fun i wr => ∃ k : Nat, k ≤ 32 ∧ i = .int .i64 (k : Int) ∧ Own w1.heap.size wr (turned F a fin (x ||| 1#32) k) (.slice (some ⟨g, 0, none⟩) (n1 + 9) cg) ∧ Below w1.heap.size w1 wr) (fun i _ => 32 - (intOf i).toNat)
    case atStart => exact ⟨0, Nat.zero_le _, rfl, HO2.out, HB2.out⟩
    case round =>
      obtain ⟨k, hk, rfl, ho, hb⟩ := hrel
      have HO := Lib.hid ho
      have HB := Lib.hid hb
      have hTL : (turned F a fin (x ||| 1#32) k).length = n1 + 9 := by rw [turned_length, HFL.out]
      have HTL := Lib.hid hTL
      by_cases hgo : k < 32 ∧ a + k < fin
      · obtain ⟨hk32, hkf⟩ := hgo
        have q0 : (k : Int) < 32 := by omega
        have q1 : (a : Int) + (k : Int) < (fin : Int) := by omega
        have q2 : ¬ (32 : Int) ≤ (k : Int) := by omega
        have hbt := bit_of (x ||| 1#32) k
        have htm := tmod2 ((x ||| 1#32) >>> k)
        cases hxk : (x ||| 1#32).getLsbD k with
        | true =>
          rw [hxk, if_pos rfl] at hbt
          rw [hbt] at htm
          have HTN := Lib.hid (turned_on (l := F) (a := a) (fin := fin) hxk hkf)
          obtain ⟨J, hJ⟩ : ∃ J, J = (a + k) / 8 := ⟨_, rfl⟩
          obtain ⟨R, hR⟩ : ∃ R, R = (a + k) % 8 := ⟨_, rfl⟩
          have t1 : ((a : Int) + (k : Int)).tdiv 8 = (J : Int) := by rw [Int.tdiv_eq_ediv_of_nonneg (by omega)]; omega
          have t2 : ((a : Int) + (k : Int)).tmod 8 = (R : Int) := by rw [Int.tmod_eq_emod_of_nonneg (by omega)]; omega
          have hJl : J < n1 + 9 := by omega
          have hR8 : R < 8 := by omega
          have qJ : (J : Int) < (n1 : Int) + 9 := by omega
          have qR : ¬ (8 : Int) ≤ (R : Int) := by omega
          obtain ⟨g', c', he, -, -, -, -, hcell, hfr⟩ := ho.form8 (by rw [hTL]; omega)
          injection he with he1 he2 he3
          cases he1
          have hcJ := hcell J (by rw [hTL]; exact hJl)
          have hfJ := hfr J
          have HPUT := Lib.hid (ho.put J ((turned F a fin (x ||| 1#32) k).getD J 0#8 ^^^ 1#8 <<< R))
          have hfl : (turned F a fin (x ||| 1#32) k).set J ((turned F a fin (x ||| 1#32) k).getD J 0#8 ^^^ 1#8 <<< R) = flip1 (turned F a fin (x ||| 1#32) k) (a + k) := by
            rw [hJ, hR]; rfl
          rw [hfl, ← HTN.out] at HPUT
          generalize (turned F a fin (x ||| 1#32) k).getD J 0#8 = y at HPUT hcJ
          have HBS : Hid (Below w1.heap.size w1 (wr.setCell ⟨g, J, none⟩ (.int .u8 (n8 (y ^^^ 1#8 <<< R))))) := show Below _ _ _ from hb.grown (grown_setCell wr g J _) hb.size (fun j e => by cases e; exact hg1)
          have hpw := shl8_one R
          clear ho hb HO HB hxk hbt hfl he3 hcell hfr hTL hJ hR
          go_wp2_with fail
          go_roundw
          case rel => exact ⟨k + 1, by omega, by go_num, HPUT.out, HBS.out⟩
          case measure => simp [intOf]; omega
        | false =>
          rw [hxk, if_neg (by decide)] at hbt
          rw [hbt] at htm
          have HTN := Lib.hid (turned_off (l := F) (a := a) (fin := fin) hxk)
          clear ho hb hxk hbt hTL
          go_wp2_with fail
          go_roundw
          case rel => exact ⟨k + 1, by omega, by go_num, by rw [HTN.out]; exact HO.out, HB.out⟩
          case measure => simp [intOf]; omega
      · have hstop : turned F a fin (x ||| 1#32) 32 = turned F a fin (x ||| 1#32) k := by
          by_cases h32 : k = 32
          · rw [h32]
          · have := turned_stop F a fin (x ||| 1#32) k (by omega) (32 - k)
            rwa [show k + (32 - k) = 32 by omega] at this
        have hne := HCASE.out
        rw [hstop] at hne
        obtain ⟨E, hE⟩ : ∃ E, getE (turned F a fin (x ||| 1#32) k) = E := ⟨_, rfl⟩
        rw [hE] at hne
        have HGE := Lib.hid (get_err hE hne)
        have HEE := Lib.hid hE
        have hEi : ¬ (E : Int) = 0 := by omega
        have HEB : Hid (((E : Int) != 0) = true) := show _ = _ by simpa using hne
        have HAF : Hid (k < 32 → ¬ (a : Int) + (k : Int) < (fin : Int)) := show _ from fun h => by omega
        have hws := hb.size
        have HLI : Hid (Lies wr (some ⟨g, 0, none⟩) (turned F a fin (x ||| 1#32) k)) := show Lies _ _ _ by obtain ⟨q, c, he, -, -, hl⟩ := ho.slN hTL; cases he; exact hl
        clear hstop hE ho hb hTL hgo
        by_cases h32 : k < 32
        all_goals
          (try have q0 : (k : Int) < 32 := by omega)
          (try have q0 : ¬ (k : Int) < 32 := by omega)
          (try have q1 := HAF.out h32)
          go_wp2_with fail
          refine (get_any (turned F a fin (x ||| 1#32) k) (n1 + 9) _ cg wr HTL.out (by omega) HG3.out HLI.out (HR.out.on (HB1.out.trans (HB.out.mono HB1.out.size)))).mono ?_
          rintro e w4 ⟨b4, v4, rfl, ho4⟩
          rw [HGE.out.1, HGE.out.2.1, HEE.out]
          have HB4 : Hid (Below w.heap.size w w4) := show Below _ _ _ from HB1.out.trans ((HB.out.trans (b4.mono hws)).mono HB1.out.size)
          rw [HGE.out.2.2] at ho4
          obtain ⟨q4, c4, rfl, -, -, -⟩ := ho4.slN (n := 0) rfl
          clear b4 ho4
          go_wp2_with fail
          refine calls_gen (fun w' => Below w4.heap.size w4 w') ((Below.refl _ _).alloc (Nat.le_refl _) _) ?_
          rintro w5 b5
          have HB5 : Hid (Below w.heap.size w w5) := show Below _ _ _ from HB4.out.trans (b5.mono HB4.out.size)
          clear b5
          refine (works9_any w5 (HR.out.on HB5.out)).mono ?_
          rintro e w6 ⟨rfl, b6⟩
          have HB6 : Hid (Below w.heap.size w w6) := show Below _ _ _ from HB5.out.trans (b6.mono HB5.out.size)
          clear b6
          go_wp2_with fail
          go_ret
          refine ⟨?_, HB6.out⟩
          show Ending.returned (Value.bool ((E : Int) != 0)) = _
          rw [HEB.out]
  | true =>
    rw [hx0, if_pos rfl] at hm2
    rw [hm2] at ht2
    clear hx0
    obtain ⟨a, ha⟩ : ∃ a, a = 40 + r2 := ⟨_, rfl⟩
    have ha9 : a ≤ 20000 := by omega
    by_cases hin : a < 8 * (5 + n1)
    · obtain ⟨fin, hfin⟩ : ∃ fin : Nat, fin = 8 * (5 + n1) := ⟨_, rfl⟩
      have HCASE := Lib.hid (HT.out a fin (x ||| 1#32) HXO.out (Or.inr (Or.inl ⟨by omega, hin, hfin⟩)))
      have hfl9 : fin ≤ 8 * (n1 + 9) := by omega
      have p1 : ¬ 40 + (r2 : Int) < 8 := by omega
      have p2 : 40 + (r2 : Int) < 8 * (5 + (n1 : Int)) := by omega
      clear HT
      go_upto_region 14 with (fail)
      rw [show 8 * (5 + (n1 : Int)) = (fin : Int) by omega, show 40 + (r2 : Int) = (a : Int) by omega]
      clear hfin ha hin hm2 ht2 p1 p2
      go_wp2_with fail
      refine (copy_bigN F (n1 + 9) q1 c1 w1 HFL.out (by omega) HL1.out).mono ?_
      rintro e w2 ⟨v2, rfl, h2, b2⟩
      obtain ⟨g, cg, rfl, hg1, hg2, hg3, hg4, -, -⟩ := h2.form8 (by rw [HFL.out]; omega)
      rw [HFL.out] at h2 hg3 ⊢
      have HO2 := Lib.hid h2
      have HB2 := Lib.hid b2
      have hs2 := b2.size
      have HG3 := Lib.hid hg3
      clear h2 b2 hg3 hg4
      go_wp2_with fail
      go_loopw [13] (fun i wr => ∃ k : Nat, k ≤ 32 ∧ i = .int .i64 (k : Int) ∧ Own w1.heap.size wr (turned F a fin (x ||| 1#32) k) (.slice (some ⟨g, 0, none⟩) (n1 + 9) cg) ∧ Below w1.heap.size w1 wr) (fun i _ => 32 - (intOf i).toNat)
      case atStart => exact ⟨0, Nat.zero_le _, rfl, HO2.out, HB2.out⟩
      case round =>
        obtain ⟨k, hk, rfl, ho, hb⟩ := hrel
        have HO := Lib.hid ho
        have HB := Lib.hid hb
        have hTL : (turned F a fin (x ||| 1#32) k).length = n1 + 9 := by rw [turned_length, HFL.out]
        have HTL := Lib.hid hTL
        by_cases hgo : k < 32 ∧ a + k < fin
        · obtain ⟨hk32, hkf⟩ := hgo
          have q0 : (k : Int) < 32 := by omega
          have q1 : (a : Int) + (k : Int) < (fin : Int) := by omega
          have q2 : ¬ (32 : Int) ≤ (k : Int) := by omega
          have hbt := bit_of (x ||| 1#32) k
          have htm := tmod2 ((x ||| 1#32) >>> k)
          cases hxk : (x ||| 1#32).getLsbD k with
          | true =>
            rw [hxk, if_pos rfl] at hbt
            rw [hbt] at htm
            have HTN := Lib.hid (turned_on (l := F) (a := a) (fin := fin) hxk hkf)
            obtain ⟨J, hJ⟩ : ∃ J, J = (a + k) / 8 := ⟨_, rfl⟩
            obtain ⟨R, hR⟩ : ∃ R, R = (a + k) % 8 := ⟨_, rfl⟩
            have t1 : ((a : Int) + (k : Int)).tdiv 8 = (J : Int) := by rw [Int.tdiv_eq_ediv_of_nonneg (by omega)]; omega
            have t2 : ((a : Int) + (k : Int)).tmod 8 = (R : Int) := by rw [Int.tmod_eq_emod_of_nonneg (by omega)]; omega
            have hJl : J < n1 + 9 := by omega
            have hR8 : R < 8 := by omega
            have qJ : (J : Int) < (n1 : Int) + 9 := by omega
            have qR : ¬ (8 : Int) ≤ (R : Int) := by omega
            obtain ⟨g', c', he, -, -, -, -, hcell, hfr⟩ := ho.form8 (by rw [hTL]; omega)
            injection he with he1 he2 he3
            cases he1
            have hcJ := hcell J (by rw [hTL]; exact hJl)
            have hfJ := hfr J
            have HPUT := Lib.hid (ho.put J ((turned F a fin (x ||| 1#32) k).getD J 0#8 ^^^ 1#8 <<< R))
            have hfl : (turned F a fin (x ||| 1#32) k).set J ((turned F a fin (x ||| 1#32) k).getD J 0#8 ^^^ 1#8 <<< R) = flip1 (turned F a fin (x ||| 1#32) k) (a + k) := by
              rw [hJ, hR]; rfl
            rw [hfl, ← HTN.out] at HPUT
            generalize (turned F a fin (x ||| 1#32) k).getD J 0#8 = y at HPUT hcJ
            have HBS : Hid (Below w1.heap.size w1 (wr.setCell ⟨g, J, none⟩ (.int .u8 (n8 (y ^^^ 1#8 <<< R))))) := show Below _ _ _ from hb.grown (grown_setCell wr g J _) hb.size (fun j e => by cases e; exact hg1)
            have hpw := shl8_one R
            clear ho hb HO HB hxk hbt hfl he3 hcell hfr hTL hJ hR
            go_wp2_with fail
            go_roundw
            case rel => exact ⟨k + 1, by omega, by go_num, HPUT.out, HBS.out⟩
            case measure => simp [intOf]; omega
          | false =>
            rw [hxk, if_neg (by decide)] at hbt
            rw [hbt] at htm
            have HTN := Lib.hid (turned_off (l := F) (a := a) (fin := fin) hxk)
            clear ho hb hxk hbt hTL
            go_wp2_with fail
            go_roundw
            case rel => exact ⟨k + 1, by omega, by go_num, by rw [HTN.out]; exact HO.out, HB.out⟩
            case measure => simp [intOf]; omega
        · have hstop : turned F a fin (x ||| 1#32) 32 = turned F a fin (x ||| 1#32) k := by
            by_cases h32 : k = 32
            · rw [h32]
            · have := turned_stop F a fin (x ||| 1#32) k (by omega) (32 - k)
              rwa [show k + (32 - k) = 32 by omega] at this
          have hne := HCASE.out
          rw [hstop] at hne
          obtain ⟨E, hE⟩ : ∃ E, getE (turned F a fin (x ||| 1#32) k) = E := ⟨_, rfl⟩
          rw [hE] at hne
          have HGE := Lib.hid (get_err hE hne)
          have HEE := Lib.hid hE
          have hEi : ¬ (E : Int) = 0 := by omega
          have HEB : Hid (((E : Int) != 0) = true) := show _ = _ by simpa using hne
          have HAF : Hid (k < 32 → ¬ (a : Int) + (k : Int) < (fin : Int)) := show _ from fun h => by omega
          have hws := hb.size
          have HLI : Hid (Lies wr (some ⟨g, 0, none⟩) (turned F a fin (x ||| 1#32) k)) := show Lies _ _ _ by obtain ⟨q, c, he, -, -, hl⟩ := ho.slN hTL; cases he; exact hl
          clear hstop hE ho hb hTL hgo
          by_cases h32 : k < 32
          all_goals
            (try have q0 : (k : Int) < 32 := by omega)
            (try have q0 : ¬ (k : Int) < 32 := by omega)
            (try have q1 := HAF.out h32)
            go_wp2_with fail
            refine (get_any (turned F a fin (x ||| 1#32) k) (n1 + 9) _ cg wr HTL.out (by omega) HG3.out HLI.out (HR.out.on (HB1.out.trans (HB.out.mono HB1.out.size)))).mono ?_
            rintro e w4 ⟨b4, v4, rfl, ho4⟩
            rw [HGE.out.1, HGE.out.2.1, HEE.out]
            have HB4 : Hid (Below w.heap.size w w4) := show Below _ _ _ from HB1.out.trans ((HB.out.trans (b4.mono hws)).mono HB1.out.size)
            rw [HGE.out.2.2] at ho4
            obtain ⟨q4, c4, rfl, -, -, -⟩ := ho4.slN (n := 0) rfl
            clear b4 ho4
            go_wp2_with fail
            refine calls_gen (fun w' => Below w4.heap.size w4 w') ((Below.refl _ _).alloc (Nat.le_refl _) _) ?_
            rintro w5 b5
            have HB5 : Hid (Below w.heap.size w w5) := show Below _ _ _ from HB4.out.trans (b5.mono HB4.out.size)
            clear b5
            refine (works9_any w5 (HR.out.on HB5.out)).mono ?_
            rintro e w6 ⟨rfl, b6⟩
            have HB6 : Hid (Below w.heap.size w w6) := show Below _ _ _ from HB5.out.trans (b6.mono HB5.out.size)
            clear b6
            go_wp2_with fail
            go_ret
            refine ⟨?_, HB6.out⟩
            show Ending.returned (Value.bool ((E : Int) != 0)) = _
            rw [HEB.out]
    · obtain ⟨fin, hfin⟩ : ∃ fin : Nat, fin = 8 * (n1 + 9) := ⟨_, rfl⟩
      have HCASE := Lib.hid (HT.out a fin (x ||| 1#32) HXO.out (Or.inr (Or.inr ⟨by omega, by omega, hfin⟩)))
      have hfl9 : fin ≤ 8 * (n1 + 9) := by omega
      have p1 : ¬ 40 + (r2 : Int) < 8 := by omega
      have p2 : ¬ 40 + (r2 : Int) < 8 * (5 + (n1 : Int)) := by omega
      clear HT
      go_upto_region 14 with (fail)
      rw [show 8 * ((n1 : Int) + 9) = (fin : Int) by omega, show 40 + (r2 : Int) = (a : Int) by omega]
      clear hfin ha hin hm2 ht2 p1 p2
      go_wp2_with fail
      refine (copy_bigN F (n1 + 9) q1 c1 w1 HFL.out (by omega) HL1.out).mono ?_
      rintro e w2 ⟨v2, rfl, h2, b2⟩
      obtain ⟨g, cg, rfl, hg1, hg2, hg3, hg4, -, -⟩ := h2.form8 (by rw [HFL.out]; omega)
      rw [HFL.out] at h2 hg3 ⊢
      have HO2 := Lib.hid h2
      have HB2 := Lib.hid b2
      have hs2 := b2.size
      have HG3 := Lib.hid hg3
      clear h2 b2 hg3 hg4
      go_wp2_with fail
      go_loopw [13] (fun i wr => ∃ k : Nat, k ≤ 32 ∧ i = .int .i64 (k : Int) ∧ Own w1.heap.size wr (turned F a fin (x ||| 1#32) k) (.slice (some ⟨g, 0, none⟩) (n1 + 9) cg) ∧ Below w1.heap.size w1 wr) (fun i _ => 32 - (intOf i).toNat)
      case atStart => exact ⟨0, Nat.zero_le _, rfl, HO2.out, HB2.out⟩
      case round =>
        obtain ⟨k, hk, rfl, ho, hb⟩ := hrel
        have HO := Lib.hid ho
        have HB := Lib.hid hb
        have hTL : (turned F a fin (x ||| 1#32) k).length = n1 + 9 := by rw [turned_length, HFL.out]
        have HTL := Lib.hid hTL
        by_cases hgo : k < 32 ∧ a + k < fin
        · obtain ⟨hk32, hkf⟩ := hgo
          have q0 : (k : Int) < 32 := by omega
          have q1 : (a : Int) + (k : Int) < (fin : Int) := by omega
          have q2 : ¬ (32 : Int) ≤ (k : Int) := by omega
          have hbt := bit_of (x ||| 1#32) k
          have htm := tmod2 ((x ||| 1#32) >>> k)
          cases hxk : (x ||| 1#32).getLsbD k with
          | true =>
            rw [hxk, if_pos rfl] at hbt
            rw [hbt] at htm
            have HTN := Lib.hid (turned_on (l := F) (a := a) (fin := fin) hxk hkf)
            obtain ⟨J, hJ⟩ : ∃ J, J = (a + k) / 8 := ⟨_, rfl⟩
            obtain ⟨R, hR⟩ : ∃ R, R = (a + k) % 8 := ⟨_, rfl⟩
            have t1 : ((a : Int) + (k : Int)).tdiv 8 = (J : Int) := by rw [Int.tdiv_eq_ediv_of_nonneg (by omega)]; omega
            have t2 : ((a : Int) + (k : Int)).tmod 8 = (R : Int) := by rw [Int.tmod_eq_emod_of_nonneg (by omega)]; omega
            have hJl : J < n1 + 9 := by omega
            have hR8 : R < 8 := by omega
            have qJ : (J : Int) < (n1 : Int) + 9 := by omega
            have qR : ¬ (8 : Int) ≤ (R : Int) := by omega
            obtain ⟨g', c', he, -, -, -, -, hcell, hfr⟩ := ho.form8 (by rw [hTL]; omega)
            injection he with he1 he2 he3
            cases he1
            have hcJ := hcell J (by rw [hTL]; exact hJl)
            have hfJ := hfr J
            have HPUT := Lib.hid (ho.put J ((turned F a fin (x ||| 1#32) k).getD J 0#8 ^^^ 1#8 <<< R))
            have hfl : (turned F a fin (x ||| 1#32) k).set J ((turned F a fin (x ||| 1#32) k).getD J 0#8 ^^^ 1#8 <<< R) = flip1 (turned F a fin (x ||| 1#32) k) (a + k) := by
              rw [hJ, hR]; rfl
            rw [hfl, ← HTN.out] at HPUT
            generalize (turned F a fin (x ||| 1#32) k).getD J 0#8 = y at HPUT hcJ
            have HBS : Hid (Below w1.heap.size w1 (wr.setCell ⟨g, J, none⟩ (.int .u8 (n8 (y ^^^ 1#8 <<< R))))) := show Below _ _ _ from hb.grown (grown_setCell wr g J _) hb.size (fun j e => by cases e; exact hg1)
            have hpw := shl8_one R
            clear ho hb HO HB hxk hbt hfl he3 hcell hfr hTL hJ hR
            go_wp2_with fail
            go_roundw
            case rel => exact ⟨k + 1, by omega, by go_num, HPUT.out, HBS.out⟩
            case measure => simp [intOf]; omega
          | false =>
            rw [hxk, if_neg (by decide)] at hbt
            rw [hbt] at htm
            have HTN := Lib.hid (turned_off (l := F) (a := a) (fin := fin) hxk)
            clear ho hb hxk hbt hTL
            go_wp2_with fail
            go_roundw
            case rel => exact ⟨k + 1, by omega, by go_num, by rw [HTN.out]; exact HO.out, HB.out⟩
            case measure => simp [intOf]; omega
        · have hstop : turned F a fin (x ||| 1#32) 32 = turned F a fin (x ||| 1#32) k := by
            by_cases h32 : k = 32
            · rw [h32]
            · have := turned_stop F a fin (x ||| 1#32) k (by omega) (32 - k)
              rwa [show k + (32 - k) = 32 by omega] at this
          have hne := HCASE.out
          rw [hstop] at hne
          obtain ⟨E, hE⟩ : ∃ E, getE (turned F a fin (x ||| 1#32) k) = E := ⟨_, rfl⟩
          rw [hE] at hne
          have HGE := Lib.hid (get_err hE hne)
          have HEE := Lib.hid hE
          have hEi : ¬ (E : Int) = 0 := by omega
          have HEB : Hid (((E : Int) != 0) = true) := show _ = _ by simpa using hne
          have HAF : Hid (k < 32 → ¬ (a : Int) + (k : Int) < (fin : Int)) := show _ from fun h => by omega
          have hws := hb.size
          have HLI : Hid (Lies wr (some ⟨g, 0, none⟩) (turned F a fin (x ||| 1#32) k)) := show Lies _ _ _ by obtain ⟨q, c, he, -, -, hl⟩ := ho.slN hTL; cases he; exact hl
          clear hstop hE ho hb hTL hgo
          by_cases h32 : k < 32
          all_goals
            (try have q0 : (k : Int) < 32 := by omega)
            (try have q0 : ¬ (k : Int) < 32 := by omega)
            (try have q1 := HAF.out h32)
            go_wp2_with fail
            refine (get_any (turned F a fin (x ||| 1#32) k) (n1 + 9) _ cg wr HTL.out (by omega) HG3.out HLI.out (HR.out.on (HB1.out.trans (HB.out.mono HB1.out.size)))).mono ?_
            rintro e w4 ⟨b4, v4, rfl, ho4⟩
            rw [HGE.out.1, HGE.out.2.1, HEE.out]
            have HB4 : Hid (Below w.heap.size w w4) := show Below _ _ _ from HB1.out.trans ((HB.out.trans (b4.mono hws)).mono HB1.out.size)
            rw [HGE.out.2.2] at ho4
            obtain ⟨q4, c4, rfl, -, -, -⟩ := ho4.slN (n := 0) rfl
            clear b4 ho4
            go_wp2_with fail
            refine calls_gen (fun w' => Below w4.heap.size w4 w') ((Below.refl _ _).alloc (Nat.le_refl _) _) ?_
            rintro w5 b5
            have HB5 : Hid (Below w.heap.size w w5) := show Below _ _ _ from HB4.out.trans (b5.mono HB4.out.size)
            clear b5
            refine (works9_any w5 (HR.out.on HB5.out)).mono ?_
            rintro e w6 ⟨rfl, b6⟩
            have HB6 : Hid (Below w.heap.size w w6) := show Below _ _ _ from HB5.out.trans (b6.mono HB5.out.size)
            clear b6
            go_wp2_with fail
            go_ret
            refine ⟨?_, HB6.out⟩
            show Ending.returned (Value.bool ((E : Int) != 0)) = _
            rw [HEB.out]
end Go.Proofs.YtejekgceompjpaaDoor

/-
  FrameGets: whatever bytes, the document's frame and frames, in new memory.
-/
namespace Go.Proofs.YtejekgceompjpaaDoor
open Go.RowKit Go.Proofs.ShaWords
theorem getV_len (l : List (BitVec 8)) : (getV l).length ≤ l.length := by
  unfold getV
  split
  · unfold getB; rw [List.length_take, List.length_drop]; omega
  · simp
theorem FrL.over {B : Nat} {w w' : World} {hv : Value} {vs : List Value} {fs : List Fr9} {r : Option Nat} (h : FrL B w hv vs fs) (hg : w.grownBy w' r) (hr : ∀ g, r = some g → g < B) : FrL B w' hv vs fs :=
  h.keep (grown_stays (F := fun k => r = some k) hg (fun k e => e)) (fun k hk _ e => by have := hr k e; omega)
theorem below_stays9 {w0 w w' : World} {F : Nat → Prop} (hb : Below w0.heap.size w0 w) (hs : Stays F w w') (hF : ∀ k, F k → w0.heap.size ≤ k) : Below w0.heap.size w0 w' := hb.trans (hs.below hF hb.size)
set_option maxRecDepth 100000 in
set_option maxHeartbeats 8000000 in
theorem frGets_any (l : List (BitVec 8)) (n : Nat) (p : Option Addr) (c : Nat) (w : World) (hl : l.length = n) (hc : n ≤ c) (hp : 0 < c → ∃ b off, p = some ⟨b, off, none⟩) (hL : Lies w p l) (hR : Rem w) :
    Calls Tryd.prog 4 #[.slice p n c] w fun e w' => e = .returned (.bool true) ∧ Below w.heap.size w w' := by
  have HL := Lib.hid hL
  have HR := Lib.hid hR
  have HN := Lib.hid hl
  have HP := Lib.hid hp
  clear hL hR hl hp
  by_cases h8 : 8192 < n
  · have h8a : (8192 : Int) < (n : Int) := by omega
    go_enter Tryd.func4, Tryd.ntmps4
    go_wp2_with fail
    refine (works9_any w HR.out).mono ?_
    rintro e w1 ⟨rfl, b1⟩
    have HB1 := Lib.hid b1
    clear b1
    go_wp2_with fail
    go_ret
    exact ⟨rfl, HB1.out⟩
  have h8a : ¬ (8192 : Int) < (n : Int) := by omega
  have hn1 : n ≤ 8192 := by omega
  clear h8
  obtain ⟨fs, r, hS⟩ := scan_ex l.length l (Nat.le_refl _)
  have HS := Lib.hid hS
  have hfl : fs.length ≤ 100000 := by
    have h1 := framesB_many fs
    have h2 : (framesB fs).length ≤ l.length := by rw [hS.eq, List.length_append]; omega
    have := HN.out
    omega
  have HFB : Hid (∀ f ∈ fs, f.2.length < 100000) := show _ from fun f hf => by have := (HS.out.ok f hf).2; omega
  obtain ⟨S, hSS⟩ : ∃ S, (framesB fs).length = S := ⟨_, rfl⟩
  have HSS := Lib.hid hSS
  clear hS hSS
  have HLN : Hid ((l ++ marks 5).length = n + 5) := show _ = _ by rw [List.length_append, marks_length, HN.out]
  have HTK := Lib.hid (take_lent HN.out)
  obtain ⟨M, hM⟩ : ∃ M, (getV l).length = M := ⟨_, rfl⟩
  have hM2 : M ≤ 8192 := by have := getV_len l; have := HN.out; omega
  have HM := Lib.hid hM
  obtain ⟨V, hV⟩ : ∃ V, V = getV l := ⟨_, rfl⟩
  obtain ⟨K, hK⟩ : ∃ K, K = getK l := ⟨_, rfl⟩
  obtain ⟨E, hE⟩ : ∃ E, E = getE l := ⟨_, rfl⟩
  obtain ⟨G, hG⟩ : ∃ G, G = getN l := ⟨_, rfl⟩
  have HV := Lib.hid hV
  have HK := Lib.hid hK
  have HE := Lib.hid hE
  have HG := Lib.hid hG
  rw [← hV] at HM
  have HM := HM
  clear hM hV hK hE hG
  have HGET : Hid (∀ (q : Option Addr) (d : Nat) (w' : World), n ≤ d → Lies w' q l → Rem w' → Calls Tryd.prog 20 #[.slice q n d] w' fun e w2 => Below w'.heap.size w' w2 ∧ ∃ q2 c2, e = .returned (.tuple #[.agg #[.int .i64 K, .slice q2 M c2], .int .i64 (G : Int), .int .i64 (E : Int)]) ∧ Own w'.heap.size w2 V (.slice q2 M c2)) := show _ from fun q d w' hd hq hr => by
    refine (get_any l n q d w' HN.out (by omega) hd hq hr).mono ?_
    rintro e w2 ⟨b2, v, rfl, ho⟩
    rw [← HV.out] at ho
    obtain ⟨q2, c2, rfl, -, -, -⟩ := ho.slN HM.out
    exact ⟨b2, q2, c2, by rw [HK.out, HG.out, HE.out], ho⟩
  have HREF : Hid (∀ (w' : World), Lies w' p l → Calls Tryd.prog 21 #[.slice p n c] w' fun e w2 => Below w'.heap.size w' w2 ∧ ∃ q2 c2, e = .returned (.tuple #[.agg #[.int .i64 K, .slice q2 M c2], .int .i64 (G : Int), .int .i64 (E : Int)]) ∧ Own w'.heap.size w2 V (.slice q2 M c2)) := show _ from fun w' hq => by
    refine (refGet9_any l n p c w' HN.out (by omega) hc hq).mono ?_
    rintro e w2 ⟨b2, v, rfl, ho⟩
    rw [← HV.out] at ho
    obtain ⟨q2, c2, rfl, -, -, -⟩ := ho.slN HM.out
    exact ⟨b2, q2, c2, by rw [HK.out, HG.out, HE.out], ho⟩
  clear HV HK HE HG
  go_enter Tryd.func4, Tryd.ntmps4
  go_wp2_with fail
  refine (lent_bigN l n p c w HN.out (by omega) HL.out).mono ?_
  rintro e w1 ⟨v1, rfl, h1, b1⟩
  obtain ⟨q1, c1, rfl, hc1', -, l1⟩ := h1.slN HLN.out
  have HL1 := Lib.hid l1
  have HP1 : Hid (Lies w1 q1 l) := show Lies _ _ _ by have := lies_takeF l1 n; rwa [HTK.out] at this
  have HB1 := Lib.hid b1
  have z1 : (n : Int) ≤ (c1 : Int) := by omega
  have hnc1 : n ≤ c1 := by omega
  have HC1 := Lib.hid hc1'
  have s01 := b1.size
  clear h1 b1 l1 hc1'
  go_wp2_with fail
  refine (HGET.out q1 c1 w1 hnc1 HP1.out (HR.out.on HB1.out)).mono ?_
  rintro e w2 ⟨b2, q2, c2, rfl, h2⟩
  have HB2 := Lib.hid b2
  have HO2 := Lib.hid h2
  clear b2 h2
  go_wp2_with fail
  refine calls_gen (fun w' => Below w2.heap.size w2 w' ∧ FrC w' w2.heap.size (.int .i64 K) (.slice q2 M c2) ∧ w2.heap.size < w'.heap.size) ⟨(Below.refl _ _).alloc (Nat.le_refl _) _, heap_new_at rfl, by rw [size_alloc]; omega⟩ ?_
  rintro w3 ⟨b3, hF3, hz3⟩
  have HB3 : Hid (Below w1.heap.size w1 w3) := show Below _ _ _ from HB2.out.trans (b3.mono HB2.out.size)
  have HF3 := Lib.hid hF3
  have HO3 := Lib.hid (HO2.out.below b3)
  have s12 := HB2.out.size
  clear b3 hF3
  refine (HREF.out w3 (HL.out.below (HB1.out.trans (HB3.out.mono s01)))).mono ?_
  rintro e w4 ⟨b4, q4, c4, rfl, h4⟩
  have HB4 := Lib.hid b4
  have HO4 := Lib.hid h4
  have s34 := b4.size
  clear b4 h4
  go_wp2_with fail
  refine calls_gen (fun w' => Below w4.heap.size w4 w' ∧ FrC w' w4.heap.size (.int .i64 K) (.slice q4 M c4)) ⟨(Below.refl _ _).alloc (Nat.le_refl _) _, heap_new_at rfl⟩ ?_
  rintro w5 ⟨b5, hF5⟩
  have HB35 : Hid (Below w3.heap.size w3 w5) := show Below _ _ _ from HB4.out.trans (b5.mono HB4.out.size)
  have HB15 : Hid (Below w1.heap.size w1 w5) := show Below _ _ _ from HB3.out.trans (HB35.out.mono HB3.out.size)
  have HF5 := Lib.hid hF5
  have HO35 := Lib.hid (HO3.out.below HB35.out)
  have HF35 := Lib.hid (HF3.out.on HB35.out)
  have HO45 := Lib.hid (HO4.out.below b5)
  have s45 := b5.size
  have s13 := HB3.out.size
  clear b5 hF5
  refine (scan_any l n q1 c1 w5 fs r HN.out hnc1 (by omega) (HP1.out.below HB15.out) (HR.out.on (HB1.out.trans (HB15.out.mono s01))) HS.out).mono ?_
  rintro e w6 ⟨hv6, vs6, rfl, hl6, b6⟩
  obtain ⟨qa, ca, rfl, -⟩ := hl6.sl9 (n := fs.length) rfl
  have HL6 := Lib.hid hl6
  have HB6 := Lib.hid b6
  have s56 := b6.size
  clear hl6 b6
  rw [HSS.out]
  go_wp2_with fail
  refine (scan_any l n q1 c1 w6 fs r HN.out hnc1 (by omega) (HP1.out.below (HB15.out.trans (HB6.out.mono HB15.out.size))) (HR.out.on (HB1.out.trans ((HB15.out.trans (HB6.out.mono HB15.out.size)).mono s01))) HS.out).mono ?_
  rintro e w7 ⟨hv7, vs7, rfl, hl7, b7⟩
  obtain ⟨qb, cb, rfl, -⟩ := hl7.sl9 (n := fs.length) rfl
  have HL7 := Lib.hid hl7
  have HB7 := Lib.hid b7
  have s67 := b7.size
  clear hl7 b7
  rw [HSS.out]
  go_wp2_with fail
  have HB57 : Hid (Below w5.heap.size w5 w7) := show Below _ _ _ from HB6.out.trans (HB7.out.mono s56)
  refine (refScan9_any l n p c w7 fs r HN.out hc (by omega) HP.out (HL.out.below (HB1.out.trans ((HB15.out.trans (HB57.out.mono HB15.out.size)).mono s01))) HS.out).mono ?_
  rintro e w8 ⟨hv8, vs8, rfl, hl8, b8⟩
  obtain ⟨qc, cc, rfl, -⟩ := hl8.sl9 (n := fs.length) rfl
  have HL8 := Lib.hid hl8
  have HB8 := Lib.hid b8
  have s78 := b8.size
  clear hl8 b8
  rw [HSS.out]
  have HB58 : Hid (Below w5.heap.size w5 w8) := show Below _ _ _ from HB57.out.trans (HB8.out.mono HB57.out.size)
  obtain ⟨f40, f41, -⟩ := (HF35.out.on HB58.out).cells
  obtain ⟨f70, f71, -⟩ := (HF5.out.on HB58.out).cells
  have HO38 := Lib.hid (HO35.out.below HB58.out)
  have HO48 := Lib.hid (HO45.out.below HB58.out)
  have HL68 := Lib.hid ((HL6.out.below HB7.out).below HB8.out)
  have HL78 := Lib.hid (HL7.out.below HB8.out)
  have HB18 : Hid (Below w1.heap.size w1 w8) := show Below _ _ _ from HB15.out.trans (HB58.out.mono HB15.out.size)
  obtain ⟨_, _, e3, -, -, l38⟩ := HO38.out.slN HM.out
  obtain ⟨_, _, e4, -, -, l48⟩ := HO48.out.slN HM.out
  cases e3
  cases e4
  have HSB := Lib.hid (same_big V M q2 q4 c2 c4 w8 HM.out (by omega) l38 l48)
  clear l38 l48
  go_wp2_with fail
  refine HSB.out.mono ?_
  rintro e w9 ⟨rfl, b9⟩
  have HB59 : Hid (Below w5.heap.size w5 w9) := show Below _ _ _ from HB58.out.trans (b9.mono HB58.out.size)
  have HB19 : Hid (Below w1.heap.size w1 w9) := show Below _ _ _ from HB18.out.trans (b9.mono HB18.out.size)
  have HO39 := Lib.hid (HO38.out.below b9)
  have HL69 := Lib.hid (HL68.out.below b9)
  have HL79 := Lib.hid (HL78.out.below b9)
  have HL89 := Lib.hid (HL8.out.below b9)
  clear b9 f40 f41 f70 f71 HSB
  go_wp2_with fail
  refine (sameFrames_any fs vs6 vs8 _ _ _ _ w9 hfl HFB.out HL69.out HL89.out).mono ?_
  rintro e w10 ⟨rfl, b10⟩
  have HB510 : Hid (Below w5.heap.size w5 w10) := show Below _ _ _ from HB59.out.trans (b10.mono HB59.out.size)
  have HB110 : Hid (Below w1.heap.size w1 w10) := show Below _ _ _ from HB19.out.trans (b10.mono HB19.out.size)
  have HO310 := Lib.hid (HO39.out.below b10)
  have HL610 := Lib.hid (HL69.out.below b10)
  have HL710 := Lib.hid (HL79.out.below b10)
  have HL810 := Lib.hid (HL89.out.below b10)
  obtain ⟨f40, f41, -⟩ := (HF35.out.on HB510.out).cells
  have hob : ∀ g, (Value.slice q2 M c2).ownBlock = some g → w1.heap.size ≤ g ∧ g < w2.heap.size := HO2.out.ownLt
  have HOB := Lib.hid hob
  clear b10 hob
  go_wp2_with fail
  refine (spoil_big V w1.heap.size M c2 q2 w10 HM.out (by omega) HO310.out).mono ?_
  rintro e w11 ⟨rfl, g11⟩
  have HB111 : Hid (Below w1.heap.size w1 w11) := show Below _ _ _ from below_over HB110.out g11 (fun g e => (HOB.out g e).1)
  have HL611 := Lib.hid (HL610.out.over g11 (fun g e => by have := (HOB.out g e).2; omega))
  have HL711 := Lib.hid (HL710.out.over g11 (fun g e => by have := (HOB.out g e).2; omega))
  have HL811 := Lib.hid (HL810.out.over g11 (fun g e => by have := (HOB.out g e).2; omega))
  clear g11 f40 f41
  go_wp2_with fail
  refine (spoilDeep_any fs vs6 _ _ w11 hfl HFB.out HL611.out).mono ?_
  rintro e w12 ⟨rfl, s12'⟩
  have hF : ∀ k, ((Value.slice qa fs.length ca).ownBlock = some k ∨ ∃ (j : Nat) (v : Value), vs6[j]? = some v ∧ v.ownBlock = some k) → w5.heap.size ≤ k ∧ k < w6.heap.size := fun k h => by
    rcases h with h | ⟨j, v, h1, h2⟩
    · exact World.ownsRow.lt HL6.out.rows k h
    · exact HL6.out.lt h1 h2
  have HB112 : Hid (Below w1.heap.size w1 w12) := show Below _ _ _ from below_stays9 HB111.out s12' (fun k h => by have := (hF k h).1; omega)
  have HL712 := Lib.hid (HL711.out.keep s12' (fun k h1 _ h => by have := (hF k h).2; omega))
  have HL812 := Lib.hid (HL811.out.keep s12' (fun k h1 _ h => by have := (hF k h).2; omega))
  clear s12' hF
  go_wp2_with fail
  refine (sameFrames_any fs vs7 vs8 _ _ _ _ w12 hfl HFB.out HL712.out HL812.out).mono ?_
  rintro e w13 ⟨rfl, b13⟩
  have HB113 : Hid (Below w1.heap.size w1 w13) := show Below _ _ _ from HB112.out.trans (b13.mono HB112.out.size)
  have HW13 : Hid (Below w.heap.size w w13) := show Below _ _ _ from HB1.out.trans (HB113.out.mono s01)
  clear b13
  go_wp2_with fail
  refine (kept_big l n (n + 5) q1 p c1 c w13 HN.out (Nat.le_refl _) (Nat.le_refl _) (by omega) HC1.out (HL1.out.below HB113.out) (HL.out.below HW13.out)).mono ?_
  rintro e w14 ⟨rfl, b14⟩
  have HW14 : Hid (Below w.heap.size w w14) := show Below _ _ _ from HW13.out.trans (b14.mono HW13.out.size)
  clear b14
  go_wp2_with fail
  refine (works9_any w14 (HR.out.on HW14.out)).mono ?_
  rintro e w15 ⟨rfl, b15⟩
  have HW15 : Hid (Below w.heap.size w w15) := show Below _ _ _ from HW14.out.trans (b15.mono HW14.out.size)
  clear b15
  go_wp2_with fail
  go_ret
  exact ⟨rfl, HW15.out⟩
end Go.Proofs.YtejekgceompjpaaDoor

/-
  FrameKnown: the chapter's examples; kinds and lengths about their ends; each bit of a frame turned.
-/
namespace Go.Proofs.YtejekgceompjpaaDoor
open Go.RowKit Go.Proofs.ShaWords
def nsZ : List Int := [-9223372036854775808, -1, 0, 1, 2, 255, 256, 257, 9223372036854775807]
def msN : List Nat := [0, 1, 2, 255, 256, 2038, 2039, 2040]
theorem msN_le : ∀ k, msN.getD k 0 ≤ 2040 := fun k => by
  match k with
  | 0 => decide
  | 1 => decide
  | 2 => decide
  | 3 => decide
  | 4 => decide
  | 5 => decide
  | 6 => decide
  | 7 => decide
  | k + 8 => simp [msN, List.getD]
section
variable {ρ : Operand → Value} {o : Oper} {x y : Operand}
theorem run_ixN9 {g i n : Nat} (ho : o.op = .indexAddr 47 x y) (hx : ρ x = .slice (some ⟨g, 0, none⟩) n n) (hy : ρ y = .int .i64 (i : Int)) (hi : i < n) (w : World) : (execOp ρ o).run Tryd.prog w = .ok (.value (.pointer (some ⟨g, i, none⟩))) w := by
  obtain ⟨dst, op, ty', pos, after, guard⟩ := o
  simp only at ho
  subst ho
  have q : (i : Int) < (n : Int) := by omega
  go_simp
theorem run_two10 (ho : o.op = .buildSlice 22 2 #[(0, .const (.int .u8 1)), (1, .const (.int .u8 0))]) (h1 : ρ (.const (.int .u8 1)) = .int .u8 1) (h0 : ρ (.const (.int .u8 0)) = .int .u8 0) (w : World) :
    (execOp ρ o).run Tryd.prog w = .ok (.value (.slice (some ⟨w.heap.size, 0, none⟩) 2 2)) (w.alloc (.cells #[.int .u8 1, .int .u8 0] 5)) := by
  obtain ⟨dst, op, ty', pos, after, guard⟩ := o
  simp only at ho
  subst ho
  go_simp
end
section
variable {P : Program} {ops : Array Oper} {Q : Exit → Act → World → Prop} {i : Nat} {o : Oper} {d : Option Tmp} {a : Act} {w : World} {K : Act → World → Prop}
theorem at_enter9 {f : FuncId} {args : Array Value} {R : Ending → World → Prop} (ho : ops[i]? = some o) (hd : o.dst = d) (hw : Region.wanted o (yielded ops a.tmps) = true) (hr : (execOp a.eval o).run P w = .ok (.enter f args) w) (hc : Calls P f args w R)
    (h : ∀ e w', R e w' → ∃ v, e = .returned v ∧ K (a.put d v) w') : wpOp P ops Q i K a w := by
  refine at_wp ho hw ?_
  unfold Oper.wp
  rw [hr, Oper.upon_enter]
  refine hc.mono ?_
  rintro e w' hR
  obtain ⟨v, rfl, h⟩ := h e w' hR
  rw [hd]
  exact h
theorem wpList_wp9 {rest : List Oper} (hw : Region.wanted o (yielded ops a.tmps) = true) (h : o.wp P a w (wpList P ops Q rest) Q) : wpList P ops Q (o :: rest) a w := by
  unfold wpList
  rw [if_pos hw]
  exact .inl h
theorem wanted_guard9 {j : Nat} {dj : Tmp} {oj : Oper} (hg : o.guard = some (j, false)) (hj : ops[j]? = some oj) (hd : oj.dst = some dj) (he : a.eval (.tmp dj) = .bool false) : Region.wanted o (yielded ops a.tmps) = true := by
  have h2 : a.tmps[dj]? = some (.bool false) := by
    have h3 : a.tmps.getD dj undef = .bool false := he
    rw [Array.getD_eq_getD_getElem?] at h3
    cases h4 : a.tmps[dj]? with
    | none => rw [h4] at h3; exact absurd h3 (by simp [undef])
    | some u => rw [h4] at h3; simp at h3; rw [h3]
  unfold Region.wanted
  rw [hg]
  simp only [yielded, hj, Option.bind_some, hd, h2]
  rfl
end
theorem Own.place {B n c : Nat} {w : World} {l : List (BitVec 8)} {q : Option Addr} (h : Own B w l (.slice q n c)) : 0 < c → ∃ b off, q = some ⟨b, off, none⟩ := fun hc => by
  rcases h.2 with ⟨h0, _⟩ | ⟨g, cap, cur, he, _⟩
  · cases h0; omega
  · cases he; exact ⟨g, 0, rfl⟩
theorem nil_sum : n32 (crcOf []) = 0 := by decide +kernel
attribute [local irreducible] crcOf
attribute [local go_sem] xor8 shl8_one
set_option maxRecDepth 100000 in
set_option maxHeartbeats 8000000 in
theorem frKnown_any (w : World) (hR : Rem w) : Calls Tryd.prog 10 #[] w fun e w' => e = .returned (.bool true) ∧ Below w.heap.size w w' := by
  have HR := Lib.hid hR
  clear hR
  go_enter Tryd.func10, Tryd.ntmps10
  go_upto_region 3 with (fail)
  refine wp_gen (fun A => A.heap[w.heap.size]? = some (.cells (nsZ.map fun n => Value.int .i64 n).toArray 3 (0, 0)) ∧ A.heap[w.heap.size + 1]? = some (.cells (msN.map fun (n : Nat) => Value.int .i64 (n : Int)).toArray 3 (0, 0)) ∧ Below w.heap.size w A) ?_ ?_
  · refine ⟨?_, heap_new_at (size_alloc _ _), ((Below.refl _ _).alloc (Nat.le_refl _) _).alloc (by rw [size_alloc]; omega) _⟩
    rw [Below.heap_alloc _ _ _ (by rw [size_alloc]; omega)]; exact heap_new_at rfl
  rintro w0 ⟨hns, hms, hb0⟩
  have HB0 := Lib.hid hb0
  have hlm : w.heap.size + 1 < w0.heap.size := (Array.getElem?_eq_some_iff.1 hms).1
  have HNS : Hid (∀ w', Below w0.heap.size w0 w' → ∀ i, i < 9 → w'.cell? ⟨w.heap.size, i, none⟩ = some (.int .i64 (nsZ.getD i 0))) := show _ from fun w' h i hi => by
    rw [h.cell (p := ⟨w.heap.size, i, none⟩) (by show w.heap.size < _; omega), cell_of_row w0 w.heap.size i _ _ (0, 0) hns]
    have hl : i < nsZ.length := hi
    simp [List.getD, hl]
  have HMS : Hid (∀ w', Below w0.heap.size w0 w' → ∀ i, i < 8 → w'.cell? ⟨w.heap.size + 1, i, none⟩ = some (.int .i64 ((msN.getD i 0 : Nat) : Int))) := show _ from fun w' h i hi => by
    rw [h.cell (p := ⟨w.heap.size + 1, i, none⟩) hlm, cell_of_row w0 (w.heap.size + 1) i _ _ (0, 0) hms]
    have hl : i < msN.length := hi
    simp [List.getD, hl]
  have hs0 := hb0.size
  clear hns hms hb0
  go_wp2_with fail
  go_loopw [3] (fun i w9 => ∃ j : Nat, j ≤ 9 ∧ i = .int .i64 (j : Int) ∧ Below w0.heap.size w0 w9) (fun i _ => 9 - (intOf i).toNat)
  case atStart => exact ⟨0, by omega, rfl, Below.refl _ _⟩
  case round =>
    obtain ⟨j, hj, rfl, hb⟩ := hrel
    have HBO := Lib.hid hb
    clear hb
    by_cases hlt : j < 9
    · have q1 : (j : Int) < 9 := by omega
      go_wp2_with fail
      go_loopw [4] (fun i w9 => ∃ k : Nat, k ≤ 8 ∧ i = .int .i64 (k : Int) ∧ Below w0.heap.size w0 w9) (fun i _ => 8 - (intOf i).toNat)
      case atStart => exact ⟨0, by omega, rfl, HBO.out⟩
      case round =>
        clear HBO
        obtain ⟨k, hk, rfl, hb⟩ := hrel
        have HB := Lib.hid hb
        clear hb
        by_cases hlt2 : k < 8
        · have q2' : (k : Int) < 8 := by omega
          have HZ : Hid (∀ w', Below w0.heap.size w0 w' → w'.cell? ⟨w.heap.size, j, none⟩ = some (.int .i64 (nsZ.getD j 0))) := show _ from fun w' h => HNS.out w' h j hlt
          have HM : Hid (∀ w', Below w0.heap.size w0 w' → w'.cell? ⟨w.heap.size + 1, k, none⟩ = some (.int .i64 ((msN.getD k 0 : Nat) : Int))) := show _ from fun w' h => HMS.out w' h k hlt2
          have hmk := msN_le k
          generalize nsZ.getD j 0 = z at HZ
          generalize msN.getD k 0 = mk at HM hmk
          have hm3 : mk + 3 < 1000000000 := by omega
          have HKL := Lib.hid (kitRow_length mk)
          go_upto_region 9 with (fail)
          have HD : Hid (Below w0.heap.size w0 wr.drew) := show Below _ _ _ from HB.out.trans ((Below.refl wr.heap.size wr).drew.mono HB.out.size)
          refine region_tree (fun w' => Below w0.heap.size w0 w') HD.out (.pure 0 (.pure 1 (.pure 2 (.pure 3 (.pure 4 (.pure 5 (.pure 6 (.pure 7 (.one 8 (.one 9 (.pure 10 (.pure 11 (.pure 12 (.pure 13 (.pure 14 (.pure 15 (.pure 16 (.pure 17 (.pure 18 (.pure 19 (.pure 22 (.pure 23 (.pure 24 (.pure 25 (.pure 26 (.two 20 21 (.one 21 (.one 27 (.pure 28 (.pure 29 .nil)))) (.one 20 (.one 27 (.pure 28 (.pure 29 .nil)))))))))))))))))))))))))))))) (by kernel_rfl) (by kernel_rfl) (by kernel_rfl) (fun ops hops A hA => ?_)
          have hsz : A.tmps.size = 128 := by rw [hA]; rfl
          have base1 : A.eval (.tmp 1) = .slice (some ⟨w.heap.size, 0, none⟩) 9 9 := by rw [hA]; rfl
          have base2 : A.eval (.tmp 2) = .slice (some ⟨w.heap.size + 1, 0, none⟩) 8 8 := by rw [hA]; rfl
          have base3 : A.eval (.tmp 3) = .int .i64 (j : Int) := by rw [hA]; rfl
          have base4 : A.eval (.tmp 4) = .int .i64 (k : Int) := by rw [hA]; rfl
          have HAA := Lib.hid hA; clear hA
          obtain ⟨o0, po0, q0, d0, gd0⟩ : ∃ o, ops[0]? = some o ∧ o.op = .move (.tmp 1) ∧ o.dst = some 23 ∧ o.guard = none := ⟨_, by rw [hops]; rfl, rfl, rfl, rfl⟩
          obtain ⟨o1, po1, q1, d1, gd1⟩ : ∃ o, ops[1]? = some o ∧ o.op = .move (.tmp 3) ∧ o.dst = some 24 ∧ o.guard = none := ⟨_, by rw [hops]; rfl, rfl, rfl, rfl⟩
          obtain ⟨o2, po2, q2, d2, gd2⟩ : ∃ o, ops[2]? = some o ∧ o.op = .indexAddr 47 (.tmp 23) (.tmp 24) ∧ o.dst = some 25 ∧ o.guard = none := ⟨_, by rw [hops]; rfl, rfl, rfl, rfl⟩
          obtain ⟨o3, po3, q3, d3, gd3⟩ : ∃ o, ops[3]? = some o ∧ o.op = .load 3 (.tmp 25) ∧ o.dst = some 26 ∧ o.guard = none := ⟨_, by rw [hops]; rfl, rfl, rfl, rfl⟩
          obtain ⟨o4, po4, q4, d4, gd4⟩ : ∃ o, ops[4]? = some o ∧ o.op = .move (.tmp 2) ∧ o.dst = some 27 ∧ o.guard = none := ⟨_, by rw [hops]; rfl, rfl, rfl, rfl⟩
          obtain ⟨o5, po5, q5, d5, gd5⟩ : ∃ o, ops[5]? = some o ∧ o.op = .move (.tmp 4) ∧ o.dst = some 28 ∧ o.guard = none := ⟨_, by rw [hops]; rfl, rfl, rfl, rfl⟩
          obtain ⟨o6, po6, q6, d6, gd6⟩ : ∃ o, ops[6]? = some o ∧ o.op = .indexAddr 47 (.tmp 27) (.tmp 28) ∧ o.dst = some 29 ∧ o.guard = none := ⟨_, by rw [hops]; rfl, rfl, rfl, rfl⟩
          obtain ⟨o7, po7, q7, d7, gd7⟩ : ∃ o, ops[7]? = some o ∧ o.op = .load 3 (.tmp 29) ∧ o.dst = some 30 ∧ o.guard = none := ⟨_, by rw [hops]; rfl, rfl, rfl, rfl⟩
          obtain ⟨o8, po8, q8, d8, gd8⟩ : ∃ o, ops[8]? = some o ∧ o.op = .call { callee := .value (.func 28), args := #[.tmp 30], argTypes := #[3] } ∧ o.dst = some 31 ∧ o.guard = none := ⟨_, by rw [hops]; rfl, rfl, rfl, rfl⟩
          obtain ⟨o9, po9, q9, d9, gd9⟩ : ∃ o, ops[9]? = some o ∧ o.op = .call { callee := .value (.func 3), args := #[.tmp 26, .tmp 31], argTypes := #[3, 22] } ∧ o.dst = some 32 ∧ o.guard = none := ⟨_, by rw [hops]; rfl, rfl, rfl, rfl⟩
          obtain ⟨o10, po10, q10, d10, gd10⟩ : ∃ o, ops[10]? = some o ∧ o.op = .unOp .not 4 (.tmp 32) ∧ o.dst = some 33 ∧ o.guard = none := ⟨_, by rw [hops]; rfl, rfl, rfl, rfl⟩
          obtain ⟨o11, po11, q11, d11, gd11⟩ : ∃ o, ops[11]? = some o ∧ o.op = .move (.tmp 33) ∧ o.dst = some 34 ∧ o.guard = none := ⟨_, by rw [hops]; rfl, rfl, rfl, rfl⟩
          obtain ⟨o12, po12, q12, d12, gd12⟩ : ∃ o, ops[12]? = some o ∧ o.op = .move (.tmp 1) ∧ o.dst = some 35 ∧ o.guard = some (11, false) := ⟨_, by rw [hops]; rfl, rfl, rfl, rfl⟩
          obtain ⟨o13, po13, q13, d13, gd13⟩ : ∃ o, ops[13]? = some o ∧ o.op = .move (.tmp 3) ∧ o.dst = some 36 ∧ o.guard = some (11, false) := ⟨_, by rw [hops]; rfl, rfl, rfl, rfl⟩
          obtain ⟨o14, po14, q14, d14, gd14⟩ : ∃ o, ops[14]? = some o ∧ o.op = .indexAddr 47 (.tmp 35) (.tmp 36) ∧ o.dst = some 37 ∧ o.guard = some (11, false) := ⟨_, by rw [hops]; rfl, rfl, rfl, rfl⟩
          obtain ⟨o15, po15, q15, d15, gd15⟩ : ∃ o, ops[15]? = some o ∧ o.op = .load 3 (.tmp 37) ∧ o.dst = some 38 ∧ o.guard = some (11, false) := ⟨_, by rw [hops]; rfl, rfl, rfl, rfl⟩
          obtain ⟨o16, po16, q16, d16, gd16⟩ : ∃ o, ops[16]? = some o ∧ o.op = .move (.tmp 2) ∧ o.dst = some 39 ∧ o.guard = some (11, false) := ⟨_, by rw [hops]; rfl, rfl, rfl, rfl⟩
          obtain ⟨o17, po17, q17, d17, gd17⟩ : ∃ o, ops[17]? = some o ∧ o.op = .move (.tmp 4) ∧ o.dst = some 40 ∧ o.guard = some (11, false) := ⟨_, by rw [hops]; rfl, rfl, rfl, rfl⟩
          obtain ⟨o18, po18, q18, d18, gd18⟩ : ∃ o, ops[18]? = some o ∧ o.op = .indexAddr 47 (.tmp 39) (.tmp 40) ∧ o.dst = some 41 ∧ o.guard = some (11, false) := ⟨_, by rw [hops]; rfl, rfl, rfl, rfl⟩
          obtain ⟨o19, po19, q19, d19, gd19⟩ : ∃ o, ops[19]? = some o ∧ o.op = .load 3 (.tmp 41) ∧ o.dst = some 42 ∧ o.guard = some (11, false) := ⟨_, by rw [hops]; rfl, rfl, rfl, rfl⟩
          obtain ⟨o20, po20, q20, d20, gd20⟩ : ∃ o, ops[20]? = some o ∧ o.op = .call { callee := .value (.func 28), args := #[.tmp 42], argTypes := #[3] } ∧ o.dst = some 43 ∧ o.guard = some (11, false) := ⟨_, by rw [hops]; rfl, rfl, rfl, rfl⟩
          obtain ⟨o21, po21, q21, d21, gd21⟩ : ∃ o, ops[21]? = some o ∧ o.op = .buildSlice 22 2 #[(0, (.const (.int .u8 1))), (1, (.const (.int .u8 0)))] ∧ o.dst = some 44 ∧ o.guard = some (11, false) := ⟨_, by rw [hops]; rfl, rfl, rfl, rfl⟩
          obtain ⟨o22, po22, q22, d22, gd22⟩ : ∃ o, ops[22]? = some o ∧ o.op = .move (.tmp 2) ∧ o.dst = some 45 ∧ o.guard = some (11, false) := ⟨_, by rw [hops]; rfl, rfl, rfl, rfl⟩
          obtain ⟨o23, po23, q23, d23, gd23⟩ : ∃ o, ops[23]? = some o ∧ o.op = .move (.tmp 4) ∧ o.dst = some 46 ∧ o.guard = some (11, false) := ⟨_, by rw [hops]; rfl, rfl, rfl, rfl⟩
          obtain ⟨o24, po24, q24, d24, gd24⟩ : ∃ o, ops[24]? = some o ∧ o.op = .indexAddr 47 (.tmp 45) (.tmp 46) ∧ o.dst = some 47 ∧ o.guard = some (11, false) := ⟨_, by rw [hops]; rfl, rfl, rfl, rfl⟩
          obtain ⟨o25, po25, q25, d25, gd25⟩ : ∃ o, ops[25]? = some o ∧ o.op = .load 3 (.tmp 47) ∧ o.dst = some 48 ∧ o.guard = some (11, false) := ⟨_, by rw [hops]; rfl, rfl, rfl, rfl⟩
          obtain ⟨o26, po26, q26, d26, gd26⟩ : ∃ o, ops[26]? = some o ∧ o.op = .binOp .add 3 (.tmp 48) (.const (.int .i64 3)) 3 ∧ o.dst = some 49 ∧ o.guard = some (11, false) := ⟨_, by rw [hops]; rfl, rfl, rfl, rfl⟩
          obtain ⟨o27, po27, q27, d27, gd27⟩ : ∃ o, ops[27]? = some o ∧ o.op = .call { callee := .value (.func 5), args := #[.tmp 38, .tmp 43, .tmp 44, .tmp 49], argTypes := #[3, 22, 22, 3] } ∧ o.dst = some 50 ∧ o.guard = some (11, false) := ⟨_, by rw [hops]; rfl, rfl, rfl, rfl⟩
          obtain ⟨o28, po28, q28, d28, gd28⟩ : ∃ o, ops[28]? = some o ∧ o.op = .unOp .not 4 (.tmp 50) ∧ o.dst = some 51 ∧ o.guard = some (11, false) := ⟨_, by rw [hops]; rfl, rfl, rfl, rfl⟩
          obtain ⟨o29, po29, q29, d29, gd29⟩ : ∃ o, ops[29]? = some o ∧ o.op = .pick (.tmp 34) (.const (.bool true)) (.tmp 51) ∧ o.dst = some 52 ∧ o.guard = none := ⟨_, by rw [hops]; rfl, rfl, rfl, rfl⟩
          clear hops
          refine Tr.takes po0 d0 (wanted_of gd0) (fun w' h' => run_move q0 base1 w') ?_
          refine Tr.takes po1 d1 (wanted_of gd1) (fun w' h' => run_move q1 ((eval_other _ 23 3 _ (by decide)).trans base3) w') ?_
          refine Tr.takes po2 d2 (wanted_of gd2) (fun w' h' => run_ixN9 q2 ((eval_other _ 24 23 _ (by decide)).trans (eval_same _ _ _ (by rw [hsz]; decide))) (eval_same _ _ _ (by simp only [put_size, hsz]; decide)) hlt w') ?_
          refine Tr.takes po3 d3 (wanted_of gd3) (fun w' h' => run_loadKind q3 (eval_same _ _ _ (by simp only [put_size, hsz]; decide)) (HZ.out _ h')) ?_
          refine Tr.takes po4 d4 (wanted_of gd4) (fun w' h' => run_move q4 ((eval_other _ 26 2 _ (by decide)).trans ((eval_other _ 25 2 _ (by decide)).trans ((eval_other _ 24 2 _ (by decide)).trans ((eval_other _ 23 2 _ (by decide)).trans base2)))) w') ?_
          refine Tr.takes po5 d5 (wanted_of gd5) (fun w' h' => run_move q5 ((eval_other _ 27 4 _ (by decide)).trans ((eval_other _ 26 4 _ (by decide)).trans ((eval_other _ 25 4 _ (by decide)).trans ((eval_other _ 24 4 _ (by decide)).trans ((eval_other _ 23 4 _ (by decide)).trans base4))))) w') ?_
          refine Tr.takes po6 d6 (wanted_of gd6) (fun w' h' => run_ixN9 q6 ((eval_other _ 28 27 _ (by decide)).trans (eval_same _ _ _ (by simp only [put_size, hsz]; decide))) (eval_same _ _ _ (by simp only [put_size, hsz]; decide)) hlt2 w') ?_
          refine Tr.takes po7 d7 (wanted_of gd7) (fun w' h' => run_loadKind q7 (eval_same _ _ _ (by simp only [put_size, hsz]; decide)) (HM.out _ h')) ?_
          refine at_enter9 po8 d8 (wanted_of gd8) (run_callf1 q8 rfl (eval_same _ _ _ (by simp only [put_size, hsz]; decide)) Tryd.func28 (by kernel_rfl) _) (kitRow_any mk _ (by omega)) ?_
          rintro e w1 ⟨v1, rfl, ho1, b1⟩
          obtain ⟨qr, cr, rfl, -, -, lr⟩ := ho1.slN HKL.out
          have HLR := Lib.hid lr
          have HB1 : Hid (Below w0.heap.size w0 w1) := show Below _ _ _ from HD.out.trans (b1.mono HD.out.size)
          clear ho1 b1 lr
          refine ⟨_, rfl, HB1.out, ?_⟩
          refine at_enter9 po9 d9 (wanted_of gd9) (run_callf2 q9 rfl ((eval_other _ 31 26 _ (by decide)).trans ((eval_other _ 30 26 _ (by decide)).trans ((eval_other _ 29 26 _ (by decide)).trans ((eval_other _ 28 26 _ (by decide)).trans ((eval_other _ 27 26 _ (by decide)).trans (eval_same _ _ _ (by simp only [put_size, hsz]; decide))))))) (eval_same _ _ _ (by simp only [put_size, hsz]; decide)) Tryd.func3 (by kernel_rfl) _) (frPuts_any z (kitRow mk) mk qr cr _ HKL.out HLR.out (HR.out.on (HB0.out.trans (HB1.out.mono hs0)))) ?_
          rintro e w2 ⟨rfl, b2⟩
          have HB2 : Hid (Below w0.heap.size w0 w2) := show Below _ _ _ from HB1.out.trans (b2.mono HB1.out.size)
          clear b2
          refine ⟨_, rfl, HB2.out, ?_⟩
          refine Tr.takes po10 d10 (wanted_of gd10) (fun w' h' => r_not q10 (eval_same _ _ _ (by simp only [put_size, hsz]; decide)) w') ?_
          refine Tr.takes po11 d11 (wanted_of gd11) (fun w' h' => run_move q11 (eval_same _ _ _ (by simp only [put_size, hsz]; decide)) w') ?_
          refine Tr.takes po12 d12 (wanted_guard9 gd12 po11 d11 (eval_same _ _ _ (by simp only [put_size, hsz]; decide))) (fun w' h' => run_move q12 ((eval_other _ 34 1 _ (by decide)).trans ((eval_other _ 33 1 _ (by decide)).trans ((eval_other _ 32 1 _ (by decide)).trans ((eval_other _ 31 1 _ (by decide)).trans ((eval_other _ 30 1 _ (by decide)).trans ((eval_other _ 29 1 _ (by decide)).trans ((eval_other _ 28 1 _ (by decide)).trans ((eval_other _ 27 1 _ (by decide)).trans ((eval_other _ 26 1 _ (by decide)).trans ((eval_other _ 25 1 _ (by decide)).trans ((eval_other _ 24 1 _ (by decide)).trans ((eval_other _ 23 1 _ (by decide)).trans base1)))))))))))) w') ?_
          refine Tr.takes po13 d13 (wanted_guard9 gd13 po11 d11 ((eval_other _ 35 34 _ (by decide)).trans (eval_same _ _ _ (by simp only [put_size, hsz]; decide)))) (fun w' h' => run_move q13 ((eval_other _ 35 3 _ (by decide)).trans ((eval_other _ 34 3 _ (by decide)).trans ((eval_other _ 33 3 _ (by decide)).trans ((eval_other _ 32 3 _ (by decide)).trans ((eval_other _ 31 3 _ (by decide)).trans ((eval_other _ 30 3 _ (by decide)).trans ((eval_other _ 29 3 _ (by decide)).trans ((eval_other _ 28 3 _ (by decide)).trans ((eval_other _ 27 3 _ (by decide)).trans ((eval_other _ 26 3 _ (by decide)).trans ((eval_other _ 25 3 _ (by decide)).trans ((eval_other _ 24 3 _ (by decide)).trans ((eval_other _ 23 3 _ (by decide)).trans base3))))))))))))) w') ?_
          refine Tr.takes po14 d14 (wanted_guard9 gd14 po11 d11 ((eval_other _ 36 34 _ (by decide)).trans ((eval_other _ 35 34 _ (by decide)).trans (eval_same _ _ _ (by simp only [put_size, hsz]; decide))))) (fun w' h' => run_ixN9 q14 ((eval_other _ 36 35 _ (by decide)).trans (eval_same _ _ _ (by simp only [put_size, hsz]; decide))) (eval_same _ _ _ (by simp only [put_size, hsz]; decide)) hlt w') ?_
          refine Tr.takes po15 d15 (wanted_guard9 gd15 po11 d11 ((eval_other _ 37 34 _ (by decide)).trans ((eval_other _ 36 34 _ (by decide)).trans ((eval_other _ 35 34 _ (by decide)).trans (eval_same _ _ _ (by simp only [put_size, hsz]; decide)))))) (fun w' h' => run_loadKind q15 (eval_same _ _ _ (by simp only [put_size, hsz]; decide)) (HZ.out _ h')) ?_
          refine Tr.takes po16 d16 (wanted_guard9 gd16 po11 d11 ((eval_other _ 38 34 _ (by decide)).trans ((eval_other _ 37 34 _ (by decide)).trans ((eval_other _ 36 34 _ (by decide)).trans ((eval_other _ 35 34 _ (by decide)).trans (eval_same _ _ _ (by simp only [put_size, hsz]; decide))))))) (fun w' h' => run_move q16 ((eval_other _ 38 2 _ (by decide)).trans ((eval_other _ 37 2 _ (by decide)).trans ((eval_other _ 36 2 _ (by decide)).trans ((eval_other _ 35 2 _ (by decide)).trans ((eval_other _ 34 2 _ (by decide)).trans ((eval_other _ 33 2 _ (by decide)).trans ((eval_other _ 32 2 _ (by decide)).trans ((eval_other _ 31 2 _ (by decide)).trans ((eval_other _ 30 2 _ (by decide)).trans ((eval_other _ 29 2 _ (by decide)).trans ((eval_other _ 28 2 _ (by decide)).trans ((eval_other _ 27 2 _ (by decide)).trans ((eval_other _ 26 2 _ (by decide)).trans ((eval_other _ 25 2 _ (by decide)).trans ((eval_other _ 24 2 _ (by decide)).trans ((eval_other _ 23 2 _ (by decide)).trans base2)))))))))))))))) w') ?_
          refine Tr.takes po17 d17 (wanted_guard9 gd17 po11 d11 ((eval_other _ 39 34 _ (by decide)).trans ((eval_other _ 38 34 _ (by decide)).trans ((eval_other _ 37 34 _ (by decide)).trans ((eval_other _ 36 34 _ (by decide)).trans ((eval_other _ 35 34 _ (by decide)).trans (eval_same _ _ _ (by simp only [put_size, hsz]; decide)))))))) (fun w' h' => run_move q17 ((eval_other _ 39 4 _ (by decide)).trans ((eval_other _ 38 4 _ (by decide)).trans ((eval_other _ 37 4 _ (by decide)).trans ((eval_other _ 36 4 _ (by decide)).trans ((eval_other _ 35 4 _ (by decide)).trans ((eval_other _ 34 4 _ (by decide)).trans ((eval_other _ 33 4 _ (by decide)).trans ((eval_other _ 32 4 _ (by decide)).trans ((eval_other _ 31 4 _ (by decide)).trans ((eval_other _ 30 4 _ (by decide)).trans ((eval_other _ 29 4 _ (by decide)).trans ((eval_other _ 28 4 _ (by decide)).trans ((eval_other _ 27 4 _ (by decide)).trans ((eval_other _ 26 4 _ (by decide)).trans ((eval_other _ 25 4 _ (by decide)).trans ((eval_other _ 24 4 _ (by decide)).trans ((eval_other _ 23 4 _ (by decide)).trans base4))))))))))))))))) w') ?_
          refine Tr.takes po18 d18 (wanted_guard9 gd18 po11 d11 ((eval_other _ 40 34 _ (by decide)).trans ((eval_other _ 39 34 _ (by decide)).trans ((eval_other _ 38 34 _ (by decide)).trans ((eval_other _ 37 34 _ (by decide)).trans ((eval_other _ 36 34 _ (by decide)).trans ((eval_other _ 35 34 _ (by decide)).trans (eval_same _ _ _ (by simp only [put_size, hsz]; decide))))))))) (fun w' h' => run_ixN9 q18 ((eval_other _ 40 39 _ (by decide)).trans (eval_same _ _ _ (by simp only [put_size, hsz]; decide))) (eval_same _ _ _ (by simp only [put_size, hsz]; decide)) hlt2 w') ?_
          refine Tr.takes po19 d19 (wanted_guard9 gd19 po11 d11 ((eval_other _ 41 34 _ (by decide)).trans ((eval_other _ 40 34 _ (by decide)).trans ((eval_other _ 39 34 _ (by decide)).trans ((eval_other _ 38 34 _ (by decide)).trans ((eval_other _ 37 34 _ (by decide)).trans ((eval_other _ 36 34 _ (by decide)).trans ((eval_other _ 35 34 _ (by decide)).trans (eval_same _ _ _ (by simp only [put_size, hsz]; decide)))))))))) (fun w' h' => run_loadKind q19 (eval_same _ _ _ (by simp only [put_size, hsz]; decide)) (HM.out _ h')) ?_
          refine Tr.takes po22 d22 (wanted_guard9 gd22 po11 d11 ((eval_other _ 42 34 _ (by decide)).trans ((eval_other _ 41 34 _ (by decide)).trans ((eval_other _ 40 34 _ (by decide)).trans ((eval_other _ 39 34 _ (by decide)).trans ((eval_other _ 38 34 _ (by decide)).trans ((eval_other _ 37 34 _ (by decide)).trans ((eval_other _ 36 34 _ (by decide)).trans ((eval_other _ 35 34 _ (by decide)).trans (eval_same _ _ _ (by simp only [put_size, hsz]; decide))))))))))) (fun w' h' => run_move q22 ((eval_other _ 42 2 _ (by decide)).trans ((eval_other _ 41 2 _ (by decide)).trans ((eval_other _ 40 2 _ (by decide)).trans ((eval_other _ 39 2 _ (by decide)).trans ((eval_other _ 38 2 _ (by decide)).trans ((eval_other _ 37 2 _ (by decide)).trans ((eval_other _ 36 2 _ (by decide)).trans ((eval_other _ 35 2 _ (by decide)).trans ((eval_other _ 34 2 _ (by decide)).trans ((eval_other _ 33 2 _ (by decide)).trans ((eval_other _ 32 2 _ (by decide)).trans ((eval_other _ 31 2 _ (by decide)).trans ((eval_other _ 30 2 _ (by decide)).trans ((eval_other _ 29 2 _ (by decide)).trans ((eval_other _ 28 2 _ (by decide)).trans ((eval_other _ 27 2 _ (by decide)).trans ((eval_other _ 26 2 _ (by decide)).trans ((eval_other _ 25 2 _ (by decide)).trans ((eval_other _ 24 2 _ (by decide)).trans ((eval_other _ 23 2 _ (by decide)).trans base2)))))))))))))))))))) w') ?_
          refine Tr.takes po23 d23 (wanted_guard9 gd23 po11 d11 ((eval_other _ 45 34 _ (by decide)).trans ((eval_other _ 42 34 _ (by decide)).trans ((eval_other _ 41 34 _ (by decide)).trans ((eval_other _ 40 34 _ (by decide)).trans ((eval_other _ 39 34 _ (by decide)).trans ((eval_other _ 38 34 _ (by decide)).trans ((eval_other _ 37 34 _ (by decide)).trans ((eval_other _ 36 34 _ (by decide)).trans ((eval_other _ 35 34 _ (by decide)).trans (eval_same _ _ _ (by simp only [put_size, hsz]; decide)))))))))))) (fun w' h' => run_move q23 ((eval_other _ 45 4 _ (by decide)).trans ((eval_other _ 42 4 _ (by decide)).trans ((eval_other _ 41 4 _ (by decide)).trans ((eval_other _ 40 4 _ (by decide)).trans ((eval_other _ 39 4 _ (by decide)).trans ((eval_other _ 38 4 _ (by decide)).trans ((eval_other _ 37 4 _ (by decide)).trans ((eval_other _ 36 4 _ (by decide)).trans ((eval_other _ 35 4 _ (by decide)).trans ((eval_other _ 34 4 _ (by decide)).trans ((eval_other _ 33 4 _ (by decide)).trans ((eval_other _ 32 4 _ (by decide)).trans ((eval_other _ 31 4 _ (by decide)).trans ((eval_other _ 30 4 _ (by decide)).trans ((eval_other _ 29 4 _ (by decide)).trans ((eval_other _ 28 4 _ (by decide)).trans ((eval_other _ 27 4 _ (by decide)).trans ((eval_other _ 26 4 _ (by decide)).trans ((eval_other _ 25 4 _ (by decide)).trans ((eval_other _ 24 4 _ (by decide)).trans ((eval_other _ 23 4 _ (by decide)).trans base4))))))))))))))))))))) w') ?_
          refine Tr.takes po24 d24 (wanted_guard9 gd24 po11 d11 ((eval_other _ 46 34 _ (by decide)).trans ((eval_other _ 45 34 _ (by decide)).trans ((eval_other _ 42 34 _ (by decide)).trans ((eval_other _ 41 34 _ (by decide)).trans ((eval_other _ 40 34 _ (by decide)).trans ((eval_other _ 39 34 _ (by decide)).trans ((eval_other _ 38 34 _ (by decide)).trans ((eval_other _ 37 34 _ (by decide)).trans ((eval_other _ 36 34 _ (by decide)).trans ((eval_other _ 35 34 _ (by decide)).trans (eval_same _ _ _ (by simp only [put_size, hsz]; decide))))))))))))) (fun w' h' => run_ixN9 q24 ((eval_other _ 46 45 _ (by decide)).trans (eval_same _ _ _ (by simp only [put_size, hsz]; decide))) (eval_same _ _ _ (by simp only [put_size, hsz]; decide)) hlt2 w') ?_
          refine Tr.takes po25 d25 (wanted_guard9 gd25 po11 d11 ((eval_other _ 47 34 _ (by decide)).trans ((eval_other _ 46 34 _ (by decide)).trans ((eval_other _ 45 34 _ (by decide)).trans ((eval_other _ 42 34 _ (by decide)).trans ((eval_other _ 41 34 _ (by decide)).trans ((eval_other _ 40 34 _ (by decide)).trans ((eval_other _ 39 34 _ (by decide)).trans ((eval_other _ 38 34 _ (by decide)).trans ((eval_other _ 37 34 _ (by decide)).trans ((eval_other _ 36 34 _ (by decide)).trans ((eval_other _ 35 34 _ (by decide)).trans (eval_same _ _ _ (by simp only [put_size, hsz]; decide)))))))))))))) (fun w' h' => run_loadKind q25 (eval_same _ _ _ (by simp only [put_size, hsz]; decide)) (HM.out _ h')) ?_
          refine Tr.takes po26 d26 (wanted_guard9 gd26 po11 d11 ((eval_other _ 48 34 _ (by decide)).trans ((eval_other _ 47 34 _ (by decide)).trans ((eval_other _ 46 34 _ (by decide)).trans ((eval_other _ 45 34 _ (by decide)).trans ((eval_other _ 42 34 _ (by decide)).trans ((eval_other _ 41 34 _ (by decide)).trans ((eval_other _ 40 34 _ (by decide)).trans ((eval_other _ 39 34 _ (by decide)).trans ((eval_other _ 38 34 _ (by decide)).trans ((eval_other _ 37 34 _ (by decide)).trans ((eval_other _ 36 34 _ (by decide)).trans ((eval_other _ 35 34 _ (by decide)).trans (eval_same _ _ _ (by simp only [put_size, hsz]; decide))))))))))))))) (fun w' h' => r_addD (C := 3) q26 rfl (eval_same _ _ _ (by simp only [put_size, hsz]; decide)) hm3 w') ?_
          refine ⟨?_, ?_⟩
          · skip
            refine at_enter9 po20 d20 (wanted_guard9 gd20 po11 d11 ((eval_other _ 49 34 _ (by decide)).trans ((eval_other _ 48 34 _ (by decide)).trans ((eval_other _ 47 34 _ (by decide)).trans ((eval_other _ 46 34 _ (by decide)).trans ((eval_other _ 45 34 _ (by decide)).trans ((eval_other _ 42 34 _ (by decide)).trans ((eval_other _ 41 34 _ (by decide)).trans ((eval_other _ 40 34 _ (by decide)).trans ((eval_other _ 39 34 _ (by decide)).trans ((eval_other _ 38 34 _ (by decide)).trans ((eval_other _ 37 34 _ (by decide)).trans ((eval_other _ 36 34 _ (by decide)).trans ((eval_other _ 35 34 _ (by decide)).trans (eval_same _ _ _ (by simp only [put_size, hsz]; decide)))))))))))))))) (run_callf1 q20 rfl ((eval_other _ 49 42 _ (by decide)).trans ((eval_other _ 48 42 _ (by decide)).trans ((eval_other _ 47 42 _ (by decide)).trans ((eval_other _ 46 42 _ (by decide)).trans ((eval_other _ 45 42 _ (by decide)).trans (eval_same _ _ _ (by simp only [put_size, hsz]; decide))))))) Tryd.func28 (by kernel_rfl) _) (kitRow_any mk _ (by omega)) ?_
            rintro e w4 ⟨v4, rfl, ho4, b4⟩
            obtain ⟨qs, cs, rfl, -, -, ls⟩ := ho4.slN HKL.out
            have HLS := Lib.hid ls
            have HB4 : Hid (Below w0.heap.size w0 w4) := show Below _ _ _ from HB2.out.trans (b4.mono HB2.out.size)
            have HB34 := Lib.hid b4
            clear ho4 b4 ls
            refine ⟨_, rfl, HB4.out, ?_⟩
            have hal : Below w4.heap.size w4 (w4.alloc (.cells #[.int .u8 1, .int .u8 0] 5)) := (Below.refl _ _).alloc (Nat.le_refl _) _
            have HL10 : Hid (Lies (w4.alloc (.cells #[.int .u8 1, .int .u8 0] 5)) (some ⟨w4.heap.size, 0, none⟩) [1#8, 0#8]) := show Lies _ _ _ from Or.inr ⟨_, 0, rfl, range_bytesV (l := [1#8, 0#8]) (heap_new_at rfl)⟩
            have HLS5 := Lib.hid (HLS.out.below hal)
            have HB5 : Hid (Below w0.heap.size w0 (w4.alloc (.cells #[.int .u8 1, .int .u8 0] 5))) := show Below _ _ _ from HB4.out.trans (hal.mono HB4.out.size)
            refine at_op po21 d21 (wanted_guard9 gd21 po11 d11 ((eval_other _ 43 34 _ (by decide)).trans ((eval_other _ 49 34 _ (by decide)).trans ((eval_other _ 48 34 _ (by decide)).trans ((eval_other _ 47 34 _ (by decide)).trans ((eval_other _ 46 34 _ (by decide)).trans ((eval_other _ 45 34 _ (by decide)).trans ((eval_other _ 42 34 _ (by decide)).trans ((eval_other _ 41 34 _ (by decide)).trans ((eval_other _ 40 34 _ (by decide)).trans ((eval_other _ 39 34 _ (by decide)).trans ((eval_other _ 38 34 _ (by decide)).trans ((eval_other _ 37 34 _ (by decide)).trans ((eval_other _ 36 34 _ (by decide)).trans ((eval_other _ 35 34 _ (by decide)).trans (eval_same _ _ _ (by simp only [put_size, hsz]; decide))))))))))))))))) (run_two10 q21 rfl rfl _) ⟨HB5.out, ?_⟩
            refine at_enter9 po27 d27 (wanted_guard9 gd27 po11 d11 ((eval_other _ 44 34 _ (by decide)).trans ((eval_other _ 43 34 _ (by decide)).trans ((eval_other _ 49 34 _ (by decide)).trans ((eval_other _ 48 34 _ (by decide)).trans ((eval_other _ 47 34 _ (by decide)).trans ((eval_other _ 46 34 _ (by decide)).trans ((eval_other _ 45 34 _ (by decide)).trans ((eval_other _ 42 34 _ (by decide)).trans ((eval_other _ 41 34 _ (by decide)).trans ((eval_other _ 40 34 _ (by decide)).trans ((eval_other _ 39 34 _ (by decide)).trans ((eval_other _ 38 34 _ (by decide)).trans ((eval_other _ 37 34 _ (by decide)).trans ((eval_other _ 36 34 _ (by decide)).trans ((eval_other _ 35 34 _ (by decide)).trans (eval_same _ _ _ (by simp only [put_size, hsz]; decide)))))))))))))))))) (run_callf4 q27 rfl ((eval_other _ 44 38 _ (by decide)).trans ((eval_other _ 43 38 _ (by decide)).trans ((eval_other _ 49 38 _ (by decide)).trans ((eval_other _ 48 38 _ (by decide)).trans ((eval_other _ 47 38 _ (by decide)).trans ((eval_other _ 46 38 _ (by decide)).trans ((eval_other _ 45 38 _ (by decide)).trans ((eval_other _ 42 38 _ (by decide)).trans ((eval_other _ 41 38 _ (by decide)).trans ((eval_other _ 40 38 _ (by decide)).trans ((eval_other _ 39 38 _ (by decide)).trans (eval_same _ _ _ (by simp only [put_size, hsz]; decide))))))))))))) ((eval_other _ 44 43 _ (by decide)).trans (eval_same _ _ _ (by simp only [put_size, hsz]; decide))) (eval_same _ _ _ (by simp only [put_size, hsz]; decide)) ((eval_other _ 44 49 _ (by decide)).trans ((eval_other _ 43 49 _ (by decide)).trans (eval_same _ _ _ (by simp only [put_size, hsz]; decide)))) Tryd.func5 (by kernel_rfl) _) (frBack_any z (kitRow mk) [1#8, 0#8] ((mk + 3 : Nat) : Int) mk 2 qs _ cs 2 _ HKL.out rfl HLS5.out HL10.out (HR.out.on (HB0.out.trans (HB5.out.mono hs0)))) ?_
            rintro e w9 ⟨rfl, b9⟩
            have HB9 : Hid (Below w0.heap.size w0 w9) := show Below _ _ _ from HB5.out.trans (b9.mono HB5.out.size)
            clear b9
            refine ⟨_, rfl, HB9.out, ?_⟩
            refine Tr.takes po28 d28 (wanted_guard9 gd28 po11 d11 ((eval_other _ 50 34 _ (by decide)).trans ((eval_other _ 44 34 _ (by decide)).trans ((eval_other _ 43 34 _ (by decide)).trans ((eval_other _ 49 34 _ (by decide)).trans ((eval_other _ 48 34 _ (by decide)).trans ((eval_other _ 47 34 _ (by decide)).trans ((eval_other _ 46 34 _ (by decide)).trans ((eval_other _ 45 34 _ (by decide)).trans ((eval_other _ 42 34 _ (by decide)).trans ((eval_other _ 41 34 _ (by decide)).trans ((eval_other _ 40 34 _ (by decide)).trans ((eval_other _ 39 34 _ (by decide)).trans ((eval_other _ 38 34 _ (by decide)).trans ((eval_other _ 37 34 _ (by decide)).trans ((eval_other _ 36 34 _ (by decide)).trans ((eval_other _ 35 34 _ (by decide)).trans (eval_same _ _ _ (by simp only [put_size, hsz]; decide))))))))))))))))))) (fun w' h' => r_not q28 (eval_same _ _ _ (by simp only [put_size, hsz]; decide)) w') ?_
            refine Tr.takes po29 d29 (wanted_of gd29) (fun w' h' => r_pickF q29 ((eval_other _ 51 34 _ (by decide)).trans ((eval_other _ 50 34 _ (by decide)).trans ((eval_other _ 44 34 _ (by decide)).trans ((eval_other _ 43 34 _ (by decide)).trans ((eval_other _ 49 34 _ (by decide)).trans ((eval_other _ 48 34 _ (by decide)).trans ((eval_other _ 47 34 _ (by decide)).trans ((eval_other _ 46 34 _ (by decide)).trans ((eval_other _ 45 34 _ (by decide)).trans ((eval_other _ 42 34 _ (by decide)).trans ((eval_other _ 41 34 _ (by decide)).trans ((eval_other _ 40 34 _ (by decide)).trans ((eval_other _ 39 34 _ (by decide)).trans ((eval_other _ 38 34 _ (by decide)).trans ((eval_other _ 37 34 _ (by decide)).trans ((eval_other _ 36 34 _ (by decide)).trans ((eval_other _ 35 34 _ (by decide)).trans (eval_same _ _ _ (by simp only [put_size, hsz]; decide))))))))))))))))))) (eval_same _ _ _ (by simp only [put_size, hsz]; decide)) w') ?_
            show NoPanic _ .normal _ _
            refine NoPanic.normal ?_
            rw [HAA.out]
            go_frame
            clear HAA
            clear po0 q0 d0 gd0 po1 q1 d1 gd1 po2 q2 d2 gd2 po3 q3 d3 gd3 po4 q4 d4 gd4 po5 q5 d5 gd5 po6 q6 d6 gd6 po7 q7 d7 gd7 po8 q8 d8 gd8 po9 q9 d9 gd9 po10 q10 d10 gd10 po11 q11 d11 gd11 po12 q12 d12 gd12 po13 q13 d13 gd13 po14 q14 d14 gd14 po15 q15 d15 gd15 po16 q16 d16 gd16 po17 q17 d17 gd17 po18 q18 d18 gd18 po19 q19 d19 gd19 po20 q20 d20 gd20 po21 q21 d21 gd21 po22 q22 d22 gd22 po23 q23 d23 gd23 po24 q24 d24 gd24 po25 q25 d25 gd25 po26 q26 d26 gd26 po27 q27 d27 gd27 po28 q28 d28 gd28 po29 q29 d29 gd29
            clear base1 base2 base3 base4 hsz
            go_wp2_with fail
            go_roundw
            case rel => exact ⟨k + 1, by omega, by go_num, HB9.out⟩
            case measure => simp [intOf]; omega
          · skip
            have hal : Below w2.heap.size w2 (w2.alloc (.cells #[.int .u8 1, .int .u8 0] 5)) := (Below.refl _ _).alloc (Nat.le_refl _) _
            have HL10 : Hid (Lies (w2.alloc (.cells #[.int .u8 1, .int .u8 0] 5)) (some ⟨w2.heap.size, 0, none⟩) [1#8, 0#8]) := show Lies _ _ _ from Or.inr ⟨_, 0, rfl, range_bytesV (l := [1#8, 0#8]) (heap_new_at rfl)⟩
            have HB3 : Hid (Below w0.heap.size w0 (w2.alloc (.cells #[.int .u8 1, .int .u8 0] 5))) := show Below _ _ _ from HB2.out.trans (hal.mono HB2.out.size)
            refine at_op po21 d21 (wanted_guard9 gd21 po11 d11 ((eval_other _ 49 34 _ (by decide)).trans ((eval_other _ 48 34 _ (by decide)).trans ((eval_other _ 47 34 _ (by decide)).trans ((eval_other _ 46 34 _ (by decide)).trans ((eval_other _ 45 34 _ (by decide)).trans ((eval_other _ 42 34 _ (by decide)).trans ((eval_other _ 41 34 _ (by decide)).trans ((eval_other _ 40 34 _ (by decide)).trans ((eval_other _ 39 34 _ (by decide)).trans ((eval_other _ 38 34 _ (by decide)).trans ((eval_other _ 37 34 _ (by decide)).trans ((eval_other _ 36 34 _ (by decide)).trans ((eval_other _ 35 34 _ (by decide)).trans (eval_same _ _ _ (by simp only [put_size, hsz]; decide)))))))))))))))) (run_two10 q21 rfl rfl _) ⟨HB3.out, ?_⟩
            refine at_enter9 po20 d20 (wanted_guard9 gd20 po11 d11 ((eval_other _ 44 34 _ (by decide)).trans ((eval_other _ 49 34 _ (by decide)).trans ((eval_other _ 48 34 _ (by decide)).trans ((eval_other _ 47 34 _ (by decide)).trans ((eval_other _ 46 34 _ (by decide)).trans ((eval_other _ 45 34 _ (by decide)).trans ((eval_other _ 42 34 _ (by decide)).trans ((eval_other _ 41 34 _ (by decide)).trans ((eval_other _ 40 34 _ (by decide)).trans ((eval_other _ 39 34 _ (by decide)).trans ((eval_other _ 38 34 _ (by decide)).trans ((eval_other _ 37 34 _ (by decide)).trans ((eval_other _ 36 34 _ (by decide)).trans ((eval_other _ 35 34 _ (by decide)).trans (eval_same _ _ _ (by simp only [put_size, hsz]; decide))))))))))))))))) (run_callf1 q20 rfl ((eval_other _ 44 42 _ (by decide)).trans ((eval_other _ 49 42 _ (by decide)).trans ((eval_other _ 48 42 _ (by decide)).trans ((eval_other _ 47 42 _ (by decide)).trans ((eval_other _ 46 42 _ (by decide)).trans ((eval_other _ 45 42 _ (by decide)).trans (eval_same _ _ _ (by simp only [put_size, hsz]; decide)))))))) Tryd.func28 (by kernel_rfl) _) (kitRow_any mk _ (by omega)) ?_
            rintro e w4 ⟨v4, rfl, ho4, b4⟩
            obtain ⟨qs, cs, rfl, -, -, ls⟩ := ho4.slN HKL.out
            have HLS := Lib.hid ls
            have HB4 : Hid (Below w0.heap.size w0 w4) := show Below _ _ _ from HB3.out.trans (b4.mono HB3.out.size)
            have HB34 := Lib.hid b4
            clear ho4 b4 ls
            refine ⟨_, rfl, HB4.out, ?_⟩
            have HB5 := HB4
            refine at_enter9 po27 d27 (wanted_guard9 gd27 po11 d11 ((eval_other _ 43 34 _ (by decide)).trans ((eval_other _ 44 34 _ (by decide)).trans ((eval_other _ 49 34 _ (by decide)).trans ((eval_other _ 48 34 _ (by decide)).trans ((eval_other _ 47 34 _ (by decide)).trans ((eval_other _ 46 34 _ (by decide)).trans ((eval_other _ 45 34 _ (by decide)).trans ((eval_other _ 42 34 _ (by decide)).trans ((eval_other _ 41 34 _ (by decide)).trans ((eval_other _ 40 34 _ (by decide)).trans ((eval_other _ 39 34 _ (by decide)).trans ((eval_other _ 38 34 _ (by decide)).trans ((eval_other _ 37 34 _ (by decide)).trans ((eval_other _ 36 34 _ (by decide)).trans ((eval_other _ 35 34 _ (by decide)).trans (eval_same _ _ _ (by simp only [put_size, hsz]; decide)))))))))))))))))) (run_callf4 q27 rfl ((eval_other _ 43 38 _ (by decide)).trans ((eval_other _ 44 38 _ (by decide)).trans ((eval_other _ 49 38 _ (by decide)).trans ((eval_other _ 48 38 _ (by decide)).trans ((eval_other _ 47 38 _ (by decide)).trans ((eval_other _ 46 38 _ (by decide)).trans ((eval_other _ 45 38 _ (by decide)).trans ((eval_other _ 42 38 _ (by decide)).trans ((eval_other _ 41 38 _ (by decide)).trans ((eval_other _ 40 38 _ (by decide)).trans ((eval_other _ 39 38 _ (by decide)).trans (eval_same _ _ _ (by simp only [put_size, hsz]; decide))))))))))))) (eval_same _ _ _ (by simp only [put_size, hsz]; decide)) ((eval_other _ 43 44 _ (by decide)).trans (eval_same _ _ _ (by simp only [put_size, hsz]; decide))) ((eval_other _ 43 49 _ (by decide)).trans ((eval_other _ 44 49 _ (by decide)).trans (eval_same _ _ _ (by simp only [put_size, hsz]; decide)))) Tryd.func5 (by kernel_rfl) _) (frBack_any z (kitRow mk) [1#8, 0#8] ((mk + 3 : Nat) : Int) mk 2 qs _ cs 2 _ HKL.out rfl HLS.out (HL10.out.below HB34.out) (HR.out.on (HB0.out.trans (HB5.out.mono hs0)))) ?_
            rintro e w9 ⟨rfl, b9⟩
            have HB9 : Hid (Below w0.heap.size w0 w9) := show Below _ _ _ from HB5.out.trans (b9.mono HB5.out.size)
            clear b9
            refine ⟨_, rfl, HB9.out, ?_⟩
            refine Tr.takes po28 d28 (wanted_guard9 gd28 po11 d11 ((eval_other _ 50 34 _ (by decide)).trans ((eval_other _ 43 34 _ (by decide)).trans ((eval_other _ 44 34 _ (by decide)).trans ((eval_other _ 49 34 _ (by decide)).trans ((eval_other _ 48 34 _ (by decide)).trans ((eval_other _ 47 34 _ (by decide)).trans ((eval_other _ 46 34 _ (by decide)).trans ((eval_other _ 45 34 _ (by decide)).trans ((eval_other _ 42 34 _ (by decide)).trans ((eval_other _ 41 34 _ (by decide)).trans ((eval_other _ 40 34 _ (by decide)).trans ((eval_other _ 39 34 _ (by decide)).trans ((eval_other _ 38 34 _ (by decide)).trans ((eval_other _ 37 34 _ (by decide)).trans ((eval_other _ 36 34 _ (by decide)).trans ((eval_other _ 35 34 _ (by decide)).trans (eval_same _ _ _ (by simp only [put_size, hsz]; decide))))))))))))))))))) (fun w' h' => r_not q28 (eval_same _ _ _ (by simp only [put_size, hsz]; decide)) w') ?_
            refine Tr.takes po29 d29 (wanted_of gd29) (fun w' h' => r_pickF q29 ((eval_other _ 51 34 _ (by decide)).trans ((eval_other _ 50 34 _ (by decide)).trans ((eval_other _ 43 34 _ (by decide)).trans ((eval_other _ 44 34 _ (by decide)).trans ((eval_other _ 49 34 _ (by decide)).trans ((eval_other _ 48 34 _ (by decide)).trans ((eval_other _ 47 34 _ (by decide)).trans ((eval_other _ 46 34 _ (by decide)).trans ((eval_other _ 45 34 _ (by decide)).trans ((eval_other _ 42 34 _ (by decide)).trans ((eval_other _ 41 34 _ (by decide)).trans ((eval_other _ 40 34 _ (by decide)).trans ((eval_other _ 39 34 _ (by decide)).trans ((eval_other _ 38 34 _ (by decide)).trans ((eval_other _ 37 34 _ (by decide)).trans ((eval_other _ 36 34 _ (by decide)).trans ((eval_other _ 35 34 _ (by decide)).trans (eval_same _ _ _ (by simp only [put_size, hsz]; decide))))))))))))))))))) (eval_same _ _ _ (by simp only [put_size, hsz]; decide)) w') ?_
            show NoPanic _ .normal _ _
            refine NoPanic.normal ?_
            rw [HAA.out]
            go_frame
            clear HAA
            clear po0 q0 d0 gd0 po1 q1 d1 gd1 po2 q2 d2 gd2 po3 q3 d3 gd3 po4 q4 d4 gd4 po5 q5 d5 gd5 po6 q6 d6 gd6 po7 q7 d7 gd7 po8 q8 d8 gd8 po9 q9 d9 gd9 po10 q10 d10 gd10 po11 q11 d11 gd11 po12 q12 d12 gd12 po13 q13 d13 gd13 po14 q14 d14 gd14 po15 q15 d15 gd15 po16 q16 d16 gd16 po17 q17 d17 gd17 po18 q18 d18 gd18 po19 q19 d19 gd19 po20 q20 d20 gd20 po21 q21 d21 gd21 po22 q22 d22 gd22 po23 q23 d23 gd23 po24 q24 d24 gd24 po25 q25 d25 gd25 po26 q26 d26 gd26 po27 q27 d27 gd27 po28 q28 d28 gd28 po29 q29 d29 gd29
            clear base1 base2 base3 base4 hsz
            go_wp2_with fail
            go_roundw
            case rel => exact ⟨k + 1, by omega, by go_num, HB9.out⟩
            case measure => simp [intOf]; omega
        · have q2' : ¬ (k : Int) < 8 := by omega
          go_wp2_with fail
          go_roundw
          case rel => exact ⟨j + 1, by omega, by go_num, HB.out⟩
          case measure => simp [intOf]; omega
    · have q1 : ¬ (j : Int) < 9 := by omega
      have hbw : Below w.heap.size w wr := HB0.out.trans (HBO.out.mono hs0)
      have HBW := Lib.hid hbw
      clear hbw
      have HKL := Lib.hid (kitRow_length 9)
      have HFL : Hid ((frameB 7#8 (kitRow 9)).length = 18) := show _ = _ by rw [frameB_length, HKL.out]
      have HPE := Lib.hid (putE_ok (z := 7) (l := kitRow 9) (by decide) (by decide) (by rw [HKL.out]; decide))
      go_wp2_with fail
      refine (show Calls Tryd.prog 28 #[.int .i64 9] wr _ from kitRow_any 9 wr (by decide)).mono ?_
      rintro e w1 ⟨v1, rfl, ho1, b1⟩
      obtain ⟨q1', c1', rfl, -, -, l1⟩ := ho1.slN HKL.out
      have HL1 := Lib.hid l1
      have HW1 : Hid (Below w.heap.size w w1) := show Below _ _ _ from HBW.out.trans (b1.mono HBW.out.size)
      clear ho1 b1 l1
      go_wp2_with fail
      refine (put_any 7 (kitRow 9) 9 q1' c1' w1 HKL.out (by decide) HL1.out (HR.out.on HW1.out)).mono ?_
      rintro e w2 ⟨b2, v2, rfl, ho2⟩
      rw [HPE.out.2, show kb 7 = 7#8 by decide] at ho2
      rw [HPE.out.1]
      have HW2 : Hid (Below w.heap.size w w2) := show Below _ _ _ from HW1.out.trans (b2.mono HW1.out.size)
      generalize frameB 7#8 (kitRow 9) = F at HFL ho2
      obtain ⟨gF, cF, rfl, -, hgF, hcF, -, -, -⟩ := ho2.form8 (by rw [HFL.out]; decide)
      rw [HFL.out] at hcF ⊢
      have hlF : Lies w2 (some ⟨gF, 0, none⟩) F := by
        obtain ⟨q, c, he, -, -, hl⟩ := ho2.slN HFL.out
        rw [HFL.out] at he
        cases he
        exact hl
      have HLF := Lib.hid hlF
      clear ho2 b2 hlF HPE HB0 HNS HMS HBO HBW HL1
      go_wp2_with fail
      go_loopw [7] (fun i w9 => ∃ k : Nat, k ≤ 144 ∧ i = .int .i64 (k : Int) ∧ Below w2.heap.size w2 w9) (fun i _ => 144 - (intOf i).toNat)
      case atStart => exact ⟨0, by omega, rfl, Below.refl _ _⟩
      case round =>
        obtain ⟨k, hk, rfl, hb⟩ := hrel
        have HB := Lib.hid hb
        have HWr : Hid (Below w.heap.size w wr) := show Below _ _ _ from HW2.out.trans (hb.mono HW2.out.size)
        have hLr : Lies wr (some ⟨gF, 0, none⟩) F := HLF.out.below hb
        have HLr := Lib.hid hLr
        clear hb hLr
        by_cases hlt3 : k < 144
        · have q3 : (k : Int) < 144 := by omega
          obtain ⟨J, hJ⟩ : ∃ J, J = k / 8 := ⟨_, rfl⟩
          obtain ⟨R, hRr⟩ : ∃ R, R = k % 8 := ⟨_, rfl⟩
          have t1 : (k : Int).tdiv 8 = (J : Int) := by rw [Int.tdiv_eq_ediv_of_nonneg (by omega)]; omega
          have t2 : (k : Int).tmod 8 = (R : Int) := by rw [Int.tmod_eq_emod_of_nonneg (by omega)]; omega
          have t3 : (k : Int) / 8 = (J : Int) := by omega
          have t4 : (k : Int) % 8 = (R : Int) := by omega
          have hJl : J < 18 := by omega
          have hR8 : R < 8 := by omega
          have qJ : (J : Int) < 18 := by omega
          have qR : ¬ (8 : Int) ≤ (R : Int) := by omega
          have hpw := shl8_one R
          go_wp2_with fail
          refine (copy_bigN F 18 _ cF wr HFL.out (by decide) HLr.out).mono ?_
          rintro e w3 ⟨v3, rfl, ho3, b3⟩
          have HW3 : Hid (Below w.heap.size w w3) := show Below _ _ _ from HWr.out.trans (b3.mono HWr.out.size)
          obtain ⟨gc, cc, rfl, hgc1, hgc2, hgc3, -, hcell, hfr⟩ := ho3.form8 (by rw [HFL.out]; decide)
          rw [HFL.out] at hgc3 ho3 ⊢
          have hcJ := hcell J (by rw [HFL.out]; exact hJl)
          have hfJ := hfr J
          have hput := ho3.put J (F.getD J 0#8 ^^^ 1#8 <<< R)
          have hC2L : (F.set J (F.getD J 0#8 ^^^ 1#8 <<< R)).length = 18 := by rw [List.length_set, HFL.out]
          generalize hX : F.set J (F.getD J 0#8 ^^^ 1#8 <<< R) = X at hput hC2L
          generalize F.getD J 0#8 = y at hcJ hput hX
          have HXL := Lib.hid hC2L
          have HBr3 := Lib.hid b3
          have HPUT := Lib.hid hput
          have hb4 : Below wr.heap.size wr (w3.setCell ⟨gc, J, none⟩ (.int .u8 (n8 (y ^^^ 1#8 <<< R)))) := b3.grown (grown_setCell w3 gc J _) b3.size (fun j e => by cases e; exact hgc1)
          have HB4 := Lib.hid hb4
          have HGC3 := Lib.hid hgc3
          clear ho3 b3 hcell hfr hput hC2L hX hb4 hJ hRr hgc2
          go_upto_region 17 with (fail)
          refine wp_gen (fun A => Own wr.heap.size A X (.slice (some ⟨gc, 0, none⟩) 18 cc) ∧ Below wr.heap.size wr A) ⟨HPUT.out, HB4.out⟩ ?_
          rintro w4 ⟨ho4, b4⟩
          have HO4 := Lib.hid ho4
          have HBr4 := Lib.hid b4
          have HW4 : Hid (Below w.heap.size w w4) := show Below _ _ _ from HWr.out.trans (b4.mono HWr.out.size)
          have hlX : Lies w4 (some ⟨gc, 0, none⟩) X := by
            obtain ⟨q, c, he, -, -, hl⟩ := ho4.slN HXL.out
            cases he
            exact hl
          have HLX := Lib.hid hlX
          clear ho4 b4 hlX hcJ hfJ HPUT HB4
          go_wp2_with fail
          refine (frGets_any X 18 _ cc w4 HXL.out HGC3.out (fun _ => ⟨gc, 0, rfl⟩) HLX.out (HR.out.on HW4.out)).mono ?_
          rintro e w5 ⟨rfl, b5⟩
          have HW5 : Hid (Below w.heap.size w w5) := show Below _ _ _ from HW4.out.trans (b5.mono HW4.out.size)
          have HBr5 : Hid (Below wr.heap.size wr w5) := show Below _ _ _ from HBr4.out.trans (b5.mono HBr4.out.size)
          have HO5 := Lib.hid (HO4.out.below b5)
          have hrF : w5.rangeAt gF 0 (bytesV F) := by
            rcases HLr.out.below HBr5.out with h0 | ⟨b', o', e', hr'⟩
            · have := congrArg List.length h0; rw [HFL.out] at this; simp at this
            · cases e'; exact hr'
          have HRF := Lib.hid hrF
          have hs5 := HBr5.out.size
          have HXF : Hid ((X ++ F).length = 36) := show _ = _ by rw [List.length_append, HXL.out, HFL.out]
          clear b5 hrF
          go_wp2_with (at_builtin; refine wpList_wp9 (by rfl) (wp_append_bytes (.tmp 85) (.tmp 86) rfl wr.heap.size _ X F gF 0 cF rfl HO5.out (by rw [HFL.out]; rfl) HRF.out (by rw [HFL.out]; decide) (by rw [HXL.out, HFL.out]; decide) hs5 ?_); intro v6 w6 ho6 b6; obtain ⟨q6, c6, rfl, hc6, -, l6⟩ := ho6.slN HXF.out; have HL6 := Lib.hid l6; have HC6 := Lib.hid hc6; have HP6 := Lib.hid (Own.place ho6); have HBr6 : Hid (Below wr.heap.size wr w6) := show Below _ _ _ from HBr5.out.trans b6; have HW6 : Hid (Below w.heap.size w w6) := show Below _ _ _ from HWr.out.trans (HBr6.out.mono HWr.out.size); clear ho6 b6 l6 hc6)
          refine (frGets_any (X ++ F) 36 q6 c6 w6 HXF.out HC6.out HP6.out HL6.out (HR.out.on HW6.out)).mono ?_
          rintro e w7 ⟨rfl, b7⟩
          have HW7 : Hid (Below w.heap.size w w7) := show Below _ _ _ from HW6.out.trans (b7.mono HW6.out.size)
          have HBr7 : Hid (Below wr.heap.size wr w7) := show Below _ _ _ from HBr6.out.trans (b7.mono HBr6.out.size)
          have z1 : (J : Int) ≤ (cF : Int) := by omega
          have z2 : ¬ (cF : Int) < (J : Int) := by omega
          clear b7 hs5
          go_wp2_with fail
          refine (frGets_any (F.take J) J _ cF w7 (by rw [List.length_take, HFL.out]; omega) (by omega) (fun _ => ⟨gF, 0, rfl⟩) (lies_takeF (HLr.out.below HBr7.out) J) (HR.out.on HW7.out)).mono ?_
          rintro e w8 ⟨rfl, b8⟩
          have HW8 : Hid (Below w.heap.size w w8) := show Below _ _ _ from HW7.out.trans (b8.mono HW7.out.size)
          have HBr8 : Hid (Below wr.heap.size wr w8) := show Below _ _ _ from HBr7.out.trans (b8.mono HBr7.out.size)
          clear b8
          go_wp2_with fail
          refine (show Calls Tryd.prog 28 #[.int .i64 9] w8 _ from kitRow_any 9 w8 (by decide)).mono ?_
          rintro e w9 ⟨v9, rfl, ho9, b9⟩
          obtain ⟨q9, c9, rfl, -, -, l9⟩ := ho9.slN HKL.out
          have HL9 := Lib.hid l9
          have HW9 : Hid (Below w.heap.size w w9) := show Below _ _ _ from HW8.out.trans (b9.mono HW8.out.size)
          have HBr9 : Hid (Below wr.heap.size wr w9) := show Below _ _ _ from HBr8.out.trans (b9.mono HBr8.out.size)
          clear ho9 b9 l9
          go_wp2_with fail
          refine (show Calls Tryd.prog 6 #[.int .i64 7, .slice q9 9 c9, .int .i64 (k : Int), .int .u32 1] w9 _ from frTurned_any 7 (kitRow 9) (k : Int) 1#32 9 q9 c9 w9 HKL.out (by decide) HL9.out (HR.out.on HW9.out)).mono ?_
          rintro e w10 ⟨rfl, b10⟩
          have HW10 : Hid (Below w.heap.size w w10) := show Below _ _ _ from HW9.out.trans (b10.mono HW9.out.size)
          have HBr10 : Hid (Below wr.heap.size wr w10) := show Below _ _ _ from HBr9.out.trans (b10.mono HBr9.out.size)
          clear b10
          go_wp2_with fail
          refine (show Calls Tryd.prog 28 #[.int .i64 9] w10 _ from kitRow_any 9 w10 (by decide)).mono ?_
          rintro e w11 ⟨v11, rfl, ho11, b11⟩
          obtain ⟨q11, c11, rfl, -, -, l11⟩ := ho11.slN HKL.out
          have HL11 := Lib.hid l11
          have HW11 : Hid (Below w.heap.size w w11) := show Below _ _ _ from HW10.out.trans (b11.mono HW10.out.size)
          have HBr11 : Hid (Below wr.heap.size wr w11) := show Below _ _ _ from HBr10.out.trans (b11.mono HBr10.out.size)
          clear ho11 b11 l11
          go_wp2_with fail
          refine (show Calls Tryd.prog 6 #[.int .i64 7, .slice q11 9 c11, .int .i64 (k : Int), .int .u32 2147483648] w11 _ from frTurned_any 7 (kitRow 9) (k : Int) 2147483648#32 9 q11 c11 w11 HKL.out (by decide) HL11.out (HR.out.on HW11.out)).mono ?_
          rintro e w12 ⟨rfl, b12⟩
          have HBr12 : Hid (Below wr.heap.size wr w12) := show Below _ _ _ from HBr11.out.trans (b12.mono HBr11.out.size)
          clear b12
          go_wp2_with fail
          go_roundw
          case rel => exact ⟨k + 1, by omega, by go_num, HB.out.trans (HBr12.out.mono HB.out.size)⟩
          case measure => simp [intOf]; omega
        · have q3 : ¬ (k : Int) < 144 := by omega
          clear HB
          go_wp2_with fail
          refine (sum_any [] 0 none 0 wr rfl (by decide) (Or.inl rfl) (HR.out.on HWr.out)).mono ?_
          rintro e wz ⟨rfl, hwz⟩
          rw [nil_sum]
          subst wz
          have Hwr := HWr
          go_wp2_with fail
          refine calls_gen (fun w' => Lies w' (some ⟨wr.heap.size, 0, none⟩) [0#8, 0#8, 0#8, 0#8, 0#8] ∧ Below wr.heap.size wr w') ⟨Or.inr ⟨_, 0, rfl, range_bytesV (l := [0#8, 0#8, 0#8, 0#8, 0#8]) (heap_new_at rfl)⟩, (Below.refl _ _).alloc (Nat.le_refl _) _⟩ ?_
          rintro wAa ⟨hwA, bwA⟩
          have HwAa : Hid (Below w.heap.size w wAa) := show Below _ _ _ from Hwr.out.trans (bwA.mono Hwr.out.size)
          refine (frGets_any [0#8, 0#8, 0#8, 0#8, 0#8] 5 _ 5 wAa rfl (Nat.le_refl _) (fun _ => ⟨_, 0, rfl⟩) hwA (HR.out.on HwAa.out)).mono ?_
          rintro e wA ⟨rfl, cwA⟩
          have HwA : Hid (Below w.heap.size w wA) := show Below _ _ _ from HwAa.out.trans (cwA.mono HwAa.out.size)
          clear hwA bwA cwA
          go_wp2_with fail
          refine calls_gen (fun w' => Lies w' (some ⟨wA.heap.size, 0, none⟩) [1#8, 0#8, 0#8, 7#8, 248#8] ∧ Below wA.heap.size wA w') ⟨Or.inr ⟨_, 0, rfl, range_bytesV (l := [1#8, 0#8, 0#8, 7#8, 248#8]) (heap_new_at rfl)⟩, (Below.refl _ _).alloc (Nat.le_refl _) _⟩ ?_
          rintro wBa ⟨hwB, bwB⟩
          have HwBa : Hid (Below w.heap.size w wBa) := show Below _ _ _ from HwA.out.trans (bwB.mono HwA.out.size)
          refine (frGets_any [1#8, 0#8, 0#8, 7#8, 248#8] 5 _ 5 wBa rfl (Nat.le_refl _) (fun _ => ⟨_, 0, rfl⟩) hwB (HR.out.on HwBa.out)).mono ?_
          rintro e wB ⟨rfl, cwB⟩
          have HwB : Hid (Below w.heap.size w wB) := show Below _ _ _ from HwBa.out.trans (cwB.mono HwBa.out.size)
          clear hwB bwB cwB
          go_wp2_with fail
          refine calls_gen (fun w' => Lies w' (some ⟨wB.heap.size, 0, none⟩) [1#8, 255#8, 255#8, 255#8, 255#8, 0#8] ∧ Below wB.heap.size wB w') ⟨Or.inr ⟨_, 0, rfl, range_bytesV (l := [1#8, 255#8, 255#8, 255#8, 255#8, 0#8]) (heap_new_at rfl)⟩, (Below.refl _ _).alloc (Nat.le_refl _) _⟩ ?_
          rintro wCa ⟨hwC, bwC⟩
          have HwCa : Hid (Below w.heap.size w wCa) := show Below _ _ _ from HwB.out.trans (bwC.mono HwB.out.size)
          refine (frGets_any [1#8, 255#8, 255#8, 255#8, 255#8, 0#8] 6 _ 6 wCa rfl (Nat.le_refl _) (fun _ => ⟨_, 0, rfl⟩) hwC (HR.out.on HwCa.out)).mono ?_
          rintro e wC ⟨rfl, cwC⟩
          have HwC : Hid (Below w.heap.size w wC) := show Below _ _ _ from HwCa.out.trans (cwC.mono HwCa.out.size)
          clear hwC bwC cwC
          go_wp2_with fail
          refine (works9_any wC (HR.out.on HwC.out)).mono ?_
          rintro e wD ⟨rfl, bD⟩
          have HwD : Hid (Below w.heap.size w wD) := show Below _ _ _ from HwC.out.trans (bD.mono HwC.out.size)
          clear bD
          go_wp2_with fail
          go_ret
          exact ⟨rfl, HwD.out⟩
end Go.Proofs.YtejekgceompjpaaDoor

/-
  FrameKnown: the law returns true; the package's table starts as the program's own text lays it (the tie is given).
-/
namespace Go.Proofs.YtejekgceompjpaaDoor
open Go.ChangeShapes Go.WideShapes Go.ChangeAt Go.RowKit Go.Proofs.ShaWords

set_option maxRecDepth 100000 in
theorem frameKnown_lifted (os : Os) (started : os.Started) (H : Type) (enc : TypeId × Value → H) :
    ReturnsInHanded {} Tryd.checked os 10 .any (fun w args => (Rows.frameKnownSpec.pre enc Tryd.prog Tryd.f10 [] false w args ∧ laidMetH Tryd.prog laid9 w) ∧ sizedMet enc Tryd.prog Tryd.f10 (OpenSpec.ofChange Rows.frameKnownSpec) false w args)
      (Rows.frameKnownSpec.post enc Tryd.prog Tryd.f10 false true false false) := by
  refine returnsInHanded_of_change_and (C := Tryd.checked) (X := fun w _ => laidMetH Tryd.prog laid9 w) (fun _ _ _ hh h => h.of_heap hh) own started (by kernel_rfl) Tryd.func10
    (ChangeSpec.witness_shaped (enc := enc) (C := Tryd.checked) (os := os) (X := fun w _ => laidMetH Tryd.prog laid9 w) false (World.doorLaid Tryd.prog 400 os) #[] 8 rfl (World.shaped_of_RefB (by kernel_rfl) (by kernel_rfl)) (by kernel_rfl) (by kernel_rfl) (by kernel_rfl) (door_met9 os _)) ?_
  intro W base args ds gs before hval0 hW _ hsz hL _
  have hW' := hW
  obtain ⟨p, q, hA0, hV, rfl, hfz, hnd⟩ := hW
  have hA : DataW.TrodAll enc Tryd.prog W 0 (fun _ => true) true Tryd.f10.params.toList args.toList ds p := hA0
  have hval : ∀ (j : Nat) t v, Tryd.f10.params[j]? = some t → args[j]? = some v → Value.okWide Tryd.prog W .any base t v := hval0
  have hsz2 : (DataW.weightsEach Tryd.prog (Tryd.f10.params.toList ++ Rows.frameKnownSpec.plain.varTypes Tryd.prog) (ds ++ gs)).all (· ≤ reachBytes) = true := hsz
  rw [Tryd.params10] at hA hval hsz2
  obtain ⟨hargs, rfl, rfl⟩ := trodAll_nil hA
  obtain rfl : args = #[] := by cases args; simp_all
  obtain ⟨rfl, rfl⟩ := trodVars_none hV
  have hQ := of_laid9 hL
  clear hA0 hval0
  refine (frKnown_any W hQ).mono fun e W' ⟨he, bel⟩ => ?_
  subst he
  exact ⟨_, rfl, _, _, _, [], _, [], hW', trodAll_mk1 (shut_bool Tryd.underlying4 _), trodAll_mk0, rfl, bel.frame _, fun h => by cases h⟩

theorem frameKnown_holds : Rows.FrameKnownSaid :=
  OpenClaim.holds_of_wide 10 Tryd.f10 rfl rfl rfl rfl rfl rfl rfl ⟨rfl, rfl, rfl, rfl, rfl⟩ rfl rfl rfl rfl rfl (by kernel_rfl) Tryd.func10 (by kernel_rfl)
    (of_decide_eq_true (by kernel_rfl)) (by unfold Func.isWrapper; first | (rw [if_pos (by decide +kernel)]; kernel_rfl) | (rw [if_neg (by decide +kernel)]; exact ⟨rfl, rfl⟩))
    (fun os started H enc _ => frameKnown_lifted os started H enc)

theorem frameKnown_card : Rows.FrameKnownCardSaid :=
  Claim7.holds_tied_plain_at .later [] [.data] true Rows.frameKnownCard.stood.harness false
    frameKnown_holds (fun _ h => by cases h) (by kernel_rfl) (fun _ h => by cases h) frameKnown_row_tie rfl ⟨rfl, rfl⟩ (by kernel_rfl) rfl
    (fun f fn hf hfn => by
      obtain rfl : f = 10 := Option.some.inj (hf.symm.trans (show _ = some 10 by kernel_rfl))
      obtain rfl : fn = Tryd.f10 := (Option.some.inj (Tryd.func10.symm.trans hfn)).symm
      exact ⟨by kernel_rfl, fun j t ht => by
        rw [Tryd.params10] at ht
        simp at ht⟩)
    (by kernel_rfl)
#print axioms frameKnown_card
end Go.Proofs.YtejekgceompjpaaDoor
