/-
  FrameTurned, for any kind, body, place and bits: the law returns true, and what came in reads afterwards as it read before; the package's table starts as the program's own text lays it (the tie is given).
-/
import Derived.Test.YtejekgceompjpaaDoorPkA
import Derived.Test.YtejekgceompjpaaDoorPkD
import Derived.Test.YtejekgceompjpaaDoorTie
import Derived.Test.YtejekgceompjpaaDoorCards
import Derived.SevenTiedAt
/- The kit's Pick: some number below its bound. -/
namespace Go.Proofs.YtejekgceompjpaaDoor
open Go.RowKit Go.Proofs.ShaWords

theorem tmod_bounds (v n : Int) (h : 1 ≤ n) : -n < v.tmod n ∧ v.tmod n < n := by
  have h1 := Int.tmod_lt_of_pos v (show 0 < n by omega)
  have h2 := Int.tmod_lt_of_pos (-v) (show 0 < n by omega)
  rw [Int.neg_tmod] at h2
  omega
def SomeIn (n : Int) (w : World) (e : Ending) (w' : World) : Prop := ∃ r : Nat, (r : Int) < n ∧ e = .returned (.int .i64 (r : Int)) ∧ w = w'
set_option maxHeartbeats 400000 in
theorem pick_any (v n : Int) (w : World) (h1 : 1 ≤ n) (h2 : n ≤ 1000000) : Calls Tryd.prog 27 #[.int .i64 v, .int .i64 n] w (SomeIn n w) := by
  have hb := tmod_bounds v n h1
  obtain ⟨hb1, hb2⟩ := hb
  have hn0 : ¬ n = 0 := by omega
  by_cases hneg : v.tmod n < 0
  · go_enter Tryd.func27, Tryd.ntmps27
    go_wp2_with fail
    go_ret
    exact ⟨(v.tmod n + n).toNat, by omega, by
      have : ((v.tmod n + n).toNat : Int) = v.tmod n + n := by omega
      rw [this]; rfl, rfl⟩
  · go_enter Tryd.func27, Tryd.ntmps27
    go_wp2_with fail
    go_ret
    exact ⟨(v.tmod n).toNat, by omega, by
      have : ((v.tmod n).toNat : Int) = v.tmod n := by omega
      rw [this]; rfl, rfl⟩

end Go.Proofs.YtejekgceompjpaaDoor

/-
  FrameBack: what was put is got again, whatever stands behind it; cut short it is too short.
-/
namespace Go.Proofs.YtejekgceompjpaaDoor
open Go.RowKit Go.Proofs.ShaWords
theorem pickF_any (v : Int) (n : Nat) (w : World) (h1 : 0 < n) (h2 : n ≤ 1000000) : Calls Tryd.prog 27 #[.int .i64 v, .int .i64 (n : Int)] w fun e w' => ∃ r : Nat, r < n ∧ e = .returned (.int .i64 (r : Int)) ∧ w = w' := by
  refine (pick_any v (n : Int) w (by omega) (by omega)).mono ?_
  rintro e w' ⟨r, hr, rfl, rfl⟩
  exact ⟨r, by omega, rfl, rfl⟩
set_option maxRecDepth 100000 in
set_option maxHeartbeats 4000000 in
theorem frBack_any (z : Int) (l m : List (BitVec 8)) (z3 : Int) (n1 n2 : Nat) (p q : Option Addr) (c d : Nat) (w : World) (hl : l.length = n1) (hm : m.length = n2) (hc : n1 ≤ c) (hd : n2 ≤ d) (hc1 : c ≤ 140737488351232) (hd1 : d ≤ 140737488351232) (hL : Lies w p l) (hM : Lies w q m) (hR : Rem w) :
    Calls Tryd.prog 5 #[.int .i64 z, .slice p n1 c, .slice q n2 d, .int .i64 z3] w fun e w' => e = .returned (.bool true) ∧ Below w.heap.size w w' := by
  have HL := Lib.hid hL
  have HM := Lib.hid hM
  have HR := Lib.hid hR
  have HN1 := Lib.hid hl
  have HN2 := Lib.hid hm
  have hmx : (n1 : Int) < (n2 : Int) ∨ ¬ (n1 : Int) < (n2 : Int) := Classical.em _
  clear hL hM hR hl hm
  by_cases h8 : 8192 < max n1 n2
  · rcases hmx with hq | hq
    all_goals
      (try have h8a : (8192 : Int) < (n2 : Int) := by omega)
      (try have h8a : (8192 : Int) < (n1 : Int) := by omega)
      clear h8
      go_enter Tryd.func5, Tryd.ntmps5
      go_wp2_with fail
      refine (works9_any w HR.out).mono ?_
      rintro e w1 ⟨rfl, b1⟩
      have HB1 := Lib.hid b1
      clear b1
      go_wp2_with fail
      go_ret
      exact ⟨rfl, HB1.out⟩
  have h8a : ¬ (8192 : Int) < (n1 : Int) := by omega
  have h8b : ¬ (8192 : Int) < (n2 : Int) := by omega
  have hn1 : n1 ≤ 8192 := by omega
  have hn2 : n2 ≤ 8192 := by omega
  have HP := Lib.hid (put_any z l n1 p c w HN1.out (by omega) HL.out HR.out)
  clear h8
  by_cases hz : z < 1 ∨ 255 < z
  · have HE := Lib.hid (putE_kind (l := l) hz)
    rcases hmx with hq | hq
    all_goals
      rcases hz with hz1 | hz1
      all_goals
        (try have hz0 : ¬ z < 1 := by omega)
        go_enter Tryd.func5, Tryd.ntmps5
        go_wp2_with fail
        refine HP.out.mono ?_
        rintro e w1 ⟨b1, v, rfl, ho⟩
        rw [HE.out.1]
        rw [HE.out.2] at ho
        obtain ⟨q1, c1, rfl, -, -, -⟩ := ho.slN (n := 0) rfl
        have HB1 := Lib.hid b1
        clear b1 ho
        go_wp2_with fail
        refine (works9_any w1 (HR.out.on HB1.out)).mono ?_
        rintro e w2 ⟨rfl, b2⟩
        have HB2 : Hid (Below w.heap.size w w2) := show Below _ _ _ from HB1.out.trans (b2.mono HB1.out.size)
        clear b2
        go_wp2_with fail
        go_ret
        exact ⟨rfl, HB2.out⟩
  have hz1 : ¬ z < 1 := by omega
  have hz2 : ¬ 255 < z := by omega
  clear hz
  by_cases h9 : 2039 < n1
  · have HE := Lib.hid (putE_long (l := l) (show 1 ≤ z by omega) (show z ≤ 255 by omega) (by rw [HN1.out]; exact h9))
    have h9a : (2039 : Int) < (n1 : Int) := by omega
    rcases hmx with hq | hq
    all_goals
      go_enter Tryd.func5, Tryd.ntmps5
      go_wp2_with fail
      refine HP.out.mono ?_
      rintro e w1 ⟨b1, v, rfl, ho⟩
      rw [HE.out.1]
      rw [HE.out.2] at ho
      obtain ⟨q1, c1, rfl, -, -, -⟩ := ho.slN (n := 0) rfl
      have HB1 := Lib.hid b1
      clear b1 ho
      go_wp2_with fail
      refine (works9_any w1 (HR.out.on HB1.out)).mono ?_
      rintro e w2 ⟨rfl, b2⟩
      have HB2 : Hid (Below w.heap.size w w2) := show Below _ _ _ from HB1.out.trans (b2.mono HB1.out.size)
      clear b2
      go_wp2_with fail
      go_ret
      exact ⟨rfl, HB2.out⟩
  have HE := Lib.hid (putE_ok (l := l) (show 1 ≤ z by omega) (show z ≤ 255 by omega) (by rw [HN1.out]; omega))
  have HNE := Lib.hid (kb_ne (show 1 ≤ z by omega) (show z ≤ 255 by omega))
  have HZ8 := Lib.hid (n8_kb (show 0 ≤ z by omega) (show z < 256 by omega))
  have HFL : Hid ((frameB (kb z) l).length = n1 + 9) := show _ = _ by rw [frameB_length, HN1.out]
  have HG := Lib.hid (got_frame (kb z) l m HNE.out (by rw [HN1.out]; omega))
  have HCUT := Lib.hid (fun r (hr : r < n1 + 9) => getE_cut (kb z) l r HNE.out (by rw [HN1.out]; omega) (by rw [HN1.out]; omega))
  rw [HZ8.out, HN1.out] at HG
  generalize frameB (kb z) l = F at HE HFL HG HCUT
  have HFM : Hid ((F ++ m).length = n1 + 9 + n2) := show _ = _ by rw [List.length_append, HFL.out, HN2.out]
  rcases hmx with hq | hq
  all_goals
    go_enter Tryd.func5, Tryd.ntmps5
    go_wp2_with fail
    refine HP.out.mono ?_
    rintro e w1 ⟨b1, v, rfl, ho⟩
    rw [HE.out.1]
    rw [HE.out.2] at ho
    obtain ⟨q1, c1, rfl, hc1, -, l1⟩ := ho.slN HFL.out
    have HB1 := Lib.hid b1
    have HL1 := Lib.hid l1
    have HC1 := Lib.hid hc1
    clear b1 ho l1 hc1
    go_wp2_with fail
    refine (copy_bigN F (n1 + 9) q1 c1 w1 HFL.out (by omega) HL1.out).mono ?_
    rintro e w2 ⟨v2, rfl, h2, b2⟩
    have HO2 := Lib.hid h2
    have HB2 : Hid (Below w.heap.size w w2) := show Below _ _ _ from HB1.out.trans (b2.mono HB1.out.size)
    have HB12 := Lib.hid b2
    have hs2 := b2.size
    clear h2 b2
    go_wp2_with (at_builtin; refine wpList_append_listB rfl (.tmp 50) (.tmp 51) rfl w1.heap.size _ F m q d rfl HO2.out (by rw [HN2.out]; rfl) (HM.out.below HB2.out) (by rw [HFL.out, HN2.out]; omega) hs2 ?_; intro v3 w3 h3 b3; obtain ⟨q3, c3, rfl, hc3, -, l3⟩ := h3.slN HFM.out; have HL3 := Lib.hid l3; have HC3 := Lib.hid hc3; have HB3 : Hid (Below w.heap.size w w3) := show Below _ _ _ from HB2.out.trans (b3.mono HB1.out.size); have HB13 : Hid (Below w1.heap.size w1 w3) := show Below _ _ _ from HB12.out.trans b3; clear h3 b3 l3 hc3)
    refine (get_any (F ++ m) (n1 + 9 + n2) q3 c3 w3 HFM.out (by omega) HC3.out HL3.out (HR.out.on HB3.out)).mono ?_
    rintro e w4 ⟨b4, v4, rfl, ho4⟩
    obtain ⟨g1, g2, g3, g4⟩ := HG.out
    rw [g1, g2, g3]
    rw [g4] at ho4
    obtain ⟨q4, c4, rfl, -, -, l4⟩ := ho4.slN HN1.out
    have HL4 := Lib.hid l4
    have HB4 : Hid (Below w.heap.size w w4) := show Below _ _ _ from HB3.out.trans (b4.mono HB3.out.size)
    have HB14 : Hid (Below w1.heap.size w1 w4) := show Below _ _ _ from HB13.out.trans (b4.mono HB13.out.size)
    clear b4 g1 g2 g3 g4 ho4 l4
    go_wp2_with fail
    refine calls_gen (fun w' => Below w4.heap.size w4 w') ((Below.refl _ _).alloc (Nat.le_refl _) _) ?_
    rintro w5 b5
    have HB5 : Hid (Below w.heap.size w w5) := show Below _ _ _ from HB4.out.trans (b5.mono HB4.out.size)
    have HB15 : Hid (Below w1.heap.size w1 w5) := show Below _ _ _ from HB14.out.trans (b5.mono HB14.out.size)
    refine (same_big l n1 q4 p c4 c w5 HN1.out (by omega) (HL4.out.below b5) (HL.out.below HB5.out)).mono ?_
    rintro e w6 ⟨rfl, b6⟩
    have HB6 : Hid (Below w.heap.size w w6) := show Below _ _ _ from HB5.out.trans (b6.mono HB5.out.size)
    have HB16 : Hid (Below w1.heap.size w1 w6) := show Below _ _ _ from HB15.out.trans (b6.mono HB15.out.size)
    clear b5 b6
    go_wp2_with fail
    refine (show Calls Tryd.prog 27 #[.int .i64 z3, .int .i64 ((n1 : Int) + 9)] w6 _ from pickF_any z3 (n1 + 9) w6 (by omega) (by omega)).mono ?_
    rintro e w7 ⟨r, hr, rfl, rfl⟩
    have hrc : (r : Int) ≤ (c1 : Int) := by have := HC1.out; omega
    have HCU := Lib.hid (HCUT.out r hr)
    have HGE := Lib.hid (get_err HCU.out (by decide))
    have hrl : (F.take r).length = r := by rw [List.length_take, HFL.out]; omega
    have HRL := Lib.hid hrl
    clear hrl
    go_wp2_with fail
    refine (get_any (F.take r) r q1 c1 w6 HRL.out (by omega) (by have := HC1.out; omega) (lies_takeF (HL1.out.below HB16.out) r) (HR.out.on HB6.out)).mono ?_
    rintro e w8 ⟨b8, v8, rfl, ho8⟩
    rw [HGE.out.1, HGE.out.2.1, HCU.out]
    have HB8 : Hid (Below w.heap.size w w8) := show Below _ _ _ from HB6.out.trans (b8.mono HB6.out.size)
    clear b8 ho8
    go_wp2_with fail
    refine (works9_any w8 (HR.out.on HB8.out)).mono ?_
    rintro e w9 ⟨rfl, b9⟩
    have HB9 : Hid (Below w.heap.size w w9) := show Below _ _ _ from HB8.out.trans (b9.mono HB8.out.size)
    clear b9
    go_wp2_with fail
    go_ret
    exact ⟨rfl, HB9.out⟩
end Go.Proofs.YtejekgceompjpaaDoor

/-
  FrameTurned: a frame with some bits turned is none.
-/
namespace Go.Proofs.YtejekgceompjpaaDoor
open Go.RowKit Go.Proofs.ShaWords
theorem turned_stop (l : List (BitVec 8)) (a fin : Nat) (x : BitVec 32) (i : Nat) (h : fin ≤ a + i) : ∀ j, turned l a fin x (i + j) = turned l a fin x i
  | 0 => rfl
  | j + 1 => by
    show (if x.getLsbD (i + j) && decide (a + (i + j) < fin) then _ else _) = _
    rw [decide_eq_false (by omega), Bool.and_false, if_neg (by decide)]
    exact turned_stop l a fin x i h j
theorem turned_on {l : List (BitVec 8)} {a fin : Nat} {x : BitVec 32} {i : Nat} (h1 : x.getLsbD i = true) (h2 : a + i < fin) : turned l a fin x (i + 1) = flip1 (turned l a fin x i) (a + i) := by
  show (if x.getLsbD i && decide (a + i < fin) then _ else _) = _
  rw [h1, decide_eq_true h2]; rfl
theorem turned_off {l : List (BitVec 8)} {a fin : Nat} {x : BitVec 32} {i : Nat} (h1 : x.getLsbD i = false) : turned l a fin x (i + 1) = turned l a fin x i := by
  show (if x.getLsbD i && decide (a + i < fin) then _ else _) = _
  rw [h1]; rfl
theorem or_one (x : BitVec 32) : bits .or .u32 (n32 x) 1 = n32 (x ||| 1#32) := or32 x 1#32
theorem or_one_bit (x : BitVec 32) : (x ||| 1#32).getLsbD 0 = true := by rw [BitVec.getLsbD_or]; simp
theorem shl8_one (r : Nat) : IntKind.u8.wrap (2 ^ r : Int) = n8 (1#8 <<< r) := by
  unfold n8
  have e : (2 ^ r : Int) = ((2 ^ r : Nat) : Int) := by simp
  rw [IntKind.wrap_u8', BitVec.toNat_shiftLeft, Nat.shiftLeft_eq, e, show (1#8).toNat = 1 from rfl, Nat.one_mul]
  generalize 2 ^ r = m
  omega
theorem bit_of (x : BitVec 32) (k : Nat) : n32 (x >>> k) % 2 = if x.getLsbD k then 1 else 0 := by
  rw [mod2_32, BitVec.getLsbD_ushiftRight, Nat.add_zero]
theorem tmod2 (x : BitVec 32) : (n32 x).tmod 2 = n32 x % 2 := Int.tmod_eq_emod_of_nonneg (n32_nonneg x)
attribute [local go_sem] shr32 or_one xor8 shl8_one
set_option maxRecDepth 100000 in
set_option maxHeartbeats 4000000 in
theorem frTurned_any (z : Int) (l : List (BitVec 8)) (z2 : Int) (x : BitVec 32) (n1 : Nat) (p : Option Addr) (c : Nat) (w : World) (hl : l.length = n1) (hc : n1 ≤ c) (hc1 : c ≤ 140737488351232) (hL : Lies w p l) (hR : Rem w) :
    Calls Tryd.prog 6 #[.int .i64 z, .slice p n1 c, .int .i64 z2, .int .u32 (n32 x)] w fun e w' => e = .returned (.bool true) ∧ Below w.heap.size w w' := by
  have HL := Lib.hid hL
  have HR := Lib.hid hR
  have HN1 := Lib.hid hl
  have HPK : Hid (Calls Tryd.prog 27 #[.int .i64 z, .int .i64 255] w fun e w' => ∃ r : Nat, r < 255 ∧ e = .returned (.int .i64 (r : Int)) ∧ w = w') := show Calls _ _ _ _ _ from pickF_any z 255 w (by decide) (by decide)
  clear hL hR hl
  by_cases h9 : 2039 < n1
  · go_enter Tryd.func6, Tryd.ntmps6
    go_wp2_with fail
    refine HPK.out.mono ?_
    rintro e w0 ⟨r, hr, rfl, rfl⟩
    have HE := Lib.hid (putE_long (z := 1 + (r : Int)) (l := l) (by omega) (by omega) (by rw [HN1.out]; exact h9))
    go_wp2_with fail
    refine (put_any (1 + (r : Int)) l n1 p c w HN1.out (by omega) HL.out HR.out).mono ?_
    rintro e w1 ⟨b1, v, rfl, ho⟩
    rw [HE.out.1]
    have HB1 := Lib.hid b1
    clear b1 ho
    by_cases h8 : 8192 < n1
    all_goals
      (try have h8a : (8192 : Int) < (n1 : Int) := by omega)
      (try have h8a : ¬ (8192 : Int) < (n1 : Int) := by omega)
      go_wp2_with fail
      refine (works9_any w1 (HR.out.on HB1.out)).mono ?_
      rintro e w2 ⟨rfl, b2⟩
      have HB2 : Hid (Below w.heap.size w w2) := show Below _ _ _ from HB1.out.trans (b2.mono HB1.out.size)
      clear b2
      go_wp2_with fail
      go_ret
      exact ⟨rfl, HB2.out⟩
  have h8a : ¬ (8192 : Int) < (n1 : Int) := by omega
  have hn1 : n1 ≤ 2039 := by omega
  clear h9
  go_enter Tryd.func6, Tryd.ntmps6
  go_wp2_with fail
  refine HPK.out.mono ?_
  rintro e w0 ⟨r, hr, rfl, rfl⟩
  have HE := Lib.hid (putE_ok (z := 1 + (r : Int)) (l := l) (by omega) (by omega) (by rw [HN1.out]; exact hn1))
  have HNE := Lib.hid (kb_ne (z := 1 + (r : Int)) (by omega) (by omega))
  have HFL : Hid ((frameB (kb (1 + (r : Int))) l).length = n1 + 9) := show _ = _ by rw [frameB_length, HN1.out]
  have HT := Lib.hid (fun a fin y => turned_not (kb (1 + (r : Int))) l a fin y (by rw [HN1.out]; exact hn1))
  rw [HN1.out] at HT
  go_wp2_with fail
  refine (put_any (1 + (r : Int)) l n1 p c w HN1.out (by omega) HL.out HR.out).mono ?_
  rintro e w1 ⟨b1, v, rfl, ho⟩
  rw [HE.out.1]
  rw [HE.out.2] at ho
  clear HE HPK
  generalize frameB (kb (1 + (r : Int))) l = F at HFL HT ho
  obtain ⟨q1, c1, rfl, hcc1, -, l1⟩ := ho.slN HFL.out
  have HB1 := Lib.hid b1
  have HL1 := Lib.hid l1
  have HC1 := Lib.hid hcc1
  clear b1 ho l1 hcc1
  go_wp2_with fail
  rw [show 8 * ((n1 : Int) + 9 - 5) = ((8 * (n1 + 4) : Nat) : Int) by omega]
  refine (pickF_any z2 (8 * (n1 + 4)) w1 (by omega) (by omega)).mono ?_
  rintro e w1 ⟨r2, hr2, rfl, rfl⟩
  have HXO := Lib.hid (or_one_bit x)
  have hm2 := mod2_32 x
  have ht2 := tmod2 x
  cases hx0 : x.getLsbD 0 with
  | false =>
    rw [hx0] at hm2
    simp only [Bool.false_eq_true, if_false] at hm2
    rw [hm2] at ht2
    clear hx0
    go_wp2_with fail
    refine (pickF_any (40 + (r2 : Int)) 8 w1 (by omega) (by omega)).mono ?_
    rintro e w1 ⟨a, ha, rfl, rfl⟩
    obtain ⟨fin, hfin⟩ : ∃ fin : Nat, fin = 8 := ⟨_, rfl⟩
    have HCASE := Lib.hid (HT.out a fin (x ||| 1#32) HXO.out (Or.inl ⟨ha, hfin⟩))
    have hfl9 : fin ≤ 8 * (n1 + 9) := by omega
    have ha9 : a ≤ 20000 := by omega
    have ha8 : (a : Int) < 8 := by omega
    clear HT
    go_upto_region 14 with (fail)
    rw [show Value.int IntKind.i64 8 = Value.int IntKind.i64 (fin : Int) by rw [hfin]; rfl]
    clear hfin ha8 ha hm2 ht2
    go_wp2_with fail
    refine (copy_bigN F (n1 + 9) q1 c1 w1 HFL.out (by omega) HL1.out).mono ?_
    rintro e w2 ⟨v2, rfl, h2, b2⟩
    obtain ⟨g, cg, rfl, hg1, hg2, hg3, hg4, -, -⟩ := h2.form8 (by rw [HFL.out]; omega)
    rw [HFL.out] at h2 hg3 ⊢
    have HO2 := Lib.hid h2
    have HB2 := Lib.hid b2
    have hs2 := b2.size
    have HG3 := Lib.hid hg3
    clear h2 b2 hg3 hg4
    go_wp2_with fail
    go_loopw [13] (fun i wr => ∃ k : Nat, k ≤ 32 ∧ i = .int .i64 (k : Int) ∧ Own w1.heap.size wr (turned F a fin (x ||| 1#32) k) (.slice (some ⟨g, 0, none⟩) (n1 + 9) cg) ∧ Below w1.heap.size w1 wr) (fun i _ => 32 - (intOf i).toNat)
    case atStart => exact ⟨0, Nat.zero_le _, rfl, HO2.out, HB2.out⟩
    case round =>
      obtain ⟨k, hk, rfl, ho, hb⟩ := hrel
      have HO := Lib.hid ho
      have HB := Lib.hid hb
      have hTL : (turned F a fin (x ||| 1#32) k).length = n1 + 9 := by rw [turned_length, HFL.out]
      have HTL := Lib.hid hTL
      by_cases hgo : k < 32 ∧ a + k < fin
      · obtain ⟨hk32, hkf⟩ := hgo
        have q0 : (k : Int) < 32 := by omega
        have q1 : (a : Int) + (k : Int) < (fin : Int) := by omega
        have q2 : ¬ (32 : Int) ≤ (k : Int) := by omega
        have hbt := bit_of (x ||| 1#32) k
        have htm := tmod2 ((x ||| 1#32) >>> k)
        cases hxk : (x ||| 1#32).getLsbD k with
        | true =>
          rw [hxk, if_pos rfl] at hbt
          rw [hbt] at htm
          have HTN := Lib.hid (turned_on (l := F) (a := a) (fin := fin) hxk hkf)
          obtain ⟨J, hJ⟩ : ∃ J, J = (a + k) / 8 := ⟨_, rfl⟩
          obtain ⟨R, hR⟩ : ∃ R, R = (a + k) % 8 := ⟨_, rfl⟩
          have t1 : ((a : Int) + (k : Int)).tdiv 8 = (J : Int) := by rw [Int.tdiv_eq_ediv_of_nonneg (by omega)]; omega
          have t2 : ((a : Int) + (k : Int)).tmod 8 = (R : Int) := by rw [Int.tmod_eq_emod_of_nonneg (by omega)]; omega
          have hJl : J < n1 + 9 := by omega
          have hR8 : R < 8 := by omega
          have qJ : (J : Int) < (n1 : Int) + 9 := by omega
          have qR : ¬ (8 : Int) ≤ (R : Int) := by omega
          obtain ⟨g', c', he, -, -, -, -, hcell, hfr⟩ := ho.form8 (by rw [hTL]; omega)
          injection he with he1 he2 he3
          cases he1
          have hcJ := hcell J (by rw [hTL]; exact hJl)
          have hfJ := hfr J
          have HPUT := Lib.hid (ho.put J ((turned F a fin (x ||| 1#32) k).getD J 0#8 ^^^ 1#8 <<< R))
          have hfl : (turned F a fin (x ||| 1#32) k).set J ((turned F a fin (x ||| 1#32) k).getD J 0#8 ^^^ 1#8 <<< R) = flip1 (turned F a fin (x ||| 1#32) k) (a + k) := by
            rw [hJ, hR]; rfl
          rw [hfl, ← HTN.out] at HPUT
          generalize (turned F a fin (x ||| 1#32) k).getD J 0#8 = y at HPUT hcJ
          have HBS : Hid (Below w1.heap.size w1 (wr.setCell ⟨g, J, none⟩ (.int .u8 (n8 (y ^^^ 1#8 <<< R))))) := show Below _ _ _ from hb.grown (grown_setCell wr g J _) hb.size (fun j e => by cases e; exact hg1)
          have hpw := shl8_one R
          clear ho hb HO HB hxk hbt hfl he3 hcell hfr hTL hJ hR
          go_wp2_with fail
          go_roundw
          case rel => exact ⟨k + 1, by omega, by go_num, HPUT.out, HBS.out⟩
          case measure => simp [intOf]; omega
        | false =>
          rw [hxk, if_neg (by decide)] at hbt
          rw [hbt] at htm
          have HTN := Lib.hid (turned_off (l := F) (a := a) (fin := fin) hxk)
          clear ho hb hxk hbt hTL
          go_wp2_with fail
          go_roundw
          case rel => exact ⟨k + 1, by omega, by go_num, by rw [HTN.out]; exact HO.out, HB.out⟩
          case measure => simp [intOf]; omega
      · have hstop : turned F a fin (x ||| 1#32) 32 = turned F a fin (x ||| 1#32) k := by
          by_cases h32 : k = 32
          · rw [h32]
          · have := turned_stop F a fin (x ||| 1#32) k (by omega) (32 - k)
            rwa [show k + (32 - k) = 32 by omega] at this
        have hne := HCASE.out
        rw [hstop] at hne
        obtain ⟨E, hE⟩ : ∃ E, getE (turned F a fin (x ||| 1#32) k) = E := ⟨_, rfl⟩
        rw [hE] at hne
        have HGE := Lib.hid (get_err hE hne)
        have HEE := Lib.hid hE
        have hEi : ¬ (E : Int) = 0 := by omega
        have HEB : Hid (((E : Int) != 0) = true) := show _ = _ by simpa using hne
        have HAF : Hid (k < 32 → ¬ (a : Int) + (k : Int) < (fin : Int)) := show _ from fun h => by omega
        have hws := hb.size
        have HLI : Hid (Lies wr (some ⟨g, 0, none⟩) (turned F a fin (x ||| 1#32) k)) := show Lies _ _ _ by obtain ⟨q, c, he, -, -, hl⟩ := ho.slN hTL; cases he; exact hl
        clear hstop hE ho hb hTL hgo
        by_cases h32 : k < 32
        all_goals
          (try have q0 : (k : Int) < 32 := by omega)
          (try have q0 : ¬ (k : Int) < 32 := by omega)
          (try have q1 := HAF.out h32)
          go_wp2_with fail
          refine (get_any (turned F a fin (x ||| 1#32) k) (n1 + 9) _ cg wr HTL.out (by omega) HG3.out HLI.out (HR.out.on (HB1.out.trans (HB.out.mono HB1.out.size)))).mono ?_
          rintro e w4 ⟨b4, v4, rfl, ho4⟩
          rw [HGE.out.1, HGE.out.2.1, HEE.out]
          have HB4 : Hid (Below w.heap.size w w4) := show Below _ _ _ from HB1.out.trans ((HB.out.trans (b4.mono hws)).mono HB1.out.size)
          rw [HGE.out.2.2] at ho4
          obtain ⟨q4, c4, rfl, -, -, -⟩ := ho4.slN (n := 0) rfl
          clear b4 ho4
          go_wp2_with fail
          refine calls_gen (fun w' => Below w4.heap.size w4 w') ((Below.refl _ _).alloc (Nat.le_refl _) _) ?_
          rintro w5 b5
          have HB5 : Hid (Below w.heap.size w w5) := show Below _ _ _ from HB4.out.trans (b5.mono HB4.out.size)
          clear b5
          refine (works9_any w5 (HR.out.on HB5.out)).mono ?_
          rintro e w6 ⟨rfl, b6⟩
          have HB6 : Hid (Below w.heap.size w w6) := show Below _ _ _ from HB5.out.trans (b6.mono HB5.out.size)
          clear b6
          go_wp2_with fail
          go_ret
          refine ⟨?_, HB6.out⟩
          show Ending.returned (Value.bool ((E : Int) != 0)) = _
          rw [HEB.out]
  | true =>
    rw [hx0, if_pos rfl] at hm2
    rw [hm2] at ht2
    clear hx0
    obtain ⟨a, ha⟩ : ∃ a, a = 40 + r2 := ⟨_, rfl⟩
    have ha9 : a ≤ 20000 := by omega
    by_cases hin : a < 8 * (5 + n1)
    · obtain ⟨fin, hfin⟩ : ∃ fin : Nat, fin = 8 * (5 + n1) := ⟨_, rfl⟩
      have HCASE := Lib.hid (HT.out a fin (x ||| 1#32) HXO.out (Or.inr (Or.inl ⟨by omega, hin, hfin⟩)))
      have hfl9 : fin ≤ 8 * (n1 + 9) := by omega
      have p1 : ¬ 40 + (r2 : Int) < 8 := by omega
      have p2 : 40 + (r2 : Int) < 8 * (5 + (n1 : Int)) := by omega
      clear HT
      go_upto_region 14 with (fail)
      rw [show 8 * (5 + (n1 : Int)) = (fin : Int) by omega, show 40 + (r2 : Int) = (a : Int) by omega]
      clear hfin ha hin hm2 ht2 p1 p2
      go_wp2_with fail
      refine (copy_bigN F (n1 + 9) q1 c1 w1 HFL.out (by omega) HL1.out).mono ?_
      rintro e w2 ⟨v2, rfl, h2, b2⟩
      obtain ⟨g, cg, rfl, hg1, hg2, hg3, hg4, -, -⟩ := h2.form8 (by rw [HFL.out]; omega)
      rw [HFL.out] at h2 hg3 ⊢
      have HO2 := Lib.hid h2
      have HB2 := Lib.hid b2
      have hs2 := b2.size
      have HG3 := Lib.hid hg3
      clear h2 b2 hg3 hg4
      go_wp2_with fail
      go_loopw [13] (fun i wr => ∃ k : Nat, k ≤ 32 ∧ i = .int .i64 (k : Int) ∧ Own w1.heap.size wr (turned F a fin (x ||| 1#32) k) (.slice (some ⟨g, 0, none⟩) (n1 + 9) cg) ∧ Below w1.heap.size w1 wr) (fun i _ => 32 - (intOf i).toNat)
      case atStart => exact ⟨0, Nat.zero_le _, rfl, HO2.out, HB2.out⟩
      case round =>
        obtain ⟨k, hk, rfl, ho, hb⟩ := hrel
        have HO := Lib.hid ho
        have HB := Lib.hid hb
        have hTL : (turned F a fin (x ||| 1#32) k).length = n1 + 9 := by rw [turned_length, HFL.out]
        have HTL := Lib.hid hTL
        by_cases hgo : k < 32 ∧ a + k < fin
        · obtain ⟨hk32, hkf⟩ := hgo
          have q0 : (k : Int) < 32 := by omega
          have q1 : (a : Int) + (k : Int) < (fin : Int) := by omega
          have q2 : ¬ (32 : Int) ≤ (k : Int) := by omega
          have hbt := bit_of (x ||| 1#32) k
          have htm := tmod2 ((x ||| 1#32) >>> k)
          cases hxk : (x ||| 1#32).getLsbD k with
          | true =>
            rw [hxk, if_pos rfl] at hbt
            rw [hbt] at htm
            have HTN := Lib.hid (turned_on (l := F) (a := a) (fin := fin) hxk hkf)
            obtain ⟨J, hJ⟩ : ∃ J, J = (a + k) / 8 := ⟨_, rfl⟩
            obtain ⟨R, hR⟩ : ∃ R, R = (a + k) % 8 := ⟨_, rfl⟩
            have t1 : ((a : Int) + (k : Int)).tdiv 8 = (J : Int) := by rw [Int.tdiv_eq_ediv_of_nonneg (by omega)]; omega
            have t2 : ((a : Int) + (k : Int)).tmod 8 = (R : Int) := by rw [Int.tmod_eq_emod_of_nonneg (by omega)]; omega
            have hJl : J < n1 + 9 := by omega
            have hR8 : R < 8 := by omega
            have qJ : (J : Int) < (n1 : Int) + 9 := by omega
            have qR : ¬ (8 : Int) ≤ (R : Int) := by omega
            obtain ⟨g', c', he, -, -, -, -, hcell, hfr⟩ := ho.form8 (by rw [hTL]; omega)
            injection he with he1 he2 he3
            cases he1
            have hcJ := hcell J (by rw [hTL]; exact hJl)
            have hfJ := hfr J
            have HPUT := Lib.hid (ho.put J ((turned F a fin (x ||| 1#32) k).getD J 0#8 ^^^ 1#8 <<< R))
            have hfl : (turned F a fin (x ||| 1#32) k).set J ((turned F a fin (x ||| 1#32) k).getD J 0#8 ^^^ 1#8 <<< R) = flip1 (turned F a fin (x ||| 1#32) k) (a + k) := by
              rw [hJ, hR]; rfl
            rw [hfl, ← HTN.out] at HPUT
            generalize (turned F a fin (x ||| 1#32) k).getD J 0#8 = y at HPUT hcJ
            have HBS : Hid (Below w1.heap.size w1 (wr.setCell ⟨g, J, none⟩ (.int .u8 (n8 (y ^^^ 1#8 <<< R))))) := show Below _ _ _ from hb.grown (grown_setCell wr g J _) hb.size (fun j e => by cases e; exact hg1)
            have hpw := shl8_one R
            clear ho hb HO HB hxk hbt hfl he3 hcell hfr hTL hJ hR
            go_wp2_with fail
            go_roundw
            case rel => exact ⟨k + 1, by omega, by go_num, HPUT.out, HBS.out⟩
            case measure => simp [intOf]; omega
          | false =>
            rw [hxk, if_neg (by decide)] at hbt
            rw [hbt] at htm
            have HTN := Lib.hid (turned_off (l := F) (a := a) (fin := fin) hxk)
            clear ho hb hxk hbt hTL
            go_wp2_with fail
            go_roundw
            case rel => exact ⟨k + 1, by omega, by go_num, by rw [HTN.out]; exact HO.out, HB.out⟩
            case measure => simp [intOf]; omega
        · have hstop : turned F a fin (x ||| 1#32) 32 = turned F a fin (x ||| 1#32) k := by
            by_cases h32 : k = 32
            · rw [h32]
            · have := turned_stop F a fin (x ||| 1#32) k (by omega) (32 - k)
              rwa [show k + (32 - k) = 32 by omega] at this
          have hne := HCASE.out
          rw [hstop] at hne
          obtain ⟨E, hE⟩ : ∃ E, getE (turned F a fin (x ||| 1#32) k) = E := ⟨_, rfl⟩
          rw [hE] at hne
          have HGE := Lib.hid (get_err hE hne)
          have HEE := Lib.hid hE
          have hEi : ¬ (E : Int) = 0 := by omega
          have HEB : Hid (((E : Int) != 0) = true) := show _ = _ by simpa using hne
          have HAF : Hid (k < 32 → ¬ (a : Int) + (k : Int) < (fin : Int)) := show _ from fun h => by omega
          have hws := hb.size
          have HLI : Hid (Lies wr (some ⟨g, 0, none⟩) (turned F a fin (x ||| 1#32) k)) := show Lies _ _ _ by obtain ⟨q, c, he, -, -, hl⟩ := ho.slN hTL; cases he; exact hl
          clear hstop hE ho hb hTL hgo
          by_cases h32 : k < 32
          all_goals
            (try have q0 : (k : Int) < 32 := by omega)
            (try have q0 : ¬ (k : Int) < 32 := by omega)
            (try have q1 := HAF.out h32)
            go_wp2_with fail
            refine (get_any (turned F a fin (x ||| 1#32) k) (n1 + 9) _ cg wr HTL.out (by omega) HG3.out HLI.out (HR.out.on (HB1.out.trans (HB.out.mono HB1.out.size)))).mono ?_
            rintro e w4 ⟨b4, v4, rfl, ho4⟩
            rw [HGE.out.1, HGE.out.2.1, HEE.out]
            have HB4 : Hid (Below w.heap.size w w4) := show Below _ _ _ from HB1.out.trans ((HB.out.trans (b4.mono hws)).mono HB1.out.size)
            rw [HGE.out.2.2] at ho4
            obtain ⟨q4, c4, rfl, -, -, -⟩ := ho4.slN (n := 0) rfl
            clear b4 ho4
            go_wp2_with fail
            refine calls_gen (fun w' => Below w4.heap.size w4 w') ((Below.refl _ _).alloc (Nat.le_refl _) _) ?_
            rintro w5 b5
            have HB5 : Hid (Below w.heap.size w w5) := show Below _ _ _ from HB4.out.trans (b5.mono HB4.out.size)
            clear b5
            refine (works9_any w5 (HR.out.on HB5.out)).mono ?_
            rintro e w6 ⟨rfl, b6⟩
            have HB6 : Hid (Below w.heap.size w w6) := show Below _ _ _ from HB5.out.trans (b6.mono HB5.out.size)
            clear b6
            go_wp2_with fail
            go_ret
            refine ⟨?_, HB6.out⟩
            show Ending.returned (Value.bool ((E : Int) != 0)) = _
            rw [HEB.out]
    · obtain ⟨fin, hfin⟩ : ∃ fin : Nat, fin = 8 * (n1 + 9) := ⟨_, rfl⟩
      have HCASE := Lib.hid (HT.out a fin (x ||| 1#32) HXO.out (Or.inr (Or.inr ⟨by omega, by omega, hfin⟩)))
      have hfl9 : fin ≤ 8 * (n1 + 9) := by omega
      have p1 : ¬ 40 + (r2 : Int) < 8 := by omega
      have p2 : ¬ 40 + (r2 : Int) < 8 * (5 + (n1 : Int)) := by omega
      clear HT
      go_upto_region 14 with (fail)
      rw [show 8 * ((n1 : Int) + 9) = (fin : Int) by omega, show 40 + (r2 : Int) = (a : Int) by omega]
      clear hfin ha hin hm2 ht2 p1 p2
      go_wp2_with fail
      refine (copy_bigN F (n1 + 9) q1 c1 w1 HFL.out (by omega) HL1.out).mono ?_
      rintro e w2 ⟨v2, rfl, h2, b2⟩
      obtain ⟨g, cg, rfl, hg1, hg2, hg3, hg4, -, -⟩ := h2.form8 (by rw [HFL.out]; omega)
      rw [HFL.out] at h2 hg3 ⊢
      have HO2 := Lib.hid h2
      have HB2 := Lib.hid b2
      have hs2 := b2.size
      have HG3 := Lib.hid hg3
      clear h2 b2 hg3 hg4
      go_wp2_with fail
      go_loopw [13] (fun i wr => ∃ k : Nat, k ≤ 32 ∧ i = .int .i64 (k : Int) ∧ Own w1.heap.size wr (turned F a fin (x ||| 1#32) k) (.slice (some ⟨g, 0, none⟩) (n1 + 9) cg) ∧ Below w1.heap.size w1 wr) (fun i _ => 32 - (intOf i).toNat)
      case atStart => exact ⟨0, Nat.zero_le _, rfl, HO2.out, HB2.out⟩
      case round =>
        obtain ⟨k, hk, rfl, ho, hb⟩ := hrel
        have HO := Lib.hid ho
        have HB := Lib.hid hb
        have hTL : (turned F a fin (x ||| 1#32) k).length = n1 + 9 := by rw [turned_length, HFL.out]
        have HTL := Lib.hid hTL
        by_cases hgo : k < 32 ∧ a + k < fin
        · obtain ⟨hk32, hkf⟩ := hgo
          have q0 : (k : Int) < 32 := by omega
          have q1 : (a : Int) + (k : Int) < (fin : Int) := by omega
          have q2 : ¬ (32 : Int) ≤ (k : Int) := by omega
          have hbt := bit_of (x ||| 1#32) k
          have htm := tmod2 ((x ||| 1#32) >>> k)
          cases hxk : (x ||| 1#32).getLsbD k with
          | true =>
            rw [hxk, if_pos rfl] at hbt
            rw [hbt] at htm
            have HTN := Lib.hid (turned_on (l := F) (a := a) (fin := fin) hxk hkf)
            obtain ⟨J, hJ⟩ : ∃ J, J = (a + k) / 8 := ⟨_, rfl⟩
            obtain ⟨R, hR⟩ : ∃ R, R = (a + k) % 8 := ⟨_, rfl⟩
            have t1 : ((a : Int) + (k : Int)).tdiv 8 = (J : Int) := by rw [Int.tdiv_eq_ediv_of_nonneg (by omega)]; omega
            have t2 : ((a : Int) + (k : Int)).tmod 8 = (R : Int) := by rw [Int.tmod_eq_emod_of_nonneg (by omega)]; omega
            have hJl : J < n1 + 9 := by omega
            have hR8 : R < 8 := by omega
            have qJ : (J : Int) < (n1 : Int) + 9 := by omega
            have qR : ¬ (8 : Int) ≤ (R : Int) := by omega
            obtain ⟨g', c', he, -, -, -, -, hcell, hfr⟩ := ho.form8 (by rw [hTL]; omega)
            injection he with he1 he2 he3
            cases he1
            have hcJ := hcell J (by rw [hTL]; exact hJl)
            have hfJ := hfr J
            have HPUT := Lib.hid (ho.put J ((turned F a fin (x ||| 1#32) k).getD J 0#8 ^^^ 1#8 <<< R))
            have hfl : (turned F a fin (x ||| 1#32) k).set J ((turned F a fin (x ||| 1#32) k).getD J 0#8 ^^^ 1#8 <<< R) = flip1 (turned F a fin (x ||| 1#32) k) (a + k) := by
              rw [hJ, hR]; rfl
            rw [hfl, ← HTN.out] at HPUT
            generalize (turned F a fin (x ||| 1#32) k).getD J 0#8 = y at HPUT hcJ
            have HBS : Hid (Below w1.heap.size w1 (wr.setCell ⟨g, J, none⟩ (.int .u8 (n8 (y ^^^ 1#8 <<< R))))) := show Below _ _ _ from hb.grown (grown_setCell wr g J _) hb.size (fun j e => by cases e; exact hg1)
            have hpw := shl8_one R
            clear ho hb HO HB hxk hbt hfl he3 hcell hfr hTL hJ hR
            go_wp2_with fail
            go_roundw
            case rel => exact ⟨k + 1, by omega, by go_num, HPUT.out, HBS.out⟩
            case measure => simp [intOf]; omega
          | false =>
            rw [hxk, if_neg (by decide)] at hbt
            rw [hbt] at htm
            have HTN := Lib.hid (turned_off (l := F) (a := a) (fin := fin) hxk)
            clear ho hb hxk hbt hTL
            go_wp2_with fail
            go_roundw
            case rel => exact ⟨k + 1, by omega, by go_num, by rw [HTN.out]; exact HO.out, HB.out⟩
            case measure => simp [intOf]; omega
        · have hstop : turned F a fin (x ||| 1#32) 32 = turned F a fin (x ||| 1#32) k := by
            by_cases h32 : k = 32
            · rw [h32]
            · have := turned_stop F a fin (x ||| 1#32) k (by omega) (32 - k)
              rwa [show k + (32 - k) = 32 by omega] at this
          have hne := HCASE.out
          rw [hstop] at hne
          obtain ⟨E, hE⟩ : ∃ E, getE (turned F a fin (x ||| 1#32) k) = E := ⟨_, rfl⟩
          rw [hE] at hne
          have HGE := Lib.hid (get_err hE hne)
          have HEE := Lib.hid hE
          have hEi : ¬ (E : Int) = 0 := by omega
          have HEB : Hid (((E : Int) != 0) = true) := show _ = _ by simpa using hne
          have HAF : Hid (k < 32 → ¬ (a : Int) + (k : Int) < (fin : Int)) := show _ from fun h => by omega
          have hws := hb.size
          have HLI : Hid (Lies wr (some ⟨g, 0, none⟩) (turned F a fin (x ||| 1#32) k)) := show Lies _ _ _ by obtain ⟨q, c, he, -, -, hl⟩ := ho.slN hTL; cases he; exact hl
          clear hstop hE ho hb hTL hgo
          by_cases h32 : k < 32
          all_goals
            (try have q0 : (k : Int) < 32 := by omega)
            (try have q0 : ¬ (k : Int) < 32 := by omega)
            (try have q1 := HAF.out h32)
            go_wp2_with fail
            refine (get_any (turned F a fin (x ||| 1#32) k) (n1 + 9) _ cg wr HTL.out (by omega) HG3.out HLI.out (HR.out.on (HB1.out.trans (HB.out.mono HB1.out.size)))).mono ?_
            rintro e w4 ⟨b4, v4, rfl, ho4⟩
            rw [HGE.out.1, HGE.out.2.1, HEE.out]
            have HB4 : Hid (Below w.heap.size w w4) := show Below _ _ _ from HB1.out.trans ((HB.out.trans (b4.mono hws)).mono HB1.out.size)
            rw [HGE.out.2.2] at ho4
            obtain ⟨q4, c4, rfl, -, -, -⟩ := ho4.slN (n := 0) rfl
            clear b4 ho4
            go_wp2_with fail
            refine calls_gen (fun w' => Below w4.heap.size w4 w') ((Below.refl _ _).alloc (Nat.le_refl _) _) ?_
            rintro w5 b5
            have HB5 : Hid (Below w.heap.size w w5) := show Below _ _ _ from HB4.out.trans (b5.mono HB4.out.size)
            clear b5
            refine (works9_any w5 (HR.out.on HB5.out)).mono ?_
            rintro e w6 ⟨rfl, b6⟩
            have HB6 : Hid (Below w.heap.size w w6) := show Below _ _ _ from HB5.out.trans (b6.mono HB5.out.size)
            clear b6
            go_wp2_with fail
            go_ret
            refine ⟨?_, HB6.out⟩
            show Ending.returned (Value.bool ((E : Int) != 0)) = _
            rw [HEB.out]
end Go.Proofs.YtejekgceompjpaaDoor

/-
  FrameTurned, for any kind, body, place and bits: the law returns true, and what came in reads afterwards as it read before; the package's table starts as the program's own text lays it (the tie is given).
-/
namespace Go.Proofs.YtejekgceompjpaaDoor
open Go.ChangeShapes Go.WideShapes Go.ChangeAt Go.RowKit Go.Proofs.ShaWords

set_option maxRecDepth 100000 in
theorem frameTurned_lifted (os : Os) (started : os.Started) (H : Type) (enc : TypeId × Value → H) :
    ReturnsInHanded {} Tryd.checked os 6 .any (fun w args => (Rows.frameTurnedSpec.pre enc Tryd.prog Tryd.f6 [] false w args ∧ laidMetH Tryd.prog laid9 w) ∧ sizedMet enc Tryd.prog Tryd.f6 (OpenSpec.ofChange Rows.frameTurnedSpec) false w args)
      (Rows.frameTurnedSpec.post enc Tryd.prog Tryd.f6 false true false false) := by
  refine returnsInHanded_of_change_and (C := Tryd.checked) (X := fun w _ => laidMetH Tryd.prog laid9 w) (fun _ _ _ hh h => h.of_heap hh) own started (by kernel_rfl) Tryd.func6
    (ChangeSpec.witness_shaped (enc := enc) (C := Tryd.checked) (os := os) (X := fun w _ => laidMetH Tryd.prog laid9 w) false (World.doorLaid Tryd.prog 400 os) #[.int .i64 0, .slice none 0 0, .int .i64 0, .int .u32 0] 8 rfl (World.shaped_of_RefB (by kernel_rfl) (by kernel_rfl)) (by kernel_rfl) (by kernel_rfl) (by kernel_rfl) (door_met9 os _)) ?_
  intro W base args ds gs before hval0 hW _ hsz hL _
  have hW' := hW
  obtain ⟨p, q, hA0, hV, rfl, hfz, hnd⟩ := hW
  have hA : DataW.TrodAll enc Tryd.prog W 0 (fun _ => true) true Tryd.f6.params.toList args.toList ds p := hA0
  have hval : ∀ (j : Nat) t v, Tryd.f6.params[j]? = some t → args[j]? = some v → Value.okWide Tryd.prog W .any base t v := hval0
  have hsz2 : (DataW.weightsEach Tryd.prog (Tryd.f6.params.toList ++ Rows.frameTurnedSpec.plain.varTypes Tryd.prog) (ds ++ gs)).all (· ≤ reachBytes) = true := hsz
  rw [Tryd.params6] at hA hval hsz2
  obtain ⟨v0, vs0, d0, ds0, p0, q0, hargs, rfl, rfl, h0, r0⟩ := trodAll_cons hA
  obtain ⟨v1, vs1, d1, ds1, p1, q1, rfl, rfl, rfl, h1, r1⟩ := trodAll_cons r0
  obtain ⟨v2, vs2, d2, ds2, p2, q2, rfl, rfl, rfl, h2, r2⟩ := trodAll_cons r1
  obtain ⟨v3, vs3, d3, ds3, p3, q3, rfl, rfl, rfl, h3, r3⟩ := trodAll_cons r2
  obtain ⟨rfl, rfl, rfl⟩ := trodAll_nil r3
  obtain rfl : args = #[v0, v1, v2, v3] := by cases args; simp_all
  obtain ⟨rfl, rfl⟩ := trodVars_none hV
  have hb5 : Tryd.prog.bytesOf 5 = 1 := by kernel_rfl
  obtain ⟨z0, rfl, rfl, rfl, wz0⟩ := open_int Tryd.underlying3 (hval 0 3 v0 rfl rfl) h0
  obtain ⟨a1, len1, cap1, rfl⟩ := okWide_slice Tryd.underlying22 (hval 1 22 v1 rfl rfl)
  have k1 := h1
  have lt1 : ∀ x ∈ p1, x.block < W.heap.size := by obtain ⟨m, hm⟩ := k1; exact DataW.trod_lt m _ _ _ hm
  obtain ⟨f1, hf1⟩ := h1
  obtain ⟨xs1, hx1a, hx1b, hx1c, hx1d⟩ := open_bytes hf1
  have hc1 : cap1 ≤ 140737488351232 := by
    rcases hx1d with ⟨_, h⟩ | ⟨e, sp, he, hl⟩
    · omega
    · have h := sized_slice hsz2 (j := 1) (t := 22) (elems := e) (spare := sp) rfl (by rw [← he]; rfl) Tryd.underlying22
      rw [hb5] at h; unfold reachBytes at h; omega
  obtain ⟨z2, rfl, rfl, rfl, wz2⟩ := open_int Tryd.underlying3 (hval 2 3 v2 rfl rfl) h2
  obtain ⟨z3, rfl, rfl, rfl, wz3⟩ := open_int Tryd.underlying29 (hval 3 29 v3 rfl rfl) h3
  have hQ := of_laid9 hL
  clear hA0 hval0
  obtain ⟨c3, rfl⟩ : ∃ c3, z3 = n32 c3 := ⟨BitVec.ofInt 32 z3, (n32_ofInt z3 wz3).symm⟩
  refine (frTurned_any z0 xs1 z2 c3 len1 a1 cap1 W hx1a hx1b hc1 hx1c hQ).mono fun e W' ⟨he, bel⟩ => ?_
  subst he
  exact ⟨_, rfl, _, _, _, [], _, [], hW', trodAll_mk1 (shut_bool Tryd.underlying4 _), (trodAll_cons_mk (shut_int Tryd.underlying3 wz0) (trodAll_cons_mk (Below.trod laidOut (by kernel_rfl) (of_decide_eq_true (by kernel_rfl)) k1 bel lt1) (trodAll_cons_mk (shut_int Tryd.underlying3 wz2) (trodAll_cons_mk (shut_int Tryd.underlying29 wz3) trodAll_mk0)))), rfl, bel.frame _, fun h => by cases h⟩

theorem frameTurned_holds : Rows.FrameTurnedSaid :=
  OpenClaim.holds_of_wide 6 Tryd.f6 rfl rfl rfl rfl rfl rfl rfl ⟨rfl, rfl, rfl, rfl, rfl⟩ rfl rfl rfl rfl rfl (by kernel_rfl) Tryd.func6 (by kernel_rfl)
    (of_decide_eq_true (by kernel_rfl)) (by unfold Func.isWrapper; first | (rw [if_pos (by decide +kernel)]; kernel_rfl) | (rw [if_neg (by decide +kernel)]; exact ⟨rfl, rfl⟩))
    (fun os started H enc _ => frameTurned_lifted os started H enc)

theorem frameTurned_card : Rows.FrameTurnedCardSaid :=
  Claim7.holds_tied_plain_at .later [] [.data] true Rows.frameTurnedCard.stood.harness false
    frameTurned_holds (fun _ h => by cases h) (by kernel_rfl) (fun _ h => by cases h) frameTurned_row_tie rfl ⟨rfl, rfl⟩ (by kernel_rfl) rfl
    (fun f fn hf hfn => by
      obtain rfl : f = 6 := Option.some.inj (hf.symm.trans (show _ = some 6 by kernel_rfl))
      obtain rfl : fn = Tryd.f6 := (Option.some.inj (Tryd.func6.symm.trans hfn)).symm
      exact ⟨by kernel_rfl, fun j t ht => by
        rw [Tryd.params6] at ht
        have hm : t ∈ [3, 22, 3, 29] := by simpa using Array.mem_of_getElem? ht
        have hall : ([3, 22, 3, 29].all fun u => !Tryd.prog.wantsStandIn u) = true := by kernel_rfl
        exact (show Tryd.prog.wantsStandIn t = false by simpa using List.all_eq_true.1 hall t hm)⟩)
    (by kernel_rfl)
#print axioms frameTurned_card
end Go.Proofs.YtejekgceompjpaaDoor
