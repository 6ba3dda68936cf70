/-
  DiskKnown: the law returns true. Without any condition.
-/
import Derived.Test.YtadlpidhemjkgaaPkA
import Derived.Test.YtadlpidhemjkgaaPkZ
/-
  The walk of the closed law DiskKnown.
-/
namespace Go.Proofs.Ytadlpidhemjkgaa
open Go.RowKit Go.Proofs.ShaWords
def bXY : List (BitVec 8) := [88#8, 89#8]
def bz : List (BitVec 8) := [122#8]
def fileN : List Int := [-9223372036854775808, -1, 33, 9223372036854775807]
theorem fileN_no (i : Nat) (h : i < 4) : ¬ (0 ≤ fileN.getD i 0 ∧ fileN.getD i 0 ≤ 32) := by
  have : ∀ i : Fin 4, ¬ (0 ≤ fileN.getD i.1 0 ∧ fileN.getD i.1 0 ≤ 32) := by decide
  exact this ⟨i, h⟩
theorem fileN_at (i : Nat) (h : i < 4) : (fileN.map fun n => Value.int .i64 n).toArray[i]? = some (.int .i64 (fileN.getD i 0)) := by
  have hl : i < fileN.length := h
  rw [List.getElem?_toArray, List.getElem?_map, List.getD_eq_getElem?_getD, List.getElem?_eq_getElem hl]; rfl
/-- With no such file each call is refused. -/
theorem disk_no (d : DiskM) (f : Int) (hd : d.down = false) (hf : ¬ (0 ≤ f ∧ f ≤ 32)) : d.write f [] = (d, 1) ∧ d.sync f = (d, 1) ∧ d.cut f 0 = (d, 1) ∧ d.over f 0 [] = (d, 1) ∧ d.read f = [] := by
  have e0 : d.openE f = 1 := by unfold DiskM.openE; rw [if_neg (by rw [hd]; decide), if_neg hf]
  refine ⟨?_, ?_, ?_, ?_, if_neg hf⟩
  · unfold DiskM.write; rw [if_pos (by rw [e0]; decide), e0]
  · unfold DiskM.sync; rw [if_pos (by rw [e0]; decide), e0]
  · unfold DiskM.cut; rw [if_pos (by rw [e0]; decide), e0]
  · unfold DiskM.over; rw [if_pos (by rw [e0]; decide), e0]
def m8_1 : DiskM := ((DiskM.new 10).write 1 abcd).1
def m8_2 : DiskM := (m8_1.sync 1).1
def m8_3 : DiskM := (m8_2.write 1 efg).1
def m8_4 : DiskM := m8_3.crash [2]
def m8_5 : DiskM := (m8_4.over 1 1 bXY).1
def m8_6 : DiskM := (m8_5.over 1 5 bXY).1
def m8_7 : DiskM := m8_6.arm 1
def m8_8 : DiskM := (m8_7.cut 1 4).1
def m8_9 : DiskM := (m8_8.write 1 bz).1
def m8_10 : DiskM := (m8_9.sync 1).1
def m8_11 : DiskM := m8_10.crash [1]
def m8_12 : DiskM := (m8_11.write 32 []).1
def m8_13 : DiskM := (m8_12.cut 1 6).1
def m8_14 : DiskM := (m8_13.cut 1 (-1)).1
def m8_15 : DiskM := (m8_14.cut 1 5).1
def m8_16 : DiskM := (m8_15.over 1 5 []).1
def m8_17 : DiskM := (m8_16.over 1 6 []).1
def m8_18 : DiskM := (m8_17.over 1 (-9223372036854775808) []).1
def m8_19 : DiskM := (m8_18.over 1 9223372036854775807 []).1
def m8_20 : DiskM := m8_19.arm 0
def m8_21 : DiskM := m8_20.arm (-9223372036854775808)
def m8_22 : DiskM := (m8_21.sync 1).1
theorem m8f_0 : (DiskM.new 10).count < 1000000000 := by decide +kernel
theorem m8f_1 : ((DiskM.new 10).write 1 abcd).2 = 0 := by decide +kernel
theorem m8f_2 : m8_1.count < 1000000000 := by decide +kernel
theorem m8f_3 : (m8_1.sync 1).2 = 0 := by decide +kernel
theorem m8f_4 : m8_2.count < 1000000000 := by decide +kernel
theorem m8f_5 : (m8_2.write 1 efg).2 = 0 := by decide +kernel
theorem m8f_6 : m8_3.used = 7 := by decide +kernel
theorem m8f_7 : m8_4.count < 1000000000 := by decide +kernel
theorem m8f_8 : (m8_4.over 1 1 bXY).2 = 0 := by decide +kernel
theorem m8f_9 : m8_5.count < 1000000000 := by decide +kernel
theorem m8f_10 : (m8_5.over 1 5 bXY).2 = 1 := by decide +kernel
theorem m8f_11 : m8_6.read 1 = [97#8, 88#8, 89#8, 100#8, 101#8, 102#8] := by decide +kernel
theorem m8f_12 : m8_7.count < 1000000000 := by decide +kernel
theorem m8f_13 : (m8_7.cut 1 4).2 = 0 := by decide +kernel
theorem m8f_14 : m8_8.count < 1000000000 := by decide +kernel
theorem m8f_15 : (m8_8.write 1 bz).2 = 9 := by decide +kernel
theorem m8f_16 : m8_9.count < 1000000000 := by decide +kernel
theorem m8f_17 : (m8_9.sync 1).2 = 9 := by decide +kernel
theorem m8f_18 : m8_10.down = true := by decide +kernel
theorem m8f_19 : m8_11.read 1 = [97#8, 88#8, 89#8, 100#8, 122#8] := by decide +kernel
theorem m8f_20 : m8_11.count = 6 := by decide +kernel
theorem m8f_21 : m8_11.down = false := by decide +kernel
theorem m8f_22 : m8_11.count < 1000000000 := by decide +kernel
theorem m8f_23 : m8_11.count < 1000000000 := by decide +kernel
theorem m8f_24 : (m8_11.write 32 []).2 = 0 := by decide +kernel
theorem m8f_25 : m8_12.count < 1000000000 := by decide +kernel
theorem m8f_26 : (m8_12.cut 1 6).2 = 1 := by decide +kernel
theorem m8f_27 : m8_13.count < 1000000000 := by decide +kernel
theorem m8f_28 : (m8_13.cut 1 (-1)).2 = 1 := by decide +kernel
theorem m8f_29 : m8_14.count < 1000000000 := by decide +kernel
theorem m8f_30 : (m8_14.cut 1 5).2 = 0 := by decide +kernel
theorem m8f_31 : m8_15.count < 1000000000 := by decide +kernel
theorem m8f_32 : (m8_15.over 1 5 []).2 = 0 := by decide +kernel
theorem m8f_33 : m8_16.count < 1000000000 := by decide +kernel
theorem m8f_34 : (m8_16.over 1 6 []).2 = 1 := by decide +kernel
theorem m8f_35 : m8_17.count < 1000000000 := by decide +kernel
theorem m8f_36 : (m8_17.over 1 (-9223372036854775808) []).2 = 1 := by decide +kernel
theorem m8f_37 : m8_18.count < 1000000000 := by decide +kernel
theorem m8f_38 : (m8_18.over 1 9223372036854775807 []).2 = 1 := by decide +kernel
theorem m8f_39 : m8_21.count < 1000000000 := by decide +kernel
theorem m8f_40 : (m8_21.sync 1).2 = 0 := by decide +kernel
theorem m8f_41 : (DiskM.new (-5)).room = 0 := by decide +kernel
theorem m8f_42 : (DiskM.new 1099511627776).room = 262144 := by decide +kernel
set_option maxRecDepth 100000 in
set_option maxHeartbeats 8000000 in
theorem diskKnown_any (w : World) : Calls Try.prog 8 #[] w fun e w' => e = .returned (.bool true) ∧ Below w.heap.size w w' := by
  have HF0 := Lib.hid m8f_0
  have HF1 := Lib.hid m8f_1
  have HF2 := Lib.hid m8f_2
  have HF3 := Lib.hid m8f_3
  have HF4 := Lib.hid m8f_4
  have HF5 := Lib.hid m8f_5
  have HF6 := Lib.hid m8f_6
  have HF7 := Lib.hid m8f_7
  have HF8 := Lib.hid m8f_8
  have HF9 := Lib.hid m8f_9
  have HF10 := Lib.hid m8f_10
  have HF11 := Lib.hid m8f_11
  have HF12 := Lib.hid m8f_12
  have HF13 := Lib.hid m8f_13
  have HF14 := Lib.hid m8f_14
  have HF15 := Lib.hid m8f_15
  have HF16 := Lib.hid m8f_16
  have HF17 := Lib.hid m8f_17
  have HF18 := Lib.hid m8f_18
  have HF19 := Lib.hid m8f_19
  have HF20 := Lib.hid m8f_20
  have HF21 := Lib.hid m8f_21
  have HF22 := Lib.hid m8f_22
  have HF23 := Lib.hid m8f_23
  have HF24 := Lib.hid m8f_24
  have HF25 := Lib.hid m8f_25
  have HF26 := Lib.hid m8f_26
  have HF27 := Lib.hid m8f_27
  have HF28 := Lib.hid m8f_28
  have HF29 := Lib.hid m8f_29
  have HF30 := Lib.hid m8f_30
  have HF31 := Lib.hid m8f_31
  have HF32 := Lib.hid m8f_32
  have HF33 := Lib.hid m8f_33
  have HF34 := Lib.hid m8f_34
  have HF35 := Lib.hid m8f_35
  have HF36 := Lib.hid m8f_36
  have HF37 := Lib.hid m8f_37
  have HF38 := Lib.hid m8f_38
  have HF39 := Lib.hid m8f_39
  have HF40 := Lib.hid m8f_40
  have HF41 := Lib.hid m8f_41
  have HF42 := Lib.hid m8f_42
  have kc := fun (w : World) (C : Array Value) (n c : Nat) => Lib.run_convert_bytes_const (P := Try.prog) w 23 5 C n c Try.underlying23 Try.underlying5
  go_enter Try.func8, Try.ntmps8
  go_wp2_with fail
  refine (dkNewI w.heap.size 10 w (Nat.le_refl _)).mono ?_
  rintro e w1 ⟨g, rfl, hi, hb⟩
  have HI1 := Lib.hid (DkL.of hi); have HB1 := Lib.hid hb; clear hi hb
  go_wp2_with fail
  have hl : Lies (w1.alloc (.cells #[.int .u8 97, .int .u8 98, .int .u8 99, .int .u8 100] 5 (4, 5))) (some ⟨w1.heap.size, 0, none⟩) [97#8, 98#8, 99#8, 100#8] := lies_new rfl
  have hb : Below w1.heap.size w1 (w1.alloc (.cells #[.int .u8 97, .int .u8 98, .int .u8 99, .int .u8 100] 5 (4, 5))) := (Below.refl _ _).alloc (Nat.le_refl _) _
  generalize w1.alloc (.cells #[.int .u8 97, .int .u8 98, .int .u8 99, .int .u8 100] 5 (4, 5)) = w2 at hl hb ⊢
  have HI2 := Lib.hid (HI1.out.below hb); have HB2 := Lib.hid (HB1.out.trans (hb.mono HB1.out.size))
  have HL2 := Lib.hid hl
  clear hl hb HI1 HB1
  refine (HI2.out.go HB2.out.size (fun S h => dkWrite_any S g (DiskM.new 10) 1 abcd 4 _ _ w2 h HF0.out rfl (by omega) HL2.out)).mono ?_
  rintro e w3 ⟨rfl, hi, hb⟩
  rw [show ((DiskM.new 10).write 1 abcd).2 = 0 from HF1.out]
  have HI3 := Lib.hid hi; have HB3 := Lib.hid (HB2.out.trans hb)
  clear hi hb HI2 HB2
  have HI3k : Hid (DkL w.heap.size w3 g m8_1 []) := show DkL _ _ _ _ _ from HI3.out; clear HI3
  go_wp2_with fail
  refine (HI3k.out.go HB3.out.size (fun S h => dkSync_any S g m8_1 1 w3 h HF2.out)).mono ?_
  rintro e w4 ⟨rfl, hi, hb⟩
  rw [show (m8_1.sync 1).2 = 0 from HF3.out]
  have HI4 := Lib.hid hi; have HB4 := Lib.hid (HB3.out.trans hb)
  clear hi hb HI3k HB3
  have HI4k : Hid (DkL w.heap.size w4 g m8_2 []) := show DkL _ _ _ _ _ from HI4.out; clear HI4
  go_wp2_with fail
  have hl : Lies (w4.alloc (.cells #[.int .u8 101, .int .u8 102, .int .u8 103] 5 (3, 4))) (some ⟨w4.heap.size, 0, none⟩) [101#8, 102#8, 103#8] := lies_new rfl
  have hb : Below w4.heap.size w4 (w4.alloc (.cells #[.int .u8 101, .int .u8 102, .int .u8 103] 5 (3, 4))) := (Below.refl _ _).alloc (Nat.le_refl _) _
  generalize w4.alloc (.cells #[.int .u8 101, .int .u8 102, .int .u8 103] 5 (3, 4)) = w5 at hl hb ⊢
  have HI5 := Lib.hid (HI4k.out.below hb); have HB5 := Lib.hid (HB4.out.trans (hb.mono HB4.out.size))
  have HL5 := Lib.hid hl
  clear hl hb HI4k HB4
  refine (HI5.out.go HB5.out.size (fun S h => dkWrite_any S g m8_2 1 efg 3 _ _ w5 h HF4.out rfl (by omega) HL5.out)).mono ?_
  rintro e w6 ⟨rfl, hi, hb⟩
  rw [show (m8_2.write 1 efg).2 = 0 from HF5.out]
  have HI6 := Lib.hid hi; have HB6 := Lib.hid (HB5.out.trans hb)
  clear hi hb HI5 HB5
  have HI6k : Hid (DkL w.heap.size w6 g m8_3 []) := show DkL _ _ _ _ _ from HI6.out; clear HI6
  go_wp2_with fail
  refine (HI6k.out.used).mono ?_
  rintro e w7 ⟨rfl, rfl⟩
  rw [show m8_3.used = 7 from HF6.out]
  go_wp2_with fail
  have hl : (w6.alloc (.cells #[.int .i64 2] 3)).heap[w6.heap.size]? = some (.cells #[.int .i64 2] 3 (0, 0)) := heap_alloc_new _ _
  have hb : Below w6.heap.size w6 (w6.alloc (.cells #[.int .i64 2] 3)) := (Below.refl _ _).alloc (Nat.le_refl _) _
  generalize w6.alloc (.cells #[.int .i64 2] 3) = w8 at hl hb ⊢
  have HB8 := Lib.hid (HB6.out.trans (hb.mono HB6.out.size))
  refine (DkL.crash (n := 1) (c := 1) (keep := [2]) HI6k.out HB6.out.size hb (Nat.le_refl _) hl rfl rfl (Nat.le_refl _)).mono ?_
  rintro e w9 ⟨rfl, hi, hb⟩
  have HI9 := Lib.hid hi; have HB9 := Lib.hid (HB8.out.trans hb)
  clear hi hb HI6k HB8
  clear hl HB6
  have HI9k : Hid (DkL w.heap.size w9 g m8_4 []) := show DkL _ _ _ _ _ from HI9.out; clear HI9
  go_wp2_with fail
  have hl : Lies (w9.alloc (.cells #[.int .u8 88, .int .u8 89] 5 (2, 3))) (some ⟨w9.heap.size, 0, none⟩) [88#8, 89#8] := lies_new rfl
  have hb : Below w9.heap.size w9 (w9.alloc (.cells #[.int .u8 88, .int .u8 89] 5 (2, 3))) := (Below.refl _ _).alloc (Nat.le_refl _) _
  generalize w9.alloc (.cells #[.int .u8 88, .int .u8 89] 5 (2, 3)) = w10 at hl hb ⊢
  have HI10 := Lib.hid (HI9k.out.below hb); have HB10 := Lib.hid (HB9.out.trans (hb.mono HB9.out.size))
  have HL10 := Lib.hid hl
  clear hl hb HI9k HB9
  refine (HI10.out.go HB10.out.size (fun S h => dkOver_any S g m8_4 1 1 2 _ _ bXY w10 h HF7.out (by omega) rfl HL10.out)).mono ?_
  rintro e w11 ⟨rfl, hi, hb⟩
  rw [show (m8_4.over 1 1 bXY).2 = 0 from HF8.out]
  have HI11 := Lib.hid hi; have HB11 := Lib.hid (HB10.out.trans hb)
  clear hi hb HI10 HB10
  have HI11k : Hid (DkL w.heap.size w11 g m8_5 []) := show DkL _ _ _ _ _ from HI11.out; clear HI11
  go_wp2_with fail
  have hl : Lies (w11.alloc (.cells #[.int .u8 88, .int .u8 89] 5 (2, 3))) (some ⟨w11.heap.size, 0, none⟩) [88#8, 89#8] := lies_new rfl
  have hb : Below w11.heap.size w11 (w11.alloc (.cells #[.int .u8 88, .int .u8 89] 5 (2, 3))) := (Below.refl _ _).alloc (Nat.le_refl _) _
  generalize w11.alloc (.cells #[.int .u8 88, .int .u8 89] 5 (2, 3)) = w12 at hl hb ⊢
  have HI12 := Lib.hid (HI11k.out.below hb); have HB12 := Lib.hid (HB11.out.trans (hb.mono HB11.out.size))
  have HL12 := Lib.hid hl
  clear hl hb HI11k HB11
  refine (HI12.out.go HB12.out.size (fun S h => dkOver_any S g m8_5 1 5 2 _ _ bXY w12 h HF9.out (by omega) rfl HL12.out)).mono ?_
  rintro e w13 ⟨rfl, hi, hb⟩
  rw [show (m8_5.over 1 5 bXY).2 = 1 from HF10.out]
  have HI13 := Lib.hid hi; have HB13 := Lib.hid (HB12.out.trans hb)
  clear hi hb HI12 HB12
  have HI13k : Hid (DkL w.heap.size w13 g m8_6 []) := show DkL _ _ _ _ _ from HI13.out; clear HI13
  go_wp2_with fail
  refine (HI13k.out.read 1).mono ?_
  rintro e w14 ⟨v, rfl, ho, hb⟩
  rw [show m8_6.read 1 = [97#8, 88#8, 89#8, 100#8, 101#8, 102#8] from HF11.out] at ho
  obtain ⟨q14, c14, rfl, -, -, hl⟩ := ho.lies
  have HI14 := Lib.hid (HI13k.out.below hb); have HB14 := Lib.hid (HB13.out.trans (hb.mono HB13.out.size)); have HL14 := Lib.hid hl
  have hlen : ([97#8, 88#8, 89#8, 100#8, 101#8, 102#8] : List (BitVec 8)).length = 6 := rfl
  rw [hlen]
  clear ho hb hl hlen HI13k HB13
  go_wp2_with fail
  have hl : Lies (w14.alloc (.cells #[.int .u8 97, .int .u8 88, .int .u8 89, .int .u8 100, .int .u8 101, .int .u8 102] 5 (6, 7))) (some ⟨w14.heap.size, 0, none⟩) [97#8, 88#8, 89#8, 100#8, 101#8, 102#8] := lies_new rfl
  have hb : Below w14.heap.size w14 (w14.alloc (.cells #[.int .u8 97, .int .u8 88, .int .u8 89, .int .u8 100, .int .u8 101, .int .u8 102] 5 (6, 7))) := (Below.refl _ _).alloc (Nat.le_refl _) _
  have hl2 := HL14.out.below hb
  generalize w14.alloc (.cells #[.int .u8 97, .int .u8 88, .int .u8 89, .int .u8 100, .int .u8 101, .int .u8 102] 5 (6, 7)) = w15 at hl hb hl2 ⊢
  have HI15 := Lib.hid (HI14.out.below hb); have HB15 := Lib.hid (HB14.out.trans (hb.mono HB14.out.size))
  refine (same_any [97#8, 88#8, 89#8, 100#8, 101#8, 102#8] 6 q14 _ c14 6 w15 rfl (by omega) hl2 hl).mono ?_
  rintro e w16 ⟨rfl, hb2⟩
  have HI16 := Lib.hid (HI15.out.below hb2); have HB16 := Lib.hid (HB15.out.trans (hb2.mono HB15.out.size))
  clear hl hl2 hb hb2 HL14 HI14 HB14 HI15 HB15
  go_wp2_with fail
  refine (HI16.out.go HB16.out.size (fun S h => dkArm_any S g m8_6 1 w16 h (by omega))).mono ?_
  rintro e w17 ⟨rfl, hi, hb⟩
  have HI17 := Lib.hid hi; have HB17 := Lib.hid (HB16.out.trans hb)
  clear hi hb HI16 HB16
  have HI17k : Hid (DkL w.heap.size w17 g m8_7 []) := show DkL _ _ _ _ _ from HI17.out; clear HI17
  go_wp2_with fail
  refine (HI17k.out.go HB17.out.size (fun S h => dkCut_any S g m8_7 1 4 w17 h HF12.out)).mono ?_
  rintro e w18 ⟨rfl, hi, hb⟩
  rw [show (m8_7.cut 1 4).2 = 0 from HF13.out]
  have HI18 := Lib.hid hi; have HB18 := Lib.hid (HB17.out.trans hb)
  clear hi hb HI17k HB17
  have HI18k : Hid (DkL w.heap.size w18 g m8_8 []) := show DkL _ _ _ _ _ from HI18.out; clear HI18
  go_wp2_with fail
  have hl : Lies (w18.alloc (.cells #[.int .u8 122] 5 (1, 2))) (some ⟨w18.heap.size, 0, none⟩) [122#8] := lies_new rfl
  have hb : Below w18.heap.size w18 (w18.alloc (.cells #[.int .u8 122] 5 (1, 2))) := (Below.refl _ _).alloc (Nat.le_refl _) _
  generalize w18.alloc (.cells #[.int .u8 122] 5 (1, 2)) = w19 at hl hb ⊢
  have HI19 := Lib.hid (HI18k.out.below hb); have HB19 := Lib.hid (HB18.out.trans (hb.mono HB18.out.size))
  have HL19 := Lib.hid hl
  clear hl hb HI18k HB18
  refine (HI19.out.go HB19.out.size (fun S h => dkWrite_any S g m8_8 1 bz 1 _ _ w19 h HF14.out rfl (by omega) HL19.out)).mono ?_
  rintro e w20 ⟨rfl, hi, hb⟩
  rw [show (m8_8.write 1 bz).2 = 9 from HF15.out]
  have HI20 := Lib.hid hi; have HB20 := Lib.hid (HB19.out.trans hb)
  clear hi hb HI19 HB19
  have HI20k : Hid (DkL w.heap.size w20 g m8_9 []) := show DkL _ _ _ _ _ from HI20.out; clear HI20
  go_wp2_with fail
  refine (HI20k.out.go HB20.out.size (fun S h => dkSync_any S g m8_9 1 w20 h HF16.out)).mono ?_
  rintro e w21 ⟨rfl, hi, hb⟩
  rw [show (m8_9.sync 1).2 = 9 from HF17.out]
  have HI21 := Lib.hid hi; have HB21 := Lib.hid (HB20.out.trans hb)
  clear hi hb HI20k HB20
  have HI21k : Hid (DkL w.heap.size w21 g m8_10 []) := show DkL _ _ _ _ _ from HI21.out; clear HI21
  go_wp2_with fail
  refine (HI21k.out.down).mono ?_
  rintro e w22 ⟨rfl, rfl⟩
  rw [show m8_10.down = true from HF18.out]
  go_wp2_with fail
  have hl : (w21.alloc (.cells #[.int .i64 1] 3)).heap[w21.heap.size]? = some (.cells #[.int .i64 1] 3 (0, 0)) := heap_alloc_new _ _
  have hb : Below w21.heap.size w21 (w21.alloc (.cells #[.int .i64 1] 3)) := (Below.refl _ _).alloc (Nat.le_refl _) _
  generalize w21.alloc (.cells #[.int .i64 1] 3) = w23 at hl hb ⊢
  have HB23 := Lib.hid (HB21.out.trans (hb.mono HB21.out.size))
  refine (DkL.crash (n := 1) (c := 1) (keep := [1]) HI21k.out HB21.out.size hb (Nat.le_refl _) hl rfl rfl (Nat.le_refl _)).mono ?_
  rintro e w24 ⟨rfl, hi, hb⟩
  have HI24 := Lib.hid hi; have HB24 := Lib.hid (HB23.out.trans hb)
  clear hi hb HI21k HB23
  clear hl HB21
  have HI24k : Hid (DkL w.heap.size w24 g m8_11 []) := show DkL _ _ _ _ _ from HI24.out; clear HI24
  go_wp2_with fail
  refine (HI24k.out.read 1).mono ?_
  rintro e w25 ⟨v, rfl, ho, hb⟩
  rw [show m8_11.read 1 = [97#8, 88#8, 89#8, 100#8, 122#8] from HF19.out] at ho
  obtain ⟨q25, c25, rfl, -, -, hl⟩ := ho.lies
  have HI25 := Lib.hid (HI24k.out.below hb); have HB25 := Lib.hid (HB24.out.trans (hb.mono HB24.out.size)); have HL25 := Lib.hid hl
  have hlen : ([97#8, 88#8, 89#8, 100#8, 122#8] : List (BitVec 8)).length = 5 := rfl
  rw [hlen]
  clear ho hb hl hlen HI24k HB24
  go_wp2_with fail
  have hl : Lies (w25.alloc (.cells #[.int .u8 97, .int .u8 88, .int .u8 89, .int .u8 100, .int .u8 122] 5 (5, 6))) (some ⟨w25.heap.size, 0, none⟩) [97#8, 88#8, 89#8, 100#8, 122#8] := lies_new rfl
  have hb : Below w25.heap.size w25 (w25.alloc (.cells #[.int .u8 97, .int .u8 88, .int .u8 89, .int .u8 100, .int .u8 122] 5 (5, 6))) := (Below.refl _ _).alloc (Nat.le_refl _) _
  have hl2 := HL25.out.below hb
  generalize w25.alloc (.cells #[.int .u8 97, .int .u8 88, .int .u8 89, .int .u8 100, .int .u8 122] 5 (5, 6)) = w26 at hl hb hl2 ⊢
  have HI26 := Lib.hid (HI25.out.below hb); have HB26 := Lib.hid (HB25.out.trans (hb.mono HB25.out.size))
  refine (same_any [97#8, 88#8, 89#8, 100#8, 122#8] 5 q25 _ c25 5 w26 rfl (by omega) hl2 hl).mono ?_
  rintro e w27 ⟨rfl, hb2⟩
  have HI27 := Lib.hid (HI26.out.below hb2); have HB27 := Lib.hid (HB26.out.trans (hb2.mono HB26.out.size))
  clear hl hl2 hb hb2 HL25 HI25 HB25 HI26 HB26
  go_wp2_with fail
  refine (HI27.out.count).mono ?_
  rintro e w28 ⟨rfl, rfl⟩
  rw [show m8_11.count = 6 from HF20.out]
  go_wp2_with fail
  have hg0 : (w27.alloc (.cells (fileN.map fun n => Value.int .i64 n).toArray 3)).heap[w27.heap.size]? = some (.cells (fileN.map fun n => Value.int .i64 n).toArray 3 (0, 0)) := heap_alloc_new _ _
  have hb0 : Below w27.heap.size w27 (w27.alloc (.cells (fileN.map fun n => Value.int .i64 n).toArray 3)) := (Below.refl _ _).alloc (Nat.le_refl _) _
  obtain ⟨gF, hgF⟩ : ∃ gF, gF = w27.heap.size := ⟨_, rfl⟩
  have HK0 : Hid (DkL w.heap.size (w27.alloc (.cells (fileN.map fun n => Value.int .i64 n).toArray 3)) g m8_11 [(gF, .cells (fileN.map fun n => Value.int .i64 n).toArray 3 (0, 0))]) := show DkL _ _ _ _ _ from HI27.out.add hb0 (Nat.le_of_eq hgF.symm) (by rw [hgF]; exact hg0)
  have HB0 := Lib.hid (HB27.out.trans (hb0.mono HB27.out.size))
  rw [← hgF]
  clear hg0 hb0 hgF HI27 HB27
  go_loopw [8] (fun iv wr => ∃ i : Nat, i ≤ 4 ∧ iv = .int .i64 (i : Int) ∧ DkL w.heap.size wr g m8_11 [(gF, .cells (fileN.map fun n => Value.int .i64 n).toArray 3 (0, 0))] ∧ Below w.heap.size w wr) (fun iv _ => 4 - (intOf iv).toNat)
  case atStart => exact ⟨0, by omega, rfl, HK0.out, HB0.out⟩
  case round =>
    clear HK0 HB0
    obtain ⟨i, hi, rfl, hk, hb⟩ := hrel
    have HI900 := Lib.hid hk; have HB900 := Lib.hid hb
    clear hk hb
    by_cases hlt : i < 4
    · obtain ⟨f, hf⟩ : ∃ f, fileN.getD i 0 = f := ⟨_, rfl⟩
      have HFX : Hid (¬ (0 ≤ f ∧ f ≤ 32)) := show ¬ _ from by rw [← hf]; exact fileN_no i hlt
      have HFC : Hid (∀ w' : World, w'.heap[gF]? = some (.cells (fileN.map fun n => Value.int .i64 n).toArray 3 (0, 0)) → w'.cell? ⟨gF, i, none⟩ = some (.int .i64 f)) := show ∀ _, _ → _ = _ from fun w' h => by rw [cell_of_row _ _ _ _ _ _ h, ← hf]; exact fileN_at i hlt
      clear hf
      have q0 : (0 : Int) ≤ (i : Int) := by omega
      have q1 : (i : Int) < 4 := by omega
      have hsame := disk_no m8_11 f HF21.out HFX.out
      have HSM := Lib.hid hsame; clear hsame
      have cx := HFC.out _ (HI900.out.at List.mem_cons_self)
      go_wp2_with fail
      refine (HI900.out.go (d' := m8_11) (v := .returned (.int .i64 1)) HB900.out.size (fun S h => by have := dkWrite_any S g m8_11 f [] 0 0 none _ h HF22.out rfl (by omega) (Or.inl rfl); rw [HSM.out.1] at this; exact this)).mono ?_
      rintro e w901 ⟨rfl, hi, hb⟩
      have HI901 := Lib.hid hi; have HB901 := Lib.hid (HB900.out.trans hb)
      clear hi hb HI900 HB900
      clear cx
      have cx := HFC.out _ (HI901.out.at List.mem_cons_self)
      go_wp2_with fail
      refine (HI901.out.go (d' := m8_11) (v := .returned (.int .i64 1)) HB901.out.size (fun S h => by have := dkSync_any S g m8_11 f _ h HF22.out; rw [HSM.out.2.1] at this; exact this)).mono ?_
      rintro e w902 ⟨rfl, hi, hb⟩
      have HI902 := Lib.hid hi; have HB902 := Lib.hid (HB901.out.trans hb)
      clear hi hb HI901 HB901
      clear cx
      have cx := HFC.out _ (HI902.out.at List.mem_cons_self)
      go_wp2_with fail
      refine (HI902.out.go (d' := m8_11) (v := .returned (.int .i64 1)) HB902.out.size (fun S h => by have := dkCut_any S g m8_11 f 0 _ h HF22.out; rw [HSM.out.2.2.1] at this; exact this)).mono ?_
      rintro e w903 ⟨rfl, hi, hb⟩
      have HI903 := Lib.hid hi; have HB903 := Lib.hid (HB902.out.trans hb)
      clear hi hb HI902 HB902
      clear cx
      have cx := HFC.out _ (HI903.out.at List.mem_cons_self)
      go_wp2_with fail
      refine (HI903.out.go (d' := m8_11) (v := .returned (.int .i64 1)) HB903.out.size (fun S h => by have := dkOver_any S g m8_11 f 0 0 0 none [] _ h HF22.out (by omega) rfl (Or.inl rfl); rw [HSM.out.2.2.2.1] at this; exact this)).mono ?_
      rintro e w904 ⟨rfl, hi, hb⟩
      have HI904 := Lib.hid hi; have HB904 := Lib.hid (HB903.out.trans hb)
      clear hi hb HI903 HB903
      clear cx
      have cx := HFC.out _ (HI904.out.at List.mem_cons_self)
      go_wp2_with fail
      refine (HI904.out.read f).mono ?_
      rintro e w905 ⟨v, rfl, ho, hb⟩
      rw [HSM.out.2.2.2.2] at ho
      obtain ⟨q905, c905, rfl, -, -, -⟩ := ho.lies
      have HI905 := Lib.hid (HI904.out.below hb); have HB905 := Lib.hid (HB904.out.trans (hb.mono HB904.out.size))
      rw [List.length_nil]
      clear ho hb cx HI904 HB904
      go_wp2_with fail
      go_roundw
      case rel => exact ⟨i + 1, by omega, by go_num, HI905.out, HB905.out⟩
      case measure => simp [intOf]; omega
    · have q1 : ¬ (i : Int) < 4 := by omega
      have HI950 := Lib.hid (HI900.out.fewer (L' := []) (fun x hx => absurd hx List.not_mem_nil)); have HB950 := Lib.hid HB900.out
      clear HI900 HB900
      go_wp2_with fail
      refine (HI950.out.go HB950.out.size (fun S h => dkWrite_any S g m8_11 32 [] 0 0 _ wr h HF23.out rfl (by omega) (Or.inl rfl))).mono ?_
      rintro e w951 ⟨rfl, hi, hb⟩
      rw [show (m8_11.write 32 []).2 = 0 from HF24.out]
      have HI951 := Lib.hid hi; have HB951 := Lib.hid (HB950.out.trans hb)
      clear hi hb HI950 HB950
      have HI951k : Hid (DkL w.heap.size w951 g m8_12 []) := show DkL _ _ _ _ _ from HI951.out; clear HI951
      go_wp2_with fail
      refine (HI951k.out.go HB951.out.size (fun S h => dkCut_any S g m8_12 1 6 w951 h HF25.out)).mono ?_
      rintro e w952 ⟨rfl, hi, hb⟩
      rw [show (m8_12.cut 1 6).2 = 1 from HF26.out]
      have HI952 := Lib.hid hi; have HB952 := Lib.hid (HB951.out.trans hb)
      clear hi hb HI951k HB951
      have HI952k : Hid (DkL w.heap.size w952 g m8_13 []) := show DkL _ _ _ _ _ from HI952.out; clear HI952
      go_wp2_with fail
      refine (HI952k.out.go HB952.out.size (fun S h => dkCut_any S g m8_13 1 (-1) w952 h HF27.out)).mono ?_
      rintro e w953 ⟨rfl, hi, hb⟩
      rw [show (m8_13.cut 1 (-1)).2 = 1 from HF28.out]
      have HI953 := Lib.hid hi; have HB953 := Lib.hid (HB952.out.trans hb)
      clear hi hb HI952k HB952
      have HI953k : Hid (DkL w.heap.size w953 g m8_14 []) := show DkL _ _ _ _ _ from HI953.out; clear HI953
      go_wp2_with fail
      refine (HI953k.out.go HB953.out.size (fun S h => dkCut_any S g m8_14 1 5 w953 h HF29.out)).mono ?_
      rintro e w954 ⟨rfl, hi, hb⟩
      rw [show (m8_14.cut 1 5).2 = 0 from HF30.out]
      have HI954 := Lib.hid hi; have HB954 := Lib.hid (HB953.out.trans hb)
      clear hi hb HI953k HB953
      have HI954k : Hid (DkL w.heap.size w954 g m8_15 []) := show DkL _ _ _ _ _ from HI954.out; clear HI954
      go_wp2_with fail
      refine (HI954k.out.go HB954.out.size (fun S h => dkOver_any S g m8_15 1 5 0 0 none [] w954 h HF31.out (by omega) rfl (Or.inl rfl))).mono ?_
      rintro e w955 ⟨rfl, hi, hb⟩
      rw [show (m8_15.over 1 5 []).2 = 0 from HF32.out]
      have HI955 := Lib.hid hi; have HB955 := Lib.hid (HB954.out.trans hb)
      clear hi hb HI954k HB954
      have HI955k : Hid (DkL w.heap.size w955 g m8_16 []) := show DkL _ _ _ _ _ from HI955.out; clear HI955
      go_wp2_with fail
      refine (HI955k.out.go HB955.out.size (fun S h => dkOver_any S g m8_16 1 6 0 0 none [] w955 h HF33.out (by omega) rfl (Or.inl rfl))).mono ?_
      rintro e w956 ⟨rfl, hi, hb⟩
      rw [show (m8_16.over 1 6 []).2 = 1 from HF34.out]
      have HI956 := Lib.hid hi; have HB956 := Lib.hid (HB955.out.trans hb)
      clear hi hb HI955k HB955
      have HI956k : Hid (DkL w.heap.size w956 g m8_17 []) := show DkL _ _ _ _ _ from HI956.out; clear HI956
      go_wp2_with fail
      refine (HI956k.out.go HB956.out.size (fun S h => dkOver_any S g m8_17 1 (-9223372036854775808) 0 0 none [] w956 h HF35.out (by omega) rfl (Or.inl rfl))).mono ?_
      rintro e w957 ⟨rfl, hi, hb⟩
      rw [show (m8_17.over 1 (-9223372036854775808) []).2 = 1 from HF36.out]
      have HI957 := Lib.hid hi; have HB957 := Lib.hid (HB956.out.trans hb)
      clear hi hb HI956k HB956
      have HI957k : Hid (DkL w.heap.size w957 g m8_18 []) := show DkL _ _ _ _ _ from HI957.out; clear HI957
      go_wp2_with fail
      refine (HI957k.out.go HB957.out.size (fun S h => dkOver_any S g m8_18 1 9223372036854775807 0 0 none [] w957 h HF37.out (by omega) rfl (Or.inl rfl))).mono ?_
      rintro e w958 ⟨rfl, hi, hb⟩
      rw [show (m8_18.over 1 9223372036854775807 []).2 = 1 from HF38.out]
      have HI958 := Lib.hid hi; have HB958 := Lib.hid (HB957.out.trans hb)
      clear hi hb HI957k HB957
      have HI958k : Hid (DkL w.heap.size w958 g m8_19 []) := show DkL _ _ _ _ _ from HI958.out; clear HI958
      go_wp2_with fail
      refine (HI958k.out.go HB958.out.size (fun S h => dkArm_any S g m8_19 0 w958 h (by omega))).mono ?_
      rintro e w959 ⟨rfl, hi, hb⟩
      have HI959 := Lib.hid hi; have HB959 := Lib.hid (HB958.out.trans hb)
      clear hi hb HI958k HB958
      have HI959k : Hid (DkL w.heap.size w959 g m8_20 []) := show DkL _ _ _ _ _ from HI959.out; clear HI959
      go_wp2_with fail
      refine (HI959k.out.go HB959.out.size (fun S h => dkArm_any S g m8_20 (-9223372036854775808) w959 h (by omega))).mono ?_
      rintro e w960 ⟨rfl, hi, hb⟩
      have HI960 := Lib.hid hi; have HB960 := Lib.hid (HB959.out.trans hb)
      clear hi hb HI959k HB959
      have HI960k : Hid (DkL w.heap.size w960 g m8_21 []) := show DkL _ _ _ _ _ from HI960.out; clear HI960
      go_wp2_with fail
      refine (HI960k.out.go HB960.out.size (fun S h => dkSync_any S g m8_21 1 w960 h HF39.out)).mono ?_
      rintro e w961 ⟨rfl, hi, hb⟩
      rw [show (m8_21.sync 1).2 = 0 from HF40.out]
      have HI961 := Lib.hid hi; have HB961 := Lib.hid (HB960.out.trans hb)
      clear hi hb HI960k HB960
      have HI961k : Hid (DkL w.heap.size w961 g m8_22 []) := show DkL _ _ _ _ _ from HI961.out; clear HI961
      go_wp2_with fail
      refine (dkNewI w.heap.size (-5) w961 HB961.out.size).mono ?_
      rintro e w962 ⟨g962, rfl, hi, hb⟩
      have HR962 := Lib.hid hi; have HB962 := Lib.hid (HB961.out.trans (hb.mono HB961.out.size))
      clear hi hb HB961
      go_wp2_with fail
      refine (HR962.out.room).mono ?_
      rintro e w963 ⟨rfl, rfl⟩
      rw [show (DiskM.new (-5)).room = 0 from HF41.out]
      go_wp2_with fail
      refine (dkNewI w.heap.size 1099511627776 w962 HB962.out.size).mono ?_
      rintro e w964 ⟨g964, rfl, hi, hb⟩
      have HR964 := Lib.hid hi; have HB964 := Lib.hid (HB962.out.trans (hb.mono HB962.out.size))
      clear hi hb HB962
      go_wp2_with fail
      refine (HR964.out.room).mono ?_
      rintro e w965 ⟨rfl, rfl⟩
      rw [show (DiskM.new 1099511627776).room = 262144 from HF42.out]
      go_wp2_with fail
      refine (known8_any w964).mono ?_
      rintro e wz ⟨rfl, hb⟩
      have HBZ := Lib.hid (HB964.out.trans (hb.mono HB964.out.size)); clear hb
      go_wp2_with fail
      go_ret
      exact ⟨rfl, HBZ.out⟩
end Go.Proofs.Ytadlpidhemjkgaa

/-
  DiskKnown: the law returns true. Without any condition.
-/
namespace Go.Proofs.Ytadlpidhemjkgaa
open Go.ChangeShapes Go.WideShapes Go.ChangeAt Go.RowKit Go.Proofs.ShaWords

set_option maxRecDepth 100000 in
theorem diskKnown_lifted (os : Os) (started : os.Started) (H : Type) (enc : TypeId × Value → H) :
    ReturnsInHanded {} Try.checked os 8 .any (Rows.diskKnownSpec.pre6 enc Try.prog Try.f8 Rows.diskKnownRow.domain false)
      (Rows.diskKnownSpec.post enc Try.prog Try.f8 false true false false) := by
  refine returnsInHanded_of_change_sized (C := Try.checked) own started (by kernel_rfl) Try.func8
    (ChangeSpec.witness6 (enc := enc) (C := Try.checked) false ⟨#[], #[], []⟩ 8 (by kernel_rfl) (by kernel_rfl) (by kernel_rfl) (by kernel_rfl)) ?_
  intro W base args ds gs before hval0 hW _ hsz _
  have hW' := hW
  obtain ⟨p, q, hA0, hV, rfl, hfz, hnd⟩ := hW
  have hA : DataW.TrodAll enc Try.prog W 0 (fun _ => true) true Try.f8.params.toList args.toList ds p := hA0
  have hval : ∀ (j : Nat) t v, Try.f8.params[j]? = some t → args[j]? = some v → Value.okWide Try.prog W .any base t v := hval0
  have hsz2 : (DataW.weightsEach Try.prog (Try.f8.params.toList ++ Rows.diskKnownSpec.plain.varTypes Try.prog) (ds ++ gs)).all (· ≤ reachBytes) = true := hsz
  rw [Try.params8] at hA hval hsz2
  obtain ⟨hargs, rfl, rfl⟩ := trodAll_nil hA
  obtain rfl : args = #[] := by cases args; simp_all
  obtain ⟨rfl, rfl⟩ := trodVars_none hV
  clear hA0 hval0
  refine (diskKnown_any W).mono fun e W' ⟨he, bel⟩ => ?_
  subst he
  exact ⟨_, rfl, _, _, _, [], _, [], hW', trodAll_mk1 (shut_bool Try.underlying4 _), trodAll_mk0, rfl, bel.frame _, fun h => by cases h⟩

theorem diskKnown_holds : Rows.DiskKnownSaid :=
  OpenClaim.holds_of_wide 8 Try.f8 rfl rfl rfl rfl rfl rfl rfl ⟨rfl, rfl, rfl, rfl, rfl⟩ rfl rfl rfl rfl rfl (by kernel_rfl) Try.func8 (by kernel_rfl)
    (of_decide_eq_true (by kernel_rfl)) (by unfold Func.isWrapper; first | (rw [if_pos (by decide +kernel)]; kernel_rfl) | (rw [if_neg (by decide +kernel)]; exact ⟨rfl, rfl⟩))
    (fun os started H enc _ => diskKnown_lifted os started H enc)

#print axioms diskKnown_holds
end Go.Proofs.Ytadlpidhemjkgaa
