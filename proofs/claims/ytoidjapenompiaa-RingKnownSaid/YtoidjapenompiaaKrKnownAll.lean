/-
  RingKnown: the law returns true. Without any condition.
-/
import Derived.Test.YtoidjapenompiaaPkA
import Derived.Test.YtoidjapenompiaaPkB
/-
  RingKnown's walk (gen_krknown.py).
-/
namespace Go.Proofs.Ytoidjapenompiaa
open Go.RowKit Go.Proofs.ShaWords
abbrev bobB : ByteArray := ⟨#[98, 111, 98]⟩
abbrev tB : ByteArray := ⟨#[116]⟩
abbrev uB : ByteArray := ⟨#[117]⟩
set_option maxRecDepth 100000 in
set_option maxHeartbeats 2000000 in
theorem krKnownLaw_any (w : World) : Calls Try.prog 7 #[] w fun e w' => e = .returned (.bool true) ∧ Below w.heap.size w w' := by
  go_enter Try.func7, Try.ntmps7
  go_wp2_with fail
  refine (krNewX w w.heap.size (Nat.le_refl _)).mono ?_
  rintro e w1 ⟨r, rfl, hx, hb⟩
  have HX1 := Lib.hid hx; have HB1 := Lib.hid hb
  clear hx hb
  go_wp2_with fail
  refine (HX1.out.krLive).mono ?_
  rintro e w2 ⟨v, rfl, ho, hb⟩
  have e2 : slotsK [] false = [] := by kernel_rfl
  rw [e2] at ho
  obtain ⟨p2, cap2, rfl, hl⟩ := ho.out
  have HL2 := Lib.hid hl; have HX2 := Lib.hid (HX1.out.below (KrAt.part _ _) NoP.part hb); have HB2 := Lib.hid (HB1.out.trans (hb.mono HB1.out.size))
  have hn : ([] : List Nat).length = 0 := rfl
  rw [hn]
  clear hn hb ho hl e2 HX1 HB1
  go_wp2_with fail
  refine (HX2.out.krDead).mono ?_
  rintro e w3 ⟨v, rfl, ho, hb⟩
  have e2 : slotsK [] true = [] := by kernel_rfl
  rw [e2] at ho
  obtain ⟨p3, cap3, rfl, hl⟩ := ho.out
  have HL3 := Lib.hid hl; have HX3 := Lib.hid (HX2.out.below (KrAt.part _ _) NoP.part hb); have HB3 := Lib.hid (HB2.out.trans (hb.mono HB2.out.size))
  have hn : ([] : List Nat).length = 0 := rfl
  rw [hn]
  clear hn hb ho hl e2 HX2 HB2
  go_wp2_with fail
  refine (HX3.out.krMake NoP.part HB3.out.size annB sB (3) (by decide) (by decide) (by simp)).mono ?_
  rintro e w4 ⟨rfl, hx, hb⟩
  have e2 : makeK [] annB sB (3) = (0, [⟨annB, sB, 3, 0, false⟩]) := by kernel_rfl
  rw [e2] at hx
  have HX4 := Lib.hid hx; have HB4 := Lib.hid (HB3.out.trans hb)
  rw [e2]
  clear hx hb e2 HX3 HB3
  go_wp2_with fail
  refine (HX4.out.krMake NoP.part HB4.out.size annB sB (4) (by decide) (by decide) (by simp)).mono ?_
  rintro e w5 ⟨rfl, hx, hb⟩
  have e2 : makeK [⟨annB, sB, 3, 0, false⟩] annB sB (4) = (13, [⟨annB, sB, 3, 0, false⟩]) := by kernel_rfl
  rw [e2] at hx
  have HX5 := Lib.hid hx; have HB5 := Lib.hid (HB4.out.trans hb)
  rw [e2]
  clear hx hb e2 HX4 HB4
  go_wp2_with fail
  refine (HX5.out.krMake NoP.part HB5.out.size bobB sB (3) (by decide) (by decide) (by simp)).mono ?_
  rintro e w6 ⟨rfl, hx, hb⟩
  have e2 : makeK [⟨annB, sB, 3, 0, false⟩] bobB sB (3) = (0, [⟨annB, sB, 3, 0, false⟩, ⟨bobB, sB, 3, 0, false⟩]) := by kernel_rfl
  rw [e2] at hx
  have HX6 := Lib.hid hx; have HB6 := Lib.hid (HB5.out.trans hb)
  rw [e2]
  clear hx hb e2 HX5 HB5
  go_wp2_with fail
  refine (HX6.out.krMake NoP.part HB6.out.size annB tB (0) (by decide) (by decide) (by simp)).mono ?_
  rintro e w7 ⟨rfl, hx, hb⟩
  have e2 : makeK [⟨annB, sB, 3, 0, false⟩, ⟨bobB, sB, 3, 0, false⟩] annB tB (0) = (1, [⟨annB, sB, 3, 0, false⟩, ⟨bobB, sB, 3, 0, false⟩]) := by kernel_rfl
  rw [e2] at hx
  have HX7 := Lib.hid hx; have HB7 := Lib.hid (HB6.out.trans hb)
  rw [e2]
  clear hx hb e2 HX6 HB6
  go_wp2_with fail
  refine (HX7.out.krMake NoP.part HB7.out.size annB tB (65) (by decide) (by decide) (by simp)).mono ?_
  rintro e w8 ⟨rfl, hx, hb⟩
  have e2 : makeK [⟨annB, sB, 3, 0, false⟩, ⟨bobB, sB, 3, 0, false⟩] annB tB (65) = (1, [⟨annB, sB, 3, 0, false⟩, ⟨bobB, sB, 3, 0, false⟩]) := by kernel_rfl
  rw [e2] at hx
  have HX8 := Lib.hid hx; have HB8 := Lib.hid (HB7.out.trans hb)
  rw [e2]
  clear hx hb e2 HX7 HB7
  go_wp2_with fail
  refine (HX8.out.krMake NoP.part HB8.out.size annB sB (65) (by decide) (by decide) (by simp)).mono ?_
  rintro e w9 ⟨rfl, hx, hb⟩
  have e2 : makeK [⟨annB, sB, 3, 0, false⟩, ⟨bobB, sB, 3, 0, false⟩] annB sB (65) = (1, [⟨annB, sB, 3, 0, false⟩, ⟨bobB, sB, 3, 0, false⟩]) := by kernel_rfl
  rw [e2] at hx
  have HX9 := Lib.hid hx; have HB9 := Lib.hid (HB8.out.trans hb)
  rw [e2]
  clear hx hb e2 HX8 HB8
  go_wp2_with fail
  refine (HX9.out.krMake NoP.part HB9.out.size annB tB (64) (by decide) (by decide) (by simp)).mono ?_
  rintro e w10 ⟨rfl, hx, hb⟩
  have e2 : makeK [⟨annB, sB, 3, 0, false⟩, ⟨bobB, sB, 3, 0, false⟩] annB tB (64) = (0, [⟨annB, sB, 3, 0, false⟩, ⟨bobB, sB, 3, 0, false⟩, ⟨annB, tB, 64, 0, false⟩]) := by kernel_rfl
  rw [e2] at hx
  have HX10 := Lib.hid hx; have HB10 := Lib.hid (HB9.out.trans hb)
  rw [e2]
  clear hx hb e2 HX9 HB9
  go_wp2_with fail
  refine (HX10.out.krUse NoP.part HB10.out.size annB sB (200) (by decide) (by decide) (by unfold wrap64; omega)).mono ?_
  rintro e w11 ⟨rfl, hx, hb⟩
  have e2 : useK [⟨annB, sB, 3, 0, false⟩, ⟨bobB, sB, 3, 0, false⟩, ⟨annB, tB, 64, 0, false⟩] annB sB (200) = (0, [⟨annB, sB, 3, 200, false⟩, ⟨bobB, sB, 3, 0, false⟩, ⟨annB, tB, 64, 0, false⟩]) := by kernel_rfl
  rw [e2] at hx
  have HX11 := Lib.hid hx; have HB11 := Lib.hid (HB10.out.trans hb)
  rw [e2]
  clear hx hb e2 HX10 HB10
  go_wp2_with fail
  refine (HX11.out.krUse NoP.part HB11.out.size annB sB (1) (by decide) (by decide) (by unfold wrap64; omega)).mono ?_
  rintro e w12 ⟨rfl, hx, hb⟩
  have e2 : useK [⟨annB, sB, 3, 200, false⟩, ⟨bobB, sB, 3, 0, false⟩, ⟨annB, tB, 64, 0, false⟩] annB sB (1) = (16, [⟨annB, sB, 3, 200, false⟩, ⟨bobB, sB, 3, 0, false⟩, ⟨annB, tB, 64, 0, false⟩]) := by kernel_rfl
  rw [e2] at hx
  have HX12 := Lib.hid hx; have HB12 := Lib.hid (HB11.out.trans hb)
  rw [e2]
  clear hx hb e2 HX11 HB11
  go_wp2_with fail
  refine (HX12.out.krUse NoP.part HB12.out.size bobB sB (201) (by decide) (by decide) (by unfold wrap64; omega)).mono ?_
  rintro e w13 ⟨rfl, hx, hb⟩
  have e2 : useK [⟨annB, sB, 3, 200, false⟩, ⟨bobB, sB, 3, 0, false⟩, ⟨annB, tB, 64, 0, false⟩] bobB sB (201) = (16, [⟨annB, sB, 3, 200, false⟩, ⟨bobB, sB, 3, 0, false⟩, ⟨annB, tB, 64, 0, false⟩]) := by kernel_rfl
  rw [e2] at hx
  have HX13 := Lib.hid hx; have HB13 := Lib.hid (HB12.out.trans hb)
  rw [e2]
  clear hx hb e2 HX12 HB12
  go_wp2_with fail
  refine (HX13.out.krUse NoP.part HB13.out.size bobB uB (1) (by decide) (by decide) (by unfold wrap64; omega)).mono ?_
  rintro e w14 ⟨rfl, hx, hb⟩
  have e2 : useK [⟨annB, sB, 3, 200, false⟩, ⟨bobB, sB, 3, 0, false⟩, ⟨annB, tB, 64, 0, false⟩] bobB uB (1) = (12, [⟨annB, sB, 3, 200, false⟩, ⟨bobB, sB, 3, 0, false⟩, ⟨annB, tB, 64, 0, false⟩]) := by kernel_rfl
  rw [e2] at hx
  have HX14 := Lib.hid hx; have HB14 := Lib.hid (HB13.out.trans hb)
  rw [e2]
  clear hx hb e2 HX13 HB13
  go_wp2_with fail
  refine (HX14.out.krUse NoP.part HB14.out.size bobB sB (0) (by decide) (by decide) (by unfold wrap64; omega)).mono ?_
  rintro e w15 ⟨rfl, hx, hb⟩
  have e2 : useK [⟨annB, sB, 3, 200, false⟩, ⟨bobB, sB, 3, 0, false⟩, ⟨annB, tB, 64, 0, false⟩] bobB sB (0) = (1, [⟨annB, sB, 3, 200, false⟩, ⟨bobB, sB, 3, 0, false⟩, ⟨annB, tB, 64, 0, false⟩]) := by kernel_rfl
  rw [e2] at hx
  have HX15 := Lib.hid hx; have HB15 := Lib.hid (HB14.out.trans hb)
  rw [e2]
  clear hx hb e2 HX14 HB14
  go_wp2_with fail
  refine (HX15.out.krUse NoP.part HB15.out.size bobB uB (0) (by decide) (by decide) (by unfold wrap64; omega)).mono ?_
  rintro e w16 ⟨rfl, hx, hb⟩
  have e2 : useK [⟨annB, sB, 3, 200, false⟩, ⟨bobB, sB, 3, 0, false⟩, ⟨annB, tB, 64, 0, false⟩] bobB uB (0) = (1, [⟨annB, sB, 3, 200, false⟩, ⟨bobB, sB, 3, 0, false⟩, ⟨annB, tB, 64, 0, false⟩]) := by kernel_rfl
  rw [e2] at hx
  have HX16 := Lib.hid hx; have HB16 := Lib.hid (HB15.out.trans hb)
  rw [e2]
  clear hx hb e2 HX15 HB15
  go_wp2_with fail
  refine (HX16.out.krUse NoP.part HB16.out.size bobB sB (9223372036854775807) (by decide) (by decide) (by unfold wrap64; omega)).mono ?_
  rintro e w17 ⟨rfl, hx, hb⟩
  have e2 : useK [⟨annB, sB, 3, 200, false⟩, ⟨bobB, sB, 3, 0, false⟩, ⟨annB, tB, 64, 0, false⟩] bobB sB (9223372036854775807) = (16, [⟨annB, sB, 3, 200, false⟩, ⟨bobB, sB, 3, 0, false⟩, ⟨annB, tB, 64, 0, false⟩]) := by kernel_rfl
  rw [e2] at hx
  have HX17 := Lib.hid hx; have HB17 := Lib.hid (HB16.out.trans hb)
  rw [e2]
  clear hx hb e2 HX16 HB16
  go_wp2_with fail
  refine (HX17.out.krUse NoP.part HB17.out.size bobB sB (-9223372036854775808) (by decide) (by decide) (by unfold wrap64; omega)).mono ?_
  rintro e w18 ⟨rfl, hx, hb⟩
  have e2 : useK [⟨annB, sB, 3, 200, false⟩, ⟨bobB, sB, 3, 0, false⟩, ⟨annB, tB, 64, 0, false⟩] bobB sB (-9223372036854775808) = (1, [⟨annB, sB, 3, 200, false⟩, ⟨bobB, sB, 3, 0, false⟩, ⟨annB, tB, 64, 0, false⟩]) := by kernel_rfl
  rw [e2] at hx
  have HX18 := Lib.hid hx; have HB18 := Lib.hid (HB17.out.trans hb)
  rw [e2]
  clear hx hb e2 HX17 HB17
  go_wp2_with fail
  refine (HX18.out.krShred NoP.part HB18.out.size annB sB (by decide) (by decide)).mono ?_
  rintro e w19 ⟨rfl, hx, hb⟩
  have e2 : shredK [⟨annB, sB, 3, 200, false⟩, ⟨bobB, sB, 3, 0, false⟩, ⟨annB, tB, 64, 0, false⟩] annB sB = (0, [⟨annB, sB, 3, 200, true⟩, ⟨bobB, sB, 3, 0, false⟩, ⟨annB, tB, 64, 0, false⟩]) := by kernel_rfl
  rw [e2] at hx
  have HX19 := Lib.hid hx; have HB19 := Lib.hid (HB18.out.trans hb)
  rw [e2]
  clear hx hb e2 HX18 HB18
  go_wp2_with fail
  refine (HX19.out.krShred NoP.part HB19.out.size annB sB (by decide) (by decide)).mono ?_
  rintro e w20 ⟨rfl, hx, hb⟩
  have e2 : shredK [⟨annB, sB, 3, 200, true⟩, ⟨bobB, sB, 3, 0, false⟩, ⟨annB, tB, 64, 0, false⟩] annB sB = (17, [⟨annB, sB, 3, 200, true⟩, ⟨bobB, sB, 3, 0, false⟩, ⟨annB, tB, 64, 0, false⟩]) := by kernel_rfl
  rw [e2] at hx
  have HX20 := Lib.hid hx; have HB20 := Lib.hid (HB19.out.trans hb)
  rw [e2]
  clear hx hb e2 HX19 HB19
  go_wp2_with fail
  refine (HX20.out.krShred NoP.part HB20.out.size annB uB (by decide) (by decide)).mono ?_
  rintro e w21 ⟨rfl, hx, hb⟩
  have e2 : shredK [⟨annB, sB, 3, 200, true⟩, ⟨bobB, sB, 3, 0, false⟩, ⟨annB, tB, 64, 0, false⟩] annB uB = (12, [⟨annB, sB, 3, 200, true⟩, ⟨bobB, sB, 3, 0, false⟩, ⟨annB, tB, 64, 0, false⟩]) := by kernel_rfl
  rw [e2] at hx
  have HX21 := Lib.hid hx; have HB21 := Lib.hid (HB20.out.trans hb)
  rw [e2]
  clear hx hb e2 HX20 HB20
  go_wp2_with fail
  refine (HX21.out.krUse NoP.part HB21.out.size annB sB (1) (by decide) (by decide) (by unfold wrap64; omega)).mono ?_
  rintro e w22 ⟨rfl, hx, hb⟩
  have e2 : useK [⟨annB, sB, 3, 200, true⟩, ⟨bobB, sB, 3, 0, false⟩, ⟨annB, tB, 64, 0, false⟩] annB sB (1) = (17, [⟨annB, sB, 3, 200, true⟩, ⟨bobB, sB, 3, 0, false⟩, ⟨annB, tB, 64, 0, false⟩]) := by kernel_rfl
  rw [e2] at hx
  have HX22 := Lib.hid hx; have HB22 := Lib.hid (HB21.out.trans hb)
  rw [e2]
  clear hx hb e2 HX21 HB21
  go_wp2_with fail
  refine (HX22.out.krMake NoP.part HB22.out.size annB sB (5) (by decide) (by decide) (by simp)).mono ?_
  rintro e w23 ⟨rfl, hx, hb⟩
  have e2 : makeK [⟨annB, sB, 3, 200, true⟩, ⟨bobB, sB, 3, 0, false⟩, ⟨annB, tB, 64, 0, false⟩] annB sB (5) = (13, [⟨annB, sB, 3, 200, true⟩, ⟨bobB, sB, 3, 0, false⟩, ⟨annB, tB, 64, 0, false⟩]) := by kernel_rfl
  rw [e2] at hx
  have HX23 := Lib.hid hx; have HB23 := Lib.hid (HB22.out.trans hb)
  rw [e2]
  clear hx hb e2 HX22 HB22
  go_wp2_with fail
  refine (HX23.out.krHold annB sB (by decide) (by decide)).mono ?_
  rintro e w24 ⟨rfl, hb⟩
  have e2 : holdK [⟨annB, sB, 3, 200, true⟩, ⟨bobB, sB, 3, 0, false⟩, ⟨annB, tB, 64, 0, false⟩] annB sB = (⟨annB, sB, 3, 200, true⟩, true) := by kernel_rfl
  rw [e2]
  have hba : Below w24.heap.size w24 (w24.alloc (.cells #[.int .i64 3, .int .i64 200, .bool true] 43)) := (Below.refl _ _).alloc (Nat.le_refl _) _
  have hbb : Below w23.heap.size w23 (w24.alloc (.cells #[.int .i64 3, .int .i64 200, .bool true] 43)) := hb.trans (hba.mono hb.size)
  have HX24 := Lib.hid (HX23.out.below (KrAt.part _ _) NoP.part hbb); have HB24 := Lib.hid (HB23.out.trans (hbb.mono HB23.out.size))
  clear hb hba hbb e2 HX23 HB23
  go_wp2_with fail
  refine (HX24.out.krLive).mono ?_
  rintro e w25 ⟨v, rfl, ho, hb⟩
  have e2 : slotsK [⟨annB, sB, 3, 200, true⟩, ⟨bobB, sB, 3, 0, false⟩, ⟨annB, tB, 64, 0, false⟩] false = [3, 64] := by kernel_rfl
  rw [e2] at ho
  obtain ⟨p25, cap25, rfl, hl⟩ := ho.out
  have HL25 := Lib.hid hl; have HX25 := Lib.hid (HX24.out.below (KrAt.part _ _) NoP.part hb); have HB25 := Lib.hid (HB24.out.trans (hb.mono HB24.out.size))
  have hn : ([3, 64] : List Nat).length = 2 := rfl
  rw [hn]
  clear hn hb ho hl e2 HX24 HB24
  go_wp2_with fail
  have hba : Below w25.heap.size w25 (w25.alloc (.cells #[.int .i64 3, .int .i64 64] 3)) := (Below.refl _ _).alloc (Nat.le_refl _) _
  refine (sameZ_any [3, 64] 2 p25 (some ⟨w25.heap.size, 0, none⟩) cap25 2 _ rfl (by omega) (HL25.out.below hba) (lits_lie w25 [3, 64])).mono ?_
  rintro e w26 ⟨rfl, hb⟩
  have hbb : Below w25.heap.size w25 w26 := hba.trans (hb.mono hba.size)
  have HX26 := Lib.hid (HX25.out.below (KrAt.part _ _) NoP.part hbb); have HB26 := Lib.hid (HB25.out.trans (hbb.mono HB25.out.size))
  clear hb hba hbb HL25 HX25 HB25
  go_wp2_with fail
  refine (HX26.out.krDead).mono ?_
  rintro e w27 ⟨v, rfl, ho, hb⟩
  have e2 : slotsK [⟨annB, sB, 3, 200, true⟩, ⟨bobB, sB, 3, 0, false⟩, ⟨annB, tB, 64, 0, false⟩] true = [3] := by kernel_rfl
  rw [e2] at ho
  obtain ⟨p27, cap27, rfl, hl⟩ := ho.out
  have HL27 := Lib.hid hl; have HX27 := Lib.hid (HX26.out.below (KrAt.part _ _) NoP.part hb); have HB27 := Lib.hid (HB26.out.trans (hb.mono HB26.out.size))
  have hn : ([3] : List Nat).length = 1 := rfl
  rw [hn]
  clear hn hb ho hl e2 HX26 HB26
  go_wp2_with fail
  have hba : Below w27.heap.size w27 (w27.alloc (.cells #[.int .i64 3] 3)) := (Below.refl _ _).alloc (Nat.le_refl _) _
  refine (sameZ_any [3] 1 p27 (some ⟨w27.heap.size, 0, none⟩) cap27 1 _ rfl (by omega) (HL27.out.below hba) (lits_lie w27 [3])).mono ?_
  rintro e w28 ⟨rfl, hb⟩
  have hbb : Below w27.heap.size w27 w28 := hba.trans (hb.mono hba.size)
  have HX28 := Lib.hid (HX27.out.below (KrAt.part _ _) NoP.part hbb); have HB28 := Lib.hid (HB27.out.trans (hbb.mono HB27.out.size))
  clear hb hba hbb HL27 HX27 HB27
  go_wp2_with fail
  refine (krKnown_any _).mono ?_
  rintro e w99 ⟨rfl, hb⟩
  have HB99 := Lib.hid (HB28.out.trans (hb.mono HB28.out.size))
  clear hb HX28 HB28
  go_wp2_with fail
  go_ret
  exact ⟨rfl, HB99.out⟩
end Go.Proofs.Ytoidjapenompiaa

/-
  RingKnown: the law returns true. Without any condition.
-/
namespace Go.Proofs.Ytoidjapenompiaa
open Go.ChangeShapes Go.WideShapes Go.ChangeAt Go.RowKit Go.Proofs.ShaWords

set_option maxRecDepth 100000 in
theorem ringKnown_lifted (os : Os) (started : os.Started) (H : Type) (enc : TypeId × Value → H) :
    ReturnsInHanded {} Try.checked os 7 .any (Rows.ringKnownSpec.pre6 enc Try.prog Try.f7 Rows.ringKnownRow.domain false)
      (Rows.ringKnownSpec.post enc Try.prog Try.f7 false true false false) := by
  refine returnsInHanded_of_change_sized (C := Try.checked) own started (by kernel_rfl) Try.func7
    (ChangeSpec.witness6 (enc := enc) (C := Try.checked) false ⟨#[], #[], []⟩ 8 (by kernel_rfl) (by kernel_rfl) (by kernel_rfl) (by kernel_rfl)) ?_
  intro W base args ds gs before hval0 hW _ hsz _
  have hW' := hW
  obtain ⟨p, q, hA0, hV, rfl, hfz, hnd⟩ := hW
  have hA : DataW.TrodAll enc Try.prog W 0 (fun _ => true) true Try.f7.params.toList args.toList ds p := hA0
  have hval : ∀ (j : Nat) t v, Try.f7.params[j]? = some t → args[j]? = some v → Value.okWide Try.prog W .any base t v := hval0
  have hsz2 : (DataW.weightsEach Try.prog (Try.f7.params.toList ++ Rows.ringKnownSpec.plain.varTypes Try.prog) (ds ++ gs)).all (· ≤ reachBytes) = true := hsz
  rw [Try.params7] at hA hval hsz2
  obtain ⟨hargs, rfl, rfl⟩ := trodAll_nil hA
  obtain rfl : args = #[] := by cases args; simp_all
  obtain ⟨rfl, rfl⟩ := trodVars_none hV
  clear hA0 hval0
  refine (krKnownLaw_any W).mono fun e W' ⟨he, bel⟩ => ?_
  subst he
  exact ⟨_, rfl, _, _, _, [], _, [], hW', trodAll_mk1 (shut_bool Try.underlying4 _), trodAll_mk0, rfl, bel.frame _, fun h => by cases h⟩

theorem ringKnown_holds : Rows.RingKnownSaid :=
  OpenClaim.holds_of_wide 7 Try.f7 rfl rfl rfl rfl rfl rfl rfl ⟨rfl, rfl, rfl, rfl, rfl⟩ rfl rfl rfl rfl rfl (by kernel_rfl) Try.func7 (by kernel_rfl)
    (of_decide_eq_true (by kernel_rfl)) (by unfold Func.isWrapper; first | (rw [if_pos (by decide +kernel)]; kernel_rfl) | (rw [if_neg (by decide +kernel)]; exact ⟨rfl, rfl⟩))
    (fun os started H enc _ => ringKnown_lifted os started H enc)

#print axioms ringKnown_holds
end Go.Proofs.Ytoidjapenompiaa
