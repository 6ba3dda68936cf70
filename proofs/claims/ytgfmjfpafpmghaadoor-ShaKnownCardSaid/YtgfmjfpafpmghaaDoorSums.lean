/- ShaSums, at every slice of bytes that lies in memory: the law returns true and writes nothing that was there (function 3). -/
import Derived.Test.YtgfmjfpafpmghaaDoorRefSum
import Derived.Test.YtgfmjfpafpmghaaDoorWorks
import Derived.Test.YtgfmjfpafpmghaaDoorCap
namespace Go.Proofs.YtgfmjfpafpmghaaDoor
open Go.RowKit Go.Proofs.ShaWords
theorem sums_main (xs : List (BitVec 8)) (p : Option Addr) (ca : Nat) (w : World) (h : xs.length ≤ 8192) (hL : Lies w p xs) (hk : Consts w) (hs : Starts w) :
    Calls Tryd.prog 9 #[.slice p xs.length ca] w fun e w' => e = .returned (.bool true) ∧ Below w.heap.size w w' := by
  have HL := Lib.hid hL; clear hL
  have hs1 := hk.size
  have HK := Lib.hid hk; clear hk
  have HS := Lib.hid hs; clear hs
  go_enter Tryd.func9, Tryd.ntmps9
  go_wp2_with fail
  refine (lent_any xs p ca w (by omega) HL.out).mono ?_
  rintro e w1 ⟨v1, rfl, ho1, hb1⟩
  have hl5 : (xs ++ marks 5).length = xs.length + 5 := by rw [List.length_append, marks_length]
  obtain ⟨p1, c1, rfl, hc1, hc2, hL1⟩ := ho1.lies
  rw [hl5] at hc1
  rw [hl5]
  have sz1 := hb1.size
  have HL1 := Lib.hid hL1; clear hL1 ho1
  have HB1 := Lib.hid hb1; clear hb1
  have HLf : Hid (Lies w1 p1 xs) := by
    rcases HL1.out with h0 | ⟨b, off, rfl, hr⟩
    · exact Or.inl (List.append_eq_nil_iff.1 h0).1
    · exact Or.inr ⟨b, off, rfl, range_front hr⟩
  have k1 : (xs.length : Int) ≤ (c1 : Int) := by omega
  have k0 : (0 : Int) ≤ (xs.length : Int) := by omega
  clear hl5
  go_wp2_with fail
  refine (shaSum_cap xs p1 c1 w1 HLf.out (by omega) hc2 (by omega) (HK.out.below HB1.out hs1) (HS.out.below HB1.out (by omega))).mono ?_
  rintro e w2 ⟨rfl, hb2⟩
  have sz2 := hb2.size
  have HB2 := Lib.hid hb2; clear hb2
  have HBa := Lib.hid (HB1.out.trans (HB2.out.mono sz1))
  go_wp2_with fail
  refine (refSum_any xs p ca w2 (by omega) (HL.out.below HBa.out)).mono ?_
  rintro e w3 ⟨rfl, hb3⟩
  have sz3 := hb3.size
  have HB3 := Lib.hid hb3; clear hb3
  have HBb := Lib.hid (HBa.out.trans (HB3.out.mono (by omega)))
  have HE := fun w => equal26 (shaOf xs) (show (shaOf xs).length = 32 from digestOf_length _) w
  go_wp2_with fail
  refine (kept_any xs xs.length (xs.length + 5) p1 p c1 ca w3 rfl (Nat.le_refl _) (Nat.le_refl _) (by omega) hc1 (HL1.out.below (HB2.out.trans (HB3.out.mono sz2))) (HL.out.below HBb.out)).mono ?_
  rintro e w4 ⟨rfl, hb4⟩
  have sz4 := hb4.size
  have HB4 := Lib.hid hb4; clear hb4
  have HBc := Lib.hid (HBb.out.trans (HB4.out.mono (by omega)))
  go_wp2_with fail
  refine (works_any w4 (HK.out.below HBc.out hs1) (HS.out.below HBc.out (by omega))).mono ?_
  rintro e w5 ⟨rfl, hb5⟩
  have HB5 := Lib.hid (HBc.out.trans (hb5.mono (by omega))); clear hb5
  go_wp2_with fail
  go_ret
  exact ⟨rfl, HB5.out⟩
theorem sums_long (la : Nat) (p : Option Addr) (ca : Nat) (w : World) (h : 8192 < la) (hla : la ≤ 140737488351232) (hk : Consts w) (hs : Starts w) :
    Calls Tryd.prog 9 #[.slice p la ca] w fun e w' => e = .returned (.bool true) ∧ Below w.heap.size w w' := by
  have HK := Lib.hid hk; clear hk
  have HS := Lib.hid hs; clear hs
  go_enter Tryd.func9, Tryd.ntmps9
  go_wp2_with fail
  refine (works_any w HK.out HS.out).mono ?_
  rintro e w' ⟨rfl, hb⟩
  have HB := Lib.hid hb; clear hb
  go_wp2_with fail
  go_ret
  exact ⟨rfl, HB.out⟩
theorem sums_any (xs : List (BitVec 8)) (la : Nat) (p : Option Addr) (ca : Nat) (w : World) (hl : xs.length = la) (hL : Lies w p xs) (hca : la ≤ ca) (hcam : ca ≤ 140737488351232) (hk : Consts w) (hs : Starts w) :
    Calls Tryd.prog 9 #[.slice p la ca] w fun e w' => e = .returned (.bool true) ∧ Below w.heap.size w w' := by
  subst hl
  by_cases h : 8192 < xs.length
  · exact sums_long _ p ca w h (by omega) hk hs
  · exact sums_main xs p ca w (by omega) hL hk hs
end Go.Proofs.YtgfmjfpafpmghaaDoor
