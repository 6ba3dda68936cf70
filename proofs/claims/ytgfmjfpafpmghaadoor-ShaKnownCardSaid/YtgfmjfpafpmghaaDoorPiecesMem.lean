/- What ShaPieces keeps in memory: slices of the call's own beside a hash. -/
import Derived.Test.YtgfmjfpafpmghaaDoorSpoil
import Derived.Test.YtgfmjfpafpmghaaDoorAppendList
import Derived.Test.YtgfmjfpafpmghaaDoorSums
namespace Go.Proofs.YtgfmjfpafpmghaaDoor
open Go.RowKit Go.Proofs.ShaWords
/-- A slice of the call's own is read by a hash that lies elsewhere. -/
theorem Own.reads {B : Nat} {w : World} {l r : List (BitVec 8)} {p : Option Addr} {n cap : Nat} (h : Own B w (l ++ r) (.slice p n cap)) (g : Nat) (hg : g < B) : Reads w g p l := by
  rcases h.2 with ⟨h0, h1⟩ | ⟨g', cap', cur, h0, hB, hh, hc, hm, hs, ht⟩
  · left
    have : l ++ r = [] := List.length_eq_zero_iff.1 h1
    exact (List.append_eq_nil_iff.1 this).1
  · cases h0
    right
    refine ⟨g', 0, rfl, by omega, ?_⟩
    have hr : w.rangeAt g' 0 (bytesV (l ++ r)) := fun j v hv => by
      rw [Nat.zero_add, cell_of_row w g' j cur 5 (0, 0) hh]
      rw [← ht, Nat.mul_one, List.getElem?_take] at hv
      split at hv
      · rw [← hv]; simp
      · cases hv
    exact range_front hr
/-- A slice of the call's own that lies below what is written. -/
theorem Own.under {B B' : Nat} {w w' : World} {l : List (BitVec 8)} {v : Value} (h : Own B w l v) (hb : Below B' w w') (hlt : ∀ g, v.ownBlock = some g → g < B') : Own B w' l v := by
  refine ⟨h.1, ?_⟩
  rcases h.2 with ⟨h0, h1⟩ | ⟨g', cap', cur, rfl, hB, hh, hc⟩
  · exact Or.inl ⟨h0, h1⟩
  · exact Or.inr ⟨g', cap', cur, rfl, hB, (hb.block g' (hlt g' rfl)).trans hh, hc⟩
/-- .. and beside a hash that is written. -/
theorem Own.beside {B : Nat} {w w' : World} {l : List (BitVec 8)} {v : Value} {g : Nat} (h : Own B w l v) (hg : w.grownBy w' (some g)) (hlt : g < B) : Own B w' l v :=
  World.ownsRow.kept h hg (by
    cases hv : v.ownBlock with
    | none => exact Or.inl rfl
    | some k => exact Or.inr (fun h0 => by cases h0; have := (h.lt g hv).1; omega))
theorem pieces_long (la : Nat) (p : Option Addr) (ca : Nat) (w : World) (h : 60 < la) (hla : la ≤ 140737488351232) (hk : Consts w) (hs : Starts w) :
    Calls Tryd.prog 10 #[.slice p la ca] w fun e w' => e = .returned (.bool true) ∧ Below w.heap.size w w' := by
  have hs1 := hk.size
  have HK := Lib.hid hk; clear hk
  have HS := Lib.hid hs; clear hs
  go_enter Tryd.func10, Tryd.ntmps10
  go_wp2_with fail
  refine (new_any w HS.out).mono ?_
  rintro e w1 ⟨rfl, -, hb1⟩
  have sz1 := hb1.size
  have HB1 := Lib.hid hb1; clear hb1
  go_wp2_with fail
  refine (new_any w1 (HS.out.below HB1.out (by omega))).mono ?_
  rintro e w2 ⟨rfl, -, hb2⟩
  have HB2 := Lib.hid (HB1.out.trans (hb2.mono sz1)); clear hb2
  have sz2 := HB2.out.size
  go_wp2_with fail
  refine (works_any w2 (HK.out.below HB2.out hs1) (HS.out.below HB2.out (by omega))).mono ?_
  rintro e w' ⟨rfl, hb⟩
  have HB := Lib.hid (HB2.out.trans (hb.mono sz2)); clear hb
  go_wp2_with fail
  go_ret
  exact ⟨rfl, HB.out⟩
end Go.Proofs.YtgfmjfpafpmghaaDoor
