/- The kit's SpoilBytes: it writes over a slice of the call's own, and nothing else (function 15). -/
import Derived.Test.YtgfmjfpafpmghaaDoorBytes
import Derived.Laws.OwnMore
namespace Go.Proofs.YtgfmjfpafpmghaaDoor
open Go.RowKit Go.Proofs.ShaWords
theorem spoil_any (xs : List (BitVec 8)) (B : Nat) (v : Value) (w : World) (h : xs.length ≤ 100000) (hne : xs ≠ []) (ho : Own B w xs v) :
    Calls Tryd.prog 34 #[v] w fun e w' => e = .returned (.tuple #[]) ∧ Below B w w' := by
  obtain ⟨g, cap, cur, hv, hg⟩ : ∃ g cap, ∃ cur : Array Value, v = .slice (some ⟨g, 0, none⟩) xs.length cap ∧ B ≤ g := by
    rcases ho.2 with ⟨rfl, h0⟩ | ⟨g, cap, cur, rfl, hg, _⟩
    · exact absurd (List.length_eq_zero_iff.1 h0) hne
    · exact ⟨g, cap, cur, rfl, hg⟩
  subst hv
  have HO := Lib.hid ho; clear ho
  go_enter Tryd.func34, Tryd.ntmps34
  go_wp2_with fail
  go_loopw [2] (fun i wr => ∃ (k : Nat) (ys : List (BitVec 8)), k ≤ xs.length ∧ i = .int .i64 (k : Int) ∧ ys.length = xs.length ∧ Own B wr ys (.slice (some ⟨g, 0, none⟩) xs.length cap) ∧ Below B w wr) (fun i _ => xs.length - (intOf i).toNat)
  case atStart => exact ⟨0, xs, by omega, rfl, rfl, HO.out, Below.refl _ _⟩
  case round =>
    obtain ⟨k, ys, hk, rfl, hy, ho, hb⟩ := hrel
    by_cases hlt : k < xs.length
    · have hrow : wr.ownsRow B 5 1 (.slice (some ⟨g, 0, none⟩) xs.length cap) xs.length (bytesV ys) := by
        have h1 : World.ownsRow _ _ _ _ _ _ _ := ho
        rw [hy] at h1; exact h1
      have hc := hrow.cellAt k (by omega)
      rw [show (bytesV ys)[k]? = some (.int .u8 (n8 (ys.getD k 0#8))) by simp [bytesV, List.getD, hy, hlt]] at hc
      have hf := hrow.frozenAt k
      generalize ys.getD k 0#8 = x at hc
      have HRW := Lib.hid hrow; clear hrow ho
      have HB := Lib.hid hb; clear hb
      have k0 : (0 : Int) ≤ (k : Int) := by omega
      have k1 : (k : Int) < (xs.length : Int) := by omega
      have hm := mark_any (k + 7) wr (by omega)
      rw [show ((k + 7 : Nat) : Int) = (k : Int) + 7 by omega] at hm
      have HM := Lib.hid hm; clear hm
      go_wp2_with fail
      refine HM.out.mono ?_
      rintro e w' ⟨rfl, rfl⟩
      go_wp2_with fail
      have hst := HRW.out.stored k (.int .u8 (n8 (mark (k + 7))))
      have HOS : Hid (Own B (wr.setCell ⟨g, k, none⟩ (.int .u8 (n8 (mark (k + 7))))) (ys.set k (mark (k + 7))) (.slice (some ⟨g, 0, none⟩) xs.length cap)) := by
        have h1 := hst.1
        unfold Own
        rw [List.length_set, hy, show bytesV (ys.set k (mark (k + 7))) = (bytesV ys).set k (.int .u8 (n8 (mark (k + 7)))) by simp [bytesV, List.map_set]]
        exact h1
      have HBS : Hid (Below B w (wr.setCell ⟨g, k, none⟩ (.int .u8 (n8 (mark (k + 7)))))) := HB.out.setCell hg _
      clear hst
      go_roundw
      case rel => exact ⟨k + 1, ys.set k (mark (k + 7)), by omega, by go_num, by simp [hy], HOS.out, HBS.out⟩
      case measure => simp [intOf]; omega
    · have HB := Lib.hid hb; clear hb
      go_wp2_with fail
      go_end0
      exact ⟨rfl, HB.out⟩
end Go.Proofs.YtgfmjfpafpmghaaDoor
