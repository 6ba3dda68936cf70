/-
  For the law ChachaPlaces: a byte turned, a beginning, an end of what Xor makes; stores into slices of the call's own.
-/
import Derived.Test.YtgfmjfpafpmghaaDoorCcOps
import Derived.Test.YtgfmjfpafpmghaaDoorPick
namespace Go.Proofs.YtgfmjfpafpmghaaDoor
open Go.RowKit Go.Proofs.ShaWords

theorem list_ext8 {a b : List (BitVec 8)} (hl : a.length = b.length) (h : ∀ i, i < a.length → a.getD i 0#8 = b.getD i 0#8) : a = b := by
  apply List.ext_getElem hl
  intro i h1 h2
  have := h i h1
  simpa [List.getD, h1, h2] using this
theorem xorKs_turn (key : List (BitVec 8)) (c : BitVec 32) (nonce bs : List (BitVec 8)) (r : Nat) (t : BitVec 8) (hr : r < bs.length) :
    (xorKs key c nonce (bs.set r (bs.getD r 0#8 ^^^ t))).set r ((xorKs key c nonce (bs.set r (bs.getD r 0#8 ^^^ t))).getD r 0#8 ^^^ t) = xorKs key c nonce bs := by
  apply list_ext8
  · rw [List.length_set, xorKs_length, xorKs_length, List.length_set]
  · intro i hi
    rw [List.length_set, xorKs_length, List.length_set] at hi
    by_cases e : r = i
    · subst e
      rw [set_getD_self _ _ _ _ (by rw [xorKs_length, List.length_set]; exact hr), xorKs_get _ _ _ _ _ (by rw [List.length_set]; exact hr), set_getD_self _ _ _ _ hr, xorKs_get _ _ _ _ _ hr]
      rw [BitVec.xor_assoc, BitVec.xor_assoc, BitVec.xor_comm (ksAt key c nonce r) t, ← BitVec.xor_assoc t t, BitVec.xor_self, BitVec.zero_xor]
    · rw [set_getD_other _ _ _ _ _ e, xorKs_get _ _ _ _ _ (by rw [List.length_set]; exact hi), set_getD_other _ _ _ _ _ e, xorKs_get _ _ _ _ _ hi]
theorem getD_take8 (l : List (BitVec 8)) (k i : Nat) (h : i < k) : (l.take k).getD i 0#8 = l.getD i 0#8 := by simp [List.getD, h]
theorem getD_drop8 (l : List (BitVec 8)) (k i : Nat) : (l.drop k).getD i 0#8 = l.getD (k + i) 0#8 := by simp [List.getD]
theorem xorKs_take (key : List (BitVec 8)) (c : BitVec 32) (nonce bs : List (BitVec 8)) (r : Nat) (hr : r ≤ bs.length) : xorKs key c nonce (bs.take r) = (xorKs key c nonce bs).take r := by
  apply list_ext8
  · rw [xorKs_length, List.length_take, List.length_take, xorKs_length]
  · intro i hi
    rw [xorKs_length, List.length_take] at hi
    rw [xorKs_get _ _ _ _ _ (by rw [List.length_take]; exact hi), getD_take8 _ _ _ (by omega), getD_take8 _ _ _ (by omega), xorKs_get _ _ _ _ _ (by omega)]
theorem ksAt_on (key : List (BitVec 8)) (c : BitVec 32) (nonce : List (BitVec 8)) (m k : Nat) : ksAt key (c + BitVec.ofNat 32 m) nonce k = ksAt key c nonce (64 * m + k) := by
  unfold ksAt blkAt
  rw [show (64 * m + k) % 64 = k % 64 by omega, show (64 * m + k) / 64 = m + k / 64 by omega, BitVec.add_assoc, ← BitVec.ofNat_add]
theorem xorKs_drop (key : List (BitVec 8)) (c : BitVec 32) (nonce bs : List (BitVec 8)) (m : Nat) : xorKs key (c + BitVec.ofNat 32 m) nonce (bs.drop (64 * m)) = (xorKs key c nonce bs).drop (64 * m) := by
  apply list_ext8
  · rw [xorKs_length, List.length_drop, List.length_drop, xorKs_length]
  · intro i hi
    rw [xorKs_length, List.length_drop] at hi
    rw [xorKs_get _ _ _ _ _ (by rw [List.length_drop]; exact hi), getD_drop8, getD_drop8, xorKs_get _ _ _ _ _ (by omega), ksAt_on]
theorem Lies.take {w : World} {p : Option Addr} {l : List (BitVec 8)} (h : Lies w p l) (k : Nat) : Lies w p (l.take k) := by
  rcases h with rfl | ⟨b, off, rfl, hr⟩
  · exact Or.inl (by simp)
  · refine Or.inr ⟨b, off, rfl, fun j v hv => hr j v ?_⟩
    rw [bytesV_take, List.getElem?_take] at hv
    split at hv
    · exact hv
    · cases hv
theorem Lies.drop {w : World} {b off : Nat} {l : List (BitVec 8)} (h : Lies w (some ⟨b, off, none⟩) l) (k : Nat) : Lies w (some ⟨b, off + k, none⟩) (l.drop k) := by
  rcases h with rfl | ⟨b', off', h0, hr⟩
  · exact Or.inl (by simp)
  · cases h0
    exact Or.inr ⟨b, off + k, rfl, range_drop hr⟩
/-- A slice of the call's own that is not empty, opened. -/
theorem Own.form8 {B : Nat} {w : World} {l : List (BitVec 8)} {v : Value} (h : Own B w l v) (hne : 0 < l.length) : ∃ g cap, v = .slice (some ⟨g, 0, none⟩) l.length cap ∧ B ≤ g ∧ g < w.heap.size ∧ l.length ≤ cap ∧ cap ≤ maxLen ∧
    (∀ j, j < l.length → w.cell? ⟨g, j, none⟩ = some (.int .u8 (n8 (l.getD j 0#8)))) ∧ ∀ j, w.frozen? ⟨g, j, none⟩ = false := by
  rcases h.2 with ⟨rfl, h0⟩ | ⟨g, cap, cur, rfl, hg, hh, hc, hm, hs, ht⟩
  · omega
  · refine ⟨g, cap, rfl, hg, (Array.getElem?_eq_some_iff.1 hh).1, hc, hm, fun j hj => ?_, fun j => frozen_of_row _ _ _ _ _ hh⟩
    rw [cell_of_row w g j cur 5 (0, 0) hh]
    have hv : (bytesV l)[j]? = some (.int .u8 (n8 (l.getD j 0#8))) := by simp [bytesV, List.getD, hj]
    rw [← ht, Nat.mul_one, List.getElem?_take, if_pos hj] at hv
    simpa using hv
theorem Own.put {B g n cap : Nat} {w : World} {l : List (BitVec 8)} (h : Own B w l (.slice (some ⟨g, 0, none⟩) n cap)) (k : Nat) (x : BitVec 8) : Own B (w.setCell ⟨g, k, none⟩ (.int .u8 (n8 x))) (l.set k x) (.slice (some ⟨g, 0, none⟩) n cap) := by
  rcases h.2 with ⟨h0, _⟩ | ⟨g', cap', cur, he, hg, hh, hc, hm, hs, ht⟩
  · cases h0
  · cases he
    refine ⟨by rw [bytesV_length, Nat.mul_one], .inr ⟨g, cap, cur.setIfInBounds k (.int .u8 (n8 x)), by rw [List.length_set], hg, heap_setCell_same _ _ _ _ _ _ hh, by rw [List.length_set]; exact hc, hm, by rw [Array.size_setIfInBounds]; exact hs, ?_⟩⟩
    rw [Nat.mul_one] at ht
    rw [List.length_set, Array.toList_setIfInBounds, Nat.mul_one, List.take_set, ht]
    simp [bytesV, List.map_set]
theorem Own.putOther {B : Nat} {w : World} {l : List (BitVec 8)} {v : Value} (h : Own B w l v) {G : Nat} (hne : v.ownBlock ≠ some G) (k : Nat) (u : Value) : Own B (w.setCell ⟨G, k, none⟩ u) l v :=
  World.ownsRow.kept h (grown_setCell _ _ _ _) (Or.inr hne)
end Go.Proofs.YtgfmjfpafpmghaaDoor
