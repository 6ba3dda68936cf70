/-
  With an r of 1 the tag of one block is the block.
-/
import Derived.Test.YtgfmjfpafpmghaaPoTags
namespace Go.Proofs.Ytgfmjfpafpmghaa
open Go.Proofs.ShaWords
def one16 : List (BitVec 8) := 1#8 :: List.replicate 15 0#8
theorem one16_length : one16.length = 16 := rfl
theorem leN_zeros (n : Nat) : leN (List.replicate n 0#8) = 0 := by
  induction n with
  | zero => rfl
  | succ n ih => rw [List.replicate_succ, leN_cons, ih]; rfl
/-- The block as a number of sixteen bytes. -/
def oneT (bs : List (BitVec 8)) : List (BitVec 8) := if 0 < bs.length ∧ bs.length < 16 then (splice zeros16 0 bs).set bs.length 1#8 else splice zeros16 0 bs
theorem splice_z (bs : List (BitVec 8)) : splice zeros16 0 bs = bs ++ List.replicate (16 - bs.length) 0#8 := by
  unfold splice zeros16
  rw [List.take_zero, List.nil_append, Nat.zero_add, List.drop_replicate]
theorem oneT_length (bs : List (BitVec 8)) (h : bs.length ≤ 16) : (oneT bs).length = 16 := by
  unfold oneT
  split
  · rw [List.length_set, splice_z, List.length_append, List.length_replicate]; omega
  · rw [splice_z, List.length_append, List.length_replicate]; omega
theorem one_tag (s bs : List (BitVec 8)) (hs : s.length = 16) (hb : bs.length ≤ 16) : polyTag (one16 ++ s) bs = addB (oneT bs) s 16 := by
  have hl : (one16 ++ s).length = 32 := by rw [List.length_append, one16_length, hs]
  have hc : clrOf (one16 ++ s) = one16 := by
    apply ext_getD _ _ (by rw [clrOf_length _ hl, one16_length])
    intro i hi
    rw [clrOf_length _ hl] at hi
    rw [clrOf_get _ hl i hi, getD_left _ _ _ (by rw [one16_length]; omega)]
    have H : ∀ i : Fin 16, clr i.val (one16.getD i.val 0#8) = one16.getD i.val 0#8 := by decide +kernel
    exact H ⟨i, hi⟩
  have h1 : leN one16 = 1 := by decide
  rw [polyTag_num _ bs hl, hc, h1, drop_both _ _ 16 one16_length, addB_num _ _ (oneT_length bs hb) hs]
  have hv := leN_lt bs
  by_cases h0 : bs.length = 0
  · have hn : bs = [] := List.length_eq_zero_iff.1 h0
    subst hn
    have e : leN (oneT []) = 0 := by decide
    rw [e]; rfl
  · have hd : (bs.length + 15) / 16 = 1 := by omega
    have ha : accN 1 bs 1 = blkN bs := by
      show (0 + blkN ((bs.drop (16 * 0)).take 16)) * 1 % P130 = _
      rw [Nat.mul_zero, List.drop_zero, List.take_of_length_le hb, Nat.zero_add, Nat.mul_one]
      have := blkN_lt bs hb
      exact Nat.mod_eq_of_lt (Nat.lt_trans this (by decide))
    rw [hd, ha]
    unfold blkN oneT
    by_cases h16 : bs.length < 16
    · rw [if_pos ⟨by omega, h16⟩, splice_z, List.set_append_right _ _ (Nat.le_refl _), Nat.sub_self]
      obtain ⟨k, hk⟩ : ∃ k, 16 - bs.length = k + 1 := ⟨15 - bs.length, by omega⟩
      rw [hk, List.replicate_succ, List.set_cons_zero, leN_append, leN_cons, leN_zeros]
      congr 2
      simp
    · have h6 : bs.length = 16 := by omega
      rw [if_neg (by omega), splice_z, leN_append, leN_zeros, Nat.mul_zero, Nat.add_zero, h6, ← leB_mod, ← leB_mod (leN bs + leN s)]
      congr 1
      omega
end Go.Proofs.Ytgfmjfpafpmghaa
