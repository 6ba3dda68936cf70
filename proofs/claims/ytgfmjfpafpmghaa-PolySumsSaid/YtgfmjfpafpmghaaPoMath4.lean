/-
  The tag of poly.Sum as the document has it: a number modulo 2^130 - 5, s beside it, the sixteen lowest bytes.
-/
import Derived.Test.YtgfmjfpafpmghaaPoMath3
namespace Go.Proofs.Ytgfmjfpafpmghaa
open Go.Proofs.ShaWords

theorem or_shift (a b k : Nat) (h : a < 2 ^ k) : a ||| b * 2 ^ k = a + b * 2 ^ k := by
  rw [Nat.or_comm, ← Nat.shiftLeft_eq, ← Nat.shiftLeft_add_eq_or_of_lt h, Nat.add_comm]
theorem shl_num (x : BitVec 64) (k : Nat) (hk : k ≤ 64) : (x <<< k).toNat = x.toNat % 2 ^ (64 - k) * 2 ^ k := by
  rw [BitVec.toNat_shiftLeft, Nat.shiftLeft_eq]
  have e : 2 ^ 64 = 2 ^ (64 - k) * 2 ^ k := by rw [← Nat.pow_add, show 64 - k + k = 64 by omega]
  rw [e, Nat.mul_mod_mul_right]
theorem low_num (a b c d e : BitVec 64) (ha : a.toNat < 67108864) (hb : b.toNat < 67108864) : (lowOf [a, b, c, d, e]).toNat = a.toNat + b.toNat * 67108864 + c.toNat % 4096 * 4503599627370496 := by
  show (a ||| b <<< 26 ||| c <<< 52).toNat = _
  rw [BitVec.toNat_or, BitVec.toNat_or, shl_num b 26 (by omega), shl_num c 52 (by omega), or_shift _ _ 26 (by omega), or_shift _ _ 52 (by have : b.toNat % 2 ^ (64 - 26) = b.toNat := Nat.mod_eq_of_lt (by omega); rw [this]; omega)]
  omega
theorem high_num (a b c d e : BitVec 64) (hc : c.toNat < 67108864) (hd : d.toNat < 67108864) : (highOf [a, b, c, d, e]).toNat = c.toNat / 4096 + d.toNat * 16384 + e.toNat % 16777216 * 1099511627776 := by
  show (c >>> 12 ||| d <<< 14 ||| e <<< 40).toNat = _
  have hs : (c >>> 12).toNat = c.toNat / 4096 := by rw [BitVec.toNat_ushiftRight, Nat.shiftRight_eq_div_pow]
  rw [BitVec.toNat_or, BitVec.toNat_or, shl_num d 14 (by omega), shl_num e 40 (by omega), hs, or_shift _ _ 14 (by omega), or_shift _ _ 40 (by have : d.toNat % 2 ^ (64 - 14) = d.toNat := Nat.mod_eq_of_lt (by omega); rw [this]; omega)]
  omega
theorem tag_num (x : List (BitVec 64)) (h5 : x.length = 5) (h : ∀ i, (x.getD i 0#64).toNat < 1152921504606846976) : tagOf x = leB (val5 x) := by
  obtain ⟨n1, -⟩ := normal_num x h5 h
  unfold tagOf
  rw [n1]
  generalize val5 x = V
  have hs := limbsOf_small (V % 1361129467683753853853498429727072845824)
  have hv := val5_limbsOf (V % 1361129467683753853853498429727072845824) (by omega)
  generalize hL : limbsOf (V % 1361129467683753853853498429727072845824) = L at hs hv
  obtain ⟨a, b, c, d, e, rfl⟩ := five L (by rw [← hL]; rfl)
  clear hL n1
  have ha := hs 0; have hb := hs 1; have hc := hs 2; have hd := hs 3; have he := hs 4
  simp only [List.getD_cons_zero, List.getD_cons_succ] at ha hb hc hd he
  rw [val5_five] at hv
  rw [lay_num, low_num a b c d e ha hb, high_num a b c d e hc hd, ← leB_mod (a.toNat + _ + _ + _), ← leB_mod V]
  congr 1
  omega
/-- The number a block is. -/
def blkN (blk : List (BitVec 8)) : Nat := leN blk + 256 ^ blk.length
/-- a behind the first j blocks. -/
def accN (r : Nat) (bs : List (BitVec 8)) : Nat → Nat
  | 0 => 0
  | j + 1 => (accN r bs j + blkN ((bs.drop (16 * j)).take 16)) * r % P130
theorem accN_succ (r : Nat) (bs : List (BitVec 8)) (j : Nat) : accN r bs (j + 1) = (accN r bs j + blkN ((bs.drop (16 * j)).take 16)) * r % P130 := rfl
theorem accN_lt (r : Nat) (bs : List (BitVec 8)) (j : Nat) : accN r bs j < P130 := by
  cases j with
  | zero => show 0 < P130; decide
  | succ j => exact Nat.mod_lt _ (by decide)
theorem blk_one (blk : List (BitVec 8)) : leN (blk ++ [1#8]) = blkN blk := by rw [leN_append]; simp [leN, blkN]
theorem blkN_lt (blk : List (BitVec 8)) (h : blk.length ≤ 16) : blkN blk < 680564733841876926926749214863536422912 := by
  have h1 := leN_lt blk
  have h2 : 256 ^ blk.length ≤ 256 ^ 16 := Nat.pow_le_pow_right (by omega) h
  unfold blkN
  omega
theorem mod_shift {a b q : Nat} (h : a = b + P130 * q) : b % P130 = a % P130 := by rw [h, Nat.add_mul_mod_self_left]
theorem acc_num (r : Nat) (hr : r < 1361129467683753853853498429727072845824) (bs : List (BitVec 8)) (j : Nat) : accK (limbsOf r) bs j = limbsOf (accN r bs j) := by
  induction j with
  | zero => show nought5 = limbsOf 0; decide
  | succ j ih =>
    rw [accK_succ, ih, accN_succ]
    have hal := accN_lt r bs j
    generalize accN r bs j = a at hal
    have hbl : ((bs.drop (16 * j)).take 16).length ≤ 16 := by rw [List.length_take]; omega
    generalize (bs.drop (16 * j)).take 16 = blk at hbl
    have hb := blkN_lt blk hbl
    have hn : numOf (blk ++ [1#8]) = limbsOf (blkN blk) := by
      rw [← blk_one]; exact numOf_num _ (by rw [List.length_append]; simp; omega) (by rw [blk_one]; omega)
    have hP : P130 = 1361129467683753853853498429727072845819 := rfl
    unfold accStep
    rw [hn]
    obtain ⟨s1, s2⟩ := addL_num (limbsOf a) (limbsOf (blkN blk)) rfl rfl _ _ (limbsOf_small a) (limbsOf_small _) (by omega)
    obtain ⟨⟨q, m1⟩, m2⟩ := prod_num (addL (limbsOf a) (limbsOf (blkN blk)) 5) (limbsOf r) (addL_length _ _ _) rfl s2 (limbsOf_small r)
    rw [s1, val5_limbsOf a (by omega), val5_limbsOf _ (by omega), val5_limbsOf r hr] at m1
    rw [reduced_num _ (mulL_length _ _ _) m2, mod_shift m1]
theorem polyTag_num (key bs : List (BitVec 8)) (hk : key.length = 32) : polyTag key bs = leB (accN (leN (clrOf key)) bs ((bs.length + 15) / 16) + leN (key.drop 16)) := by
  have hc : (clrOf key).length = 16 := clrOf_length key hk
  have h1 := leN_lt (clrOf key)
  rw [hc] at h1
  have hd : (key.drop 16).length = 16 := by rw [List.length_drop, hk]
  have h2 := leN_lt (key.drop 16)
  rw [hd] at h2
  have hr : leN (clrOf key) < 1361129467683753853853498429727072845824 := by omega
  unfold polyTag
  rw [numOf_num (clrOf key) (by omega) hr, acc_num _ hr, numOf_num (key.drop 16) (by omega) (by omega)]
  have ha := accN_lt (leN (clrOf key)) bs ((bs.length + 15) / 16)
  have hP : P130 = 1361129467683753853853498429727072845819 := rfl
  generalize accN (leN (clrOf key)) bs ((bs.length + 15) / 16) = a at ha
  obtain ⟨s1, s2⟩ := addL_num (limbsOf a) (limbsOf (leN (key.drop 16))) rfl rfl _ _ (limbsOf_small a) (limbsOf_small _) (by omega)
  rw [tag_num _ (addL_length _ _ _) (fun i => by have := s2 i; omega), s1, val5_limbsOf a (by omega), val5_limbsOf _ (by omega)]
end Go.Proofs.Ytgfmjfpafpmghaa
