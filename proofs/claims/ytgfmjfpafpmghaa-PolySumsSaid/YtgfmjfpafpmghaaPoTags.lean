/-
  Tags as numbers: added, moved by another s, without r, with an r of 1.
-/
import Derived.Test.YtgfmjfpafpmghaaPoClear
namespace Go.Proofs.Ytgfmjfpafpmghaa
open Go.Proofs.ShaWords

theorem leN_get (l : List (BitVec 8)) (i : Nat) : leN l / 256 ^ i % 256 = (l.getD i 0#8).toNat := by
  induction l generalizing i with
  | nil => simp [leN]
  | cons b r ih =>
    have hb := b.isLt
    rw [leN_cons]
    cases i with
    | zero => rw [Nat.pow_zero, Nat.div_one]; simp only [List.getD_cons_zero]; omega
    | succ i =>
      rw [List.getD_cons_succ, ← ih i, Nat.pow_succ, Nat.mul_comm (256 ^ i) 256, ← Nat.div_div_eq_div_mul]
      congr 2
      omega
theorem leB_get (v i : Nat) (hi : i < 16) : (leB v).getD i 0#8 = BitVec.ofNat 8 (v / 256 ^ i) := by
  unfold leB
  simp [List.getD, hi]
theorem leB_leN (l : List (BitVec 8)) (h : l.length = 16) : leB (leN l) = l := by
  apply ext_getD _ _ (by rw [leB_length, h])
  intro i hi
  rw [leB_length] at hi
  rw [leB_get _ _ hi]
  apply BitVec.eq_of_toNat_eq
  rw [BitVec.toNat_ofNat]
  exact leN_get l i
theorem leN_digits (v n : Nat) : leN ((List.range n).map fun i => BitVec.ofNat 8 (v / 256 ^ i)) = v % 256 ^ n := by
  induction n with
  | zero => simp [leN, Nat.mod_one]
  | succ n ih =>
    rw [List.range_succ, List.map_append, leN_append, ih, List.length_map, List.length_range, Nat.pow_succ, Nat.mod_mul]
    simp [leN]
theorem leN_leB (v : Nat) : leN (leB v) = v % 340282366920938463463374607431768211456 := leN_digits v 16
theorem addB_part (x y : List (BitVec 8)) (hx : x.length = 16) (hy : y.length = 16) (k : Nat) (hk : k ≤ 16) : leN ((addB x y k).take k) + 256 ^ k * carB x y k = leN (x.take k) + leN (y.take k) := by
  induction k with
  | zero => simp [leN, carB]
  | succ k ih =>
    have ih := ih (by omega)
    have hl := addB_length x y k
    rw [leN_take_succ x k (by omega), leN_take_succ y k (by omega), leN_take_succ _ k (by rw [addB_length]; omega), addB_succ, carB_succ, getD_set _ _ _ _ (by omega), if_pos rfl, List.take_set_of_le (Nat.le_refl k)]
    have e : (BitVec.ofNat 8 ((byteN x k + byteN y k + carB x y k) % 256)).toNat = (byteN x k + byteN y k + carB x y k) % 256 := by rw [BitVec.toNat_ofNat]; omega
    rw [e]
    have d := Nat.div_add_mod (byteN x k + byteN y k + carB x y k) 256
    show _ = leN (x.take k) + 256 ^ k * byteN x k + (leN (y.take k) + 256 ^ k * byteN y k)
    generalize hs : byteN x k + byteN y k + carB x y k = s at d
    have m : 256 ^ k * (256 * (s / 256) + s % 256) = 256 ^ k * s := by rw [d]
    rw [← hs] at m
    simp only [Nat.mul_add] at m
    rw [hs] at m
    rw [Nat.pow_succ, Nat.mul_assoc]
    generalize 256 ^ k * (256 * (s / 256)) = t1 at m ⊢
    generalize 256 ^ k * (s % 256) = t2 at m ⊢
    generalize 256 ^ k * byteN x k = t3 at m ⊢
    generalize 256 ^ k * byteN y k = t4 at m ⊢
    generalize 256 ^ k * carB x y k = t5 at m ih
    omega
theorem addB_num (x y : List (BitVec 8)) (hx : x.length = 16) (hy : y.length = 16) : addB x y 16 = leB (leN x + leN y) := by
  have h := addB_part x y hx hy 16 (Nat.le_refl _)
  have hl := leN_lt (addB x y 16)
  have hL := addB_length x y 16
  rw [hL] at hl
  have e := leB_leN (addB x y 16) hL
  generalize addB x y 16 = z at h hl hL e
  generalize carB x y 16 = c at h
  have e1 : z.take 16 = z := List.take_of_length_le (by omega)
  have e2 : x.take 16 = x := List.take_of_length_le (by omega)
  have e3 : y.take 16 = y := List.take_of_length_le (by omega)
  rw [e1, e2, e3] at h
  rw [← e, ← leB_mod (leN x + leN y)]
  congr 1
  omega
theorem leN_addB (x y : List (BitVec 8)) (hx : x.length = 16) (hy : y.length = 16) : leN (addB x y 16) = (leN x + leN y) % 340282366920938463463374607431768211456 := by
  rw [addB_num x y hx hy, leN_leB]
theorem drop_both {α : Type} (r s : List α) (n : Nat) (h : r.length = n) : (r ++ s).drop n = s := by rw [← h]; exact List.drop_left
theorem getD_left (r s : List (BitVec 8)) (i : Nat) (h : i < r.length) : (r ++ s).getD i 0#8 = r.getD i 0#8 := by
  simp [List.getD, List.getElem?_append_left h]
/-- A key with another s. -/
theorem clrOf_front (key s : List (BitVec 8)) (hk : key.length = 32) (hs : s.length = 16) : clrOf (key.take 16 ++ s) = clrOf key := by
  have ht : (key.take 16).length = 16 := by rw [List.length_take, hk]; rfl
  apply clrOf_same _ _ (by rw [List.length_append, ht, hs]) hk
  intro i hi
  rw [getD_left _ _ _ (by omega), getD_take _ _ _ hi]
theorem moved_tag (key d bs : List (BitVec 8)) (hk : key.length = 32) (hd : d.length = 16) : polyTag (key.take 16 ++ addB (key.drop 16) d 16) bs = addB (polyTag key bs) d 16 := by
  have ht : (key.take 16).length = 16 := by rw [List.length_take, hk]; rfl
  have hdr : (key.drop 16).length = 16 := by rw [List.length_drop, hk]
  have hl : (key.take 16 ++ addB (key.drop 16) d 16).length = 32 := by rw [List.length_append, ht, addB_length]
  rw [addB_num _ _ (polyTag_length _ _) hd, polyTag_num _ _ hl, clrOf_front _ _ hk (addB_length _ _ _), drop_both _ _ 16 ht, leN_addB _ _ hdr hd, polyTag_num key bs hk, leN_leB]
  generalize accN (leN (clrOf key)) bs ((bs.length + 15) / 16) = a
  rw [← leB_mod (a + _), ← leB_mod (_ % _ + _)]
  congr 1
  omega
theorem empty_tag (key : List (BitVec 8)) (hk : key.length = 32) : polyTag key [] = key.drop 16 := by
  rw [polyTag_num key [] hk]
  show leB (0 + _) = _
  rw [Nat.zero_add, leB_leN _ (by rw [List.length_drop, hk])]
theorem accN_none (bs : List (BitVec 8)) (j : Nat) : accN 0 bs j = 0 := by
  cases j with
  | zero => rfl
  | succ j => rw [accN_succ, Nat.mul_zero]; rfl
theorem zeros16_length : zeros16.length = 16 := rfl
theorem zeros16_get (i : Nat) : zeros16.getD i 0#8 = 0#8 := by
  unfold zeros16
  simp only [List.getD, List.getElem?_replicate]
  split
  · rfl
  · rfl
theorem none_tag (s bs : List (BitVec 8)) (hs : s.length = 16) : polyTag (zeros16 ++ s) bs = s := by
  have hl : (zeros16 ++ s).length = 32 := by rw [List.length_append, zeros16_length, hs]
  have hc : clrOf (zeros16 ++ s) = zeros16 := by
    apply ext_getD _ _ (by rw [clrOf_length _ hl, zeros16_length])
    intro i hi
    rw [clrOf_length _ hl] at hi
    rw [clrOf_get _ hl i hi, getD_left _ _ _ (by rw [zeros16_length]; omega), zeros16_get]
    unfold clr
    split
    · rfl
    · split
      · rfl
      · rfl
  have hz : leN zeros16 = 0 := by decide
  rw [polyTag_num _ bs hl, hc, hz, accN_none, drop_both _ _ 16 zeros16_length, Nat.zero_add, leB_leN s hs]
end Go.Proofs.Ytgfmjfpafpmghaa
