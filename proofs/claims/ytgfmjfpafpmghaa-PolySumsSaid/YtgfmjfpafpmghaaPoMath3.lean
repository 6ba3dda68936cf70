/-
  poly's numbers: of bytes, to bytes; the tag as the document has it.
-/
import Derived.Test.YtgfmjfpafpmghaaPoMath2
namespace Go.Proofs.Ytgfmjfpafpmghaa
open Go.Proofs.ShaWords

theorem leN_nil : leN [] = 0 := rfl
theorem leN_cons (b : BitVec 8) (r : List (BitVec 8)) : leN (b :: r) = b.toNat + 256 * leN r := rfl
theorem leN_append (a b : List (BitVec 8)) : leN (a ++ b) = leN a + 256 ^ a.length * leN b := by
  induction a with
  | nil => simp [leN]
  | cons x r ih => rw [List.cons_append, leN_cons, leN_cons, ih, List.length_cons, Nat.pow_succ, Nat.mul_comm (256 ^ r.length) 256, Nat.mul_add, Nat.mul_assoc]; omega
theorem leN_lt (a : List (BitVec 8)) : leN a < 256 ^ a.length := by
  induction a with
  | nil => simp [leN]
  | cons x r ih => rw [leN_cons, List.length_cons, Nat.pow_succ]; have := x.isLt; omega
theorem leN_take_succ (bs : List (BitVec 8)) (k : Nat) (h : k < bs.length) : leN (bs.take (k + 1)) = leN (bs.take k) + 256 ^ k * (bs.getD k 0#8).toNat := by
  rw [List.take_succ_eq_append_getElem h, leN_append, List.length_take, Nat.min_eq_left (by omega), leN_cons, leN_nil]
  simp [List.getD, h]
theorem place17 (k : Nat) (h : k ≤ 16) : 67108864 ^ (8 * k / 26) * 2 ^ (8 * k % 26) = 256 ^ k ∧ 8 * k / 26 ≤ 4 ∧ 2 ^ (8 * k % 26) ≤ 33554432 := by
  have H : ∀ k : Fin 17, 67108864 ^ (8 * k.val / 26) * 2 ^ (8 * k.val % 26) = 256 ^ k.val ∧ 8 * k.val / 26 ≤ 4 ∧ 2 ^ (8 * k.val % 26) ≤ 33554432 := by decide +kernel
  exact H ⟨k, by omega⟩
theorem val5_set (L : List (BitVec 64)) (hL : L.length = 5) (j : Nat) (hj : j ≤ 4) (x : BitVec 64) : val5 (L.set j x) + 67108864 ^ j * (L.getD j 0#64).toNat = val5 L + 67108864 ^ j * x.toNat := by
  obtain ⟨a, b, c, d, e, rfl⟩ := five L hL
  match j, hj with
  | 0, _ => simp only [List.set_cons_zero, List.getD_cons_zero, val5_five, Nat.pow_zero]; omega
  | 1, _ => simp only [List.set_cons_zero, List.set_cons_succ, List.getD_cons_zero, List.getD_cons_succ, val5_five]; omega
  | 2, _ => simp only [List.set_cons_zero, List.set_cons_succ, List.getD_cons_zero, List.getD_cons_succ, val5_five]; omega
  | 3, _ => simp only [List.set_cons_zero, List.set_cons_succ, List.getD_cons_zero, List.getD_cons_succ, val5_five]; omega
  | 4, _ => simp only [List.set_cons_zero, List.set_cons_succ, List.getD_cons_zero, List.getD_cons_succ, val5_five]; omega
theorem getD_set_le (L : List (BitVec 64)) (j i B : Nat) (x : BitVec 64) (h : ∀ i, (L.getD i 0#64).toNat ≤ B) (hx : x.toNat ≤ B) : ((L.set j x).getD i 0#64).toNat ≤ B := by
  have h1 := h i
  simp only [List.getD, List.getElem?_set] at h1 ⊢
  split
  · split
    · simpa using hx
    · simp
  · exact h1
theorem numK_num (bs : List (BitVec 8)) (k : Nat) (hk : k ≤ bs.length) (h17 : k ≤ 17) : val5 (numK bs k) = leN (bs.take k) ∧ ∀ i, ((numK bs k).getD i 0#64).toNat ≤ k * 8589934592 := by
  induction k with
  | zero =>
    refine ⟨rfl, fun i => ?_⟩
    rw [numK_zero]
    unfold nought5
    match i with
    | 0 => simp
    | 1 => simp
    | 2 => simp
    | 3 => simp
    | 4 => simp
    | i + 5 => simp
  | succ k ih =>
    obtain ⟨hv, hs⟩ := ih (by omega) (by omega)
    obtain ⟨p1, p2, p3⟩ := place17 k (by omega)
    have hx : (ext64 (bs.getD k 0#8) <<< (8 * k % 26)).toNat = (bs.getD k 0#8).toNat * 2 ^ (8 * k % 26) := by
      have hb := (bs.getD k 0#8).isLt
      have hm : (bs.getD k 0#8).toNat * 2 ^ (8 * k % 26) ≤ 255 * 33554432 := Nat.mul_le_mul (by omega) p3
      rw [BitVec.toNat_shiftLeft, Nat.shiftLeft_eq]
      unfold ext64
      rw [BitVec.toNat_setWidth, Nat.mod_eq_of_lt (by omega : (bs.getD k 0#8).toNat < 2 ^ 64), Nat.mod_eq_of_lt (by omega)]
    have hm : (bs.getD k 0#8).toNat * 2 ^ (8 * k % 26) ≤ 255 * 33554432 := Nat.mul_le_mul (by have := (bs.getD k 0#8).isLt; omega) p3
    have hL := numK_length bs k
    have h1 := hs (8 * k / 26)
    have ha := add_small ((numK bs k).getD (8 * k / 26) 0#64) (ext64 (bs.getD k 0#8) <<< (8 * k % 26)) (by rw [hx]; omega)
    rw [hx] at ha
    rw [numK_succ]
    refine ⟨?_, fun i => ?_⟩
    · have e := val5_set (numK bs k) hL (8 * k / 26) p2 ((numK bs k).getD (8 * k / 26) 0#64 + ext64 (bs.getD k 0#8) <<< (8 * k % 26))
      rw [ha, Nat.mul_add, Nat.mul_left_comm, p1, hv] at e
      rw [leN_take_succ bs k (by omega), Nat.mul_comm (256 ^ k)]
      omega
    · exact getD_set_le _ _ _ _ _ (fun i => Nat.le_trans (hs i) (Nat.mul_le_mul_right _ (Nat.le_succ k))) (by rw [ha]; clear hx ha p1 p3; generalize (bs.getD k 0#8).toNat * 2 ^ (8 * k % 26) = t at hm ⊢; omega)
theorem numOf_num (bs : List (BitVec 8)) (h17 : bs.length ≤ 17) (hv : leN bs < 1361129467683753853853498429727072845824) : numOf bs = limbsOf (leN bs) := by
  obtain ⟨h1, h2⟩ := numK_num bs bs.length (Nat.le_refl _) h17
  obtain ⟨h3, -⟩ := normal_num (numK bs bs.length) (numK_length _ _) (fun i => by have := h2 i; omega)
  unfold numOf
  rw [h3, h1, List.take_length, Nat.mod_eq_of_lt hv]
/-- The sixteen lowest bytes of a number. -/
def leB (v : Nat) : List (BitVec 8) := (List.range 16).map fun i => BitVec.ofNat 8 (v / 256 ^ i)
theorem leB_length (v : Nat) : (leB v).length = 16 := by simp [leB]
theorem low8_eq (x : BitVec 64) (s : Nat) (v : Nat) (h : x.toNat / 2 ^ s % 256 = v % 256) : low8 (x >>> s) = BitVec.ofNat 8 v := by
  apply BitVec.eq_of_toNat_eq
  unfold low8
  rw [BitVec.toNat_setWidth, BitVec.toNat_ushiftRight, Nat.shiftRight_eq_div_pow, BitVec.toNat_ofNat]
  exact h
theorem leB_eq (v : Nat) : leB v = [BitVec.ofNat 8 v, BitVec.ofNat 8 (v / 256), BitVec.ofNat 8 (v / 65536), BitVec.ofNat 8 (v / 16777216), BitVec.ofNat 8 (v / 4294967296), BitVec.ofNat 8 (v / 1099511627776), BitVec.ofNat 8 (v / 281474976710656), BitVec.ofNat 8 (v / 72057594037927936),
    BitVec.ofNat 8 (v / 18446744073709551616), BitVec.ofNat 8 (v / 4722366482869645213696), BitVec.ofNat 8 (v / 1208925819614629174706176), BitVec.ofNat 8 (v / 309485009821345068724781056), BitVec.ofNat 8 (v / 79228162514264337593543950336), BitVec.ofNat 8 (v / 20282409603651670423947251286016), BitVec.ofNat 8 (v / 5192296858534827628530496329220096), BitVec.ofNat 8 (v / 1329227995784915872903807060280344576)] := by
  simp [leB, List.range_succ]
theorem lay_num (lo hi : BitVec 64) : layK lo hi 8 = leB (lo.toNat + 18446744073709551616 * hi.toNat) := by
  have e : layK lo hi 8 = [low8 (lo >>> 0), low8 (lo >>> 8), low8 (lo >>> 16), low8 (lo >>> 24), low8 (lo >>> 32), low8 (lo >>> 40), low8 (lo >>> 48), low8 (lo >>> 56), low8 (hi >>> 0), low8 (hi >>> 8), low8 (hi >>> 16), low8 (hi >>> 24), low8 (hi >>> 32), low8 (hi >>> 40), low8 (hi >>> 48), low8 (hi >>> 56)] := by kernel_rfl
  have h1 := lo.isLt
  have h2 := hi.isLt
  rw [e, leB_eq]
  generalize hl : lo.toNat = l at h1
  generalize hh : hi.toNat = h at h2
  rw [low8_eq lo 0 (l + 18446744073709551616 * h) (by rw [hl]; omega), low8_eq lo 8 ((l + 18446744073709551616 * h) / 256) (by rw [hl]; omega), low8_eq lo 16 ((l + 18446744073709551616 * h) / 65536) (by rw [hl]; omega), low8_eq lo 24 ((l + 18446744073709551616 * h) / 16777216) (by rw [hl]; omega),
    low8_eq lo 32 ((l + 18446744073709551616 * h) / 4294967296) (by rw [hl]; omega), low8_eq lo 40 ((l + 18446744073709551616 * h) / 1099511627776) (by rw [hl]; omega), low8_eq lo 48 ((l + 18446744073709551616 * h) / 281474976710656) (by rw [hl]; omega), low8_eq lo 56 ((l + 18446744073709551616 * h) / 72057594037927936) (by rw [hl]; omega),
    low8_eq hi 0 ((l + 18446744073709551616 * h) / 18446744073709551616) (by rw [hh]; omega), low8_eq hi 8 ((l + 18446744073709551616 * h) / 4722366482869645213696) (by rw [hh]; omega), low8_eq hi 16 ((l + 18446744073709551616 * h) / 1208925819614629174706176) (by rw [hh]; omega), low8_eq hi 24 ((l + 18446744073709551616 * h) / 309485009821345068724781056) (by rw [hh]; omega),
    low8_eq hi 32 ((l + 18446744073709551616 * h) / 79228162514264337593543950336) (by rw [hh]; omega), low8_eq hi 40 ((l + 18446744073709551616 * h) / 20282409603651670423947251286016) (by rw [hh]; omega), low8_eq hi 48 ((l + 18446744073709551616 * h) / 5192296858534827628530496329220096) (by rw [hh]; omega), low8_eq hi 56 ((l + 18446744073709551616 * h) / 1329227995784915872903807060280344576) (by rw [hh]; omega)]
theorem leB_mod (v : Nat) : leB (v % 340282366920938463463374607431768211456) = leB v := by
  have h : ∀ k : Nat, k ∣ 1329227995784915872903807060280344576 → BitVec.ofNat 8 (v % 340282366920938463463374607431768211456 / k) = BitVec.ofNat 8 (v / k) := by
    rintro k ⟨q, hq⟩
    apply BitVec.eq_of_toNat_eq
    rw [BitVec.toNat_ofNat, BitVec.toNat_ofNat]
    have e : 340282366920938463463374607431768211456 = k * (256 * q) := by rw [Nat.mul_left_comm, ← hq]
    rw [e, Nat.mod_mul_right_div_self, Nat.mod_mul_right_mod]
  unfold leB
  apply List.map_congr_left
  intro i hi
  have hi' : i < 16 := List.mem_range.1 hi
  have hd : ∀ i : Fin 16, 256 ^ i.val ∣ 1329227995784915872903807060280344576 := by decide +kernel
  exact h _ (hd ⟨i, hi'⟩)
end Go.Proofs.Ytgfmjfpafpmghaa
