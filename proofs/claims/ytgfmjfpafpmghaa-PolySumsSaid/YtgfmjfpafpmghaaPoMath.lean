/-
  What poly's limbs come to, as numbers: sums, products, what is left modulo 2^130 - 5.
-/
import Derived.Test.YtgfmjfpafpmghaaPoSum
namespace Go.Proofs.Ytgfmjfpafpmghaa
open Go.Proofs.ShaWords

/-- The number of bytes, the lowest first. -/
def leN : List (BitVec 8) → Nat
  | [] => 0
  | b :: r => b.toNat + 256 * leN r
abbrev P130 : Nat := 1361129467683753853853498429727072845819
/-- The value of limbs. -/
def val5 (l : List (BitVec 64)) : Nat :=
  (l.getD 0 0#64).toNat + 67108864 * (l.getD 1 0#64).toNat + 4503599627370496 * (l.getD 2 0#64).toNat + 302231454903657293676544 * (l.getD 3 0#64).toNat + 20282409603651670423947251286016 * (l.getD 4 0#64).toNat
theorem val5_five (a b c d e : BitVec 64) : val5 [a, b, c, d, e] = a.toNat + 67108864 * b.toNat + 4503599627370496 * c.toNat + 302231454903657293676544 * d.toNat + 20282409603651670423947251286016 * e.toNat := rfl
/-- The limbs of a number. -/
def limbsOf (v : Nat) : List (BitVec 64) :=
  [BitVec.ofNat 64 (v % 67108864), BitVec.ofNat 64 (v / 67108864 % 67108864), BitVec.ofNat 64 (v / 4503599627370496 % 67108864), BitVec.ofNat 64 (v / 302231454903657293676544 % 67108864), BitVec.ofNat 64 (v / 20282409603651670423947251286016 % 67108864)]
theorem limbsOf_length (v : Nat) : (limbsOf v).length = 5 := rfl
theorem toNat_small (v : Nat) : (BitVec.ofNat 64 (v % 67108864)).toNat = v % 67108864 := by rw [BitVec.toNat_ofNat]; omega
theorem val5_limbsOf (v : Nat) (h : v < 1361129467683753853853498429727072845824) : val5 (limbsOf v) = v := by
  unfold limbsOf
  rw [val5_five]
  simp only [toNat_small]
  omega
theorem mask_eq (x : BitVec 64) : x &&& 67108863#64 = BitVec.ofNat 64 (x.toNat % 67108864) := by
  apply BitVec.eq_of_toNat_eq
  rw [toNat_small, BitVec.toNat_and]
  exact Nat.and_two_pow_sub_one_eq_mod x.toNat 26
theorem shr_eq (x : BitVec 64) : (x >>> 26).toNat = x.toNat / 67108864 := by rw [BitVec.toNat_ushiftRight, Nat.shiftRight_eq_div_pow]
theorem add_small (x y : BitVec 64) (h : x.toNat + y.toNat < 18446744073709551616) : (x + y).toNat = x.toNat + y.toNat := by rw [BitVec.toNat_add]; omega
theorem normal_num (l : List (BitVec 64)) (h5 : l.length = 5) (h : ∀ i, (l.getD i 0#64).toNat < 1152921504606846976) :
    normL l 5 = limbsOf (val5 l % 1361129467683753853853498429727072845824) ∧ (normO l 5).toNat = val5 l / 1361129467683753853853498429727072845824 := by
  obtain ⟨a, b, c, d, e, rfl⟩ := five l h5
  have ha := h 0; have hb := h 1; have hc := h 2; have hd := h 3; have he := h 4
  simp only [List.getD_cons_zero, List.getD_cons_succ] at ha hb hc hd he
  obtain ⟨s0, hs0⟩ : ∃ s, s = a + 0#64 := ⟨_, rfl⟩
  obtain ⟨s1, hs1⟩ : ∃ s, s = b + s0 >>> 26 := ⟨_, rfl⟩
  obtain ⟨s2, hs2⟩ : ∃ s, s = c + s1 >>> 26 := ⟨_, rfl⟩
  obtain ⟨s3, hs3⟩ : ∃ s, s = d + s2 >>> 26 := ⟨_, rfl⟩
  obtain ⟨s4, hs4⟩ : ∃ s, s = e + s3 >>> 26 := ⟨_, rfl⟩
  have e1 : normL [a, b, c, d, e] 5 = [s0 &&& 67108863#64, s1 &&& 67108863#64, s2 &&& 67108863#64, s3 &&& 67108863#64, s4 &&& 67108863#64] := by
    subst hs4 hs3 hs2 hs1 hs0; rfl
  have e2 : normO [a, b, c, d, e] 5 = s4 >>> 26 := by subst hs4 hs3 hs2 hs1 hs0; rfl
  have t0 : s0.toNat = a.toNat := by rw [hs0, BitVec.add_zero]
  have u0 := shr_eq s0
  have t1 : s1.toNat = b.toNat + a.toNat / 67108864 := by rw [hs1, add_small _ _ (by omega)]; omega
  have u1 := shr_eq s1
  have t2 : s2.toNat = c.toNat + s1.toNat / 67108864 := by rw [hs2, add_small _ _ (by omega)]; omega
  have u2 := shr_eq s2
  have t3 : s3.toNat = d.toNat + s2.toNat / 67108864 := by rw [hs3, add_small _ _ (by omega)]; omega
  have u3 := shr_eq s3
  have t4 : s4.toNat = e.toNat + s3.toNat / 67108864 := by rw [hs4, add_small _ _ (by omega)]; omega
  have u4 := shr_eq s4
  rw [e1, e2, u4, val5_five]
  clear e1 e2 hs0 hs1 hs2 hs3 hs4 u0 u1 u2 u3 u4 ha hb hc hd he h h5
  simp only [mask_eq]
  generalize s0.toNat = n0 at *
  generalize s1.toNat = n1 at *
  generalize s2.toNat = n2 at *
  generalize s3.toNat = n3 at *
  generalize s4.toNat = n4 at *
  generalize a.toNat = a at *
  generalize b.toNat = b at *
  generalize c.toNat = c at *
  generalize d.toNat = d at *
  generalize e.toNat = e at *
  obtain ⟨V, hV⟩ : ∃ V, V = a + 67108864 * b + 4503599627370496 * c + 302231454903657293676544 * d + 20282409603651670423947251286016 * e := ⟨_, rfl⟩
  rw [← hV]
  have v1 : V / 67108864 = n1 + 67108864 * (c + 67108864 * (d + 67108864 * e)) := by omega
  have v2 : V / 4503599627370496 = n2 + 67108864 * (d + 67108864 * e) := by omega
  have v3 : V / 302231454903657293676544 = n3 + 67108864 * e := by omega
  have v4 : V / 20282409603651670423947251286016 = n4 := by omega
  have v5 : V / 1361129467683753853853498429727072845824 = n4 / 67108864 := by omega
  refine ⟨?_, v5.symm⟩
  unfold limbsOf
  have w0 : V % 1361129467683753853853498429727072845824 % 67108864 = n0 % 67108864 := by omega
  have w1 : V % 1361129467683753853853498429727072845824 / 67108864 % 67108864 = n1 % 67108864 := by omega
  have w2 : V % 1361129467683753853853498429727072845824 / 4503599627370496 % 67108864 = n2 % 67108864 := by omega
  have w3 : V % 1361129467683753853853498429727072845824 / 302231454903657293676544 % 67108864 = n3 % 67108864 := by omega
  have w4 : V % 1361129467683753853853498429727072845824 / 20282409603651670423947251286016 % 67108864 = n4 % 67108864 := by omega
  rw [w0, w1, w2, w3, w4]
/-- Limb by limb. -/
theorem addL_five (a b c d e a' b' c' d' e' : BitVec 64) : addL [a, b, c, d, e] [a', b', c', d', e'] 5 = [a + a', b + b', c + c', d + d', e + e'] := rfl
theorem addL_num (x y : List (BitVec 64)) (hx : x.length = 5) (hy : y.length = 5) (B C : Nat) (hB : ∀ i, (x.getD i 0#64).toNat < B) (hC : ∀ i, (y.getD i 0#64).toNat < C) (h : B + C ≤ 18446744073709551616) :
    val5 (addL x y 5) = val5 x + val5 y ∧ ∀ i, ((addL x y 5).getD i 0#64).toNat < B + C := by
  obtain ⟨a, b, c, d, e, rfl⟩ := five x hx
  obtain ⟨a', b', c', d', e', rfl⟩ := five y hy
  have ha := hB 0; have hb := hB 1; have hc := hB 2; have hd := hB 3; have he := hB 4
  have ha' := hC 0; have hb' := hC 1; have hc' := hC 2; have hd' := hC 3; have he' := hC 4
  simp only [List.getD_cons_zero, List.getD_cons_succ] at ha hb hc hd he ha' hb' hc' hd' he'
  rw [addL_five]
  have s0 := add_small a a' (by omega)
  have s1 := add_small b b' (by omega)
  have s2 := add_small c c' (by omega)
  have s3 := add_small d d' (by omega)
  have s4 := add_small e e' (by omega)
  refine ⟨by simp only [val5_five, s0, s1, s2, s3, s4]; omega, fun i => ?_⟩
  match i with
  | 0 => simp only [List.getD_cons_zero]; omega
  | 1 => simp only [List.getD_cons_zero, List.getD_cons_succ]; omega
  | 2 => simp only [List.getD_cons_zero, List.getD_cons_succ]; omega
  | 3 => simp only [List.getD_cons_zero, List.getD_cons_succ]; omega
  | 4 => simp only [List.getD_cons_zero, List.getD_cons_succ]; omega
  | i + 5 => simp; omega
theorem limbsOf_small (v i : Nat) : ((limbsOf v).getD i 0#64).toNat < 67108864 := by
  unfold limbsOf
  match i with
  | 0 => simp only [List.getD_cons_zero, toNat_small]; omega
  | 1 => simp only [List.getD_cons_zero, List.getD_cons_succ, toNat_small]; omega
  | 2 => simp only [List.getD_cons_zero, List.getD_cons_succ, toNat_small]; omega
  | 3 => simp only [List.getD_cons_zero, List.getD_cons_succ, toNat_small]; omega
  | 4 => simp only [List.getD_cons_zero, List.getD_cons_succ, toNat_small]; omega
  | i + 5 => simp
end Go.Proofs.Ytgfmjfpafpmghaa
