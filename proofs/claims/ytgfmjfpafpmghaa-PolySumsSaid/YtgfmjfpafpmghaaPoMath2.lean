/-
  poly's numbers: reduced, multiplied.
-/
import Derived.Test.YtgfmjfpafpmghaaPoMath
namespace Go.Proofs.Ytgfmjfpafpmghaa
open Go.Proofs.ShaWords

theorem oneLimb_small (x : BitVec 64) (B : Nat) (h : x.toNat < B) (i : Nat) : ((oneLimb x).getD i 0#64).toNat < B := by
  unfold oneLimb
  match i with
  | 0 => simpa using h
  | 1 => simp; omega
  | 2 => simp; omega
  | 3 => simp; omega
  | 4 => simp; omega
  | i + 5 => simp; omega
theorem val5_oneLimb (x : BitVec 64) : val5 (oneLimb x) = x.toNat := by
  unfold oneLimb
  rw [val5_five]; simp
theorem mul_small (x y : BitVec 64) (h : x.toNat * y.toNat < 18446744073709551616) : (x * y).toNat = x.toNat * y.toNat := by rw [BitVec.toNat_mul, Nat.mod_eq_of_lt h]
set_option maxHeartbeats 2000000 in
theorem reduced_num (l : List (BitVec 64)) (h5 : l.length = 5) (h : ∀ i, (l.getD i 0#64).toNat < 288230376151711744) : redOf l = limbsOf (val5 l % P130) := by
  obtain ⟨n1, o1⟩ := normal_num l h5 (fun i => by have := h i; omega)
  have hv : val5 l < 288230376151711744 * 20282410000000000000000000000000 := by
    have h0 := h 0; have h1 := h 1; have h2 := h 2; have h3 := h 3; have h4 := h 4
    unfold val5; omega
  generalize val5 l = V at n1 o1 hv
  have ho : (normO l 5).toNat < 4300000000 := by rw [o1]; omega
  obtain ⟨L, hL⟩ : ∃ L, L = limbsOf (V % 1361129467683753853853498429727072845824) := ⟨_, rfl⟩
  have ha : redA l = L.set 0 (L.getD 0 0#64 + 5#64 * normO l 5) := by rw [redA_eq, n1, hL]
  have hm : (5#64 * normO l 5).toNat = 5 * (normO l 5).toNat := by rw [mul_small _ _ (by simp; omega)]; rfl
  have hLv : val5 L = V % 1361129467683753853853498429727072845824 := by rw [hL]; exact val5_limbsOf _ (by omega)
  have hLs : ∀ i, (L.getD i 0#64).toNat < 67108864 := by rw [hL]; exact limbsOf_small _
  have hL5 : L.length = 5 := by rw [hL]; rfl
  have hav : val5 (redA l) = V % 1361129467683753853853498429727072845824 + 5 * (V / 1361129467683753853853498429727072845824) ∧ (redA l).length = 5 ∧ ∀ i, ((redA l).getD i 0#64).toNat < 34359738368 := by
    rw [ha]
    clear hL ha n1
    obtain ⟨a, b, c, d, e, rfl⟩ := five L hL5
    have ta := hLs 0; have tb := hLs 1; have tc := hLs 2; have td := hLs 3; have te := hLs 4
    simp only [List.getD_cons_zero, List.getD_cons_succ] at ta tb tc td te
    have hs : (a + 5#64 * normO l 5).toNat = a.toNat + 5 * (normO l 5).toNat := by rw [add_small _ _ (by rw [hm]; omega), hm]
    rw [List.set_cons_zero, List.getD_cons_zero]
    rw [val5_five] at hLv
    refine ⟨?_, rfl, fun i => ?_⟩
    · rw [val5_five, hs]; omega
    · match i with
      | 0 => simp only [List.getD_cons_zero]; omega
      | 1 => simp only [List.getD_cons_zero, List.getD_cons_succ]; omega
      | 2 => simp only [List.getD_cons_zero, List.getD_cons_succ]; omega
      | 3 => simp only [List.getD_cons_zero, List.getD_cons_succ]; omega
      | 4 => simp only [List.getD_cons_zero, List.getD_cons_succ]; omega
      | i + 5 => simp
  obtain ⟨hv1, hl1, hs1⟩ := hav
  obtain ⟨W, hW⟩ : ∃ W, W = V % 1361129467683753853853498429727072845824 + 5 * (V / 1361129467683753853853498429727072845824) := ⟨_, rfl⟩
  rw [← hW] at hv1
  have hWb : W < 1361129467683753853853498429727072845824 + 21500000000 := by omega
  have hWp : W % P130 = V % P130 := by unfold P130; omega
  obtain ⟨a1, a2⟩ := addL_num (redA l) (oneLimb 5#64) hl1 rfl 34359738368 6 hs1 (oneLimb_small _ _ (by decide)) (by omega)
  obtain ⟨-, o2⟩ := normal_num (addL (redA l) (oneLimb 5#64) 5) (by rw [addL_length, hl1]) (fun i => by have := a2 i; omega)
  rw [a1, hv1, val5_oneLimb] at o2
  rw [← redO_eq] at o2
  have o3 : (redO l).toNat = (W + 5) / 1361129467683753853853498429727072845824 := o2
  have ho3 : (redO l).toNat ≤ 1 := by rw [o3]; omega
  have hm2 : (5#64 * redO l).toNat = 5 * (redO l).toNat := by rw [mul_small _ _ (by simp; omega)]; rfl
  obtain ⟨b1, b2⟩ := addL_num (redA l) (oneLimb (5#64 * redO l)) hl1 rfl 34359738368 6 hs1 (oneLimb_small _ _ (by rw [hm2]; omega)) (by omega)
  obtain ⟨n3, -⟩ := normal_num (addL (redA l) (oneLimb (5#64 * redO l)) 5) (by rw [addL_length, hl1]) (fun i => by have := b2 i; omega)
  rw [redOf_eq, n3, b1, hv1, val5_oneLimb, hm2, o3, ← hWp]
  congr 1
  clear n1 o1 n3 b1 b2 a1 a2 o2 o3 ho3 hm2 hv1 hs1 hLs hLv hWp
  have hP : P130 = 1361129467683753853853498429727072845819 := rfl
  rw [hP]
  by_cases hc : W < 1361129467683753853853498429727072845819
  · have e1 : (W + 5) / 1361129467683753853853498429727072845824 = 0 := by omega
    rw [e1, Nat.mul_zero, Nat.add_zero, Nat.mod_eq_of_lt hc, Nat.mod_eq_of_lt (by omega)]
  · have e1 : (W + 5) / 1361129467683753853853498429727072845824 = 1 := by omega
    have e2 : W % 1361129467683753853853498429727072845819 = W - 1361129467683753853853498429727072845819 := by rw [Nat.mod_eq_sub_mod (by omega), Nat.mod_eq_of_lt (by omega)]
    rw [e1, e2, Nat.mul_one]
    omega
theorem prod_five (x0 x1 x2 x3 x4 y0 y1 y2 y3 y4 : BitVec 64) : mulL [x0, x1, x2, x3, x4] [y0, y1, y2, y3, y4] 5 =
    [0#64 + x0 * y0 + 5#64 * x1 * y4 + 5#64 * x2 * y3 + 5#64 * x3 * y2 + 5#64 * x4 * y1, 0#64 + x0 * y1 + x1 * y0 + 5#64 * x2 * y4 + 5#64 * x3 * y3 + 5#64 * x4 * y2,
     0#64 + x0 * y2 + x1 * y1 + x2 * y0 + 5#64 * x3 * y4 + 5#64 * x4 * y3, 0#64 + x0 * y3 + x1 * y2 + x2 * y1 + x3 * y0 + 5#64 * x4 * y4, 0#64 + x0 * y4 + x1 * y3 + x2 * y2 + x3 * y1 + x4 * y0] := by kernel_rfl
theorem term_low (x y : BitVec 64) (hx : x.toNat < 134217728) (hy : y.toNat < 67108864) : (x * y).toNat = x.toNat * y.toNat ∧ x.toNat * y.toNat < 9007199254740992 := by
  have h : x.toNat * y.toNat < 134217728 * 67108864 := Nat.mul_lt_mul'' hx hy
  exact ⟨mul_small _ _ (by omega), by omega⟩
theorem term_high (x y : BitVec 64) (hx : x.toNat < 134217728) (hy : y.toNat < 67108864) : (5#64 * x * y).toNat = 5 * (x.toNat * y.toNat) := by
  have h : x.toNat * y.toNat < 134217728 * 67108864 := Nat.mul_lt_mul'' hx hy
  have h5 : (5#64 * x).toNat = 5 * x.toNat := by rw [mul_small _ _ (by simp; omega)]; rfl
  rw [mul_small _ _ (by rw [h5, Nat.mul_assoc]; omega), h5, Nat.mul_assoc]
theorem prod_expand (x0 x1 x2 x3 x4 y0 y1 y2 y3 y4 A B C D : Nat) :
    (x0 + A * x1 + B * x2 + C * x3 + D * x4) * (y0 + A * y1 + B * y2 + C * y3 + D * y4) =
      x0 * y0 + A * (x0 * y1) + B * (x0 * y2) + C * (x0 * y3) + D * (x0 * y4) +
      (A * (x1 * y0) + A * A * (x1 * y1) + A * B * (x1 * y2) + A * C * (x1 * y3) + A * D * (x1 * y4)) +
      (B * (x2 * y0) + B * A * (x2 * y1) + B * B * (x2 * y2) + B * C * (x2 * y3) + B * D * (x2 * y4)) +
      (C * (x3 * y0) + C * A * (x3 * y1) + C * B * (x3 * y2) + C * C * (x3 * y3) + C * D * (x3 * y4)) +
      (D * (x4 * y0) + D * A * (x4 * y1) + D * B * (x4 * y2) + D * C * (x4 * y3) + D * D * (x4 * y4)) := by
  grind
set_option maxHeartbeats 4000000 in
theorem prod_num (x y : List (BitVec 64)) (hx : x.length = 5) (hy : y.length = 5) (hX : ∀ i, (x.getD i 0#64).toNat < 134217728) (hY : ∀ i, (y.getD i 0#64).toNat < 67108864) :
    (∃ q, val5 x * val5 y = val5 (mulL x y 5) + P130 * q) ∧ ∀ i, ((mulL x y 5).getD i 0#64).toNat < 288230376151711744 := by
  obtain ⟨x0, x1, x2, x3, x4, rfl⟩ := five x hx
  obtain ⟨y0, y1, y2, y3, y4, rfl⟩ := five y hy
  have hx0 := hX 0; have hx1 := hX 1; have hx2 := hX 2; have hx3 := hX 3; have hx4 := hX 4
  have hy0 := hY 0; have hy1 := hY 1; have hy2 := hY 2; have hy3 := hY 3; have hy4 := hY 4
  simp only [List.getD_cons_zero, List.getD_cons_succ] at hx0 hx1 hx2 hx3 hx4 hy0 hy1 hy2 hy3 hy4
  clear hX hY hx hy
  rw [prod_five, val5_five, val5_five, val5_five, prod_expand]
  have l00 := term_low x0 y0 hx0 hy0; have l01 := term_low x0 y1 hx0 hy1; have l02 := term_low x0 y2 hx0 hy2; have l03 := term_low x0 y3 hx0 hy3; have l04 := term_low x0 y4 hx0 hy4
  have l10 := term_low x1 y0 hx1 hy0; have l11 := term_low x1 y1 hx1 hy1; have l12 := term_low x1 y2 hx1 hy2; have l13 := term_low x1 y3 hx1 hy3; have l14 := term_low x1 y4 hx1 hy4
  have l20 := term_low x2 y0 hx2 hy0; have l21 := term_low x2 y1 hx2 hy1; have l22 := term_low x2 y2 hx2 hy2; have l23 := term_low x2 y3 hx2 hy3; have l24 := term_low x2 y4 hx2 hy4
  have l30 := term_low x3 y0 hx3 hy0; have l31 := term_low x3 y1 hx3 hy1; have l32 := term_low x3 y2 hx3 hy2; have l33 := term_low x3 y3 hx3 hy3; have l34 := term_low x3 y4 hx3 hy4
  have l40 := term_low x4 y0 hx4 hy0; have l41 := term_low x4 y1 hx4 hy1; have l42 := term_low x4 y2 hx4 hy2; have l43 := term_low x4 y3 hx4 hy3; have l44 := term_low x4 y4 hx4 hy4
  have t14 := term_high x1 y4 hx1 hy4; have t23 := term_high x2 y3 hx2 hy3; have t24 := term_high x2 y4 hx2 hy4
  have t32 := term_high x3 y2 hx3 hy2; have t33 := term_high x3 y3 hx3 hy3; have t34 := term_high x3 y4 hx3 hy4
  have t41 := term_high x4 y1 hx4 hy1; have t42 := term_high x4 y2 hx4 hy2; have t43 := term_high x4 y3 hx4 hy3; have t44 := term_high x4 y4 hx4 hy4
  clear hx0 hx1 hx2 hx3 hx4 hy0 hy1 hy2 hy3 hy4
  obtain ⟨q00, b00⟩ := l00; obtain ⟨q01, b01⟩ := l01; obtain ⟨q02, b02⟩ := l02; obtain ⟨q03, b03⟩ := l03; obtain ⟨q04, b04⟩ := l04
  obtain ⟨q10, b10⟩ := l10; obtain ⟨q11, b11⟩ := l11; obtain ⟨q12, b12⟩ := l12; obtain ⟨q13, b13⟩ := l13; obtain ⟨-, b14⟩ := l14
  obtain ⟨q20, b20⟩ := l20; obtain ⟨q21, b21⟩ := l21; obtain ⟨q22, b22⟩ := l22; obtain ⟨-, b23⟩ := l23; obtain ⟨-, b24⟩ := l24
  obtain ⟨q30, b30⟩ := l30; obtain ⟨q31, b31⟩ := l31; obtain ⟨-, b32⟩ := l32; obtain ⟨-, b33⟩ := l33; obtain ⟨-, b34⟩ := l34
  obtain ⟨q40, b40⟩ := l40; obtain ⟨-, b41⟩ := l41; obtain ⟨-, b42⟩ := l42; obtain ⟨-, b43⟩ := l43; obtain ⟨-, b44⟩ := l44
  generalize x0.toNat * y0.toNat = p00 at *; generalize x0.toNat * y1.toNat = p01 at *; generalize x0.toNat * y2.toNat = p02 at *; generalize x0.toNat * y3.toNat = p03 at *; generalize x0.toNat * y4.toNat = p04 at *
  generalize x1.toNat * y0.toNat = p10 at *; generalize x1.toNat * y1.toNat = p11 at *; generalize x1.toNat * y2.toNat = p12 at *; generalize x1.toNat * y3.toNat = p13 at *; generalize x1.toNat * y4.toNat = p14 at *
  generalize x2.toNat * y0.toNat = p20 at *; generalize x2.toNat * y1.toNat = p21 at *; generalize x2.toNat * y2.toNat = p22 at *; generalize x2.toNat * y3.toNat = p23 at *; generalize x2.toNat * y4.toNat = p24 at *
  generalize x3.toNat * y0.toNat = p30 at *; generalize x3.toNat * y1.toNat = p31 at *; generalize x3.toNat * y2.toNat = p32 at *; generalize x3.toNat * y3.toNat = p33 at *; generalize x3.toNat * y4.toNat = p34 at *
  generalize x4.toNat * y0.toNat = p40 at *; generalize x4.toNat * y1.toNat = p41 at *; generalize x4.toNat * y2.toNat = p42 at *; generalize x4.toNat * y3.toNat = p43 at *; generalize x4.toNat * y4.toNat = p44 at *
  have z : (0#64).toNat = 0 := rfl
  have n0 : (0#64 + x0 * y0 + 5#64 * x1 * y4 + 5#64 * x2 * y3 + 5#64 * x3 * y2 + 5#64 * x4 * y1).toNat = p00 + 5 * p14 + 5 * p23 + 5 * p32 + 5 * p41 := by
    simp only [BitVec.toNat_add, q00, t14, t23, t32, t41, z]; omega
  have n1 : (0#64 + x0 * y1 + x1 * y0 + 5#64 * x2 * y4 + 5#64 * x3 * y3 + 5#64 * x4 * y2).toNat = p01 + p10 + 5 * p24 + 5 * p33 + 5 * p42 := by
    simp only [BitVec.toNat_add, q01, q10, t24, t33, t42, z]; omega
  have n2 : (0#64 + x0 * y2 + x1 * y1 + x2 * y0 + 5#64 * x3 * y4 + 5#64 * x4 * y3).toNat = p02 + p11 + p20 + 5 * p34 + 5 * p43 := by
    simp only [BitVec.toNat_add, q02, q11, q20, t34, t43, z]; omega
  have n3 : (0#64 + x0 * y3 + x1 * y2 + x2 * y1 + x3 * y0 + 5#64 * x4 * y4).toNat = p03 + p12 + p21 + p30 + 5 * p44 := by
    simp only [BitVec.toNat_add, q03, q12, q21, q30, t44, z]; omega
  have n4 : (0#64 + x0 * y4 + x1 * y3 + x2 * y2 + x3 * y1 + x4 * y0).toNat = p04 + p13 + p22 + p31 + p40 := by
    simp only [BitVec.toNat_add, q04, q13, q22, q31, q40, z]; omega
  refine ⟨⟨(p14 + p23 + p32 + p41) + 67108864 * (p24 + p33 + p42) + 4503599627370496 * (p34 + p43) + 302231454903657293676544 * p44, ?_⟩, fun i => ?_⟩
  · rw [n0, n1, n2, n3, n4]
    clear n0 n1 n2 n3 n4 b00 b01 b02 b03 b04 b10 b11 b12 b13 b14 b20 b21 b22 b23 b24 b30 b31 b32 b33 b34 b40 b41 b42 b43 b44
    clear q00 q01 q02 q03 q04 q10 q11 q12 q13 q20 q21 q22 q30 q31 q40 t14 t23 t24 t32 t33 t34 t41 t42 t43 t44 z
    simp only [Nat.reduceMul]
    unfold P130
    omega
  · match i with
    | 0 => simp only [List.getD_cons_zero, n0]; omega
    | 1 => simp only [List.getD_cons_zero, List.getD_cons_succ, n1]; omega
    | 2 => simp only [List.getD_cons_zero, List.getD_cons_succ, n2]; omega
    | 3 => simp only [List.getD_cons_zero, List.getD_cons_succ, n3]; omega
    | 4 => simp only [List.getD_cons_zero, List.getD_cons_succ, n4]; omega
    | i + 5 => simp
end Go.Proofs.Ytgfmjfpafpmghaa
