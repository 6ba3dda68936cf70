/-
  A key's bytes whose bits are let go: what is left of them hangs on no such bit.
-/
import Derived.Test.YtgfmjfpafpmghaaPoMath4
import Derived.Test.YtgfmjfpafpmghaaPoAdd
namespace Go.Proofs.Ytgfmjfpafpmghaa
open Go.Proofs.ShaWords

theorem getD_set (l : List (BitVec 8)) (j i : Nat) (x : BitVec 8) (hj : j < l.length) : (l.set j x).getD i 0#8 = if i = j then x else l.getD i 0#8 := by
  by_cases h : i = j
  · subst h; rw [if_pos rfl]; simp [List.getD, hj]
  · rw [if_neg h]; simp [List.getD, List.getElem?_set_ne (fun e => h e.symm)]
theorem ext_getD (a b : List (BitVec 8)) (h : a.length = b.length) (hg : ∀ i, i < a.length → a.getD i 0#8 = b.getD i 0#8) : a = b := by
  apply List.ext_getElem h
  intro i h1 h2
  have := hg i h1
  simp only [List.getD, List.getElem?_eq_getElem h1, List.getElem?_eq_getElem h2, Option.getD_some] at this
  exact this
def clr (i : Nat) (x : BitVec 8) : BitVec 8 := if i % 4 = 3 then x &&& 15#8 else if i % 4 = 0 ∧ 0 < i then x &&& 252#8 else x
theorem clrA_get (key : List (BitVec 8)) (hk : 16 ≤ key.length) (k : Nat) (h4 : k ≤ 4) (i : Nat) : (clrA key k).getD i 0#8 = if i % 4 = 3 ∧ i < 4 * k then key.getD i 0#8 &&& 15#8 else key.getD i 0#8 := by
  induction k with
  | zero => rw [clrA_zero, if_neg (by omega)]
  | succ k ih =>
    rw [clrA_succ, getD_set _ _ _ _ (by rw [clrA_length]; omega)]
    have ih := ih (by omega)
    by_cases h : i = 4 * k + 3
    · subst h
      rw [if_pos rfl, if_pos (by omega), ih, if_neg (by omega)]
    · rw [if_neg h, ih]
      by_cases h2 : i % 4 = 3 ∧ i < 4 * k
      · rw [if_pos h2, if_pos (by omega)]
      · rw [if_neg h2, if_neg (by omega)]
theorem clrB_get (key : List (BitVec 8)) (hk : 16 ≤ key.length) (k : Nat) (h4 : k ≤ 3) (i : Nat) : (clrB key k).getD i 0#8 = if i % 4 = 0 ∧ 0 < i ∧ i < 4 * k + 4 then (clrA key 4).getD i 0#8 &&& 252#8 else (clrA key 4).getD i 0#8 := by
  induction k with
  | zero => rw [clrB_zero, if_neg (by omega)]
  | succ k ih =>
    rw [clrB_succ, getD_set _ _ _ _ (by rw [clrB_length]; omega)]
    have ih := ih (by omega)
    by_cases h : i = 4 * k + 4
    · subst h
      rw [if_pos rfl, if_pos (by omega), ih, if_neg (by omega)]
    · rw [if_neg h, ih]
      by_cases h2 : i % 4 = 0 ∧ 0 < i ∧ i < 4 * k + 4
      · rw [if_pos h2, if_pos (by omega)]
      · rw [if_neg h2, if_neg (by omega)]
theorem getD_take (l : List (BitVec 8)) (n i : Nat) (h : i < n) : (l.take n).getD i 0#8 = l.getD i 0#8 := by
  simp [List.getD, h]
theorem getD_drop (l : List (BitVec 8)) (n i : Nat) : (l.drop n).getD i 0#8 = l.getD (n + i) 0#8 := by
  simp [List.getD, List.getElem?_drop]
theorem clrOf_get (key : List (BitVec 8)) (hk : key.length = 32) (i : Nat) (hi : i < 16) : (clrOf key).getD i 0#8 = clr i (key.getD i 0#8) := by
  unfold clrOf clr
  rw [getD_take _ _ _ hi, clrB_get key (by omega) 3 (by omega) i, clrA_get key (by omega) 4 (by omega) i]
  by_cases h3 : i % 4 = 3
  · rw [if_neg (by omega), if_pos (by omega), if_pos h3]
  · by_cases h0 : i % 4 = 0 ∧ 0 < i
    · rw [if_pos (by omega), if_neg (by omega), if_neg h3, if_pos h0]
    · rw [if_neg (by omega), if_neg (by omega), if_neg h3, if_neg h0]
/-- With the same bits where it matters, the same r. -/
theorem clrOf_same (a b : List (BitVec 8)) (ha : a.length = 32) (hb : b.length = 32) (h : ∀ i, i < 16 → clr i (a.getD i 0#8) = clr i (b.getD i 0#8)) : clrOf a = clrOf b := by
  apply ext_getD _ _ (by rw [clrOf_length _ ha, clrOf_length _ hb])
  intro i hi
  rw [clrOf_length _ ha] at hi
  rw [clrOf_get a ha i hi, clrOf_get b hb i hi, h i hi]
/-- Bits that are let go, turned. -/
def tw (i : Nat) (x t : BitVec 8) : BitVec 8 := if i % 4 = 3 then x ^^^ t >>> 4 <<< 4 else if i % 4 = 0 ∧ 0 < i then x ^^^ (t &&& 3#8) else x
theorem high_gone (t : BitVec 8) : t >>> 4 <<< 4 &&& 15#8 = 0#8 := by
  have H : ∀ v : Fin 256, (BitVec.ofFin v : BitVec 8) >>> 4 <<< 4 &&& 15#8 = 0#8 := by decide +kernel
  exact H t.toFin
theorem low_gone (t : BitVec 8) : t &&& 3#8 &&& 252#8 = 0#8 := by
  have H : ∀ v : Fin 256, (BitVec.ofFin v : BitVec 8) &&& 3#8 &&& 252#8 = 0#8 := by decide +kernel
  exact H t.toFin
theorem xor_and (x h m : BitVec 8) (e : h &&& m = 0#8) : (x ^^^ h) &&& m = x &&& m := by
  have d : (x ^^^ h) &&& m = (x &&& m) ^^^ (h &&& m) := by
    apply BitVec.eq_of_getLsbD_eq
    intro i hi
    simp only [BitVec.getLsbD_and, BitVec.getLsbD_xor]
    cases x.getLsbD i <;> cases h.getLsbD i <;> cases m.getLsbD i <;> rfl
  rw [d, e, BitVec.xor_zero]
theorem clr_tw (i : Nat) (x t : BitVec 8) : clr i (tw i x t) = clr i x := by
  unfold clr tw
  by_cases h3 : i % 4 = 3
  · rw [if_pos h3, if_pos h3, if_pos h3]; exact xor_and _ _ _ (high_gone t)
  · by_cases h0 : i % 4 = 0 ∧ 0 < i
    · rw [if_neg h3, if_neg h3, if_neg h3, if_pos h0, if_pos h0, if_pos h0]; exact xor_and _ _ _ (low_gone t)
    · rw [if_neg h3, if_neg h3, if_neg h3, if_neg h0, if_neg h0, if_neg h0]
/-- The first k bytes turned so. -/
def twK (key turn : List (BitVec 8)) : Nat → List (BitVec 8)
  | 0 => key
  | k + 1 => (twK key turn k).set k (tw k ((twK key turn k).getD k 0#8) (turn.getD k 0#8))
theorem twK_zero (key turn : List (BitVec 8)) : twK key turn 0 = key := rfl
theorem twK_succ (key turn : List (BitVec 8)) (k : Nat) : twK key turn (k + 1) = (twK key turn k).set k (tw k ((twK key turn k).getD k 0#8) (turn.getD k 0#8)) := rfl
theorem twK_length (key turn : List (BitVec 8)) (k : Nat) : (twK key turn k).length = key.length := by
  induction k with
  | zero => rfl
  | succ k ih => rw [twK_succ, List.length_set, ih]
theorem twK_get (key turn : List (BitVec 8)) (k : Nat) (hk : k ≤ key.length) (i : Nat) : (twK key turn k).getD i 0#8 = if i < k then tw i (key.getD i 0#8) (turn.getD i 0#8) else key.getD i 0#8 := by
  induction k with
  | zero => rw [twK_zero, if_neg (by omega)]
  | succ k ih =>
    have ih := ih (by omega)
    rw [twK_succ, getD_set _ _ _ _ (by rw [twK_length]; omega)]
    by_cases h : i = k
    · subst h
      rw [if_pos rfl, if_pos (by omega), ih, if_neg (by omega)]
    · rw [if_neg h, ih]
      by_cases h2 : i < k
      · rw [if_pos h2, if_pos (by omega)]
      · rw [if_neg h2, if_neg (by omega)]
theorem twK_tag (key turn bs : List (BitVec 8)) (hk : key.length = 32) : polyTag (twK key turn 16) bs = polyTag key bs := by
  have hl : (twK key turn 16).length = 32 := by rw [twK_length, hk]
  have h1 : clrOf (twK key turn 16) = clrOf key := clrOf_same _ _ hl hk (fun i hi => by rw [twK_get key turn 16 (by omega) i, if_pos hi, clr_tw])
  have h2 : (twK key turn 16).drop 16 = key.drop 16 := by
    apply ext_getD _ _ (by rw [List.length_drop, List.length_drop, hl, hk])
    intro i _
    rw [getD_drop, getD_drop, twK_get key turn 16 (by omega), if_neg (by omega)]
  unfold polyTag
  rw [h1, h2]
end Go.Proofs.Ytgfmjfpafpmghaa
