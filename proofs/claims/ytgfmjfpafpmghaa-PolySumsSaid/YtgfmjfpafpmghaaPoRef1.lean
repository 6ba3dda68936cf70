/-
  The reference's Digits and carried.
-/
import Derived.Test.YtgfmjfpafpmghaaInts
namespace Go.Proofs.Ytgfmjfpafpmghaa
open Go.RowKit Go.Proofs.ShaWords
/-- Digits that a slice of the call's own holds: each below 4, of this value, so many at most. -/
structure DigW (B : Nat) (N M : Nat) (L : List Nat) (v : Value) (w : World) : Prop where
  own : OwnI B w L v
  dig : ∀ i, L.getD i 0 < 4
  val : d4 L = N
  len : L.length ≤ M
theorem getD_le {l : List Nat} {E : Nat} (h : ∀ x ∈ l, x ≤ E) (i : Nat) : l.getD i 0 ≤ E := by
  by_cases hi : i < l.length
  · simp only [List.getD, List.getElem?_eq_getElem hi, Option.getD_some]; exact h _ (List.getElem_mem hi)
  · simp [List.getD, List.getElem?_eq_none (by omega : l.length ≤ i)]
/-- What carried has, at the place k with c carried into it. -/
structure CarR (B m E : Nat) (l : List Nat) (k c : Nat) (L : List Nat) (v : Value) (w : World) : Prop where
  own : OwnI B w L v
  len : L.length = k
  dig : ∀ i, L.getD i 0 < 4
  val : d4 L + 4 ^ k * c = d4 (l.take k)
  car : c ≤ E
  far : k ≤ m ∨ (k ≤ m + 26 ∧ c * 4 ^ (k - m) < 4 ^ 26)
theorem CarR.next {B m E : Nat} {l : List Nat} {k c : Nat} {L : List Nat} {v v' : Value} {w w' : World} (h : CarR B m E l k c L v w) (hm : l.length = m) (hE : ∀ i, l.getD i 0 ≤ E) (hE2 : E < 4 ^ 26) (hgo : k < m ∨ 0 < c)
    (ho : OwnI B w' (L ++ [(l.getD k 0 + c) % 4]) v') : CarR B m E l (k + 1) ((l.getD k 0 + c) / 4) (L ++ [(l.getD k 0 + c) % 4]) v' w' := by
  have hk := hE k
  have hc := h.car
  refine ⟨ho, by rw [List.length_append, h.len]; rfl, fun i => ?_, ?_, by omega, ?_⟩
  · rw [getD_snoc]
    split
    · omega
    · exact h.dig i
  · rw [d4_append, h.len, d4_take_succ, ← h.val]
    show d4 L + 4 ^ k * (_ + 4 * 0) + _ = _
    have e := Nat.div_add_mod (l.getD k 0 + c) 4
    have m1 : 4 ^ k * (4 * ((l.getD k 0 + c) / 4) + (l.getD k 0 + c) % 4) = 4 ^ k * (l.getD k 0 + c) := by rw [e]
    rw [Nat.mul_add, Nat.mul_add] at m1
    rw [Nat.pow_succ, Nat.mul_assoc, Nat.mul_zero, Nat.add_zero]
    omega
  · rcases h.far with hf | ⟨h1, h2⟩
    · by_cases hkm : k < m
      · exact Or.inl (by omega)
      · have hz : l.getD k 0 = 0 := by simp [List.getD, List.getElem?_eq_none (by omega : l.length ≤ k)]
        rw [hz]
        refine Or.inr ⟨by omega, ?_⟩
        rw [show k + 1 - m = 1 by omega]
        omega
    · by_cases hkm : k < m
      · exact Or.inl (by omega)
      · have hz : l.getD k 0 = 0 := by simp [List.getD, List.getElem?_eq_none (by omega : l.length ≤ k)]
        have hc0 : 0 < c := by omega
        have hlt : k - m < 26 := by
          apply Nat.lt_of_not_le
          intro hge
          have h3 : 4 ^ 26 ≤ 4 ^ (k - m) := Nat.pow_le_pow_right (by omega) hge
          have h4 : 1 * 4 ^ (k - m) ≤ c * 4 ^ (k - m) := Nat.mul_le_mul_right _ hc0
          omega
        rw [hz, Nat.zero_add]
        refine Or.inr ⟨by omega, Nat.lt_of_le_of_lt ?_ h2⟩
        rw [show k + 1 - m = (k - m) + 1 by omega, Nat.pow_succ, Nat.mul_comm (4 ^ (k - m)) 4, ← Nat.mul_assoc]
        exact Nat.mul_le_mul_right _ (Nat.div_mul_le_self c 4)
set_option maxRecDepth 100000 in
set_option maxHeartbeats 4000000 in
theorem carried_any (l : List Nat) (m E : Nat) (p : Option Addr) (cap : Nat) (w : World) (hm : l.length = m) (hl : m ≤ 1000) (hE : ∀ i, l.getD i 0 ≤ E) (hE2 : E < 4 ^ 26) (hL : LiesI w p l) :
    Calls Try.prog 35 #[.slice p m cap] w fun e w' => ∃ L v, e = .returned v ∧ DigW w.heap.size (d4 l) (m + 26) L v w' ∧ Below w.heap.size w w' := by
  have HM := Lib.hid hm; clear hm
  have HL := Lib.hid hL; clear hL
  have HE := Lib.hid hE; clear hE
  have HE2 := Lib.hid hE2; clear hE2
  go_enter Try.func35, Try.ntmps35
  go_wp2_with fail
  go_loopw [3, 4, 5, 6] (fun v c i _ wr => ∃ (k cc : Nat) (L : List Nat), i = .int .i64 (k : Int) ∧ c = .int .i64 (cc : Int) ∧ CarR w.heap.size m E l k cc L v wr ∧ Below w.heap.size w wr) (fun _ c i _ _ => (m - (intOf i).toNat) * (E + 1) + (intOf c).toNat)
  case atStart => exact ⟨0, 0, [], rfl, rfl, ⟨OwnI.nil _ _, rfl, fun i => by simp, by simp [d4], by omega, Or.inl (Nat.zero_le _)⟩, Below.refl _ _⟩
  case round =>
    obtain ⟨k, c, L, rfl, rfl, hr, hb⟩ := hrel
    have hcE : c ≤ 4503599627370496 := by have := hr.car; have := HE2.out; omega
    have hkm : k ≤ m + 26 := by rcases hr.far with h | ⟨h, _⟩ <;> omega
    by_cases hgo : k < m ∨ 0 < c
    · have hdl := HE.out k
      have HD := Lib.hid (digit_any l m k p cap wr HM.out (by omega) (by omega) (HL.out.below hb))
      have HR := Lib.hid hr
      have HB := Lib.hid hb
      have HLN := Lib.hid hr.len
      have HO := Lib.hid hr.own
      have hEE : E ≤ 4503599627370496 := by have := HE2.out; omega
      have HX := Lib.hid (fun (v' : Value) (w' : World) => hr.next (v' := v') (w' := w') HM.out HE.out HE2.out hgo)
      have hcar := hr.car
      have hx0 : ¬ k < m → l.getD k 0 = 0 := fun h => by simp [List.getD, List.getElem?_eq_none (by have := HM.out; omega : l.length ≤ k)]
      clear hr hb
      generalize l.getD k 0 = x at HD HX hdl hx0
      obtain ⟨s, hs⟩ : ∃ s, s = x + c := ⟨_, rfl⟩
      have m0 : IntKind.i64.wrap ((x : Int) + (c : Int)) = (s : Int) := by rw [IntWalk.i64_in _ (by omega)]; omega
      rw [← hs] at HX
      have r0 : (s : Int).tmod 4 = ((s % 4 : Nat) : Int) := by rw [Int.tmod_eq_emod_of_nonneg (by omega)]; omega
      have d0 : (s : Int).tdiv 4 = ((s / 4 : Nat) : Int) := by rw [Int.tdiv_eq_ediv_of_nonneg (by omega)]; omega
      have d1 : IntKind.i64.wrap ((s / 4 : Nat) : Int) = ((s / 4 : Nat) : Int) := IntWalk.i64_in _ (by omega)
      have d2 : IntKind.i64.wrap ((s % 4 : Nat) : Int) = ((s % 4 : Nat) : Int) := IntWalk.i64_in _ (by omega)
      have hmeas : (k < m → s / 4 ≤ E) ∧ (¬ k < m → s / 4 < c) := ⟨fun _ => by omega, fun h => by
        have := hx0 h
        omega⟩
      have r1 : ((x : Int) + (c : Int)) % 4 = ((s % 4 : Nat) : Int) := by omega
      have d3 : ((x : Int) + (c : Int)) / 4 = ((s / 4 : Nat) : Int) := by omega
      clear m0 r0 d0
      generalize s / 4 = sd at d1 d3 HX hmeas
      generalize s % 4 = sm at d2 r1 HX
      clear hx0
      by_cases hkl : k < m
      · have q0 : (k : Int) < (m : Int) := by omega
        go_wp2_with fail
        refine HD.out.mono ?_
        rintro e w' ⟨rfl, rfl⟩
        go_wp2_with (at_builtin; refine wpList_append_num rfl (.tmp 22) (.tmp 25) rfl w.heap.size _ L sm rfl HO.out rfl (by rw [HLN.out]; omega) HB.out.size ?_; intro v' w' ho' hb'; have HX2 := Lib.hid (HX.out v' w' ho'); have HB2 := Lib.hid (HB.out.trans hb'); clear ho' hb')
        go_roundw
        case rel => exact ⟨k + 1, sd, L ++ [sm], by go_num, by rw [d3], HX2.out, HB2.out⟩
        case measure =>
          have h1 := hmeas.1 hkl
          obtain ⟨t, ht⟩ : ∃ t, m - k = t + 1 := ⟨m - k - 1, by omega⟩
          have h2 : (t + 1) * (E + 1) = t * (E + 1) + (E + 1) := Nat.succ_mul _ _
          have h3 : m - (k + 1) = t := by omega
          simp [intOf, d3, ht, h3, h2]
          omega
      · have q0 : ¬ (k : Int) < (m : Int) := by omega
        have q1 : 0 < (c : Int) := by omega
        have q2 : 0 < c := by omega
        go_wp2_with fail
        refine HD.out.mono ?_
        rintro e w' ⟨rfl, rfl⟩
        go_wp2_with (at_builtin; refine wpList_append_num rfl (.tmp 22) (.tmp 25) rfl w.heap.size _ L sm rfl HO.out rfl (by rw [HLN.out]; omega) HB.out.size ?_; intro v' w' ho' hb'; have HX2 := Lib.hid (HX.out v' w' ho'); have HB2 := Lib.hid (HB.out.trans hb'); clear ho' hb')
        go_roundw
        case rel => exact ⟨k + 1, sd, L ++ [sm], by go_num, by rw [d3], HX2.out, HB2.out⟩
        case measure =>
          have h1 := hmeas.2 hkl
          have h3 : m - (k + 1) = 0 := by omega
          have h4 : m - k = 0 := by omega
          simp [intOf, d3, h3, h4]
          omega
    · have hk : ¬ (k : Int) < (m : Int) := by omega
      have hc0 : c = 0 := by omega
      subst hc0
      have HV : Hid (d4 L = d4 l) := show _ = _ by
        have h1 := hr.val
        rw [Nat.mul_zero, Nat.add_zero, List.take_of_length_le (by rw [HM.out]; omega)] at h1
        exact h1
      have HDW : Hid (DigW w.heap.size (d4 l) (m + 26) L u3 wr) := ⟨hr.own, hr.dig, HV.out, by rw [hr.len]; exact hkm⟩
      have HB := Lib.hid hb
      clear hr hb HV
      go_wp2_with fail
      go_ret
      exact ⟨L, u3, rfl, HDW.out, HB.out⟩
end Go.Proofs.Ytgfmjfpafpmghaa
