/-
  The reference's Digits and Clamp.
-/
import Derived.Test.YtgfmjfpafpmghaaPoRef3
import Derived.Test.YtgfmjfpafpmghaaPoClear
namespace Go.Proofs.Ytgfmjfpafpmghaa
open Go.RowKit Go.Proofs.ShaWords
/-- The four digits of a byte, the first k of them; what is left. -/
theorem leN_take_one (bs : List (BitVec 8)) (k : Nat) (h : k < bs.length) : leN (bs.take (k + 1)) = leN (bs.take k) + 256 ^ k * byteN bs k := leN_take_succ bs k h
/-- What Digits has behind k bytes and j digits of the next, of which v is left. -/
structure DgtR (B : Nat) (bs : List (BitVec 8)) (k j v : Nat) (L : List Nat) (sv : Value) (w : World) : Prop where
  own : OwnI B w L sv
  len : L.length = 4 * k + j
  dig : ∀ i, L.getD i 0 < 4
  val : d4 L + 4 ^ (4 * k + j) * v = leN (bs.take k) + 256 ^ k * byteN bs k
  left : v * 4 ^ j < 256
theorem pow4 (k : Nat) : 4 ^ (4 * k) = 256 ^ k := by rw [Nat.pow_mul]
theorem DgtR.next {B : Nat} {bs : List (BitVec 8)} {k j v : Nat} {L : List Nat} {sv sv' : Value} {w w' : World} (h : DgtR B bs k j v L sv w) (ho : OwnI B w' (L ++ [v % 4]) sv') : DgtR B bs k (j + 1) (v / 4) (L ++ [v % 4]) sv' w' := by
  refine ⟨ho, by rw [List.length_append, h.len]; simp; omega, fun i => ?_, ?_, ?_⟩
  · rw [getD_snoc]
    split
    · omega
    · exact h.dig i
  · rw [← h.val, d4_append, h.len]
    show d4 L + 4 ^ (4 * k + j) * (v % 4 + 4 * 0) + 4 ^ (4 * k + j + 1) * (v / 4) = _
    have e : 4 ^ (4 * k + j) * (4 * (v / 4) + v % 4) = 4 ^ (4 * k + j) * v := by rw [Nat.div_add_mod]
    rw [Nat.mul_add] at e
    rw [Nat.mul_zero, Nat.add_zero, Nat.pow_succ, Nat.mul_assoc]
    omega
  · refine Nat.lt_of_le_of_lt ?_ h.left
    rw [Nat.pow_succ, Nat.mul_comm (4 ^ j) 4, ← Nat.mul_assoc]
    exact Nat.mul_le_mul_right _ (Nat.div_mul_le_self v 4)
theorem DgtR.first {B : Nat} {bs : List (BitVec 8)} {k : Nat} {L : List Nat} {sv : Value} {w : World} (ho : OwnI B w L sv) (hl : L.length = 4 * k) (hd : ∀ i, L.getD i 0 < 4) (hv : d4 L = leN (bs.take k)) : DgtR B bs k 0 (byteN bs k) L sv w :=
  ⟨ho, by omega, hd, by rw [hv, Nat.add_zero, pow4], by have := byteN_lt bs k; omega⟩
theorem DgtR.last {B : Nat} {bs : List (BitVec 8)} {k v : Nat} {L : List Nat} {sv : Value} {w : World} (h : DgtR B bs k 4 v L sv w) (hk : k < bs.length) : OwnI B w L sv ∧ L.length = 4 * (k + 1) ∧ (∀ i, L.getD i 0 < 4) ∧ d4 L = leN (bs.take (k + 1)) := by
  have h1 := h.left
  have hv : v = 0 := by omega
  have h2 := h.val
  rw [hv, Nat.mul_zero, Nat.add_zero] at h2
  exact ⟨h.own, by rw [h.len]; omega, h.dig, by rw [h2, leN_take_one bs k hk]⟩
set_option maxRecDepth 100000 in
set_option maxHeartbeats 4000000 in
theorem digits_any (bs : List (BitVec 8)) (m : Nat) (p : Option Addr) (cap : Nat) (w : World) (hm : bs.length = m) (hl : m ≤ 1000) (hL : Lies w p bs) :
    Calls Try.prog 25 #[.slice p m cap] w fun e w' => ∃ L v, e = .returned v ∧ DigW w.heap.size (leN bs) (4 * m) L v w' ∧ Below w.heap.size w w' := by
  have HM := Lib.hid hm; clear hm
  have HL := Lib.hid hL; clear hL
  go_enter Try.func25, Try.ntmps25
  go_wp2_with fail
  go_loopw [3, 4, 5, 6] (fun sv i _ _ wr => ∃ (k : Nat) (L : List Nat), k ≤ m ∧ i = .int .i64 (k : Int) ∧ (OwnI w.heap.size wr L sv ∧ L.length = 4 * k ∧ (∀ i, L.getD i 0 < 4) ∧ d4 L = leN (bs.take k)) ∧ Below w.heap.size w wr) (fun _ i _ _ _ => m - (intOf i).toNat)
  case atStart => exact ⟨0, [], Nat.zero_le _, rfl, ⟨OwnI.nil _ _, rfl, fun i => by simp, by simp [d4, leN]⟩, Below.refl _ _⟩
  case round =>
    obtain ⟨k, L0, hk, rfl, ⟨ho, hl0, hd0, hv0⟩, hb⟩ := hrel
    by_cases hlt : k < m
    · obtain ⟨b, off, hp, hr⟩ : ∃ b off, p = some ⟨b, off, none⟩ ∧ w.rangeAt b off (bytesV bs) := by
        rcases HL.out with h | h
        · have := HM.out; rw [h] at this; simp at this; omega
        · exact h
      subst hp
      have c0 : wr.cell? ⟨b, off + k, none⟩ = some (.int .u8 (byteN bs k : Int)) := range_cell (range_keep hr hb) k (by rw [HM.out]; exact hlt)
      have hby := byteN_lt bs k
      have HF := Lib.hid (DgtR.first (bs := bs) ho hl0 hd0 hv0)
      have HB := Lib.hid hb
      clear ho hl0 hd0 hv0 hb hr
      have q0 : (k : Int) < (m : Int) := by omega
      have q1 : 0 ≤ (k : Int) := by omega
      have q2 : (k : Int).toNat = k := by omega
      generalize byteN bs k = x at c0 hby HF
      have xw : IntKind.i64.wrap (x : Int) = (x : Int) := IntWalk.i64_in _ (by omega)
      go_wp2_with fail
      clear xw
      go_loopw [3, 5, 6] (fun sv vv jv wi => ∃ (j v : Nat) (L : List Nat), j ≤ 4 ∧ jv = .int .i64 (j : Int) ∧ vv = .int .i64 (v : Int) ∧ DgtR w.heap.size bs k j v L sv wi ∧ Below w.heap.size w wi) (fun _ _ jv _ => 4 - (intOf jv).toNat)
      case atStart => exact ⟨0, x, L0, by omega, rfl, rfl, HF.out, HB.out⟩
      case round =>
        clear HF HB c0
        obtain ⟨j, v, L, hj, rfl, rfl, hr, hb⟩ := hrel
        have hvl := hr.left
        have hv256 : v < 256 := by
          have h1 : 1 ≤ 4 ^ j := Nat.one_le_pow _ _ (by omega)
          have h2 : v * 1 ≤ v * 4 ^ j := Nat.mul_le_mul_left _ h1
          omega
        clear hvl
        by_cases hj4 : j < 4
        · have HX := Lib.hid (fun (sv' : Value) (w' : World) => hr.next (sv' := sv') (w' := w'))
          have HO := Lib.hid hr.own
          have HLN := Lib.hid hr.len
          have HB := Lib.hid hb
          clear hr hb
          have r1 : (v : Int) % 4 = ((v % 4 : Nat) : Int) := by omega
          have d1 : (v : Int) / 4 = ((v / 4 : Nat) : Int) := by omega
          have r2 : (v : Int).tmod 4 = ((v % 4 : Nat) : Int) := by rw [Int.tmod_eq_emod_of_nonneg (by omega)]; omega
          have d2 : (v : Int).tdiv 4 = ((v / 4 : Nat) : Int) := by rw [Int.tdiv_eq_ediv_of_nonneg (by omega)]; omega
          have w1 : IntKind.i64.wrap ((v % 4 : Nat) : Int) = ((v % 4 : Nat) : Int) := IntWalk.i64_in _ (by omega)
          have w2 : IntKind.i64.wrap ((v / 4 : Nat) : Int) = ((v / 4 : Nat) : Int) := IntWalk.i64_in _ (by omega)
          generalize v % 4 = vm at r1 r2 w1 HX
          generalize v / 4 = vd at d1 d2 w2 HX
          have j0 : (j : Int) < 4 := by omega
          go_wp2_with (at_builtin; refine wpList_append_num rfl (.tmp 22) (.tmp 25) rfl w.heap.size _ L vm rfl HO.out rfl (by rw [HLN.out]; omega) HB.out.size ?_; intro v' w' ho' hb'; have HX2 := Lib.hid (HX.out v' w' ho'); have HB2 := Lib.hid (HB.out.trans hb'); clear ho' hb')
          go_roundw
          case rel => exact ⟨j + 1, vd, L ++ [vm], by omega, by go_num, by first | rfl | rw [d1], HX2.out, HB2.out⟩
          case measure => simp [intOf]; omega
        · obtain rfl : j = 4 := by omega
          have HX := Lib.hid (hr.last (by rw [HM.out]; exact hlt))
          have HB := Lib.hid hb
          clear hr hb
          go_wp2_with fail
          go_roundw
          case rel => exact ⟨k + 1, L, by omega, by go_num, HX.out, HB.out⟩
          case measure => simp [intOf]; omega
    · obtain rfl : k = m := by omega
      have HDW : Hid (DigW w.heap.size (leN bs) (4 * k) L0 u3 wr) := ⟨ho, hd0, by rw [hv0, List.take_of_length_le (by rw [HM.out]; omega)], by omega⟩
      have HB := Lib.hid hb
      clear ho hl0 hd0 hv0 hb
      go_wp2_with fail
      go_ret
      exact ⟨L0, u3, rfl, HDW.out, HB.out⟩
end Go.Proofs.Ytgfmjfpafpmghaa
