/-
  The reference's Clamp.
-/
import Derived.Test.YtgfmjfpafpmghaaPoClear
import Derived.Test.YtgfmjfpafpmghaaOwnBytes
namespace Go.Proofs.Ytgfmjfpafpmghaa
open Go.RowKit Go.Proofs.ShaWords
theorem rem16 (t : BitVec 8) : (n8 t).tmod 16 = n8 (t &&& 15#8) := by
  unfold n8; rw [BitVec.toNat_and, show (15#8).toNat = 2 ^ 4 - 1 from rfl, Nat.and_two_pow_sub_one_eq_mod, Int.tmod_eq_emod_of_nonneg (by omega)]; omega
theorem quo4 (t : BitVec 8) : (n8 t).tdiv 4 = n8 (t >>> 2) := by
  unfold n8; rw [BitVec.toNat_ushiftRight, Nat.shiftRight_eq_div_pow, Int.tdiv_eq_ediv_of_nonneg (by omega)]; omega
theorem mul4 (t : BitVec 8) : IntKind.u8.wrap (n8 t * 4) = n8 (t <<< 2) := by
  unfold n8; rw [IntKind.wrap_u8', BitVec.toNat_shiftLeft, Nat.shiftLeft_eq]; omega
theorem wrap_byte (t : BitVec 8) : IntKind.u8.wrap (n8 t) = n8 t := by
  unfold n8; rw [IntKind.wrap_u8']; have := t.isLt; omega
theorem shift2 (t : BitVec 8) : t >>> 2 <<< 2 = t &&& 252#8 := by
  have H : ∀ v : Fin 256, (BitVec.ofFin v : BitVec 8) >>> 2 <<< 2 = BitVec.ofFin v &&& 252#8 := by decide +kernel
  exact H t.toFin
attribute [local go_sem] rem16 quo4 mul4 wrap_byte
theorem Own.base'' {B B' : Nat} {w : World} {l : List (BitVec 8)} {v : Value} (h : Own B w l v) (hb : B' ≤ B) : Own B' w l v := by
  rcases h.2 with h0 | ⟨g, cap, cur, he, hg, hr⟩
  · exact ⟨h.1, .inl h0⟩
  · exact ⟨h.1, .inr ⟨g, cap, cur, he, Nat.le_trans hb hg, hr⟩⟩
/-- The first k bytes of r. -/
def clampK (key : List (BitVec 8)) (k : Nat) : List (BitVec 8) := (List.range k).map fun i => clr i (key.getD i 0#8)
theorem clampK_succ (key : List (BitVec 8)) (k : Nat) : clampK key k ++ [clr k (key.getD k 0#8)] = clampK key (k + 1) := by simp [clampK, List.range_succ]
theorem clampK_length (key : List (BitVec 8)) (k : Nat) : (clampK key k).length = k := by simp [clampK]
theorem clampK_all (key : List (BitVec 8)) (hk : key.length = 32) : clampK key 16 = clrOf key := by
  apply ext_getD _ _ (by rw [clampK_length, clrOf_length key hk])
  intro i hi
  rw [clampK_length] at hi
  rw [clrOf_get key hk i hi]
  simp [clampK, List.getD, hi]
attribute [local irreducible] clampK
set_option maxRecDepth 100000 in
set_option maxHeartbeats 4000000 in
theorem clamp_any (key : List (BitVec 8)) (w : World) (hk : key.length = 32) :
    Calls Try.prog 26 #[.agg (bytesV key).toArray] w fun e w' => ∃ v, e = .returned v ∧ Own w.heap.size w' (clrOf key) v ∧ Below w.heap.size w w' := by
  have HKL := Lib.hid hk
  have HE := Lib.hid (clampK_all key hk); clear hk
  have HC0 : Hid (clampK key 0 = []) := show _ = _ by unfold clampK; rfl
  have HCL := Lib.hid (clampK_length key)
  go_enter Try.func26, Try.ntmps26
  go_wp2_with fail
  refine wp_gen (fun w1 => BytesAt w1 w.heap.size 23 key ∧ Below w.heap.size w w1) ⟨heap_alloc_new w _, (Below.refl _ _).alloc (Nat.le_refl _) _⟩ ?_
  rintro w1 ⟨hk1, hb1⟩
  have HK1 := Lib.hid hk1
  have HB1 := Lib.hid hb1
  clear hk1 hb1
  go_loopw [3, 4, 5] (fun v i _ wr => ∃ k : Nat, k ≤ 16 ∧ i = .int .i64 (k : Int) ∧ BytesAt wr w.heap.size 23 key ∧ Own (w.heap.size + 1) wr (clampK key k) v ∧ Below w.heap.size w wr) (fun _ i _ _ => 16 - (intOf i).toNat)
  case atStart => exact ⟨0, by omega, rfl, HK1.out, by rw [HC0.out]; exact Own.nil _ _, HB1.out⟩
  case round =>
    clear HK1 HB1
    obtain ⟨k, hk, rfl, hkb, ho, hb⟩ := hrel
    have HK := Lib.hid hkb
    have HO := Lib.hid ho
    have HB := Lib.hid hb
    by_cases hlt : k < 16
    · have c0 := hkb.cell k (by rw [HKL.out]; omega)
      have hsz : w.heap.size + 1 ≤ wr.heap.size := hkb.size
      have HS := Lib.hid (clampK_succ key k)
      clear hkb ho hb
      generalize key.getD k 0#8 = x at c0 HS
      have q0 : (k : Int) < 16 := by omega
      have q1 : (k : Int) < 32 := by omega
      have kp : 0 ≤ (k : Int) := by omega
      have z0 : (k : Int).toNat = k := by omega
      by_cases h3 : k % 4 = 3
      · have HT3 : Hid (clr k x = x &&& 15#8) := show _ = _ from if_pos h3
        have e3 : (k : Int).tmod 4 = 3 := by rw [Int.tmod_eq_emod_of_nonneg (by omega)]; omega
        rw [HT3.out] at HS
        clear h3 HT3
        go_wp2_with (at_builtin; refine wpList_append_byte rfl (.tmp 28) (.tmp 30) rfl (w.heap.size + 1) _ (clampK key k) (x &&& 15#8) rfl HO.out rfl (by rw [HCL.out]; omega) hsz ?_; intro v' w' ho' hb'; rw [HS.out] at ho'; have HO2 := Lib.hid ho'; have HB2 := Lib.hid (HB.out.trans (hb'.mono (Nat.le_succ _))); have HK2 : Hid (BytesAt w' w.heap.size 23 key) := (hb'.block _ (Nat.lt_succ_self _)).trans HK.out; clear ho' hb')
        go_roundw
        case rel => exact ⟨k + 1, by omega, by go_num, HK2.out, HO2.out, HB2.out⟩
        case measure => simp [intOf]; omega
      · by_cases h0 : k % 4 = 0 ∧ 0 < k
        · have HT3 : Hid (clr k x = x >>> 2 <<< 2) := show _ = _ from ((if_neg h3).trans (if_pos h0)).trans (shift2 x).symm
          have e3 : (k : Int).tmod 4 = 0 := by rw [Int.tmod_eq_emod_of_nonneg (by omega)]; omega
          have e4 : 0 < (k : Int) := by omega
          have e5 : 0 < k := by omega
          rw [HT3.out] at HS
          clear h3 HT3 h0
          go_wp2_with (at_builtin; refine wpList_append_byte rfl (.tmp 28) (.tmp 30) rfl (w.heap.size + 1) _ (clampK key k) (x >>> 2 <<< 2) rfl HO.out rfl (by rw [HCL.out]; omega) hsz ?_; intro v' w' ho' hb'; rw [HS.out] at ho'; have HO2 := Lib.hid ho'; have HB2 := Lib.hid (HB.out.trans (hb'.mono (Nat.le_succ _))); have HK2 : Hid (BytesAt w' w.heap.size 23 key) := (hb'.block _ (Nat.lt_succ_self _)).trans HK.out; clear ho' hb')
          go_roundw
          case rel => exact ⟨k + 1, by omega, by go_num, HK2.out, HO2.out, HB2.out⟩
          case measure => simp [intOf]; omega
        · have HT3 : Hid (clr k x = x) := show _ = _ from (if_neg h3).trans (if_neg h0)
          rw [HT3.out] at HS
          obtain ⟨r, hr⟩ : ∃ r, r = k % 4 := ⟨_, rfl⟩
          have e3 : (k : Int).tmod 4 = (r : Int) := by rw [Int.tmod_eq_emod_of_nonneg (by omega)]; omega
          have e6 : ¬ (r : Int) = 3 := by omega
          have e7 : ¬ r = 3 := by omega
          have wr4 : IntKind.i64.wrap (r : Int) = (r : Int) := IntWalk.i64_in _ (by omega)
          by_cases hk0 : k = 0
          · subst hk0
            clear h3 HT3 h0 hr
            go_wp2_with (at_builtin; refine wpList_append_byte rfl (.tmp 28) (.tmp 30) rfl (w.heap.size + 1) _ (clampK key 0) x rfl HO.out rfl (by rw [HCL.out]; omega) hsz ?_; intro v' w' ho' hb'; rw [HS.out] at ho'; have HO2 := Lib.hid ho'; have HB2 := Lib.hid (HB.out.trans (hb'.mono (Nat.le_succ _))); have HK2 : Hid (BytesAt w' w.heap.size 23 key) := (hb'.block _ (Nat.lt_succ_self _)).trans HK.out; clear ho' hb')
            go_roundw
            case rel => exact ⟨1, by omega, by go_num, HK2.out, HO2.out, HB2.out⟩
            case measure => simp [intOf]
          · have e8 : ¬ (r : Int) = 0 := by omega
            have e9 : ¬ r = 0 := by omega
            clear hr h3 HT3 h0
            go_wp2_with (at_builtin; refine wpList_append_byte rfl (.tmp 28) (.tmp 30) rfl (w.heap.size + 1) _ (clampK key k) x rfl HO.out rfl (by rw [HCL.out]; omega) hsz ?_; intro v' w' ho' hb'; rw [HS.out] at ho'; have HO2 := Lib.hid ho'; have HB2 := Lib.hid (HB.out.trans (hb'.mono (Nat.le_succ _))); have HK2 : Hid (BytesAt w' w.heap.size 23 key) := (hb'.block _ (Nat.lt_succ_self _)).trans HK.out; clear ho' hb')
            go_roundw
            case rel => exact ⟨k + 1, by omega, by go_num, HK2.out, HO2.out, HB2.out⟩
            case measure => simp [intOf]; omega
    · obtain rfl : k = 16 := by omega
      have HO2 : Hid (Own w.heap.size wr (clrOf key) u3) := show Own _ _ _ _ by rw [← HE.out]; exact HO.out.base'' (Nat.le_succ _)
      clear hkb ho hb HO HK
      go_wp2_with fail
      go_ret
      exact ⟨u3, rfl, HO2.out, HB.out⟩
end Go.Proofs.Ytgfmjfpafpmghaa
