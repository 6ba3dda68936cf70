/-
  Bytes that are padded, and a length of eight bytes: the contracts of aead's own padded and withLength.
-/
import Derived.Test.YtagkkihnfipfeaaDoorBytes
import Derived.Test.YtagkkihnfipfeaaDoorAppendZeros
namespace Go.Proofs.YtagkkihnfipfeaaDoor
open Go.RowKit Go.Proofs.ShaWords

/-- How many noughts make a number of bytes a multiple of sixteen. -/
def padN (n : Nat) : Nat := (16 - n % 16) % 16
/-- Bytes, padded. -/
def fill16 (l : List (BitVec 8)) : List (BitVec 8) := l ++ noughts (padN l.length)
/-- The lowest bytes of a length, the lowest first. -/
def lenTo (n k : Nat) : List (BitVec 8) := (List.range k).map fun i => BitVec.ofNat 8 (n / 256 ^ i)
theorem padN_lt (n : Nat) : padN n < 16 := by unfold padN; omega
theorem fill16_length (l : List (BitVec 8)) : (fill16 l).length = l.length + padN l.length := by simp [fill16, noughts]
theorem lenTo_zero (n : Nat) : lenTo n 0 = [] := rfl
theorem lenTo_succ (n k : Nat) : lenTo n (k + 1) = lenTo n k ++ [BitVec.ofNat 8 (n / 256 ^ k)] := by simp [lenTo, List.range_succ]
theorem lenTo_length (n k : Nat) : (lenTo n k).length = k := by simp [lenTo]
theorem lenByte (n k : Nat) : (n : Int) / 2 ^ (8 * k) % 256 = n8 (BitVec.ofNat 8 (n / 256 ^ k)) := by
  unfold n8
  have e : (2 : Nat) ^ (8 * k) = 256 ^ k := by rw [Nat.pow_mul]
  rw [BitVec.toNat_ofNat, show (2 : Int) = ((2 : Nat) : Int) from rfl, ← Int.natCast_pow, e]
  omega
attribute [local irreducible] padN fill16 lenTo

set_option maxRecDepth 100000 in
set_option maxHeartbeats 1000000 in
theorem padded_any (B : Nat) (v : Value) (l m : List (BitVec 8)) (n : Nat) (p : Option Addr) (c : Nat) (w : World) (hn : m.length = n) (hown : Own B w l v) (hL : Lies w p m) (hl : l.length + n ≤ 900000) (hB : B ≤ w.heap.size) :
    Calls Tryd.prog 30 #[v, .slice p n c] w fun e w' => ∃ v', e = .returned v' ∧ Own B w' (l ++ fill16 m) v' ∧ Below B w w' := by
  have HN := Lib.hid hn
  have HO := Lib.hid hown; clear hown
  have HL := Lib.hid hL; clear hL
  have HF : Hid (l ++ fill16 m = (l ++ m) ++ noughts (padN n)) := show _ = _ by unfold fill16; rw [hn, List.append_assoc]
  have HLL : Hid ((l ++ m).length = l.length + n) := show _ = _ by rw [List.length_append, hn]
  have HZ := padN_lt n
  have hz1 : IntKind.i64.wrap ((n : Int).tmod 16) = (n : Int) % 16 := by rw [Int.tmod_eq_emod_of_nonneg (by omega)]; exact IntWalk.i64_in _ (by omega)
  have hz2 : IntKind.i64.wrap (16 - (n : Int) % 16) = 16 - (n : Int) % 16 := IntWalk.i64_in _ (by omega)
  have hz3 : (16 - (n : Int) % 16) % 16 = ((padN n : Nat) : Int) := by unfold padN; omega
  have hz4 : IntKind.i64.wrap ((padN n : Nat) : Int) = ((padN n : Nat) : Int) := IntWalk.i64_in _ (by omega)
  have hz5 : (16 - (n : Int) % 16).tmod 16 = (16 - (n : Int) % 16) % 16 := Int.tmod_eq_emod_of_nonneg (by omega)
  have hz6 : (n : Int).tmod 16 = (n : Int) % 16 := Int.tmod_eq_emod_of_nonneg (by omega)
  go_enter Tryd.func30, Tryd.ntmps30
  clear hn
  go_wp2_with (first
    | (refine wpList_append_list rfl (.tmp 6) (.tmp 7) rfl B _ l m p c rfl HO.out (by rw [HN.out]; rfl) HL.out (by rw [HN.out]; omega) hB ?_; intro v1 w1 h1 b1; have HO1 := Lib.hid h1; have HB1 := Lib.hid b1; clear h1 b1)
    | (refine wpList_append_zeros rfl (.tmp 14) (.tmp 15) rfl B _ (l ++ m) (padN n) rfl HO1.out rfl (by rw [HLL.out]; omega) (Nat.le_trans hB HB1.out.size) ?_; intro v2 w2 h2 b2; have HO2 := Lib.hid h2; have HB2 := Lib.hid b2; clear h2 b2))
  go_ret
  exact ⟨_, rfl, by rw [HF.out]; exact HO2.out, HB1.out.trans HB2.out⟩

set_option maxRecDepth 100000 in
set_option maxHeartbeats 1000000 in
theorem withLength_any (B : Nat) (v : Value) (l : List (BitVec 8)) (n : Nat) (w : World) (hown : Own B w l v) (hl : l.length ≤ 900000) (hB : B ≤ w.heap.size) :
    Calls Tryd.prog 31 #[v, .int .i64 (n : Int)] w fun e w' => ∃ v', e = .returned v' ∧ Own B w' (l ++ lenTo n 8) v' ∧ Below B w w' := by
  have HO := Lib.hid hown; clear hown
  have HL := Lib.hid hl; clear hl
  have H0 : Hid (l ++ lenTo n 0 = l) := show _ = _ by rw [lenTo_zero, List.append_nil]
  go_enter Tryd.func31, Tryd.ntmps31
  go_wp2_with fail
  go_loopw [0, 6] (fun v i wr => ∃ k : Nat, k ≤ 8 ∧ i = .int .i64 (k : Int) ∧ Own B wr (l ++ lenTo n k) v ∧ Below B w wr) (fun _ i _ => 8 - (intOf i).toNat)
  case atStart => exact ⟨0, by omega, rfl, by rw [H0.out]; exact HO.out, Below.refl _ _⟩
  case round =>
    clear HO H0
    obtain ⟨k, hk, rfl, ho, hb⟩ := hrel
    have sz := Nat.le_trans hB hb.size
    by_cases hlt : k < 8
    · have HTK : Hid (l ++ lenTo n (k + 1) = (l ++ lenTo n k) ++ [BitVec.ofNat 8 (n / 256 ^ k)]) := show _ = _ by rw [lenTo_succ, List.append_assoc]
      have HK1 : Hid ((l ++ lenTo n k).length < 1099511627776) := show _ < _ by rw [List.length_append, lenTo_length]; have := HL.out; omega
      have HO := Lib.hid ho; clear ho
      have HB := Lib.hid hb; clear hb
      have q0 : (k : Int) < 8 := by omega
      have m0 : IntKind.i64.wrap (8 * (k : Int)) = 8 * (k : Int) := IntWalk.i64_in _ (by omega)
      have m1 := lenByte n k
      go_wp2_with (at_builtin; refine wpList_append_byte rfl (.tmp 9) (.tmp 15) rfl B _ (l ++ lenTo n k) (BitVec.ofNat 8 (n / 256 ^ k)) rfl HO.out rfl HK1.out sz ?_; intro v' w' ho' hb'; rw [← HTK.out] at ho'; have HO' := Lib.hid ho'; have HB' := Lib.hid (HB.out.trans hb'); clear ho' hb')
      go_roundw
      case rel => exact ⟨k + 1, by omega, by go_num, HO'.out, HB'.out⟩
      case measure => simp [intOf]; omega
    · have HO := Lib.hid ho; clear ho
      have HB := Lib.hid hb; clear hb
      have HK8 : Hid (k = 8) := show k = 8 by omega
      go_wp2_with fail
      go_ret
      refine ⟨_, rfl, ?_, HB.out⟩
      have h1 := HO.out
      rw [HK8.out] at h1
      exact h1
end Go.Proofs.YtagkkihnfipfeaaDoor
