/- The kit's Row: so many bytes, 7, 8, 9 and so on, modulo 251. -/
import Derived.Test.YtgfmjfpafpmghaaDoorBytes
namespace Go.Proofs.YtgfmjfpafpmghaaDoor
open Go.RowKit Go.Proofs.ShaWords
def rowAt (i : Nat) : BitVec 8 := BitVec.ofNat 8 ((7 + i) % 251)
def kitRow (n : Nat) : List (BitVec 8) := (List.range n).map rowAt
theorem kitRow_succ (n : Nat) : kitRow (n + 1) = kitRow n ++ [rowAt n] := by simp [kitRow, List.range_succ]
theorem kitRow_length (n : Nat) : (kitRow n).length = n := by simp [kitRow]
theorem rowAt_eq (i : Nat) : IntKind.u8.wrap ((7 + (i : Int)) % 251) = n8 (rowAt i) := by
  unfold n8 rowAt; rw [IntKind.wrap_u8', BitVec.toNat_ofNat]; omega
attribute [local irreducible] rowAt kitRow
set_option maxHeartbeats 400000 in
theorem kitRow_any (n : Nat) (w : World) (hn : n ≤ 100000) :
    Calls Tryd.prog 8 #[.int .i64 (n : Int)] w fun e w' => ∃ v, e = .returned v ∧ Own w.heap.size w' (kitRow n) v ∧ Below w.heap.size w w' := by
  have HZ : Hid (kitRow 0 = []) := show _ = _ by unfold kitRow; rfl
  go_enter Tryd.func8, Tryd.ntmps8
  go_wp2_with fail
  go_loopw [3, 4] (fun v i wr => ∃ k : Nat, k ≤ n ∧ i = .int .i64 k ∧ Own w.heap.size wr (kitRow k) v ∧ Below w.heap.size w wr) (fun _ i _ => n - (intOf i).toNat)
  case atStart => exact ⟨0, Nat.zero_le _, rfl, by rw [HZ.out]; exact Own.nil _ _, Below.refl _ _⟩
  case round =>
    obtain ⟨k, hk, rfl, ho, hb⟩ := hrel
    have sz := hb.size
    by_cases hlt : k < n
    · have HTK := Lib.hid (kitRow_succ k)
      have HK1 : Hid ((kitRow k).length < 1099511627776) := show _ < _ by rw [kitRow_length]; omega
      have hre := rowAt_eq k
      have HO := Lib.hid ho; clear ho
      have HB := Lib.hid hb; clear hb
      go_wp2_with (at_builtin; refine wpList_append_byte rfl (.tmp 10) (.tmp 15) rfl w.heap.size _ (kitRow k) (rowAt k) rfl HO.out rfl HK1.out (by omega) ?_; intro v' w' ho' hb'; rw [← HTK.out] at ho'; have HO' := Lib.hid ho'; have HB' := Lib.hid (HB.out.trans hb'); clear ho' hb')
      go_roundw
      case rel => exact ⟨k + 1, by omega, by go_num, HO'.out, HB'.out⟩
      case measure => simp [intOf]; omega
    · have HK : Hid (k = n) := show k = n by omega
      have HO := Lib.hid ho; clear ho
      have HB := Lib.hid hb; clear hb
      go_wp2_with fail
      go_ret
      refine ⟨_, rfl, ?_, HB.out⟩
      have h1 := HO.out
      rw [HK.out] at h1
      exact h1
end Go.Proofs.YtgfmjfpafpmghaaDoor
