/-
  The law's own row of bytes of one kind; the two other published codes by the kernel's own reckoning.
-/
import Derived.Test.YtifnflhkcpchhaaDoorRefMac
import Derived.Test.YtifnflhkcpchhaaDoorMacKn
namespace Go.Proofs.YtifnflhkcpchhaaDoor
open Go.RowKit Go.Proofs.ShaWords

/-- The first k bytes are of one kind, noughts behind them. -/
def repTo (c : BitVec 8) (n k : Nat) : List (BitVec 8) := List.replicate k c ++ List.replicate (n - k) 0#8
theorem repTo_zero (c : BitVec 8) (n : Nat) : repTo c n 0 = noughts n := by simp [repTo, noughts]
theorem repTo_length (c : BitVec 8) (n k : Nat) (h : k ≤ n) : (repTo c n k).length = n := by simp [repTo]; omega
theorem repTo_full (c : BitVec 8) (n : Nat) : repTo c n n = List.replicate n c := by simp [repTo]
theorem repTo_succ (c : BitVec 8) (n k : Nat) (h : k < n) : (repTo c n k).set k c = repTo c n (k + 1) := by
  unfold repTo
  obtain ⟨m, hm⟩ : ∃ m, n - k = m + 1 := ⟨n - k - 1, by omega⟩
  rw [List.set_append_right _ _ (by simp), hm, show n - (k + 1) = m by omega, List.length_replicate, Nat.sub_self, List.replicate_succ, List.set_cons_zero, List.replicate_succ']
  simp
attribute [local irreducible] repTo
set_option maxRecDepth 100000 in
set_option maxHeartbeats 1000000 in
theorem lawRow_any (n : Nat) (c : BitVec 8) (z N : Int) (w : World) (hz : n8 c = z) (hN : N = (n : Int)) (hn : n ≤ 100000) :
    Calls Tryd.prog 33 #[.int .i64 N, .int .u8 z] w fun e w' => e = .returned (.slice (some ⟨w.heap.size, 0, none⟩) n n) ∧ BytesAt w' w.heap.size 5 (List.replicate n c) ∧ Below w.heap.size w w' := by
  subst hz; subst hN
  have HFU := Lib.hid (repTo_full c n)
  go_enter Tryd.func33, Tryd.ntmps33
  go_wp2_with (at_make; refine wpList_make_bytes rfl _ _ rfl n _ rfl rfl rfl (by omega) ?_; intro w1 h1 b1; have HF := Lib.hid (show BytesAt w1 w.heap.size 5 (repTo c n 0) by rw [repTo_zero]; exact h1); have HBF := Lib.hid b1; clear h1 b1)
  go_loopw [6] (fun i wr => ∃ k : Nat, k ≤ n ∧ i = .int .i64 (k : Int) ∧ BytesAt wr w.heap.size 5 (repTo c n k) ∧ Below w.heap.size w wr) (fun i _ => n - (intOf i).toNat)
  case atStart => exact ⟨0, by omega, rfl, HF.out, HBF.out⟩
  case round =>
    clear HF HBF
    obtain ⟨k, hk, rfl, hat, hb⟩ := hrel
    by_cases hlt : k < n
    · have hc0 := cell_at hat k (by rw [repTo_length _ _ _ hk]; exact hlt)
      have hf := frozen_at hat k
      have HST := Lib.hid (setCell_at hat k c)
      rw [repTo_succ _ _ _ hlt] at HST
      generalize (repTo c n k).getD k 0#8 = y at hc0
      have HBB := Lib.hid (hb.setCell (Nat.le_refl _) (p := ⟨w.heap.size, k, none⟩) (.int .u8 (n8 c)))
      clear hat hb
      have k0 : (0 : Int) ≤ (k : Int) := by omega
      have k1 : (k : Int) < (n : Int) := by omega
      go_wp2_with fail
      go_roundw
      case rel => exact ⟨k + 1, by omega, by go_num, HST.out, HBB.out⟩
      case measure => simp [intOf]; omega
    · have HF : Hid (BytesAt wr w.heap.size 5 (List.replicate n c)) := by
        show BytesAt _ _ _ _
        rw [← HFU.out, ← show k = n by omega]
        have h1 := hat
        rw [show k = n by omega] at h1 ⊢
        exact h1
      have HBF := Lib.hid hb
      clear hat hb
      go_wp2_with fail
      go_ret
      exact ⟨rfl, HF.out, HBF.out⟩
def hiKey : List (BitVec 8) := List.replicate 20 0x0b#8
def hiText : List (BitVec 8) := [72#8, 105#8, 32#8, 84#8, 104#8, 101#8, 114#8, 101#8]
def largeKey : List (BitVec 8) := List.replicate 131 0xaa#8
def largeText : List (BitVec 8) := [84#8, 101#8, 115#8, 116#8, 32#8, 85#8, 115#8, 105#8, 110#8, 103#8, 32#8, 76#8, 97#8, 114#8, 103#8, 101#8, 114#8, 32#8, 84#8, 104#8, 97#8, 110#8, 32#8, 66#8, 108#8, 111#8, 99#8, 107#8, 45#8, 83#8, 105#8, 122#8, 101#8, 32#8, 75#8, 101#8, 121#8, 32#8, 45#8, 32#8, 72#8, 97#8, 115#8, 104#8, 32#8, 75#8, 101#8, 121#8, 32#8, 70#8, 105#8, 114#8, 115#8, 116#8]
theorem hi_code : n32 (word4 (macOf hiKey hiText) 0) = 2956217441 ∧ n32 (word4 (macOf hiKey hiText) 28) = 775081975 := by decide +kernel
theorem large_code : n32 (word4 (macOf largeKey largeText) 0) = 1625567577 ∧ n32 (word4 (macOf largeKey largeText) 28) = 249790292 := by decide +kernel
end Go.Proofs.YtifnflhkcpchhaaDoor
