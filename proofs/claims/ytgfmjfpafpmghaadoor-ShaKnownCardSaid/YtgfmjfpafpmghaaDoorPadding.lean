/-
  The contract of sha.padding: for every length below 2^40 it returns a new slice of the padding's bytes; nothing that was there changes.
-/
import Derived.Test.YtgfmjfpafpmghaaDoorSchedule
import Derived.Deep.DeepFit
namespace Go.Proofs.YtgfmjfpafpmghaaDoor
open Go.RowKit Go.Proofs.ShaWords
attribute [local go_sem] and32 or32 xor32 add32 shl32 shr32 wrap32_n8 wrap8_n32 shl32_8 shl32_16 shl32_24 shr32_3 shr32_8 shr32_10 shr32_16 shr32_24

/-- How many noughts the padding of n bytes has. -/
def zc (n : Nat) : Nat := (64 - (n + 9) % 64) % 64
theorem zc_le (n : Nat) : zc n ≤ 63 := by unfold zc; omega

/-- The byte of the length at place k. -/
def lenByte (n k : Nat) : BitVec 8 := BitVec.ofNat 8 (8 * n / 2 ^ (56 - 8 * k))
def padTo (n z k : Nat) : List (BitVec 8) := 128#8 :: List.replicate z 0#8 ++ (List.range k).map (lenByte n)
/-- What makes a padded row of n bytes. -/
def padOf (n : Nat) : List (BitVec 8) := padTo n (zc n) 8
theorem padTo_length (n z k : Nat) : (padTo n z k).length = 1 + z + k := by simp [padTo]; omega
theorem padTo_succ (n z k : Nat) : padTo n z (k + 1) = padTo n z k ++ [lenByte n k] := by simp [padTo, List.range_succ]
theorem lenByte_eq (n k : Nat) : 8 * (n : Int) / 2 ^ (56 - 8 * k) % 256 = n8 (lenByte n k) := by
  unfold lenByte n8
  rw [BitVec.toNat_ofNat]
  have e2 : (8 * (n : Int)) / 2 ^ (56 - 8 * k) = ((8 * n / 2 ^ (56 - 8 * k) : Nat) : Int) := by
    rw [Int.natCast_ediv, Int.natCast_pow, Int.natCast_mul]; rfl
  rw [e2]; omega
theorem pad_set (n z k : Nat) (hk : k < 8) : (padTo n z k ++ List.replicate (8 - k) 0#8).set (1 + z + k) (lenByte n k) = padTo n z (k + 1) ++ List.replicate (8 - (k + 1)) 0#8 := by
  have hl := padTo_length n z k
  rw [padTo_succ]
  obtain ⟨m, hm⟩ : ∃ m, 8 - k = m + 1 := ⟨7 - k, by omega⟩
  rw [hm, show 8 - (k + 1) = m by omega, List.set_append_right _ _ (by omega), hl, Nat.sub_self, List.replicate_succ, List.set_cons_zero, List.append_assoc]
  rfl
theorem pad_start (n z : Nat) : (List.replicate (1 + z + 8) 0#8).set 0 128#8 = padTo n z 0 ++ List.replicate (8 - 0) 0#8 := by
  rw [show 1 + z + 8 = (z + 8) + 1 by omega, List.replicate_succ, List.set_cons_zero]
  have e : padTo n z 0 = 128#8 :: List.replicate z 0#8 := by simp [padTo]
  rw [e, List.cons_append, List.replicate_append_replicate]
def PadW (w : World) (l : List (BitVec 8)) (wr : World) : Prop := wr.heap[w.heap.size]? = some (.cells (bytesV l).toArray 5 (0, 0)) ∧ Below w.heap.size w wr
theorem PadW.set {w wr : World} {l : List (BitVec 8)} (h : PadW w l wr) (k : Nat) (x : BitVec 8) : PadW w (l.set k x) (wr.setCell ⟨w.heap.size, k, none⟩ (.int .u8 (n8 x))) :=
  ⟨by rw [heap_setCell_same _ _ _ _ _ _ h.1, bytesV_set], h.2.setCell (Nat.le_refl _) _⟩
theorem PadW.alloc {w wr : World} {l : List (BitVec 8)} (h : PadW w l wr) (o : Obj) : PadW w l (wr.alloc o) := by
  have hs : w.heap.size < wr.heap.size := (Array.getElem?_eq_some_iff.1 h.1).1
  exact ⟨by rw [Below.heap_alloc _ _ _ hs]; exact h.1, h.2.alloc (by omega) o⟩
attribute [local irreducible] lenByte padTo

set_option maxRecDepth 100000 in
set_option maxHeartbeats 400000 in
theorem padding_any (n : Nat) (w : World) (hn : n < 1099511627776) :
    Calls Tryd.prog 36 #[.int .u64 n] w fun e w' => ∃ g : Nat, e = .returned (.slice (some ⟨g, 0, none⟩) (padOf n).length (padOf n).length) ∧ w'.heap[g]? = some (.cells (bytesV (padOf n)).toArray 5 (0, 0)) ∧ Below w.heap.size w w' ∧ w.heap.size ≤ g := by
  obtain ⟨i0, hi, hz0, hz1, hz2⟩ := info_parts info5
  have HI := Lib.hid hi; clear hi
  have HZ0 := Lib.hid hz0; clear hz0
  have HZ1 := Lib.hid hz1; clear hz1
  have HZ2 := Lib.hid hz2; clear hz2
  have HL : Hid ((1 : Int) + -(((n : Int) + 1 + 8) % 64) % 64 = ((1 + zc n : Nat) : Int)) := show _ = _ by unfold zc; omega
  have HC : Hid ((1 : Int) + -(((n : Int) + 1 + 8) % 64) % 64 + 8 = ((1 + zc n + 8 : Nat) : Int)) := show _ = _ by unfold zc; omega
  have hzc := zc_le n
  generalize hz : zc n = z at HL HC hzc
  have HZ : Hid (z = zc n) := hz.symm
  clear hz
  go_enter Tryd.func36, Tryd.ntmps36
  go_wp2_with (at_make; refine wpList_make_any rfl (.tmp 15) (.tmp 18) 26 rfl 5 i0 (.int .u8 0) Tryd.underlying26 HI.out HZ0.out HZ1.out HZ2.out .u64 .u64 _ _ (1 + z) (1 + z + 8) rfl rfl HL.out HC.out (by omega) (by omega) _ (made_noughts _) ?_; intro w1 h1 b1; have c1 := cell_bytesV h1 (j := 0) (by simp); have f1 := frozen_of_row _ _ 0 _ _ h1; have H1 := Lib.hid h1; have B1 := Lib.hid b1; clear h1 b1)
  go_loopw [5, 6] (fun v i wr => ∃ k : Nat, k ≤ 8 ∧ i = .int .i64 (56 - 8 * (k : Int)) ∧ v = .slice (some ⟨w.heap.size, 0, none⟩) (1 + z + k) (1 + z + 8) ∧
      PadW w (padTo n z k ++ List.replicate (8 - k) 0#8) wr) (fun _ i _ => (intOf i + 8).toNat)
  case atStart =>
    refine ⟨0, by omega, rfl, rfl, ?_⟩
    rw [← pad_start]
    exact PadW.set ⟨H1.out, B1.out⟩ 0 128#8
  case round =>
    clear H1 B1 c1 f1
    obtain ⟨k, hk, rfl, rfl, hp⟩ := hrel
    have hlen : (padTo n z k ++ List.replicate (8 - k) 0#8).length = 1 + z + 8 := by rw [List.length_append, padTo_length]; simp; omega
    have hsz : w.heap.size < wr.heap.size := (Array.getElem?_eq_some_iff.1 hp.1).1
    by_cases hlt : k < 8
    · have hlb := lenByte_eq n k
      have ck := cell_bytesV hp.1 (j := 1 + z + k) (by omega)
      generalize (padTo n z k ++ List.replicate (8 - k) 0#8)[1 + z + k]'_ = old at ck
      have fk := frozen_of_row _ _ (1 + z + k) _ _ hp.1
      have HP := Lib.hid hp; clear hp hlen
      go_wp2_with fail
      go_roundw
      case rel =>
        refine ⟨k + 1, by omega, by go_num, rfl, ?_⟩
        rw [← pad_set n z k hlt]
        exact (HP.out.set _ _).alloc _
      case measure => simp [intOf]; omega
    · have HK : Hid (k = 8) := show k = 8 by omega
      have HP := Lib.hid hp; clear hp hlen
      go_wp2_with fail
      go_ret
      have h := HP.out
      rw [HK.out] at h ⊢
      rw [HZ.out] at h ⊢
      refine ⟨w.heap.size, ?_, ?_, h.2, Nat.le_refl _⟩
      · rw [padOf, padTo_length]; rfl
      · simpa [padOf] using h.1
end Go.Proofs.YtgfmjfpafpmghaaDoor
