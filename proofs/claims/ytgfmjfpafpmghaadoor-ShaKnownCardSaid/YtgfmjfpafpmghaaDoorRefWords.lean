/- The document's answer on words: a word turned right, slices of words of the call's own, and the words of a block of 64 bytes (functions 34 and 33). -/
import Derived.Test.YtgfmjfpafpmghaaDoorBytes
import Derived.Test.YtgfmjfpafpmghaaDoorWorks
import Derived.Deep.AppendLies
import Derived.Deep.RegionLaw
import Derived.Deep.RegionHeld3
namespace Go.Proofs.YtgfmjfpafpmghaaDoor
open Go.RowKit Go.Proofs.ShaWords
attribute [local go_sem] and32 or32 xor32 add32 shl32 shr32 wrap32_n8 wrap8_n32 shl32_8 shl32_16 shl32_24 shr32_3 shr32_8 shr32_10 shr32_16 shr32_24 not32

theorem right_any (x : BitVec 32) (n : Int) (w : World) (h1 : 1 ≤ n) (h2 : n ≤ 31) :
    Calls Tryd.prog 57 #[.int .u32 (n32 x), .int .u64 n] w fun e w' => e = .returned (.int .u32 (n32 (rr x n.toNat))) ∧ w' = w := by
  go_enter Tryd.func57, Tryd.ntmps57
  go_wp2_with fail
  go_ret
  refine ⟨?_, rfl⟩
  show Ending.returned (.int .u32 (n32 (x >>> n.toNat ||| x <<< (32 - n).toNat))) = _
  unfold rr
  rw [show (32 - n).toNat = 32 - n.toNat by omega, BitVec.or_comm]

/-- A slice of words of the call's own. -/
def OwnW (B : Nat) (w : World) (l : List (BitVec 32)) (v : Value) : Prop := w.ownsRow B 25 1 v l.length (wordsV l)
theorem OwnW.nil (B : Nat) (w : World) : OwnW B w [] (.slice none 0 0) := World.ownsRow_nil w B 25 1
theorem OwnW.below {B : Nat} {w w' : World} {l : List (BitVec 32)} {v : Value} (h : OwnW B w l v) (hb : Below w.heap.size w w') : OwnW B w' l v :=
  World.ownsRow.kept h (grown_below hb (Nat.le_refl _) none) (by cases v.ownBlock <;> simp)
theorem info41 : (Tryd.prog.info? 25).map (fun i => (i.zero, i.size, i.bytes)) = some (some (.int .u32 0), 1, 4) := by kernel_rfl
/-- What a slice of words that is not empty looks like. -/
theorem OwnW.form {B : Nat} {w : World} {l : List (BitVec 32)} {v : Value} (h : OwnW B w l v) (hn : l ≠ []) : ∃ g cap, v = .slice (some ⟨g, 0, none⟩) l.length cap ∧ B ≤ g ∧ l.length ≤ cap ∧ cap ≤ maxLen ∧ w.rangeAt g 0 (wordsV l) := by
  rcases h.2 with ⟨rfl, h0⟩ | ⟨g, cap, cur, rfl, hg, hh, hc, hm, hs, ht⟩
  · exact absurd (List.length_eq_zero_iff.1 h0) hn
  · refine ⟨g, cap, rfl, hg, hc, hm, fun j v hv => ?_⟩
    rw [Nat.zero_add, cell_of_row w g j cur 25 (0, 0) hh]
    rw [← ht, Nat.mul_one, List.getElem?_take] at hv
    split at hv
    · rw [← hv]; simp
    · cases hv
/-- A word out of four bytes, by sums: the same word. -/
theorem word_sum (a b c d : BitVec 8) : ext a <<< 24 + ext b <<< 16 + ext c <<< 8 + ext d = (ext a <<< 24 ||| ext b <<< 16 ||| ext c <<< 8 ||| ext d) := by
  have ha := a.isLt
  have hb := b.isLt
  have hc := c.isLt
  have hd := d.isLt
  have e : ∀ x : BitVec 8, (ext x).toNat = x.toNat := fun x => by
    unfold ext; rw [BitVec.toNat_setWidth]; have := x.isLt; omega
  have s : ∀ (x : BitVec 8) (k : Nat), k ≤ 24 → (ext x <<< k).toNat = x.toNat <<< k := fun x k hk => by
    rw [BitVec.toNat_shiftLeft, e, Nat.shiftLeft_eq]
    have h1 : x.toNat * 2 ^ k < 2 ^ 32 := by
      have h2 : 2 ^ k ≤ 2 ^ 24 := Nat.pow_le_pow_right (by omega) hk
      have h3 := x.isLt
      calc x.toNat * 2 ^ k ≤ 255 * 2 ^ 24 := Nat.mul_le_mul (by omega) h2
        _ < 2 ^ 32 := by decide
    exact Nat.mod_eq_of_lt h1
  apply BitVec.eq_of_toNat_eq
  rw [BitVec.toNat_or, BitVec.toNat_or, BitVec.toNat_or, BitVec.toNat_add, BitVec.toNat_add, BitVec.toNat_add, s a 24 (by omega), s b 16 (by omega), s c 8 (by omega), e d]
  rw [Nat.or_assoc, Nat.or_assoc, ← Nat.shiftLeft_add_eq_or_of_lt (show d.toNat < 2 ^ 8 by omega)]
  rw [← Nat.shiftLeft_add_eq_or_of_lt (show c.toNat <<< 8 + d.toNat < 2 ^ 16 by rw [Nat.shiftLeft_eq]; omega)]
  rw [← Nat.shiftLeft_add_eq_or_of_lt (show b.toNat <<< 16 + (c.toNat <<< 8 + d.toNat) < 2 ^ 24 by rw [Nat.shiftLeft_eq, Nat.shiftLeft_eq]; omega)]
  simp only [Nat.shiftLeft_eq]
  omega
set_option maxRecDepth 100000 in
set_option maxHeartbeats 1000000 in
theorem words_any (blk : List (BitVec 8)) (b off cap : Nat) (w : World) (hl : blk.length = 64) (hr : w.rangeAt b off (bytesV blk)) :
    Calls Tryd.prog 56 #[.slice (some ⟨b, off, none⟩) 64 cap] w fun e w' => ∃ v, e = .returned v ∧ OwnW w.heap.size w' (first16 blk) v ∧ Below w.heap.size w w' := by
  obtain ⟨i0, hi, hz0, hz1, hz2⟩ := info_parts info41
  have HI := Lib.hid hi; clear hi
  have HZ0 := Lib.hid hz0; clear hz0
  have HZ1 := Lib.hid hz1; clear hz1
  have HZ2 := Lib.hid hz2; clear hz2
  have HL := Lib.hid hl; clear hl
  have HR := Lib.hid hr; clear hr
  go_enter Tryd.func56, Tryd.ntmps56
  go_wp2_with fail
  go_loopw [3, 4] (fun v i wr => ∃ k : Nat, k ≤ 16 ∧ i = .int .i64 (4 * (k : Int)) ∧ OwnW w.heap.size wr ((List.range k).map (wordOf blk)) v ∧ Below w.heap.size w wr) (fun _ i _ => 64 - (intOf i).toNat)
  case atStart => exact ⟨0, by omega, rfl, OwnW.nil _ _, Below.refl _ _⟩
  case round =>
    obtain ⟨k, hk, rfl, ho, hb⟩ := hrel
    by_cases hlt : k < 16
    · have hg : ∀ j, j < 64 → (bytesV blk)[j]? = some (.int .u8 (n8 (blk.getD j 0#8))) := fun j hj => by simp [bytesV, List.getD, HL.out, hj]
      have hbw : b < w.heap.size := World.block_lt_of_cell? w _ (HR.out 0 _ (hg 0 (by omega)))
      have c0 := (hb.cell (p := ⟨b, off + 4 * k, none⟩) hbw).trans (HR.out (4 * k) _ (hg (4 * k) (by omega)))
      have c1 := (hb.cell (p := ⟨b, off + (4 * k + 1), none⟩) hbw).trans (HR.out (4 * k + 1) _ (hg (4 * k + 1) (by omega)))
      have c2 := (hb.cell (p := ⟨b, off + (4 * k + 2), none⟩) hbw).trans (HR.out (4 * k + 2) _ (hg (4 * k + 2) (by omega)))
      have c3 := (hb.cell (p := ⟨b, off + (4 * k + 3), none⟩) hbw).trans (HR.out (4 * k + 3) _ (hg (4 * k + 3) (by omega)))
      have HW : Hid (wordOf blk k = ext (blk.getD (4 * k) 0#8) <<< 24 + ext (blk.getD (4 * k + 1) 0#8) <<< 16 + ext (blk.getD (4 * k + 2) 0#8) <<< 8 + ext (blk.getD (4 * k + 3) 0#8)) := show _ = _ from (word_sum _ _ _ _).symm
      generalize blk.getD (4 * k) 0#8 = b0 at c0 HW
      generalize blk.getD (4 * k + 1) 0#8 = b1 at c1 HW
      generalize blk.getD (4 * k + 2) 0#8 = b2 at c2 HW
      generalize blk.getD (4 * k + 3) 0#8 = b3 at c3 HW
      have sz := hb.size
      have hlen : ((List.range k).map (wordOf blk)).length = k := by simp
      have HO : Hid (wr.ownsRow w.heap.size 25 1 u3 k (wordsV ((List.range k).map (wordOf blk)))) := by
        have h1 : World.ownsRow _ _ _ _ _ _ _ := ho
        rw [hlen] at h1
        exact h1
      have HNE : Hid (∀ g, Value.ownBlock u3 = some g → w.heap.size ≤ g) := fun g hgg => (World.ownsRow.lt ho g hgg).1
      have HB := Lib.hid hb; clear hb ho hg
      have HLEN := Lib.hid hlen; clear hlen
      go_wp2_with fail
      have m0 : IntKind.i64.wrap (4 * (k : Int)) = 4 * (k : Int) := IntWalk.i64_in _ (by omega)
      have m1 : IntKind.i64.wrap (4 * (k : Int) + 1) = 4 * (k : Int) + 1 := IntWalk.i64_in _ (by omega)
      have m2 : IntKind.i64.wrap (4 * (k : Int) + 2) = 4 * (k : Int) + 2 := IntWalk.i64_in _ (by omega)
      have m3 : IntKind.i64.wrap (4 * (k : Int) + 3) = 4 * (k : Int) + 3 := IntWalk.i64_in _ (by omega)
      have n0 : (4 * (k : Int)).toNat = 4 * k := by omega
      have n1 : (4 * (k : Int) + 1).toNat = 4 * k + 1 := by omega
      have n2 : (4 * (k : Int) + 2).toNat = 4 * k + 2 := by omega
      have n3 : (4 * (k : Int) + 3).toNat = 4 * k + 3 := by omega
      have p0 : (0 : Int) ≤ 4 * (k : Int) := by omega
      have p1 : (0 : Int) ≤ 4 * (k : Int) + 1 := by omega
      have p2 : (0 : Int) ≤ 4 * (k : Int) + 2 := by omega
      have p3 : (0 : Int) ≤ 4 * (k : Int) + 3 := by omega
      have q0 : 4 * (k : Int) < 64 := by omega
      have q1 : 4 * (k : Int) + 1 < 64 := by omega
      have q2 : 4 * (k : Int) + 2 < 64 := by omega
      go_region_held3 (fun w' => w'.cell? ⟨b, off + 4 * k, none⟩ = some (.int .u8 (n8 b0)) ∧ w'.cell? ⟨b, off + (4 * k + 1), none⟩ = some (.int .u8 (n8 b1)) ∧
          w'.cell? ⟨b, off + (4 * k + 2), none⟩ = some (.int .u8 (n8 b2)) ∧ w'.cell? ⟨b, off + (4 * k + 3), none⟩ = some (.int .u8 (n8 b3)))
        (first
          | go_keep
          | (go_split_ands
             refine ⟨?_, ?_, ?_, ?_⟩ <;> (rw [hgrow.cell_far _ (by simp; omega) (fun hh => absurd (HNE.out _ hh.symm) (by simp; omega))]; assumption)))
        ((refine step_append_lies _ (by rfl) _ _ _ (by rfl) w.heap.size 25 i0 _ 1 4 Tryd.underlying22 HI.out HZ0.out HZ1.out HZ2.out rfl (by omega) u3 k _ (by rfl) ((HO.out.alloc _).drew)
            ⟨wr.heap.size, 0, none⟩ 1 1 [.int .u32 (n32 (ext b0 <<< 24 + ext b1 <<< 16 + ext b2 <<< 8 + ext b3))] (by rfl) (by rfl) (World.news_of_block (cs := #[.int .u32 (n32 (ext b0 <<< 24 + ext b1 <<< 16 + ext b2 <<< 8 + ext b3))]) (t := 25) (fr := (0, 0)) (heap_alloc_new wr _)) (by simp [Value.oneCell'])
            (by omega) (by unfold maxLen; omega) (by omega) (by simp; omega) (wr.heap.size + 1) (by simp) ?_; intro gg cap w1 hown1 hgrow hat hltg))
      have HO1 : Hid (OwnW w.heap.size w1 ((List.range (k + 1)).map (wordOf blk)) (.slice (some ⟨gg, 0, none⟩) (k + 1) cap)) := by
        unfold OwnW
        rw [List.range_succ, List.map_append, List.map_cons, List.map_nil, HW.out, List.length_append, HLEN.out, wordsV_append]
        exact hown1
      have HB1 : Hid (Below w.heap.size w w1) := ((HB.out.alloc sz _).drew).grown hgrow (by simp; omega) HNE.out
      clear hown1 hgrow hat hltg
      go_wp2_with fail
      go_roundw
      case rel => exact ⟨k + 1, by omega, by go_num, HO1.out, HB1.out⟩
      case measure => simp [intOf]; omega
    · have HO := Lib.hid ho; clear ho
      have HB := Lib.hid hb; clear hb
      have HK16 : Hid (k = 16) := show k = 16 by omega
      go_wp2_with fail
      go_ret
      refine ⟨_, rfl, ?_, HB.out⟩
      have h1 := HO.out
      rw [HK16.out] at h1
      exact h1
end Go.Proofs.YtgfmjfpafpmghaaDoor
