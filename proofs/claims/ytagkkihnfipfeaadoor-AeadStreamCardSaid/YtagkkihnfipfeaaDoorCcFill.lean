/-
  The contract of chacha.fill: so many words of a row are written over by those that the bytes form.
-/
import Derived.Test.YtagkkihnfipfeaaDoorWordsAt
namespace Go.Proofs.YtagkkihnfipfeaaDoor
open Go.RowKit Go.Proofs.ShaWords
attribute [local go_sem] and32 or32 xor32 add32 shl32 shr32 wrap32_n8 wrap8_n32 shl32_8 shl32_16 shl32_24

/-- The word that four bytes form, the lowest first. -/
def leWord (bs : List (BitVec 8)) (t : Nat) : BitVec 32 :=
  ext (bs.getD (4 * t) 0#8) ||| ext (bs.getD (4 * t + 1) 0#8) <<< 8 ||| ext (bs.getD (4 * t + 2) 0#8) <<< 16 ||| ext (bs.getD (4 * t + 3) 0#8) <<< 24
def leWords (bs : List (BitVec 8)) (n : Nat) : List (BitVec 32) := (List.range n).map (leWord bs)
theorem leWords_length (bs : List (BitVec 8)) (n : Nat) : (leWords bs n).length = n := by simp [leWords]
theorem leWords_succ (bs : List (BitVec 8)) (n : Nat) : leWords bs (n + 1) = leWords bs n ++ [leWord bs n] := by simp [leWords, List.range_succ]
theorem leWord_eq (bs : List (BitVec 8)) (t : Nat) : leWord bs t = ext (bs.getD (4 * t) 0#8) ||| ext (bs.getD (4 * t + 1) 0#8) <<< 8 ||| ext (bs.getD (4 * t + 2) 0#8) <<< 16 ||| ext (bs.getD (4 * t + 3) 0#8) <<< 24 := rfl
def FillW (w : World) (g : Nat) (t : TypeId) (W : List (BitVec 32)) (o : Nat) (L : List (BitVec 32)) (wr : World) : Prop := WordsAt wr g t (splice W o L) ∧ w.grownBy wr (some g)
theorem FillW.next {w wr : World} {g : Nat} {t : TypeId} {W : List (BitVec 32)} {o : Nat} {L : List (BitVec 32)} (h : FillW w g t W o L wr) (ho : o + L.length < W.length) (x : BitVec 32) (k : Nat) (hk : k = L.length) :
    FillW w g t W o (L ++ [x]) (wr.setCell ⟨g, o + k, none⟩ (.int .u32 (n32 x))) := by
  subst hk
  exact ⟨by rw [← splice_snoc _ _ _ _ ho]; exact h.1.set _ _, grown_trans h.2 (grown_setCell _ _ _ _)⟩
theorem FillW.drew {w wr : World} {g : Nat} {t : TypeId} {W : List (BitVec 32)} {o : Nat} {L : List (BitVec 32)} (h : FillW w g t W o L wr) : FillW w g t W o L wr.drew := ⟨h.1.drew, grown_trans h.2 (grown_drew _ _)⟩

attribute [local irreducible] leWord leWords
set_option maxRecDepth 100000 in
set_option maxHeartbeats 1000000 in
theorem fill_any (W : List (BitVec 32)) (bs : List (BitVec 8)) (g o n cw b off m cb : Nat) (t : TypeId) (w : World) (hW : WordsAt w g t W) (hr : w.rangeAt b off (bytesV bs)) (hne : b ≠ g)
    (hl : bs.length = m) (hm : m = 4 * n) (hon : o + n ≤ W.length) (hn : n ≤ 100000) :
    Calls Tryd.prog 63 #[.slice (some ⟨g, o, none⟩) n cw, .slice (some ⟨b, off, none⟩) m cb] w fun e w' => e = .returned (.tuple #[]) ∧ WordsAt w' g t (splice W o (leWords bs n)) ∧ w.grownBy w' (some g) := by
  have HW := Lib.hid hW; clear hW
  have HR := Lib.hid hr; clear hr
  have HL := Lib.hid hl; clear hl
  have HM := Lib.hid hm; clear hm
  have HON := Lib.hid hon; clear hon
  have HNE := Lib.hid hne; clear hne
  have HZ : Hid (leWords bs 0 = []) := show _ = _ by unfold leWords; rfl
  go_enter Tryd.func63, Tryd.ntmps63
  go_wp2_with fail
  go_loopw [4, 7] (fun _ i wr => ∃ k : Nat, k ≤ n ∧ i = .int .i64 k ∧ FillW w g t W o (leWords bs k) wr) (fun _ i _ => n - (intOf i).toNat)
  case atStart => exact ⟨0, Nat.zero_le _, rfl, by rw [HZ.out]; exact ⟨by rw [splice_nil]; exact HW.out, World.grownBy.refl _ _⟩⟩
  case round =>
    clear HW
    obtain ⟨k, hk, rfl, hf⟩ := hrel
    by_cases hlt : k < n
    · have hm := HM.out
      have hr2 := Reads.grown HR.out hf.2 HNE.out
      have c0 := range_cell hr2 (4 * k) (by rw [HL.out]; omega)
      have c1 := range_cell hr2 (4 * k + 1) (by rw [HL.out]; omega)
      have c2 := range_cell hr2 (4 * k + 2) (by rw [HL.out]; omega)
      have c3 := range_cell hr2 (4 * k + 3) (by rw [HL.out]; omega)
      have hsl : (splice W o (leWords bs k)).length = W.length := length_splice _ _ _ (by rw [leWords_length]; have := HON.out; omega)
      obtain ⟨v, cv⟩ : ∃ v, wr.cell? ⟨g, o + k, none⟩ = some v := ⟨_, hf.1.cell (o + k) (by rw [hsl]; have := HON.out; omega)⟩
      have cf := hf.1.frozen (o + k)
      have HS := Lib.hid (leWords_succ bs k)
      have HE := Lib.hid (leWord_eq bs k)
      have HF := Lib.hid hf; clear hf hr2 hsl
      generalize bs.getD (4 * k) 0#8 = b0 at c0 HE
      generalize bs.getD (4 * k + 1) 0#8 = b1 at c1 HE
      generalize bs.getD (4 * k + 2) 0#8 = b2 at c2 HE
      generalize bs.getD (4 * k + 3) 0#8 = b3 at c3 HE
      have m0 : IntKind.i64.wrap (4 * (k : Int)) = 4 * (k : Int) := IntWalk.i64_in _ (by omega)
      have m1 : IntKind.i64.wrap (4 * (k : Int) + 1) = 4 * (k : Int) + 1 := IntWalk.i64_in _ (by omega)
      have m2 : IntKind.i64.wrap (4 * (k : Int) + 2) = 4 * (k : Int) + 2 := IntWalk.i64_in _ (by omega)
      have m3 : IntKind.i64.wrap (4 * (k : Int) + 3) = 4 * (k : Int) + 3 := IntWalk.i64_in _ (by omega)
      have n0 : (4 * (k : Int)).toNat = 4 * k := by omega
      have n1 : (4 * (k : Int) + 1).toNat = 4 * k + 1 := by omega
      have n2 : (4 * (k : Int) + 2).toNat = 4 * k + 2 := by omega
      have n3 : (4 * (k : Int) + 3).toNat = 4 * k + 3 := by omega
      have l0 : 4 * (k : Int) < (m : Int) := by omega
      have l1 : 4 * (k : Int) + 1 < (m : Int) := by omega
      have l2 : 4 * (k : Int) + 2 < (m : Int) := by omega
      have l3 : 4 * (k : Int) + 3 < (m : Int) := by omega
      have p0 : 0 ≤ 4 * (k : Int) := by omega
      have p1 : 0 ≤ 4 * (k : Int) + 1 := by omega
      have p2 : 0 ≤ 4 * (k : Int) + 2 := by omega
      have p3 : 0 ≤ 4 * (k : Int) + 3 := by omega
      have q0 : (k : Int) < (n : Int) := by omega
      clear hm
      go_wp2_with fail
      go_still_tail 36, (by kernel_rfl)
      clear m0 m1 m2 m3 n0 n1 n2 n3 l0 l1 l2 l3 p0 p1 p2 p3
      change wpList _ _ _ _ _ wr.drew
      go_wp2_with fail
      go_roundw
      case rel =>
        refine ⟨k + 1, by omega, by go_num, ?_⟩
        rw [HS.out, HE.out]
        exact (HF.out.next (by rw [leWords_length]; have := HON.out; omega) _ k (leWords_length _ _).symm).drew
      case measure => simp [intOf]; omega
    · have HK : Hid (k = n) := show k = n by omega
      have HF := Lib.hid hf; clear hf
      go_wp2_with fail
      go_end0
      exact ⟨rfl, by rw [← HK.out]; exact HF.out.1, HF.out.2⟩
end Go.Proofs.YtagkkihnfipfeaaDoor
