/-
  Plain mathematics of a hash that is fed byte by byte: what a piece of bytes does to the words, the waiting block and the length.
-/
import Derived.Test.YtgfmjfpafpmghaaDoorMix
import Derived.Test.YtgfmjfpafpmghaaDoorPadding
namespace Go.Proofs.YtgfmjfpafpmghaaDoor
open Go.RowKit Go.Proofs.ShaWords

/-- A hash: its words, its block, how many bytes were written. -/
structure HS where
  s : St
  blk : List (BitVec 8)
  n : Nat
/-- One byte more. -/
def feed (h : HS) (b : BitVec 8) : HS :=
  if (h.n + 1) % 64 = 0 then ⟨mixOf h.s (h.blk.set (h.n % 64) b), h.blk.set (h.n % 64) b, h.n + 1⟩ else ⟨h.s, h.blk.set (h.n % 64) b, h.n + 1⟩
def writeOf (h : HS) (bs : List (BitVec 8)) : HS := bs.foldl feed h
theorem writeOf_append (h : HS) (a b : List (BitVec 8)) : writeOf h (a ++ b) = writeOf (writeOf h a) b := List.foldl_append
theorem writeOf_nil (h : HS) : writeOf h [] = h := rfl
theorem feed_n (h : HS) (b : BitVec 8) : (feed h b).n = h.n + 1 := by unfold feed; split <;> rfl
theorem feed_blk (h : HS) (b : BitVec 8) : (feed h b).blk = h.blk.set (h.n % 64) b := by unfold feed; split <;> rfl
theorem writeOf_n (h : HS) (bs : List (BitVec 8)) : (writeOf h bs).n = h.n + bs.length := by
  induction bs generalizing h with
  | nil => rfl
  | cons b r ih => rw [writeOf, List.foldl_cons, ← writeOf, ih, feed_n]; simp; omega
theorem writeOf_blk_length (h : HS) (bs : List (BitVec 8)) : (writeOf h bs).blk.length = h.blk.length := by
  induction bs generalizing h with
  | nil => rfl
  | cons b r ih => rw [writeOf, List.foldl_cons, ← writeOf, ih, feed_blk]; simp
/-- A piece that goes into the block. -/
theorem writeOf_chunk (h : HS) (bs : List (BitVec 8)) (hb : h.blk.length = 64) (hne : bs ≠ []) (hfit : h.n % 64 + bs.length ≤ 64) :
    writeOf h bs = if (h.n + bs.length) % 64 = 0 then ⟨mixOf h.s (splice h.blk (h.n % 64) bs), splice h.blk (h.n % 64) bs, h.n + bs.length⟩ else ⟨h.s, splice h.blk (h.n % 64) bs, h.n + bs.length⟩ := by
  induction bs generalizing h with
  | nil => exact absurd rfl hne
  | cons b r ih =>
    simp only [List.length_cons] at hfit
    rw [writeOf, List.foldl_cons, ← writeOf]
    by_cases hr : r = []
    · subst hr
      rw [splice_cons _ _ _ _ (by simp; omega), splice_nil]; rfl
    · have hrl : 0 < r.length := List.length_pos_iff.2 hr
      have hlt : ¬ (h.n + 1) % 64 = 0 := by omega
      have hm : (h.n + 1) % 64 = h.n % 64 + 1 := by omega
      have hf : feed h b = ⟨h.s, h.blk.set (h.n % 64) b, h.n + 1⟩ := by unfold feed; rw [if_neg hlt]
      rw [hf, ih ⟨h.s, h.blk.set (h.n % 64) b, h.n + 1⟩ (by simp [hb]) hr (by show (h.n + 1) % 64 + r.length ≤ 64; omega)]
      simp only [hm, List.length_cons]
      rw [splice_cons _ _ _ _ (by omega), show h.n + 1 + r.length = h.n + (r.length + 1) by omega]
end Go.Proofs.YtgfmjfpafpmghaaDoor
