/-
  What the laws of layer 3 share: what they have boxed; chacha.Xor by its length; bytes combined twice.
-/
import Derived.Test.YtagkkihnfipfeaaDoorCcWorks
import Derived.Test.YtagkkihnfipfeaaDoorCcXor
import Derived.Deep.CutRange
namespace Go.Proofs.YtagkkihnfipfeaaDoor
open Go.RowKit Go.Proofs.ShaWords

theorem xorKs_twice (key : List (BitVec 8)) (c : BitVec 32) (nonce bs : List (BitVec 8)) : xorKs key c nonce (xorKs key c nonce bs) = bs := by
  apply List.ext_getElem?
  intro i
  by_cases hi : i < bs.length
  · have h1 : i < (xorKs key c nonce bs).length := by rw [xorKs_length]; exact hi
    have h2 : i < (xorKs key c nonce (xorKs key c nonce bs)).length := by rw [xorKs_length]; exact h1
    have e := xorKs_get key c nonce (xorKs key c nonce bs) i h1
    rw [xorKs_get key c nonce bs i hi, BitVec.xor_assoc, BitVec.xor_self, BitVec.xor_zero] at e
    simp only [List.getD, List.getElem?_eq_getElem h2, List.getElem?_eq_getElem hi, Option.getD_some] at e
    rw [List.getElem?_eq_getElem h2, List.getElem?_eq_getElem hi, e]
  · rw [List.getElem?_eq_none (by rw [xorKs_length, xorKs_length]; omega), List.getElem?_eq_none (by omega)]
/-- What a law of layer 3 has boxed: the key, the nonce. -/
structure TwoW (w : World) (key nonce : List (BitVec 8)) (wr : World) : Prop where
  key : BytesAt wr w.heap.size 23 key
  nonce : BytesAt wr (w.heap.size + 1) 25 nonce
  below : Below w.heap.size w wr
theorem TwoW.on {w wr w' : World} {key nonce : List (BitVec 8)} (h : TwoW w key nonce wr) (hb : Below wr.heap.size wr w') : TwoW w key nonce w' := ⟨h.key.keep hb, h.nonce.keep hb, h.below.trans (hb.mono h.below.size)⟩
theorem two_start (w : World) (key nonce : List (BitVec 8)) : TwoW w key nonce ((w.alloc (.cells (bytesV key).toArray 23)).alloc (.cells (bytesV nonce).toArray 25)) :=
  ⟨BytesAt.keep (w := w.alloc _) (heap_alloc_new w _) ((Below.refl _ _).alloc (Nat.le_refl _) _), heap_new_at (size_alloc _ _), ((Below.refl _ _).alloc (Nat.le_refl _) _).alloc (by rw [size_alloc]; omega) _⟩
theorem ccXor_len (key nonce bs : List (BitVec 8)) (n : Nat) (c : BitVec 32) (p : Option Addr) (cap : Nat) (w : World) (hbn : bs.length = n) (hk : key.length = 32) (hn : nonce.length = 12) (hl : n ≤ 1000000) (hL : Lies w p bs) (hq : Quads w) :
    Calls Tryd.prog 21 #[.agg (bytesV key).toArray, .int .u32 (n32 c), .agg (bytesV nonce).toArray, .slice p n cap] w
      fun e w' => ∃ q cq, e = .returned (.slice q n cq) ∧ n ≤ cq ∧ Own w.heap.size w' (xorKs key c nonce bs) (.slice q n cq) ∧ Below w.heap.size w w' := by
  subst hbn
  refine (ccXor_any key nonce bs c p cap w hk hn hl hL hq).mono ?_
  rintro e w' ⟨v, rfl, ho, hb⟩
  obtain ⟨q, cq, rfl, h1, h2, -⟩ := ho.lies
  rw [xorKs_length] at ho h1 ⊢
  exact ⟨q, cq, rfl, h1, ho, hb⟩
theorem Own.liesOf {B : Nat} {w : World} {l : List (BitVec 8)} {p : Option Addr} {n c : Nat} (h : Own B w l (.slice p n c)) : Lies w p l := by
  obtain ⟨p', c', h1, -, -, h2⟩ := h.lies
  cases h1; exact h2

end Go.Proofs.YtagkkihnfipfeaaDoor
