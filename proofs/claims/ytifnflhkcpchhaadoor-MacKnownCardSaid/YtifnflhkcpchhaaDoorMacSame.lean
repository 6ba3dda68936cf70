/-
  The contract of mac.Same: for any two codes it tells whether they are equal; nothing that was there changes.
-/
import Derived.Test.YtifnflhkcpchhaaDoorBytes
namespace Go.Proofs.YtifnflhkcpchhaaDoor
open Go.RowKit Go.Proofs.ShaWords

theorem or8 (x y : BitVec 8) : bits .or .u8 (n8 x) (n8 y) = n8 (x ||| y) := by
  unfold n8; rw [u8_or_nat _ _ (by have := x.isLt; omega) (by have := y.isLt; omega), BitVec.toNat_or]
theorem xor8 (x y : BitVec 8) : bits .xor .u8 (n8 x) (n8 y) = n8 (x ^^^ y) := by
  unfold n8; rw [u8_xor_nat _ _ (by have := x.isLt; omega) (by have := y.isLt; omega), BitVec.toNat_xor]

/-- The bits in which the first k bytes differ. -/
def dif (a b : List (BitVec 8)) (k : Nat) : BitVec 8 := (List.range k).foldl (fun x i => x ||| (a.getD i 0#8 ^^^ b.getD i 0#8)) 0#8
theorem dif_succ (a b : List (BitVec 8)) (k : Nat) : dif a b (k + 1) = dif a b k ||| (a.getD k 0#8 ^^^ b.getD k 0#8) := by simp [dif, List.range_succ]
theorem or_zero8 (x y : BitVec 8) : x ||| y = 0#8 ↔ x = 0#8 ∧ y = 0#8 := by
  constructor
  · intro h
    have h1 : ∀ i, (x.getLsbD i || y.getLsbD i) = false := fun i => by rw [← BitVec.getLsbD_or, h]; simp
    refine ⟨?_, ?_⟩ <;> (apply BitVec.eq_of_getLsbD_eq; intro i hi; have := h1 i; simp at this ⊢; first | exact this.1 | exact this.2)
  · rintro ⟨rfl, rfl⟩; rfl
theorem xor_zero8 (x y : BitVec 8) : x ^^^ y = 0#8 ↔ x = y := by
  constructor
  · intro h
    have := congrArg (· ^^^ y) h
    simpa [BitVec.xor_assoc] using this
  · rintro rfl; simp
theorem dif_zero (a b : List (BitVec 8)) : ∀ k, dif a b k = 0#8 ↔ ∀ i, i < k → a.getD i 0#8 = b.getD i 0#8
  | 0 => by simp [dif]
  | k + 1 => by
    rw [dif_succ, or_zero8, dif_zero a b k, xor_zero8]
    constructor
    · rintro ⟨h1, h2⟩ i hi
      by_cases e : i = k
      · rw [e]; exact h2
      · exact h1 i (by omega)
    · intro h; exact ⟨fun i hi => h i (by omega), h k (by omega)⟩
/-- Are they the same? -/
def sameB (a b : List (BitVec 8)) : Bool := decide (a = b)
theorem sameB_self (a : List (BitVec 8)) : sameB a a = true := by simp [sameB]
theorem dif_same (a b : List (BitVec 8)) (n : Nat) (ha : a.length = n) (hb : b.length = n) : (n8 (dif a b n) == 0) = sameB a b := by
  have e : (n8 (dif a b n) == 0) = decide (dif a b n = 0#8) := by
    rw [Bool.eq_iff_iff, beq_iff_eq, decide_eq_true_eq]
    constructor
    · intro h; exact n8_inj (h.trans rfl)
    · intro h; rw [h]; rfl
  rw [e, sameB, Bool.eq_iff_iff, decide_eq_true_eq, decide_eq_true_eq, dif_zero]
  constructor
  · intro h
    apply List.ext_getElem (by omega)
    intro i h1 h2
    have := h i (by omega)
    simpa [List.getD, h1, h2] using this
  · rintro rfl i _; rfl

attribute [local irreducible] dif
set_option maxRecDepth 100000 in
set_option maxHeartbeats 1000000 in
theorem macSame_any (a b : List (BitVec 8)) (w : World) (ha : a.length = 32) (hb : b.length = 32) :
    Calls Tryd.prog 32 #[.agg (bytesV a).toArray, .agg (bytesV b).toArray] w fun e w' => e = .returned (.bool (sameB a b)) ∧ Below w.heap.size w w' := by
  have HA := Lib.hid ha; clear ha
  have HB := Lib.hid hb; clear hb
  have HD0 : Hid (n8 (dif a b 0) = 0) := show _ = _ by unfold dif; rfl
  go_enter Tryd.func32, Tryd.ntmps32
  go_wp2_with fail
  refine wp_gen (fun w1 => w1.rangeAt w.heap.size 0 (bytesV a) ∧ w1.rangeAt (w.heap.size + 1) 0 (bytesV b) ∧ Below w.heap.size w w1) ⟨?_, ?_, ?_⟩ ?_
  · exact range_keep (range_bytesV (heap_alloc_new w (.cells (bytesV a).toArray 31))) ((Below.refl _ _).alloc (Nat.le_refl _) _)
  · have h := range_bytesV (heap_alloc_new (w.alloc (.cells (bytesV a).toArray 31)) (.cells (bytesV b).toArray 31))
    rw [size_alloc] at h; exact h
  · exact ((Below.refl _ _).alloc (Nat.le_refl _) _).alloc (by rw [size_alloc]; omega) _
  rintro w1 ⟨ra, rb, bel⟩
  have HRA := Lib.hid ra; have HRB := Lib.hid rb; have HBE := Lib.hid bel
  clear ra rb bel
  go_loopw [5, 6, 7] (fun d _ i wr => ∃ k : Nat, k ≤ 32 ∧ i = .int .i64 (k : Int) ∧ d = .int .u8 (n8 (dif a b k)) ∧ Below w1.heap.size w1 wr) (fun _ _ i _ => 32 - (intOf i).toNat)
  case atStart => exact ⟨0, by omega, rfl, by rw [HD0.out], Below.refl _ _⟩
  case round =>
    obtain ⟨k, hk, rfl, rfl, hb⟩ := hrel
    by_cases hlt : k < 32
    · have ca := range_keep HRA.out hb k (.int .u8 (n8 (a.getD k 0#8))) (by simp [bytesV, List.getD, HA.out, hlt])
      have cb := range_keep HRB.out hb k (.int .u8 (n8 (b.getD k 0#8))) (by simp [bytesV, List.getD, HB.out, hlt])
      rw [Nat.zero_add] at ca cb
      have HDS := Lib.hid (dif_succ a b k)
      generalize a.getD k 0#8 = x at ca HDS
      generalize b.getD k 0#8 = y at cb HDS
      have HBB := Lib.hid hb; clear hb
      have q0 : (k : Int) < 32 := by omega
      have hx1 := xor8 x y
      have hx2 := or8 (dif a b k) (x ^^^ y)
      go_wp2_with fail
      go_quiet (fail)
      go_wp2_with fail
      exact ⟨⟨k + 1, by omega, by go_num, by rw [HDS.out], HBB.out.trans ⟨rfl, rfl, rfl, Nat.le_refl _, fun _ _ => rfl⟩⟩, by simp [intOf]; omega⟩
    · have HK : Hid (k = 32) := show k = 32 by omega
      have HBB := Lib.hid (HBE.out.trans (hb.mono HBE.out.size)); clear hb
      go_wp2_with fail
      go_ret
      refine ⟨?_, HBB.out⟩
      rw [HK.out]
      show Ending.returned (.bool (n8 (dif a b 32) == 0)) = _
      rw [dif_same a b 32 HA.out HB.out]
end Go.Proofs.YtifnflhkcpchhaaDoor
