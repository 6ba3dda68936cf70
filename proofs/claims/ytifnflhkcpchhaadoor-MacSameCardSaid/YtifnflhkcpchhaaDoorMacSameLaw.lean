/-
  The walk of the law MacSame: for any two codes it returns true, and nothing that was there changes.
-/
import Derived.Test.YtifnflhkcpchhaaDoorMacKn
import Derived.StillTailTactics
namespace Go.Proofs.YtifnflhkcpchhaaDoor
open Go.RowKit Go.Proofs.ShaWords

/-- The first k bytes turned, noughts behind them. -/
def bTo (a t : List (BitVec 8)) (k : Nat) : List (BitVec 8) := (List.range k).map (fun i => a.getD i 0#8 ^^^ t.getD i 0#8) ++ List.replicate (32 - k) 0#8
def zt (t : List (BitVec 8)) (k : Nat) : Bool := (List.range k).all fun i => n8 (t.getD i 0#8) == 0
theorem bTo_zero (a t : List (BitVec 8)) : bTo a t 0 = noughts 32 := by simp [bTo, noughts]
theorem bTo_length (a t : List (BitVec 8)) (k : Nat) (hk : k ≤ 32) : (bTo a t k).length = 32 := by simp [bTo]; omega
theorem bTo_succ (a t : List (BitVec 8)) (k : Nat) (hk : k < 32) : (bTo a t k).set k (a.getD k 0#8 ^^^ t.getD k 0#8) = bTo a t (k + 1) := by
  unfold bTo
  obtain ⟨m, hm⟩ : ∃ m, 32 - k = m + 1 := ⟨31 - k, by omega⟩
  rw [List.set_append_right _ _ (by simp), hm, show 32 - (k + 1) = m by omega]
  simp [List.range_succ, List.replicate_succ]
theorem zt_succ (t : List (BitVec 8)) (k : Nat) : zt t (k + 1) = (zt t k && (n8 (t.getD k 0#8) == 0)) := by simp [zt, List.range_succ]
theorem n8_zero_iff (x : BitVec 8) : (n8 x == 0) = true ↔ x = 0#8 := by
  rw [beq_iff_eq]
  exact ⟨fun h => n8_inj (h.trans rfl), fun h => by rw [h]; rfl⟩
theorem same_bTo (a t : List (BitVec 8)) (ha : a.length = 32) : sameB a (bTo a t 32) = zt t 32 := by
  rw [Bool.eq_iff_iff, sameB, decide_eq_true_eq]
  have hb : bTo a t 32 = (List.range 32).map (fun i => a.getD i 0#8 ^^^ t.getD i 0#8) := by simp [bTo]
  unfold zt
  rw [List.all_eq_true, hb]
  constructor
  · intro h i hi
    have hi' : i < 32 := List.mem_range.1 hi
    rw [n8_zero_iff]
    have h1 : a.getD i 0#8 = a.getD i 0#8 ^^^ t.getD i 0#8 := by
      have h2 := congrArg (fun l : List (BitVec 8) => l.getD i 0#8) h
      simpa [List.getD, hi', ha] using h2
    have h3 := congrArg (a.getD i 0#8 ^^^ ·) h1
    simpa [← BitVec.xor_assoc] using h3.symm
  · intro h
    apply List.ext_getElem (by simp [ha])
    intro i h1 h2
    have h3 := (n8_zero_iff _).1 (h i (List.mem_range.2 (by omega)))
    simp only [List.getElem_map, List.getElem_range]
    rw [h3]
    simp [List.getD, h1]
theorem sameB_comm (a b : List (BitVec 8)) : sameB a b = sameB b a := by
  unfold sameB; rw [Bool.eq_iff_iff, decide_eq_true_eq, decide_eq_true_eq]; exact eq_comm
theorem cell_bytes {w : World} {g : Nat} {t : TypeId} {l : List (BitVec 8)} (h : BytesAt w g t l) (k : Nat) (hk : k < l.length) : w.cell? ⟨g, k, none⟩ = some (.int .u8 (n8 (l.getD k 0#8))) := by
  have := h.range k (.int .u8 (n8 (l.getD k 0#8))) (by simp [bytesV, List.getD, hk])
  rwa [Nat.zero_add] at this
theorem BytesAt.frozen {w : World} {g : Nat} {t : TypeId} {l : List (BitVec 8)} (h : BytesAt w g t l) (k : Nat) : w.frozen? ⟨g, k, none⟩ = false := frozen_of_row _ _ _ _ _ h
theorem BytesAt.set {w : World} {g : Nat} {t : TypeId} {l : List (BitVec 8)} (h : BytesAt w g t l) (k : Nat) (x : BitVec 8) : BytesAt (w.setCell ⟨g, k, none⟩ (.int .u8 (n8 x))) g t (l.set k x) := setCell_bytes h x
theorem BytesAt.setOther {w : World} {g g' : Nat} {t : TypeId} {l : List (BitVec 8)} (h : BytesAt w g t l) (hne : g ≠ g') (k : Nat) (v : Value) : BytesAt (w.setCell ⟨g', k, none⟩ v) g t l := (heap_setCell_other _ _ _ _ (fun e => hne e)).trans h

structure SameW (w : World) (a t l : List (BitVec 8)) (wr : World) : Prop where
  at0 : BytesAt wr w.heap.size 31 a
  at1 : BytesAt wr (w.heap.size + 1) 31 t
  at2 : BytesAt wr (w.heap.size + 1 + 1) 31 l
  below : Below w.heap.size w wr
theorem SameW.on {w wr w' : World} {a t l : List (BitVec 8)} (h : SameW w a t l wr) (hb : Below wr.heap.size wr w') : SameW w a t l w' :=
  ⟨h.at0.keep hb, h.at1.keep hb, h.at2.keep hb, h.below.trans (hb.mono (by have := h.at0.size; omega))⟩
theorem SameW.put {w wr : World} {a t l : List (BitVec 8)} (h : SameW w a t l wr) (k : Nat) (x : BitVec 8) : SameW w a t (l.set k x) (wr.setCell ⟨w.heap.size + 1 + 1, k, none⟩ (.int .u8 (n8 x))) :=
  ⟨h.at0.setOther (by omega) _ _, h.at1.setOther (by omega) _ _, h.at2.set _ _, h.below.setCell (by show w.heap.size ≤ w.heap.size + 1 + 1; omega) _⟩

attribute [local irreducible] bTo zt
set_option maxRecDepth 100000 in
set_option maxHeartbeats 1000000 in
theorem macSameLaw_any (a t : List (BitVec 8)) (w : World) (ha : a.length = 32) (ht : t.length = 32) (hk : Consts w) (hs : Starts w) :
    Calls Tryd.prog 7 #[.agg (bytesV a).toArray, .agg (bytesV t).toArray] w fun e w' => e = .returned (.bool true) ∧ Below w.heap.size w w' := by
  have hs1 := hk.size
  have HK := Lib.hid hk; clear hk
  have HS := Lib.hid hs; clear hs
  have HA := Lib.hid ha; clear ha
  have HT := Lib.hid ht; clear ht
  have HZ0 : Hid (zt t 0 = true) := show _ = _ by unfold zt; rfl
  go_enter Tryd.func7, Tryd.ntmps7
  go_wp2_with fail
  refine wp_gen (SameW w a t (bTo a t 0)) ⟨?_, ?_, ?_, ?_⟩ ?_
  · exact BytesAt.keep (w := w.alloc _) (heap_alloc_new w _) (((Below.refl _ _).alloc (Nat.le_refl _) _).alloc (by simp) _)
  · exact BytesAt.keep (w := (w.alloc _).alloc _) (heap_new_at (size_alloc _ _)) ((Below.refl _ _).alloc (Nat.le_refl _) _)
  · rw [bTo_zero]
    show _ = some (Obj.cells (bytesV (List.replicate 32 0#8)).toArray _ _)
    rw [noughts32]; exact heap_new_at (by rw [size_alloc, size_alloc])
  · exact (((Below.refl _ _).alloc (Nat.le_refl _) _).alloc (by rw [size_alloc]; omega) _).alloc (by rw [size_alloc, size_alloc]; omega) _
  intro w1 hw1
  have HW1 := Lib.hid hw1; clear hw1
  go_loopw [6, 7] (fun s i wr => ∃ k : Nat, k ≤ 32 ∧ i = .int .i64 (k : Int) ∧ s = .bool (zt t k) ∧ SameW w a t (bTo a t k) wr) (fun _ i _ => 32 - (intOf i).toNat)
  case atStart => exact ⟨0, by omega, rfl, by rw [HZ0.out], HW1.out⟩
  case round =>
    clear HW1 HZ0
    obtain ⟨k, hk, rfl, rfl, hw⟩ := hrel
    by_cases hlt : k < 32
    · have ca := cell_bytes hw.at0 k (by rw [HA.out]; exact hlt)
      have ct := cell_bytes hw.at1 k (by rw [HT.out]; exact hlt)
      have cb := cell_bytes hw.at2 k (by rw [bTo_length _ _ _ hk]; exact hlt)
      have fb := hw.at2.frozen k
      have HN := Lib.hid (hw.put k (a.getD k 0#8 ^^^ t.getD k 0#8))
      rw [bTo_succ _ _ _ hlt] at HN
      have HZS := Lib.hid (zt_succ t k)
      generalize a.getD k 0#8 = x at ca HN
      generalize t.getD k 0#8 = y at ct HN HZS
      generalize (bTo a t k).getD k 0#8 = z at cb
      have hx1 := xor8 x y
      have q0 : (k : Int) < 32 := by omega
      clear hw
      generalize hz : zt t k = b at HZS ⊢
      clear hz
      cases b
      · go_wp2_with fail
        go_still_tail 9, (by kernel_rfl)
        change wpList _ _ _ _ _ wr.drew
        go_wp2_with fail
        exact ⟨⟨k + 1, by omega, by go_num, by rw [HZS.out]; rfl, HN.out.on ((Below.refl _ _).drew)⟩, by simp [intOf]; omega⟩
      · go_wp2_with fail
        go_still_tail 9, (by kernel_rfl)
        change wpList _ _ _ _ _ wr.drew
        go_wp2_with fail
        exact ⟨⟨k + 1, by omega, by go_num, by rw [HZS.out]; rfl, HN.out.on ((Below.refl _ _).drew)⟩, by simp [intOf]; omega⟩
    · obtain rfl : k = 32 := by omega
      have hbl := bTo_length a t 32 (by omega)
      have HI0 := Lib.hid (info32 _ HA.out)
      have HI2 := Lib.hid (info32 _ hbl)
      have HBL := Lib.hid hbl
      have HSA := Lib.hid (same_bTo a t HA.out)
      have HSB := Lib.hid ((sameB_comm (bTo a t 32) a).trans (same_bTo a t HA.out))
      clear hbl
      generalize bTo a t 32 = b at hw HI2 HBL HSA HSB
      generalize zt t 32 = z at HSA HSB ⊢
      have HW := Lib.hid hw; clear hw hlt hk
      go_wp2_with (first
        | (refine wpList_load_g (by rfl) 31 (.tmp 2) rfl w.heap.size rfl 31 (bytesV a).toArray (0, 0) _ HW.out.at0 Tryd.underlying31 rfl HI0.out ?_)
        | (refine wpList_load_g (by rfl) 31 (.tmp 5) rfl (w.heap.size + 1 + 1) rfl 31 (bytesV b).toArray (0, 0) _ HW.out.at2 Tryd.underlying31 rfl HI2.out ?_))
      refine (macSame_any a b wr HA.out HBL.out).mono ?_
      rintro e w3 ⟨rfl, hb3⟩
      rw [HSA.out]
      have HW3 := Lib.hid (HW.out.on hb3); clear hb3 HW
      go_wp2_with (first
        | (refine wpList_load_g (by rfl) 31 (.tmp 2) rfl w.heap.size rfl 31 (bytesV a).toArray (0, 0) _ HW3.out.at0 Tryd.underlying31 rfl HI0.out ?_)
        | (refine wpList_load_g (by rfl) 31 (.tmp 5) rfl (w.heap.size + 1 + 1) rfl 31 (bytesV b).toArray (0, 0) _ HW3.out.at2 Tryd.underlying31 rfl HI2.out ?_))
      refine (macSame_any b a w3 HBL.out HA.out).mono ?_
      rintro e w4 ⟨rfl, hb4⟩
      rw [HSB.out]
      have HW4 := Lib.hid (HW3.out.on hb4); clear hb4 HW3
      go_wp2_with (first
        | (refine wpList_load_g (by rfl) 31 (.tmp 2) rfl w.heap.size rfl 31 (bytesV a).toArray (0, 0) _ HW4.out.at0 Tryd.underlying31 rfl HI0.out ?_)
        | (refine wpList_load_g (by rfl) 31 (.tmp 5) rfl (w.heap.size + 1 + 1) rfl 31 (bytesV b).toArray (0, 0) _ HW4.out.at2 Tryd.underlying31 rfl HI2.out ?_))
      refine (macSame_any a a w4 HA.out HA.out).mono ?_
      rintro e w5 ⟨rfl, hb5⟩
      rw [sameB_self]
      have HW5 := Lib.hid (HW4.out.on hb5); clear hb5 HW4
      go_wp2_with fail
      refine (known_any w5 (HK.out.below HW5.out.below hs1) (HS.out.below HW5.out.below (by omega))).mono ?_
      rintro e w6 ⟨rfl, hb6⟩
      have HW6 := Lib.hid (HW5.out.on hb6); clear hb6 HW5
      go_wp2_with fail
      go_ret
      exact ⟨rfl, HW6.out.below⟩
end Go.Proofs.YtifnflhkcpchhaaDoor
