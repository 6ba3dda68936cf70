/-
  The contract of mac.pass: a block combined with a byte, and bytes behind it, are written to the hash whose Write came in; nothing else that was there changes.
-/
import Derived.Test.YtifnflhkcpchhaaDoorMacSame
import Derived.Test.YtifnflhkcpchhaaDoorCap
import Derived.Laws.OwnMore
namespace Go.Proofs.YtifnflhkcpchhaaDoor
open Go.RowKit Go.Proofs.ShaWords

/-- A block whose first k bytes are combined with a byte. -/
def xorTo (blk : List (BitVec 8)) (p : BitVec 8) (k : Nat) : List (BitVec 8) := (blk.take k).map (· ^^^ p) ++ blk.drop k
def xorAll (blk : List (BitVec 8)) (p : BitVec 8) : List (BitVec 8) := blk.map (· ^^^ p)
theorem xorTo_zero (blk : List (BitVec 8)) (p : BitVec 8) : xorTo blk p 0 = blk := by simp [xorTo]
theorem xorTo_full (blk : List (BitVec 8)) (p : BitVec 8) (n : Nat) (h : blk.length = n) : xorTo blk p n = xorAll blk p := by subst h; simp [xorTo, xorAll]
theorem xorTo_length (blk : List (BitVec 8)) (p : BitVec 8) (k : Nat) (hk : k ≤ blk.length) : (xorTo blk p k).length = blk.length := by simp [xorTo]; omega
theorem xorAll_length (blk : List (BitVec 8)) (p : BitVec 8) : (xorAll blk p).length = blk.length := by simp [xorAll]
theorem xorTo_get (blk : List (BitVec 8)) (p : BitVec 8) (k : Nat) (hk : k < blk.length) : (xorTo blk p k)[k]? = some (blk.getD k 0#8) := by
  simp [xorTo, List.getElem?_append, List.getD, hk, Nat.min_eq_left (Nat.le_of_lt hk)]
theorem xorTo_succ (blk : List (BitVec 8)) (p : BitVec 8) (k : Nat) (hk : k < blk.length) : (xorTo blk p k).set k (blk.getD k 0#8 ^^^ p) = xorTo blk p (k + 1) := by
  unfold xorTo
  rw [List.set_append_right _ _ (by simp; omega), List.take_succ_eq_append_getElem hk, List.map_append, List.append_assoc, List.length_map, List.length_take, Nat.min_eq_left (by omega), Nat.sub_self,
    show blk.drop k = blk[k] :: blk.drop (k + 1) from (List.getElem_cons_drop (h := hk)).symm, List.set_cons_zero]
  rw [show blk.getD k 0#8 = blk[k] by simp [List.getD, hk]]
  rfl
theorem setCell_bytes {w : World} {g : Nat} {l : List (BitVec 8)} {t : TypeId} {k : Nat} (h : w.heap[g]? = some (.cells (bytesV l).toArray t (0, 0))) (x : BitVec 8) :
    (w.setCell ⟨g, k, none⟩ (.int .u8 (n8 x))).heap[g]? = some (.cells (bytesV (l.set k x)).toArray t (0, 0)) := by
  rw [heap_setCell_same _ _ _ _ _ _ h, List.setIfInBounds_toArray]
  simp [bytesV, List.map_set]

theorem write_len (n : Nat) (g : Nat) (h : HS) (bs : List (BitVec 8)) (p : Option Addr) (cap : Nat) (w : World) (hbn : bs.length = n) (ha : HashAt w g h) (hr : Reads w g p bs) (hcap : n ≤ cap) (hcm : cap ≤ 9223372036854775807)
    (hn : h.n + n < 1099511627776) (hk : Consts w) (hg : g ≠ 1) :
    Calls Tryd.prog 12 #[.pointer (some ⟨g, 0, none⟩), .slice p n cap] w fun e w' => e = .returned (.tuple #[]) ∧ HashAt w' g (writeOf h bs) ∧ w.grownBy w' (some g) := by
  subst hbn; exact write_cap g h bs p cap w ha hr hcap hcm hn hk hg
theorem Reads.on {w w' : World} {g : Nat} {p : Option Addr} {bs : List (BitVec 8)} (h : Reads w g p bs) (hb : Below w.heap.size w w') : Reads w' g p bs := by
  rcases h with h | ⟨b, off, hp, hne, hr⟩
  · exact Or.inl h
  · exact Or.inr ⟨b, off, hp, hne, range_keep hr hb⟩
theorem Reads.past {w w' : World} {g : Nat} {p : Option Addr} {bs : List (BitVec 8)} (h : Reads w g p bs) (hb : w.grownBy w' (some g)) : Reads w' g p bs := by
  rcases h with h | ⟨b, off, hp, hne, hr⟩
  · exact Or.inl h
  · exact Or.inr ⟨b, off, hp, hne, Reads.grown hr hb hne⟩
theorem grown_of_below {w w' : World} (hb : Below w.heap.size w w') (r : Option Nat) : w.grownBy w' r := grown_below hb (Nat.le_refl _) r
attribute [local irreducible] writeOf xorTo xorAll
set_option maxRecDepth 100000 in
set_option maxHeartbeats 1000000 in
theorem pass_any (g : Nat) (h : HS) (blk bs : List (BitVec 8)) (pd : BitVec 8) (p : Option Addr) (cap : Nat) (w : World) (hl : blk.length = 64) (ha : HashAt w g h) (hr : Reads w g p bs) (hcap : bs.length ≤ cap)
    (hcm : cap ≤ 9223372036854775807) (hn : h.n + 64 + bs.length < 1099511627776) (hk : Consts w) (hg : g ≠ 1) :
    Calls Tryd.prog 52 #[.func (.func 12) #[.pointer (some ⟨g, 0, none⟩)] #[], .agg (bytesV blk).toArray, .int .u8 (n8 pd), .slice p bs.length cap] w
      fun e w' => e = .returned (.tuple #[]) ∧ HashAt w' g (writeOf h (xorAll blk pd ++ bs)) ∧ w.grownBy w' (some g) := by
  have HL := Lib.hid hl; clear hl
  have HG := Lib.hid hg; clear hg
  have HK := Lib.hid hk; clear hk
  have HA := Lib.hid ha; clear ha
  have HR := Lib.hid hr; clear hr
  have HF := Lib.hid (xorTo_full blk pd 64 HL.out)
  go_enter Tryd.func52, Tryd.ntmps52
  go_wp2_with fail
  refine wp_gen (fun w1 => w1.heap[w.heap.size]? = some (.cells (bytesV (xorTo blk pd 0)).toArray 52 (0, 0)) ∧ Below w.heap.size w w1) ⟨by rw [xorTo_zero]; exact heap_alloc_new w _, (Below.refl _ _).alloc (Nat.le_refl _) _⟩ ?_
  rintro w1 ⟨h1, bel⟩
  have HB1 := Lib.hid h1; have HBE := Lib.hid bel
  clear h1 bel
  go_loopw [8, 9] (fun _ i wr => ∃ k : Nat, k ≤ 64 ∧ i = .int .i64 (k : Int) ∧ wr.heap[w.heap.size]? = some (.cells (bytesV (xorTo blk pd k)).toArray 52 (0, 0)) ∧ Below w.heap.size w wr) (fun _ i _ => 64 - (intOf i).toNat)
  case atStart => exact ⟨0, by omega, rfl, HB1.out, HBE.out⟩
  case round =>
    clear HB1 HBE
    obtain ⟨k, hk, rfl, hrow, hb⟩ := hrel
    by_cases hlt : k < 64
    · have hc := cell_of_row wr w.heap.size k _ 52 (0, 0) hrow
      have hf := frozen_of_row wr w.heap.size k _ 52 hrow
      rw [List.getElem?_toArray, show (bytesV (xorTo blk pd k))[k]? = some (.int .u8 (n8 (blk.getD k 0#8))) by
        unfold bytesV; rw [List.getElem?_map, xorTo_get _ _ _ (by rw [HL.out]; exact hlt)]; rfl] at hc
      have HST := Lib.hid (setCell_bytes (k := k) hrow (blk.getD k 0#8 ^^^ pd))
      rw [xorTo_succ _ _ _ (by rw [HL.out]; exact hlt)] at HST
      generalize blk.getD k 0#8 = x at hc HST
      have HBB := Lib.hid (hb.setCell (Nat.le_refl _) (p := ⟨w.heap.size, k, none⟩) (.int .u8 (n8 (x ^^^ pd)))); clear hb hrow
      have q0 : (k : Int) < 64 := by omega
      have hx1 := xor8 x pd
      go_wp2_with fail
      exact ⟨⟨k + 1, by omega, by go_num, HST.out, HBB.out⟩, by simp [intOf]; omega⟩
    · obtain rfl : k = 64 := by omega
      rw [HF.out] at hrow
      have hxl : (xorAll blk pd).length = 64 := by rw [xorAll_length, HL.out]
      have hgs := HA.out.size
      have HRW := Lib.hid (range_bytesV hrow)
      have HXL := Lib.hid hxl
      have HBB := Lib.hid hb
      clear hb hrow hxl hlt hk
      generalize hX : xorAll blk pd = X at HRW HXL HF
      have HX := Lib.hid hX; clear hX
      go_wp2_with fail
      refine (write_len 64 g h X _ _ wr HXL.out (HA.out.keep HBB.out) (Or.inr ⟨w.heap.size, 0, rfl, by omega, HRW.out⟩) (by omega) (by omega) (by omega) (HK.out.below HBB.out HK.out.size) HG.out).mono ?_
      rintro e w2 ⟨rfl, ha2, hg2⟩
      have HG2 := Lib.hid hg2
      have HA2 := Lib.hid ha2
      have HR2 := Lib.hid ((HR.out.on HBB.out).past hg2)
      have HK2 := Lib.hid ((HK.out.below HBB.out HK.out.size).grown hg2 HG.out)
      have HN2 : Hid ((writeOf h X).n = h.n + 64) := show _ = _ by rw [writeOf_n, HXL.out]
      clear ha2 hg2
      go_wp2_with fail
      refine (write_cap g (writeOf h X) bs p cap w2 HA2.out HR2.out hcap hcm (by rw [HN2.out]; omega) HK2.out HG.out).mono ?_
      rintro e w3 ⟨rfl, ha3, hg3⟩
      have HA3 := Lib.hid ha3
      have HG3 := Lib.hid (grown_trans (grown_trans (grown_of_below HBB.out _) HG2.out) hg3)
      clear ha3 hg3
      go_wp2_with fail
      go_end0
      exact ⟨rfl, by rw [HX.out, writeOf_append]; exact HA3.out, HG3.out⟩
end Go.Proofs.YtifnflhkcpchhaaDoor
