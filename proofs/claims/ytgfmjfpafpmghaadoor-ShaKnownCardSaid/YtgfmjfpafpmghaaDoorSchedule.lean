/-
  The contract of sha.schedule: for every block of 64 bytes it returns the block's 64 words; nothing that was there changes.
-/
import Derived.Test.YtgfmjfpafpmghaaDoorTurned
import Derived.StillTailTactics
import Derived.IntWalk
import Derived.Laws.CopyOwn
import Derived.Laws.Rows
import Derived.Deep.QuietTactic
import Derived.BigQuiet
import Derived.Deep.RegionHeld3
namespace Go.Proofs.YtgfmjfpafpmghaaDoor
open Go.RowKit Go.Proofs.ShaWords
attribute [local go_sem] and32 or32 xor32 add32 shl32 shr32 wrap32_n8 wrap8_n32 shl32_8 shl32_16 shl32_24 shr32_3 shr32_8 shr32_10 shr32_16 shr32_24

/-- A word out of four bytes. -/
def wordOf (blk : List (BitVec 8)) (t : Nat) : BitVec 32 :=
  (ext (blk.getD (4 * t) 0#8) <<< 24) ||| (ext (blk.getD (4 * t + 1) 0#8) <<< 16) ||| (ext (blk.getD (4 * t + 2) 0#8) <<< 8) ||| ext (blk.getD (4 * t + 3) 0#8)
theorem wordOf_eq (blk : List (BitVec 8)) (t : Nat) (h : 4 * t + 3 < blk.length) : wordOf blk t = (ext blk[4 * t] <<< 24 ||| ext blk[4 * t + 1] <<< 16 ||| ext blk[4 * t + 2] <<< 8 ||| ext blk[4 * t + 3]) := by
  unfold wordOf
  have g : ∀ (j : Nat) (hj : j < blk.length), blk.getD j 0#8 = blk[j] := fun j hj => by simp [List.getD, hj]
  rw [g _ (by omega), g _ (by omega), g _ (by omega), g _ (by omega)]
/-- The word that follows. -/
def nextW (l : List (BitVec 32)) : BitVec 32 :=
  let t := l.length
  l.getD (t - 16) 0#32 + (rr (l.getD (t - 15) 0#32) 7 ^^^ rr (l.getD (t - 15) 0#32) 18 ^^^ l.getD (t - 15) 0#32 >>> 3) + l.getD (t - 7) 0#32 + (rr (l.getD (t - 2) 0#32) 17 ^^^ rr (l.getD (t - 2) 0#32) 19 ^^^ l.getD (t - 2) 0#32 >>> 10)
/-- n words more. -/
def spreadBy : Nat → List (BitVec 32) → List (BitVec 32)
  | 0, l => l
  | n + 1, l => spreadBy n (l ++ [nextW l])
def first16 (blk : List (BitVec 8)) : List (BitVec 32) := (List.range 16).map (wordOf blk)
def scheduleOf (blk : List (BitVec 8)) : List (BitVec 32) := spreadBy 48 (first16 blk)
theorem spreadBy_length (n : Nat) (l : List (BitVec 32)) : (spreadBy n l).length = l.length + n := by
  induction n generalizing l with
  | zero => rfl
  | succ n ih => rw [spreadBy, ih]; simp; omega
theorem spreadBy_snoc (n : Nat) (l : List (BitVec 32)) : spreadBy (n + 1) l = spreadBy n l ++ [nextW (spreadBy n l)] := by
  induction n generalizing l with
  | zero => rfl
  | succ n ih => rw [spreadBy, ih, ← spreadBy]
theorem first16_length (blk : List (BitVec 8)) : (first16 blk).length = 16 := by simp [first16]

/-- So many words, and noughts up to 64. -/
def fill64 (l : List (BitVec 32)) : List (BitVec 32) := l ++ List.replicate (64 - l.length) 0#32
theorem fill64_length (l : List (BitVec 32)) (h : l.length ≤ 64) : (fill64 l).length = 64 := by simp [fill64]; omega
theorem fill64_set (l : List (BitVec 32)) (x : BitVec 32) (h : l.length < 64) : (fill64 l).set l.length x = fill64 (l ++ [x]) := by
  unfold fill64
  obtain ⟨m, hm⟩ : ∃ m, 64 - l.length = m + 1 := ⟨63 - l.length, by omega⟩
  have hm' : 64 - (l ++ [x]).length = m := by simp; omega
  rw [hm, hm', List.set_append_right _ _ (Nat.le_refl _)]
  simp [List.replicate_succ]
theorem fill64_getElem (l : List (BitVec 32)) (j : Nat) (h : j < l.length) (h' : j < (fill64 l).length) : (fill64 l)[j] = l.getD j 0#32 := by
  simp [fill64, List.getElem_append_left h, h]
theorem fill64_full (l : List (BitVec 32)) (h : l.length = 64) : fill64 l = l := by simp [fill64, h]

def Sched (w : World) (blk : List (BitVec 8)) (cur : List (BitVec 32)) (wr : World) : Prop :=
  wr.heap[w.heap.size]? = some (.cells (bytesV blk).toArray 42 (0, 0)) ∧ wr.heap[w.heap.size + 1]? = some (.cells (wordsV (List.replicate 64 0#32)).toArray 91 (0, 0)) ∧
  wr.heap[w.heap.size + 1 + 1]? = some (.cells (wordsV (fill64 cur)).toArray 91 (0, 0)) ∧ Below w.heap.size w wr

theorem Sched.size {w wr : World} {blk : List (BitVec 8)} {cur : List (BitVec 32)} (h : Sched w blk cur wr) : w.heap.size + 1 + 1 < wr.heap.size := by
  obtain ⟨_, _, h, _⟩ := h
  exact (Array.getElem?_eq_some_iff.1 h).1
theorem Sched.set {w wr : World} {blk : List (BitVec 8)} {cur : List (BitVec 32)} (h : Sched w blk cur wr) (hk : cur.length < 64) (x : BitVec 32) (k : Nat) (hkk : k = cur.length) :
    Sched w blk (cur ++ [x]) (wr.setCell ⟨w.heap.size + 1 + 1, k, none⟩ (.int .u32 (n32 x))) := by
  subst hkk
  obtain ⟨h1, h2, h3, h4⟩ := h
  refine ⟨?_, ?_, ?_, h4.setCell (by show w.heap.size ≤ w.heap.size + 1 + 1; omega) _⟩
  · rw [heap_setCell_other _ _ _ _ (by show w.heap.size ≠ w.heap.size + 1 + 1; omega)]; exact h1
  · rw [heap_setCell_other _ _ _ _ (by show w.heap.size + 1 ≠ w.heap.size + 1 + 1; omega)]; exact h2
  · rw [heap_setCell_same _ _ _ _ _ _ h3, wordsV_set, fill64_set _ _ hk]
theorem Sched.drew {w wr : World} {blk : List (BitVec 8)} {cur : List (BitVec 32)} (h : Sched w blk cur wr) : Sched w blk cur wr.drew :=
  ⟨h.1, h.2.1, h.2.2.1, h.2.2.2.drew⟩
theorem Sched.alloc {w wr : World} {blk : List (BitVec 8)} {cur : List (BitVec 32)} (h : Sched w blk cur wr) (o : Obj) : Sched w blk cur (wr.alloc o) := by
  have hs := h.size
  refine ⟨?_, ?_, ?_, h.2.2.2.alloc (by omega) o⟩
  · rw [Below.heap_alloc _ _ _ (by omega)]; exact h.1
  · rw [Below.heap_alloc _ _ _ (by omega)]; exact h.2.1
  · rw [Below.heap_alloc _ _ _ (by omega)]; exact h.2.2.1
theorem Sched.cell {w wr : World} {blk : List (BitVec 8)} {cur : List (BitVec 32)} (h : Sched w blk cur wr) (j : Nat) (hj : j < cur.length) (hl : cur.length ≤ 64) :
    wr.cell? ⟨w.heap.size + 1 + 1, j, none⟩ = some (.int .u32 (n32 (cur.getD j 0#32))) := by
  rw [cell_wordsV h.2.2.1 (by rw [fill64_length _ hl]; omega), fill64_getElem _ _ hj]
theorem Sched.frozen {w wr : World} {blk : List (BitVec 8)} {cur : List (BitVec 32)} (h : Sched w blk cur wr) (j : Nat) : wr.frozen? ⟨w.heap.size + 1 + 1, j, none⟩ = false :=
  frozen_of_row _ _ _ _ _ h.2.2.1
theorem Sched.some {w wr : World} {blk : List (BitVec 8)} {cur : List (BitVec 32)} (h : Sched w blk cur wr) (j : Nat) (hj : j < 64) (hl : cur.length ≤ 64) :
    ∃ v, wr.cell? ⟨w.heap.size + 1 + 1, j, none⟩ = some v := ⟨_, cell_wordsV h.2.2.1 (j := j) (by rw [fill64_length _ hl]; omega)⟩

theorem words_noughts : (wordsV (List.replicate 64 0#32)).toArray = (List.replicate 64 (Value.int .u32 0)).toArray := by
  rw [wordsV, List.map_replicate]; rfl
theorem sched_start (w : World) (blk : List (BitVec 8)) : Sched w blk [] (((w.alloc (Obj.cells (bytesV blk).toArray 42)).alloc (Obj.cells (List.replicate 64 (Value.int .u32 0)).toArray 91)).alloc (Obj.cells (List.replicate 64 (Value.int .u32 0)).toArray 91)) := by
  rw [← words_noughts]
  generalize hz : (wordsV (List.replicate 64 0#32)).toArray = z
  have e : fill64 [] = List.replicate 64 0#32 := by simp [fill64]
  refine ⟨?_, ?_, ?_, (((Below.refl _ _).alloc (Nat.le_refl _) _).alloc (by rw [size_alloc]; omega) _).alloc (by rw [size_alloc, size_alloc]; omega) _⟩
  · rw [Below.heap_alloc _ _ _ (by rw [size_alloc, size_alloc]; omega), Below.heap_alloc _ _ _ (by rw [size_alloc]; omega)]; exact heap_new_at rfl
  · rw [Below.heap_alloc _ _ _ (by rw [size_alloc, size_alloc]; omega), hz]; exact heap_new_at (by rw [size_alloc])
  · rw [e, hz]; exact heap_new_at (by rw [size_alloc, size_alloc])

set_option maxRecDepth 100000 in
set_option maxHeartbeats 1000000 in
theorem schedule_any (blk : List (BitVec 8)) (w : World) (hl : blk.length = 64) :
    Calls Tryd.prog 58 #[.agg (bytesV blk).toArray] w fun e w' => e = .returned (.agg (wordsV (scheduleOf blk)).toArray) ∧ Below w.heap.size w w' := by
  have HL := Lib.hid hl; clear hl
  go_enter Tryd.func58, Tryd.ntmps58
  go_wp2
  go_loopw [4, 8] (fun _ i wr => ∃ k : Nat, k ≤ 16 ∧ i = .int .i64 k ∧ Sched w blk ((List.range k).map (wordOf blk)) wr) (fun _ i _ => 16 - (intOf i).toNat)
  case atStart =>
    refine ⟨0, by omega, rfl, ?_⟩
    exact sched_start w blk
  case round =>
    obtain ⟨k, hk, rfl, hs⟩ := hrel
    by_cases hlt : k < 16
    · have c0 := cell_bytesV hs.1 (j := 4 * k) (by rw [HL.out]; omega)
      have c1 := cell_bytesV hs.1 (j := 4 * k + 1) (by rw [HL.out]; omega)
      have c2 := cell_bytesV hs.1 (j := 4 * k + 2) (by rw [HL.out]; omega)
      have c3 := cell_bytesV hs.1 (j := 4 * k + 3) (by rw [HL.out]; omega)
      obtain ⟨v, cv⟩ := hs.some k (by omega) (by simp; omega)
      have cf := hs.frozen k
      have HE := Lib.hid (wordOf_eq blk k (by rw [HL.out]; omega))
      generalize blk[4 * k]'_ = b0 at c0 HE
      generalize blk[4 * k + 1]'_ = b1 at c1 HE
      generalize blk[4 * k + 2]'_ = b2 at c2 HE
      generalize blk[4 * k + 3]'_ = b3 at c3 HE
      have HS := Lib.hid hs; clear hs
      go_wp2_with fail
      have m0 : IntKind.i64.wrap (4 * (k : Int)) = 4 * (k : Int) := IntWalk.i64_in _ (by omega)
      have m1 : IntKind.i64.wrap (4 * (k : Int) + 1) = 4 * (k : Int) + 1 := IntWalk.i64_in _ (by omega)
      have m2 : IntKind.i64.wrap (4 * (k : Int) + 2) = 4 * (k : Int) + 2 := IntWalk.i64_in _ (by omega)
      have m3 : IntKind.i64.wrap (4 * (k : Int) + 3) = 4 * (k : Int) + 3 := IntWalk.i64_in _ (by omega)
      have n0 : (4 * (k : Int)).toNat = 4 * k := by omega
      have n1 : (4 * (k : Int) + 1).toNat = 4 * k + 1 := by omega
      have n2 : (4 * (k : Int) + 2).toNat = 4 * k + 2 := by omega
      have n3 : (4 * (k : Int) + 3).toNat = 4 * k + 3 := by omega
      have l0 : 4 * (k : Int) < 64 := by omega
      have l1 : 4 * (k : Int) + 1 < 64 := by omega
      have l2 : 4 * (k : Int) + 2 < 64 := by omega
      have l3 : 4 * (k : Int) + 3 < 64 := by omega
      have p0 : 0 ≤ 4 * (k : Int) := by omega
      have p1 : 0 ≤ 4 * (k : Int) + 1 := by omega
      have p2 : 0 ≤ 4 * (k : Int) + 2 := by omega
      have p3 : 0 ≤ 4 * (k : Int) + 3 := by omega
      have q0 : (k : Int) < 64 := by omega
      refine region_tail 31 (by kernel_rfl) (by kernel_rfl) ?_
      simp only [List.take_succ_cons, List.take_zero, List.drop_succ_cons, List.drop_zero]
      repeat still_step
      refine wpStill_nil ?_
      clear m0 m1 m2 m3 n0 n1 n2 n3 l0 l1 l2 l3 p0 p1 p2 p3
      go_wp2_with fail
      go_roundw
      case rel =>
        refine ⟨k + 1, by omega, by go_num, ?_⟩
        rw [List.range_succ, List.map_append, List.map_singleton, HE.out]
        exact (HS.out.set (by simp; omega) _ k (by simp)).drew
      case measure => simp [intOf]; omega
    · have HK : Hid (k = 16) := show k = 16 by omega
      have HS := Lib.hid hs; clear hs
      go_wp2_with fail
      go_loopw [5, 6, 7] (fun i _ _ wr => ∃ t : Nat, 16 ≤ t ∧ t ≤ 64 ∧ i = .int .i64 t ∧ Sched w blk (spreadBy (t - 16) (first16 blk)) wr) (fun i _ _ _ => 64 - (intOf i).toNat)
      case atStart => exact ⟨16, by omega, by omega, rfl, by have h := HS.out; rw [HK.out] at h; exact h⟩
      case round =>
        obtain ⟨t, ht, ht2, rfl, hs⟩ := hrel
        have hlen : (spreadBy (t - 16) (first16 blk)).length = t := by rw [spreadBy_length, first16_length]; omega
        by_cases hlt : t < 64
        · generalize hcur : spreadBy (t - 16) (first16 blk) = cur at hs hlen
          have HCUR := Lib.hid hcur; clear hcur
          have c15 := hs.cell (t - 15) (by omega) (by omega)
          have HN : Hid (nextW cur = cur.getD (t - 16) 0#32 + (rr (cur.getD (t - 15) 0#32) 7 ^^^ rr (cur.getD (t - 15) 0#32) 18 ^^^ cur.getD (t - 15) 0#32 >>> 3) + cur.getD (t - 7) 0#32 + (rr (cur.getD (t - 2) 0#32) 17 ^^^ rr (cur.getD (t - 2) 0#32) 19 ^^^ cur.getD (t - 2) 0#32 >>> 10)) := by
            subst hlen; rfl
          generalize hx16 : cur.getD (t - 16) 0#32 = x16 at HN
          generalize cur.getD (t - 15) 0#32 = x15 at c15 HN
          generalize hx7 : cur.getD (t - 7) 0#32 = x7 at HN
          generalize hx2 : cur.getD (t - 2) 0#32 = x2 at HN
          have HX16 := Lib.hid hx16; clear hx16
          have HX7 := Lib.hid hx7; clear hx7
          have HX2 := Lib.hid hx2; clear hx2
          have HLEN := Lib.hid hlen; clear hlen
          have HS2 := Lib.hid hs; clear hs
          go_wp2_with fail
          have m15 : IntKind.i64.wrap ((t : Int) - 15) = (t : Int) - 15 := IntWalk.i64_in _ (by omega)
          have n15 : ((t : Int) - 15).toNat = t - 15 := by omega
          have l15 : (t : Int) - 15 < 64 := by omega
          have p15 : (15 : Int) ≤ (t : Int) := by omega
          have p15' : 0 ≤ (t : Int) - 15 := by omega
          go_region_held3 (fun w' => w'.cell? ⟨w.heap.size + 1 + 1, t - 15, none⟩ = some (.int .u32 (n32 x15))) (go_keep)
            (first | (go_at_call 59; refine (turned_two x15 7 18 _ _ _ (by omega) (by omega) ?_ ?_).mono ?_; (simp [*]); (simp [*]); rintro e w' ⟨rfl, rfl⟩))
          clear m15 n15 l15 p15 p15'
          go_wp2_with fail
          have hs2 := (HS2.out.alloc (Obj.cells #[Value.int IntKind.i64 7, Value.int IntKind.i64 18] 3)).drew
          clear HS2 c15
          generalize (wr.alloc (Obj.cells #[Value.int IntKind.i64 7, Value.int IntKind.i64 18] 3)).drew = wr2 at hs2 ⊢
          have c2 := hs2.cell (t - 2) (by rw [HLEN.out]; omega) (by rw [HLEN.out]; omega)
          rw [HX2.out] at c2
          have HS2 := Lib.hid hs2; clear hs2
          have m2 : IntKind.i64.wrap ((t : Int) - 2) = (t : Int) - 2 := IntWalk.i64_in _ (by omega)
          have n2 : ((t : Int) - 2).toNat = t - 2 := by omega
          have l2 : (t : Int) - 2 < 64 := by omega
          have p2 : (2 : Int) ≤ (t : Int) := by omega
          have p2' : 0 ≤ (t : Int) - 2 := by omega
          go_region_held3 (fun w' => w'.cell? ⟨w.heap.size + 1 + 1, t - 2, none⟩ = some (.int .u32 (n32 x2))) (go_keep)
            (first | (go_at_call 59; refine (turned_two x2 17 19 _ _ _ (by omega) (by omega) ?_ ?_).mono ?_; (simp [*]); (simp [*]); rintro e w' ⟨rfl, rfl⟩))
          clear m2 n2 l2 p2 p2'
          go_wp2_with fail
          have hs2 := (HS2.out.alloc (Obj.cells #[Value.int IntKind.i64 17, Value.int IntKind.i64 19] 3)).drew
          clear HS2 c2
          generalize (wr2.alloc (Obj.cells #[Value.int IntKind.i64 17, Value.int IntKind.i64 19] 3)).drew = wr3 at hs2 ⊢
          have c16 := hs2.cell (t - 16) (by rw [HLEN.out]; omega) (by rw [HLEN.out]; omega)
          have c7 := hs2.cell (t - 7) (by rw [HLEN.out]; omega) (by rw [HLEN.out]; omega)
          rw [HX16.out] at c16
          rw [HX7.out] at c7
          obtain ⟨v, cv⟩ := hs2.some t hlt (by rw [HLEN.out]; omega)
          have cf := hs2.frozen t
          have HS2 := Lib.hid hs2; clear hs2
          have m16 : IntKind.i64.wrap ((t : Int) - 16) = (t : Int) - 16 := IntWalk.i64_in _ (by omega)
          have n16 : ((t : Int) - 16).toNat = t - 16 := by omega
          have l16 : (t : Int) - 16 < 64 := by omega
          have p16 : (16 : Int) ≤ (t : Int) := by omega
          have p16' : 0 ≤ (t : Int) - 16 := by omega
          have m7 : IntKind.i64.wrap ((t : Int) - 7) = (t : Int) - 7 := IntWalk.i64_in _ (by omega)
          have n7 : ((t : Int) - 7).toNat = t - 7 := by omega
          have l7 : (t : Int) - 7 < 64 := by omega
          have p7 : (7 : Int) ≤ (t : Int) := by omega
          have p7' : 0 ≤ (t : Int) - 7 := by omega
          have q0 : (t : Int) < 64 := by omega
          refine region_tail 15 (by kernel_rfl) (by kernel_rfl) ?_
          simp only [List.take_succ_cons, List.take_zero, List.drop_succ_cons, List.drop_zero]
          repeat still_step
          refine wpStill_nil ?_
          clear m16 n16 l16 p16 p16' m7 n7 l7 p7 p7'
          go_wp2_with fail
          go_roundw
          case rel =>
            refine ⟨t + 1, by omega, by omega, by go_num, ?_⟩
            rw [show t + 1 - 16 = t - 16 + 1 by omega, spreadBy_snoc, HCUR.out, HN.out]
            exact (HS2.out.set (by rw [HLEN.out]; omega) _ t HLEN.out.symm).drew
          case measure => simp [intOf]; omega
        · have ht64 : t = 64 := by omega
          subst ht64
          have HFULL : Hid (wr.heap[w.heap.size + 1 + 1]? = some (.cells (wordsV (scheduleOf blk)).toArray 91 (0, 0))) := by
            have h := hs.2.2.1
            rw [fill64_full _ hlen] at h
            exact h
          have HZ := Lib.hid hs.2.1
          have HW := Lib.hid hs.2.2.2
          have hsz : (wordsV (scheduleOf blk)).toArray.size = 64 := by
            simp only [wordsV, List.size_toArray, List.length_map]; exact hlen
          have HI := Lib.hid ((show (Tryd.prog.info? 91).map (·.size) = some 64 by kernel_rfl).trans (congrArg some hsz.symm))
          have HOLD : Hid ((wordsV (List.replicate 64 0#32)).toArray.size = (wordsV (scheduleOf blk)).toArray.size) := by
            show _ = _; rw [hsz]; simp [wordsV]
          have HONE := Lib.hid (wordsV_one (scheduleOf blk))
          clear hs hlen hsz
          generalize hfe : (wordsV (scheduleOf blk)).toArray = full at *
          have HFE := Lib.hid hfe; clear hfe
          go_wp2_with (first
            | (refine wpList_load_row rfl 91 (.tmp 3) rfl (w.heap.size + 1 + 1) rfl 91 full (0, 0) _ HFULL.out Tryd.underlying91 rfl HI.out ?_)
            | (refine wpList_store_row rfl 91 (.tmp 2) (.tmp 86) rfl (w.heap.size + 1) full rfl rfl 91 _ HZ.out HI.out HOLD.out HONE.out ?_))
          have hrow := setRow_heap wr (w.heap.size + 1) _ full 91 _ HZ.out
          have hbel := below_setRow HW.out (show w.heap.size ≤ w.heap.size + 1 by omega) full
          generalize wr.setRow (w.heap.size + 1) full = wz at hrow hbel ⊢
          have hres : ∀ tmps : Array Value, tmps.getD 2 undef = .pointer (some ⟨w.heap.size + 1, 0, none⟩) → Sem.run Tryd.prog (results Tryd.f58 tmps) wz = .ok (.agg full) wz := fun tmps h =>
            results_cell_row (P := Tryd.prog) (p := 2) (ty := 91) Tryd.results58 tmps wz (w.heap.size + 1) 91 full (0, 0) (TypeDesc.array 64 25) h hrow Tryd.underlying91 rfl HI.out
          exact bodyPost_ret (v := .agg full) (hres _ rfl) rfl ⟨by rw [HFE.out], hbel⟩
end Go.Proofs.YtgfmjfpafpmghaaDoor
