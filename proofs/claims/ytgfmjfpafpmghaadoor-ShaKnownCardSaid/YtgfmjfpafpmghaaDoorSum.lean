/-
  The contracts of sha.New and (*sha.Hash).Sum: where the package's two tables hold their numbers, New makes a hash that nothing was written to, and Sum returns the digest of what was written; nothing that was there changes.
-/
import Derived.Test.YtgfmjfpafpmghaaDoorWrite
namespace Go.Proofs.YtgfmjfpafpmghaaDoor
open Go.RowKit Go.Proofs.ShaWords
attribute [local go_sem] and32 or32 xor32 add32 shl32 shr32 wrap32_n8 wrap8_n32 shl32_8 shl32_16 shl32_24 shr32_3 shr32_8 shr32_10 shr32_16 shr32_24

def iv : St := ⟨0x6a09e667#32, 0xbb67ae85#32, 0x3c6ef372#32, 0xa54ff53a#32, 0x510e527f#32, 0x9b05688c#32, 0x1f83d9ab#32, 0x5be0cd19#32⟩
/-- The first words, as the package's first variable holds them. -/
def Starts (w : World) : Prop := w.rangeAt 0 0 (wordsV iv.list)
def newHS : HS := ⟨iv, List.replicate 64 0#8, 0⟩
theorem newHS_cells : hashCells newHS = wordsV iv.list ++ (List.replicate 64 (Value.int .u8 0) ++ [.int .u64 0]) := by
  unfold hashCells newHS
  rw [bytesV, List.map_replicate]; rfl

set_option maxRecDepth 100000 in
set_option maxHeartbeats 400000 in
theorem new_any (w : World) (hs : Starts w) :
    Calls Tryd.prog 14 #[] w fun e w' => e = .returned (.pointer (some ⟨w.heap.size, 0, none⟩)) ∧ HashAt w' w.heap.size newHS ∧ Below w.heap.size w w' := by
  have HS := Lib.hid hs; clear hs
  go_enter Tryd.func14, Tryd.ntmps14
  go_wp2_with (refine wpList_load_mid rfl 35 (.global 0) rfl 0 0 rfl (wordsV iv.list) (.array 8 25) HS.out Tryd.underlying35 rfl (by kernel_rfl) ?_; refine wpList_build_eq rfl 64 #[(0, .tmp 1)] rfl (hashCells newHS).toArray (by kernel_rfl) ?_)

  go_ret
  refine ⟨rfl, ⟨heap_new_at rfl, rfl⟩, (Below.refl _ _).alloc (Nat.le_refl _) _⟩

/-- A word's four bytes, the highest first. -/
def wbytes (x : BitVec 32) : List (BitVec 8) := [lo8 (x >>> 24), lo8 (x >>> 16), lo8 (x >>> 8), lo8 x]
def digTo (s : St) (k : Nat) : List (BitVec 8) := (s.list.take k).flatMap wbytes
def digestOf (s : St) : List (BitVec 8) := s.list.flatMap wbytes
/-- The digest of what was written. -/
def sumOf (h : HS) : List (BitVec 8) := digestOf (writeOf h (padOf h.n)).s
theorem digTo_length (s : St) (k : Nat) (hk : k ≤ 8) : (digTo s k).length = 4 * k := by
  have h : ∀ l : List (BitVec 32), (l.flatMap wbytes).length = 4 * l.length := by
    intro l
    induction l with
    | nil => rfl
    | cons a r ih => rw [List.flatMap_cons, List.length_append, ih]; simp [wbytes]; omega
  rw [digTo, h, List.length_take]
  simp [St.list]; omega
theorem digTo_succ (s : St) (k : Nat) (hk : k < 8) : digTo s (k + 1) = digTo s k ++ wbytes (s.list.getD k 0#32) := by
  have hl : k < s.list.length := by simp [St.list]; omega
  rw [digTo, List.take_succ_eq_append_getElem hl, List.flatMap_append, digTo]
  simp [List.getD, hl]
theorem digTo_full (s : St) : digTo s 8 = digestOf s := by rfl
theorem dig_set (s : St) (k : Nat) (hk : k < 8) : ((((digTo s k ++ List.replicate (32 - 4 * k) 0#8).set (4 * k) (lo8 (s.list.getD k 0#32 >>> 24))).set (4 * k + 1) (lo8 (s.list.getD k 0#32 >>> 16))).set (4 * k + 2) (lo8 (s.list.getD k 0#32 >>> 8))).set (4 * k + 3) (lo8 (s.list.getD k 0#32))
    = digTo s (k + 1) ++ List.replicate (32 - 4 * (k + 1)) 0#8 := by
  have hl := digTo_length s k (by omega)
  obtain ⟨m, hm⟩ : ∃ m, 32 - 4 * k = m + 4 := ⟨28 - 4 * k, by omega⟩
  rw [digTo_succ s k hk, hm, show 32 - 4 * (k + 1) = m by omega]
  generalize s.list.getD k 0#32 = x
  generalize digTo s k = D at hl
  rw [List.set_append_right _ _ (by omega), List.set_append_right _ _ (by omega), List.set_append_right _ _ (by omega), List.set_append_right _ _ (by omega), hl]
  rw [show 4 * k - 4 * k = 0 by omega, show 4 * k + 1 - 4 * k = 1 by omega, show 4 * k + 2 - 4 * k = 2 by omega, show 4 * k + 3 - 4 * k = 3 by omega]
  simp [List.replicate_succ, wbytes]
theorem index8 (s : St) (k : Nat) (hk : k < 8) (w : World) : (Instr.index 35 (.agg (wordsV s.list).toArray) (.int .i64 (k : Int))).run Tryd.prog w = .ok (.int .u32 (n32 (s.list.getD k 0#32))) w := by
  rcases k with _ | _ | _ | _ | _ | _ | _ | _ | k
  · kernel_rfl
  · kernel_rfl
  · kernel_rfl
  · kernel_rfl
  · kernel_rfl
  · kernel_rfl
  · kernel_rfl
  · kernel_rfl
  · omega

theorem HashAt.all {w : World} {g : Nat} {h : HS} (ha : HashAt w g h) : w.rangeAt g 0 (hashCells h) := fun j v hv => by
  rw [Nat.zero_add, cell_of_row w g j _ 64 (0, 0) ha.1]; simpa using hv
theorem hashCells_one (h : HS) : (hashCells h).toArray.all (·.oneCell') = true := all_oneCell_toArray fun v hv => by
  unfold hashCells at hv
  rcases List.mem_append.1 hv with hv | hv
  · exact wordsV_mem hv
  · rcases List.mem_append.1 hv with hv | hv
    · exact bytesV_mem hv
    · rw [List.mem_singleton.1 hv]; rfl

def zeroHS : HS := ⟨⟨0#32, 0#32, 0#32, 0#32, 0#32, 0#32, 0#32, 0#32⟩, List.replicate 64 0#8, 0⟩
theorem zero50 (w : World) : (zeroValue 64).run Tryd.prog w = .ok (.agg (hashCells zeroHS).toArray) w := by kernel_rfl
theorem zero50_size : (hashCells zeroHS).toArray.size = 73 := by kernel_rfl

theorem padOf_length (n : Nat) : (padOf n).length ≤ 72 := by rw [padOf, padTo_length]; have := zc_le n; omega
/-- What (*Hash).Sum has in memory while it writes the digest: the result's cells in block R, the digest's in block G. -/
def SumW (w : World) (R G : Nat) (l : List (BitVec 8)) (wr : World) : Prop :=
  wr.heap[R]? = some (.cells (bytesV (List.replicate 32 0#8)).toArray 33 (0, 0)) ∧ wr.heap[G]? = some (.cells (bytesV l).toArray 33 (0, 0)) ∧ Below w.heap.size w wr
theorem SumW.set {w wr : World} {R G : Nat} {l : List (BitVec 8)} (h : SumW w R G l wr) (hR : R ≠ G) (hG : w.heap.size ≤ G) (k : Nat) (x : BitVec 8) : SumW w R G (l.set k x) (wr.setCell ⟨G, k, none⟩ (.int .u8 (n8 x))) :=
  ⟨by rw [heap_setCell_other _ _ _ _ hR]; exact h.1, by rw [heap_setCell_same _ _ _ _ _ _ h.2.1, bytesV_set], h.2.2.setCell hG _⟩

set_option maxRecDepth 100000 in
set_option maxHeartbeats 1000000 in
theorem sum_any (g : Nat) (h : HS) (w : World) (ha : HashAt w g h) (hk : Consts w) (hn : h.n < 549755813888) :
    Calls Tryd.prog 15 #[.pointer (some ⟨g, 0, none⟩)] w fun e w' => e = .returned (.agg (bytesV (sumOf h)).toArray) ∧ Below w.heap.size w w' := by
  have HI50 := Lib.hid ((show (Tryd.prog.info? 64).map (·.size) = some 73 by kernel_rfl).trans (congrArg some (hashCells_length h ha.2).symm))
  have HK := Lib.hid hk; clear hk
  have HA := Lib.hid ha; clear ha
  have HSZ := Lib.hid (show (hashCells zeroHS).toArray.size = (hashCells h).toArray.size by rw [zero50_size, List.size_toArray]; exact (hashCells_length h HA.out.2).symm)
  have hz50 := zero50
  go_enter Tryd.func15, Tryd.ntmps15
  go_wp2_with (first
    | (refine wpList_load_mid rfl 64 (.tmp 8) rfl g 0 rfl (hashCells h) _ (HashAt.all (HashAt.keep HA.out ((Below.refl _ _).alloc (Nat.le_refl _) _))) Tryd.underlying64 rfl HI50.out ?_)
    | (refine wpList_store_new rfl 64 (.tmp 3) (.tmp 9) rfl (w.heap.size + 1) (size_alloc _ _) (hashCells h).toArray rfl rfl HI50.out HSZ.out (hashCells_one h) ?_; intro w2 h2 b2; have z2 := (b2.block w.heap.size (by omega)).trans (heap_new_at rfl); have B2 := Lib.hid (((Below.refl _ _).alloc (Nat.le_refl _) _).trans (b2.mono (by omega))); have H2 := Lib.hid (show HashAt w2 (w.heap.size + 1) h from ⟨h2, HA.out.2⟩); have cn := (HA.out.keep B2.out).cellN; have Z2 := Lib.hid z2; clear h2 b2 z2))
  clear cn hz50 HSZ
  rw [← noughts32] at Z2
  refine (padding_any h.n w2 (by omega)).mono ?_
  rintro e w3 ⟨g3, rfl, h3, b3, hg3⟩
  have s2 := H2.out.size
  have H3 := Lib.hid (HashAt.keep H2.out b3)
  have Z3 := Lib.hid ((b3.block _ (by omega)).trans Z2.out)
  have B3 := Lib.hid (B2.out.trans (b3.mono B2.out.size))
  have R3 := Lib.hid (range_bytesV h3)
  have hs1 := HK.out.size
  have C3 := Lib.hid (HK.out.below B3.out hs1)
  have hpl := padOf_length h.n
  clear h3 b3 H2 Z2 B2
  go_wp2_with fail
  refine (write_any (w.heap.size + 1) h (padOf h.n) (some ⟨g3, 0, none⟩) _ w3 H3.out (Or.inr ⟨g3, 0, rfl, by omega, R3.out⟩) (Nat.le_refl _) (by omega) (by omega) C3.out (by omega)).mono ?_
  rintro e w4 ⟨rfl, ha4, hg4⟩
  have H4 := Lib.hid ha4
  have s3 := H3.out.size
  have Z4 := Lib.hid ((hg4.block w.heap.size (by omega) (fun e => by have := Option.some.inj e; omega)).trans Z3.out)
  have B4 := Lib.hid (B3.out.grown hg4 (by omega) (fun k hk => by have := Option.some.inj hk; omega))
  have s4 := ha4.size
  have HSO : Hid (sumOf h = digestOf (writeOf h (padOf h.n)).s) := show _ = _ from rfl
  clear ha4 hg4 H3 Z3 B3 R3 C3
  generalize writeOf h (padOf h.n) = h4 at H4 HSO
  go_wp2_with (refine wpList_load_mid rfl 35 (.tmp 16) rfl (w.heap.size + 1) 0 rfl (wordsV h4.s.list) _ (HashAt.words (HashAt.keep H4.out ((Below.refl _ _).alloc (Nat.le_refl _) _))) Tryd.underlying35 rfl (info44 _) ?_)
  refine wp_gen (SumW w w.heap.size w4.heap.size (List.replicate 32 0#8)) ?_ ?_
  · refine ⟨by rw [Below.heap_alloc _ _ _ (by omega)]; exact Z4.out, by rw [noughts32]; exact heap_new_at rfl, B4.out.alloc (by omega) _⟩
  generalize w4.heap.size = G at s4
  have hRG : w.heap.size ≠ G := by omega
  have hWG : w.heap.size ≤ G := by omega
  have HRG := Lib.hid hRG
  have HWG := Lib.hid hWG
  generalize h4.s = s at HSO
  clear H4 Z4 B4 s4 s3 s2 hs1 hg3 w2 w3 w4 hRG hWG HI50 HA HK
  intro w5 hw5
  have HW5 := Lib.hid hw5; clear hw5
  go_loopw [5, 6, 18] (fun _ _ i wr => ∃ k : Nat, k ≤ 8 ∧ i = .int .i64 k ∧ SumW w w.heap.size G (digTo s k ++ List.replicate (32 - 4 * k) 0#8) wr) (fun _ _ i _ => 8 - (intOf i).toNat)
  case atStart => exact ⟨0, by omega, rfl, HW5.out⟩
  case round =>
    clear HW5
    obtain ⟨k, hk, rfl, hw⟩ := hrel
    have hlen : (digTo s k ++ List.replicate (32 - 4 * k) 0#8).length = 32 := by rw [List.length_append, digTo_length s k hk]; simp; omega
    by_cases hlt : k < 8
    · have hix := index8 s k hlt
      have HDS := Lib.hid (dig_set s k hlt)
      obtain ⟨c0, e0⟩ : ∃ v, wr.cell? ⟨G, 4 * k, none⟩ = some v := ⟨_, cell_bytesV hw.2.1 (j := 4 * k) (by omega)⟩
      obtain ⟨c1, e1⟩ : ∃ v, wr.cell? ⟨G, 4 * k + 1, none⟩ = some v := ⟨_, cell_bytesV hw.2.1 (j := 4 * k + 1) (by omega)⟩
      obtain ⟨c2, e2⟩ : ∃ v, wr.cell? ⟨G, 4 * k + 2, none⟩ = some v := ⟨_, cell_bytesV hw.2.1 (j := 4 * k + 2) (by omega)⟩
      obtain ⟨c3, e3⟩ : ∃ v, wr.cell? ⟨G, 4 * k + 3, none⟩ = some v := ⟨_, cell_bytesV hw.2.1 (j := 4 * k + 3) (by omega)⟩
      have f0 := frozen_of_row _ _ (4 * k) _ _ hw.2.1
      have f1 := frozen_of_row _ _ (4 * k + 1) _ _ hw.2.1
      have f2 := frozen_of_row _ _ (4 * k + 2) _ _ hw.2.1
      have f3 := frozen_of_row _ _ (4 * k + 3) _ _ hw.2.1
      generalize s.list.getD k 0#32 = x at hix HDS
      have HW := Lib.hid hw; clear hw hlen
      go_wp2_with fail
      go_roundw
      case rel =>
        refine ⟨k + 1, by omega, by go_num, ?_⟩
        rw [← HDS.out]
        exact (((HW.out.set HRG.out HWG.out _ _).set HRG.out HWG.out _ _).set HRG.out HWG.out _ _).set HRG.out HWG.out _ _
      case measure => simp [intOf]; omega
    · have HK8 : Hid (k = 8) := show k = 8 by omega
      have HFULL : Hid (wr.heap[G]? = some (.cells (bytesV (digestOf s)).toArray 33 (0, 0))) := by
        have h1 := hw.2.1
        rw [HK8.out, digTo_full] at h1
        have e : digestOf s ++ List.replicate (32 - 4 * 8) 0#8 = digestOf s := by simp
        rw [e] at h1; exact h1
      have hdl : (digestOf s).length = 32 := by rw [← digTo_full, digTo_length s 8 (by omega)]
      have HI := Lib.hid ((show (Tryd.prog.info? 33).map (·.size) = some 32 by kernel_rfl).trans (congrArg some (bytesV_size _ 32 hdl).symm))
      have HOLD := Lib.hid (show (bytesV (List.replicate 32 0#8)).toArray.size = (bytesV (digestOf s)).toArray.size by rw [bytesV_size _ 32 hdl]; rfl)
      have HONE := Lib.hid (bytesV_one (digestOf s))
      have HZ := Lib.hid hw.1
      have HB := Lib.hid hw.2.2
      clear hw hlen hdl
      generalize hfe : (bytesV (digestOf s)).toArray = full at HFULL HI HOLD HONE
      have HFE := Lib.hid hfe; clear hfe
      go_wp2_with (first
        | (refine wpList_load_row rfl 33 (.tmp 4) rfl G rfl 33 full (0, 0) _ HFULL.out Tryd.underlying33 rfl HI.out ?_)
        | (refine wpList_store_row rfl 33 (.tmp 2) (.tmp 49) rfl w.heap.size full rfl rfl 33 _ HZ.out HI.out HOLD.out HONE.out ?_))
      have hrow := setRow_heap wr w.heap.size _ full 33 _ HZ.out
      have hbel := below_setRow HB.out (Nat.le_refl w.heap.size) full
      generalize wr.setRow w.heap.size full = wz at hrow hbel ⊢
      have hres : ∀ tmps : Array Value, tmps.getD 2 undef = .pointer (some ⟨w.heap.size, 0, none⟩) → Sem.run Tryd.prog (results Tryd.f15 tmps) wz = .ok (.agg full) wz := fun tmps h =>
        results_cell_row (P := Tryd.prog) (p := 2) (ty := 33) Tryd.results15 tmps wz w.heap.size 33 _ (0, 0) (TypeDesc.array 32 5) h hrow Tryd.underlying33 rfl HI.out
      exact bodyPost_ret (v := .agg full) (hres _ rfl) rfl ⟨by rw [HSO.out, HFE.out], hbel⟩

end Go.Proofs.YtgfmjfpafpmghaaDoor
