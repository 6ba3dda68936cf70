/-
  The contract of sha.mix: for every eight words and every block of 64 bytes, where the package's table holds its constants, it returns the words mixed with the block; nothing that was there changes.
-/
import Derived.Test.YtgfmjfpafpmghaaDoorSchedule
import Derived.Deep.DeepFit
namespace Go.Proofs.YtgfmjfpafpmghaaDoor
open Go.RowKit Go.Proofs.ShaWords
attribute [local go_sem] and32 or32 xor32 add32 shl32 shr32 wrap32_n8 wrap8_n32 shl32_8 shl32_16 shl32_24 shr32_3 shr32_8 shr32_10 shr32_16 shr32_24

theorem not32 (x : BitVec 32) : bits .xor .u32 IntKind.u32.max (n32 x) = n32 (~~~x) := by
  show IntKind.u32.wrap ((BitVec.ofInt 32 IntKind.u32.max ^^^ BitVec.ofInt 32 (n32 x)).toNat : Int) = _
  have h1 : BitVec.ofInt 32 IntKind.u32.max = BitVec.allOnes 32 := by decide
  have h2 : BitVec.ofInt 32 (n32 x) = x := by unfold n32; simp
  rw [h1, h2, BitVec.allOnes_xor, IntKind.wrap_u32']
  have := (~~~x).isLt
  show ((~~~x).toNat : Int) % 4294967296 = ((~~~x).toNat : Int)
  omega
attribute [local go_sem] not32

/-- The eight words. -/
structure St where
  a : BitVec 32
  b : BitVec 32
  c : BitVec 32
  d : BitVec 32
  e : BitVec 32
  f : BitVec 32
  g : BitVec 32
  h : BitVec 32
def St.list (s : St) : List (BitVec 32) := [s.a, s.b, s.c, s.d, s.e, s.f, s.g, s.h]
def kTable : List (BitVec 32) := [0x428a2f98#32, 0x71374491#32, 0xb5c0fbcf#32, 0xe9b5dba5#32, 0x3956c25b#32, 0x59f111f1#32, 0x923f82a4#32, 0xab1c5ed5#32,
  0xd807aa98#32, 0x12835b01#32, 0x243185be#32, 0x550c7dc3#32, 0x72be5d74#32, 0x80deb1fe#32, 0x9bdc06a7#32, 0xc19bf174#32,
  0xe49b69c1#32, 0xefbe4786#32, 0x0fc19dc6#32, 0x240ca1cc#32, 0x2de92c6f#32, 0x4a7484aa#32, 0x5cb0a9dc#32, 0x76f988da#32,
  0x983e5152#32, 0xa831c66d#32, 0xb00327c8#32, 0xbf597fc7#32, 0xc6e00bf3#32, 0xd5a79147#32, 0x06ca6351#32, 0x14292967#32,
  0x27b70a85#32, 0x2e1b2138#32, 0x4d2c6dfc#32, 0x53380d13#32, 0x650a7354#32, 0x766a0abb#32, 0x81c2c92e#32, 0x92722c85#32,
  0xa2bfe8a1#32, 0xa81a664b#32, 0xc24b8b70#32, 0xc76c51a3#32, 0xd192e819#32, 0xd6990624#32, 0xf40e3585#32, 0x106aa070#32,
  0x19a4c116#32, 0x1e376c08#32, 0x2748774c#32, 0x34b0bcb5#32, 0x391c0cb3#32, 0x4ed8aa4a#32, 0x5b9cca4f#32, 0x682e6ff3#32,
  0x748f82ee#32, 0x78a5636f#32, 0x84c87814#32, 0x8cc70208#32, 0x90befffa#32, 0xa4506ceb#32, 0xbef9a3f7#32, 0xc67178f2#32]
def uOf (k w : BitVec 32) (s : St) : BitVec 32 :=
  s.h + (rr s.e 6 ^^^ rr s.e 11 ^^^ rr s.e 25) + (s.e &&& s.f ||| ~~~s.e &&& s.g) + k + w
def vOf (s : St) : BitVec 32 :=
  (rr s.a 2 ^^^ rr s.a 13 ^^^ rr s.a 22) + (s.a &&& s.b ||| s.a &&& s.c ||| s.b &&& s.c)
def stepR (k w : BitVec 32) (s : St) : St := ⟨uOf k w s + vOf s, s.a, s.b, s.c, s.d + uOf k w s, s.e, s.f, s.g⟩
def rounds (W : List (BitVec 32)) (s : St) : Nat → St
  | 0 => s
  | n + 1 => stepR (kTable.getD n 0#32) (W.getD n 0#32) (rounds W s n)
def addSt (s t : St) : St := ⟨s.a + t.a, s.b + t.b, s.c + t.c, s.d + t.d, s.e + t.e, s.f + t.f, s.g + t.g, s.h + t.h⟩
def mixOf (s : St) (blk : List (BitVec 8)) : St := addSt s (rounds (scheduleOf blk) s 64)

theorem rounds_succ (W : List (BitVec 32)) (s : St) (n : Nat) : rounds W s (n + 1) = stepR (kTable.getD n 0#32) (W.getD n 0#32) (rounds W s n) := rfl
theorem stepR_a (k w : BitVec 32) (s : St) : (stepR k w s).a = s.h + (rr s.e 6 ^^^ rr s.e 11 ^^^ rr s.e 25) + (s.e &&& s.f ||| ~~~s.e &&& s.g) + k + w + ((rr s.a 2 ^^^ rr s.a 13 ^^^ rr s.a 22) + (s.a &&& s.b ||| s.a &&& s.c ||| s.b &&& s.c)) := rfl
theorem stepR_b (k w : BitVec 32) (s : St) : (stepR k w s).b = s.a := rfl
theorem stepR_c (k w : BitVec 32) (s : St) : (stepR k w s).c = s.b := rfl
theorem stepR_d (k w : BitVec 32) (s : St) : (stepR k w s).d = s.c := rfl
theorem stepR_e (k w : BitVec 32) (s : St) : (stepR k w s).e = s.d + (s.h + (rr s.e 6 ^^^ rr s.e 11 ^^^ rr s.e 25) + (s.e &&& s.f ||| ~~~s.e &&& s.g) + k + w) := rfl
theorem stepR_f (k w : BitVec 32) (s : St) : (stepR k w s).f = s.e := rfl
theorem stepR_g (k w : BitVec 32) (s : St) : (stepR k w s).g = s.f := rfl
theorem stepR_h (k w : BitVec 32) (s : St) : (stepR k w s).h = s.g := rfl
theorem addSt_vals (s t : St) : (wordsV (addSt s t).list).toArray = #[.int .u32 (n32 (s.a + t.a)), .int .u32 (n32 (s.b + t.b)), .int .u32 (n32 (s.c + t.c)), .int .u32 (n32 (s.d + t.d)), .int .u32 (n32 (s.e + t.e)), .int .u32 (n32 (s.f + t.f)), .int .u32 (n32 (s.g + t.g)), .int .u32 (n32 (s.h + t.h))] := rfl
theorem listSize (s : St) : (wordsV s.list).toArray.size = 8 := rfl
theorem info44 (s : St) : (Tryd.prog.info? 35).map (·.size) = some (wordsV s.list).toArray.size := by
  rw [listSize]; kernel_rfl
theorem mixOf_eq (s : St) (blk : List (BitVec 8)) : mixOf s blk = addSt s (rounds (scheduleOf blk) s 64) := rfl
theorem rounds_zero (W : List (BitVec 32)) (s : St) : rounds W s 0 = s := rfl
attribute [local irreducible] rounds stepR scheduleOf uOf vOf addSt kTable mixOf

/-- What sha.mix has in memory: the words that came in, the result's cells, the block's 64 words in block G, and the table. -/
def MixW (w : World) (s : St) (G : Nat) (W : List (BitVec 32)) (wr : World) : Prop :=
  wr.heap[w.heap.size]? = some (.cells (wordsV s.list).toArray 35 (0, 0)) ∧
  wr.heap[w.heap.size + 1 + 1]? = some (.cells #[Value.int IntKind.u32 0, Value.int IntKind.u32 0, Value.int IntKind.u32 0, Value.int IntKind.u32 0, Value.int IntKind.u32 0, Value.int IntKind.u32 0, Value.int IntKind.u32 0, Value.int IntKind.u32 0] 35 (0, 0)) ∧
  wr.heap[G]? = some (.cells (wordsV W).toArray 91 (0, 0)) ∧ Below w.heap.size w wr ∧ w.heap.size + 1 + 1 < G

/-- The table of constants, as the package's second variable holds it. -/
def Consts (w : World) : Prop := ∀ i, i < 64 → w.cell? ⟨2, i, none⟩ = some (.int .u32 (n32 (kTable.getD i 0#32)))
theorem Consts.size {w : World} (h : Consts w) : 2 < w.heap.size := World.block_lt_of_cell? w _ (h 0 (by omega))
theorem Consts.below {w w' : World} {B : Nat} (h : Consts w) (hb : Below B w w') (hB : 2 < B) : Consts w' := fun i hi => (hb.cell (p := ⟨2, i, none⟩) hB).trans (h i hi)
theorem MixW.drewN {w : World} {s : St} {G : Nat} {W : List (BitVec 32)} {wr : World} (h : MixW w s G W wr) (n : Nat) : MixW w s G W (wr.drewN n) :=
  ⟨h.1, h.2.1, h.2.2.1, h.2.2.2.1.trans ⟨rfl, rfl, rfl, Nat.le_refl _, fun _ _ => rfl⟩, h.2.2.2.2⟩
theorem MixW.drew {w : World} {s : St} {G : Nat} {W : List (BitVec 32)} {wr : World} (h : MixW w s G W wr) : MixW w s G W wr.drew := h.drewN 1
theorem MixW.size {w : World} {s : St} {G : Nat} {W : List (BitVec 32)} {wr : World} (h : MixW w s G W wr) : G < wr.heap.size :=
  (Array.getElem?_eq_some_iff.1 h.2.2.1).1
theorem MixW.alloc {w : World} {s : St} {G : Nat} {W : List (BitVec 32)} {wr : World} (h : MixW w s G W wr) (o : Obj) : MixW w s G W (wr.alloc o) := by
  have h1 := h.size
  obtain ⟨a, b, c, d, e⟩ := h
  refine ⟨?_, ?_, ?_, d.alloc (by omega) o, e⟩
  · rw [Below.heap_alloc _ _ _ (by omega)]; exact a
  · rw [Below.heap_alloc _ _ _ (by omega)]; exact b
  · rw [Below.heap_alloc _ _ _ (by omega)]; exact c

set_option maxRecDepth 100000 in
set_option maxHeartbeats 1000000 in
theorem mix_any (st : St) (blk : List (BitVec 8)) (w : World) (hl : blk.length = 64) (hk : Consts w) :
    Calls Tryd.prog 48 #[.agg (wordsV st.list).toArray, .agg (bytesV blk).toArray] w fun e w' => e = .returned (.agg (wordsV (mixOf st blk).list).toArray) ∧ Below w.heap.size w w' := by
  have HI47 := Lib.hid ((show (Tryd.prog.info? 42).map (·.size) = some 64 by kernel_rfl).trans (congrArg some (bytesV_size blk 64 hl).symm))
  have HL := Lib.hid hl; clear hl
  have HK := Lib.hid hk; clear hk
  go_enter Tryd.func48, Tryd.ntmps48
  go_wp2_with (first
            | (refine wpList_load_row rfl 42 (.tmp 3) rfl (w.heap.size + 1) rfl 42 (bytesV blk).toArray (0, 0) _ (alloc3_2 _ _ _ _) Tryd.underlying42 rfl HI47.out ?_))
  have h0 := alloc3_1 w (Obj.cells (wordsV st.list).toArray 35) (Obj.cells (bytesV blk).toArray 42) (Obj.cells #[Value.int IntKind.u32 0, Value.int IntKind.u32 0, Value.int IntKind.u32 0, Value.int IntKind.u32 0, Value.int IntKind.u32 0, Value.int IntKind.u32 0, Value.int IntKind.u32 0, Value.int IntKind.u32 0] 35)
  have z0 := alloc3_3 w (Obj.cells (wordsV st.list).toArray 35) (Obj.cells (bytesV blk).toArray 42) (Obj.cells #[Value.int IntKind.u32 0, Value.int IntKind.u32 0, Value.int IntKind.u32 0, Value.int IntKind.u32 0, Value.int IntKind.u32 0, Value.int IntKind.u32 0, Value.int IntKind.u32 0, Value.int IntKind.u32 0] 35)
  have b0 := alloc3_below w (Obj.cells (wordsV st.list).toArray 35) (Obj.cells (bytesV blk).toArray 42) (Obj.cells #[Value.int IntKind.u32 0, Value.int IntKind.u32 0, Value.int IntKind.u32 0, Value.int IntKind.u32 0, Value.int IntKind.u32 0, Value.int IntKind.u32 0, Value.int IntKind.u32 0, Value.int IntKind.u32 0] 35)
  generalize ((w.alloc (Obj.cells (wordsV st.list).toArray 35)).alloc (Obj.cells (bytesV blk).toArray 42)).alloc (Obj.cells #[Value.int IntKind.u32 0, Value.int IntKind.u32 0, Value.int IntKind.u32 0, Value.int IntKind.u32 0, Value.int IntKind.u32 0, Value.int IntKind.u32 0, Value.int IntKind.u32 0, Value.int IntKind.u32 0] 35) = w0 at h0 z0 b0 ⊢
  have s0 : w.heap.size + 1 + 1 < w0.heap.size := (Array.getElem?_eq_some_iff.1 z0).1
  refine (schedule_any blk w0 HL.out).mono ?_
  rintro e w1 ⟨rfl, b1⟩
  rw [← b1.block _ (by omega)] at h0
  rw [← b1.block _ (by omega)] at z0
  replace b0 := b0.trans (b1.mono (by omega))
  have s1 : w.heap.size + 1 + 1 < w1.heap.size := Nat.lt_of_lt_of_le s0 b1.size
  have hfl : (scheduleOf blk).length = 64 := by rw [scheduleOf, spreadBy_length, first16_length]
  have HFL := Lib.hid hfl
  have HI60 := Lib.hid ((show (Tryd.prog.info? 91).map (·.size) = some 64 by kernel_rfl).trans (congrArg some (wordsV_size _ 64 hfl).symm))
  have HONE := Lib.hid (wordsV_one (scheduleOf blk))
  have HSZ := Lib.hid (wordsV_size _ 64 hfl)
  clear b1 s0 hfl
  have H0 := Lib.hid h0; clear h0
  have Z0 := Lib.hid z0; clear z0
  have B0 := Lib.hid b0; clear b0
  clear HI47
  generalize hW : scheduleOf blk = W at HI60 HONE HSZ HFL ⊢
  have HW := Lib.hid hW; clear hW
  go_wp2_with (first
    | (refine wpList_store_row rfl 91 (.tmp 5) (.tmp 20) rfl w1.heap.size (wordsV W).toArray rfl rfl 91 _ (heap_new_at rfl) HI60.out (by rw [HSZ.out]; rfl) HONE.out ?_))
  refine wp_gen (MixW w st w1.heap.size W) ?_ ?_
  · refine ⟨?_, ?_, setRow_heap _ _ _ _ _ _ (heap_new_at rfl), ?_, s1⟩
    · rw [setRow_other _ _ _ _ (by omega), Below.heap_alloc _ _ _ (by omega)]; exact H0.out
    · rw [setRow_other _ _ _ _ (by omega), Below.heap_alloc _ _ _ (by omega)]; exact Z0.out
    · exact below_setRow (B0.out.alloc (by omega) _) (by omega) _
  generalize w1.heap.size = G
  clear H0 Z0 B0 s1 HI60 HONE HSZ w0 w1
  intro w2 hm
  go_frame
  have c0 := cell_wordsV hm.1 (j := 0) (by simp [St.list])
  have c1 := cell_wordsV hm.1 (j := 1) (by simp [St.list])
  have c2 := cell_wordsV hm.1 (j := 2) (by simp [St.list])
  have c3 := cell_wordsV hm.1 (j := 3) (by simp [St.list])
  have c4 := cell_wordsV hm.1 (j := 4) (by simp [St.list])
  have c5 := cell_wordsV hm.1 (j := 5) (by simp [St.list])
  have c6 := cell_wordsV hm.1 (j := 6) (by simp [St.list])
  have c7 := cell_wordsV hm.1 (j := 7) (by simp [St.list])
  simp only [St.list, List.getElem_cons_zero, List.getElem_cons_succ] at c0 c1 c2 c3 c4 c5 c6 c7
  have HM := Lib.hid hm; clear hm
  go_quiet (fail)
  go_wp2_with fail
  have hm := HM.out
  replace hm : MixW w st G W (w2.drewN nq) := MixW.drewN hm nq
  generalize w2.drewN nq = w3 at hm ⊢
  clear HM c0 c1 c2 c3 c4 c5 c6 c7
  have HM := Lib.hid hm; clear hm
  go_loopw [6, 7, 8, 9, 10, 11, 12, 13, 14, 15, 16, 17, 18, 37] (fun a b c d e f g h _ _ _ _ _ i wr => ∃ t : Nat, t ≤ 64 ∧ i = .int .i64 t ∧
      a = .int .u32 (n32 (rounds W st t).a) ∧ b = .int .u32 (n32 (rounds W st t).b) ∧ c = .int .u32 (n32 (rounds W st t).c) ∧ d = .int .u32 (n32 (rounds W st t).d) ∧
      e = .int .u32 (n32 (rounds W st t).e) ∧ f = .int .u32 (n32 (rounds W st t).f) ∧ g = .int .u32 (n32 (rounds W st t).g) ∧ h = .int .u32 (n32 (rounds W st t).h) ∧ MixW w st G W wr)
    (fun _ _ _ _ _ _ _ _ _ _ _ _ _ i _ => 64 - (intOf i).toNat)
  case atStart => exact ⟨0, by omega, rfl, by rw [rounds_zero], by rw [rounds_zero], by rw [rounds_zero], by rw [rounds_zero], by rw [rounds_zero], by rw [rounds_zero], by rw [rounds_zero], by rw [rounds_zero], HM.out⟩
  case round =>
    clear HM
    obtain ⟨t, ht, rfl, rfl, rfl, rfl, rfl, rfl, rfl, rfl, rfl, hm⟩ := hrel
    by_cases hlt : t < 64
    · have HR := Lib.hid (rounds_succ W st t)
      have ck := ((HK.out.below hm.2.2.2.1 HK.out.size)) t hlt
      have cw := cell_wordsV hm.2.2.1 (j := t) (by rw [HFL.out]; exact hlt)
      rw [show W[t]'(by rw [HFL.out]; exact hlt) = W.getD t 0#32 by simp [List.getD, HFL.out, hlt]] at cw
      generalize rounds W st t = s at HR ⊢
      generalize kTable.getD t 0#32 = kt at ck HR
      generalize W.getD t 0#32 = wt at cw HR
      have hsz := hm.size
      have h1g : 1 < G := by have := HK.out.size; have := hm.2.2.2.2; omega
      have HM := Lib.hid hm; clear hm
      go_wp2_with fail
      have q0 : (t : Int) < 64 := by omega
      go_region_held3 (fun w' => w'.cell? ⟨2, t, none⟩ = some (.int .u32 (n32 kt)) ∧ w'.cell? ⟨G, t, none⟩ = some (.int .u32 (n32 wt))) (go_keep)
        (first | (go_at_call 59; refine (turned_three s.e 6 11 25 _ _ _ (by omega) (by omega) (by omega) ?_ ?_ ?_).mono ?_; (simp [*]); (simp [*]); (simp [*]); rintro e w' ⟨rfl, rfl⟩))
      go_wp2_with (go_at_call 59; refine (turned_three s.a 2 13 22 _ _ _ (by omega) (by omega) (by omega) ?_ ?_ ?_).mono ?_; (simp [*]); (simp [*]); (simp [*]); rintro e w' ⟨rfl, rfl⟩)
      go_roundw
      case rel =>
        refine ⟨t + 1, by omega, by go_num, ?_⟩
        rw [HR.out]
        refine ⟨?_, ?_, ?_, ?_, ?_, ?_, ?_, ?_, ?_⟩
        · rw [stepR_a]
        · rw [stepR_b]
        · rw [stepR_c]
        · rw [stepR_d]
        · rw [stepR_e]
        · rw [stepR_f]
        · rw [stepR_g]
        · rw [stepR_h]
        · exact ((HM.out.alloc _).alloc _).drew
      case measure => simp [intOf]; omega
    · have c0 := cell_wordsV hm.1 (j := 0) (by simp [St.list])
      have c1 := cell_wordsV hm.1 (j := 1) (by simp [St.list])
      have c2 := cell_wordsV hm.1 (j := 2) (by simp [St.list])
      have c3 := cell_wordsV hm.1 (j := 3) (by simp [St.list])
      have c4 := cell_wordsV hm.1 (j := 4) (by simp [St.list])
      have c5 := cell_wordsV hm.1 (j := 5) (by simp [St.list])
      have c6 := cell_wordsV hm.1 (j := 6) (by simp [St.list])
      have c7 := cell_wordsV hm.1 (j := 7) (by simp [St.list])
      simp only [St.list, List.getElem_cons_zero, List.getElem_cons_succ] at c0 c1 c2 c3 c4 c5 c6 c7
      have HT : Hid (t = 64) := show t = 64 by omega
      generalize hs : rounds W st t = s
      have HS := Lib.hid hs; clear hs
      have HM := Lib.hid hm; clear hm
      go_wp2_with (refine wpList_store_row rfl 35 (.tmp 4) (.tmp 124) rfl (w.heap.size + 1 + 1) (wordsV (addSt st s).list).toArray rfl ?_ 35 _ HM.out.2.1 (info44 _) (by rw [listSize]; rfl) (wordsV_one _) ?_)
      · rw [addSt_vals]; rfl
      have hrow := setRow_heap wr (w.heap.size + 1 + 1) _ (wordsV (addSt st s).list).toArray 35 _ HM.out.2.1
      have hbel := below_setRow HM.out.2.2.2.1 (show w.heap.size ≤ w.heap.size + 1 + 1 by omega) (wordsV (addSt st s).list).toArray
      generalize wr.setRow (w.heap.size + 1 + 1) (wordsV (addSt st s).list).toArray = wz at hrow hbel ⊢
      have hres : ∀ tmps : Array Value, tmps.getD 4 undef = .pointer (some ⟨w.heap.size + 1 + 1, 0, none⟩) → Sem.run Tryd.prog (results Tryd.f48 tmps) wz = .ok (.agg (wordsV (addSt st s).list).toArray) wz := fun tmps h =>
        results_cell_row (P := Tryd.prog) (p := 4) (ty := 35) Tryd.results48 tmps wz (w.heap.size + 1 + 1) 35 _ (0, 0) (TypeDesc.array 8 25) h hrow Tryd.underlying35 rfl (info44 _)
      exact bodyPost_ret (v := .agg (wordsV (addSt st s).list).toArray) (hres _ rfl) rfl ⟨by rw [mixOf_eq, HW.out, ← HT.out, HS.out], hbel⟩
end Go.Proofs.YtgfmjfpafpmghaaDoor
