/-
  What other texts lean on: FrModel, FrPure, FrSum, Mix, Feed, Write, Sum, Digest, Cap, MacPass, Order, MacPadded, MacBlock, MacOf, FrWord, FrPut, FrOps, FrGet, FrList, FrRun, Works, RefWords, RefSpread, RefConsts, RefBlock, RefRow, RefSum, Sums, PiecesMem, RefMac, MacBegins, MacKn, MacKeysMem, RefMacOf.
-/
import Derived.Test.YtgeacocdnenhdaaDoorPkA
import Derived.Deep.DeepFit
import Derived.Deep.RegionHeld3
import Derived.Laws.OwnMore
import Derived.Lib.SlBytesConst
import Derived.Laws.CopyOwn
import Derived.Deep.Cut
import Derived.OwnWalkIn
import Derived.Deep.AppendLies
import Derived.Deep.RegionLaw
import Derived.Deep.Onto
import Derived.Deep.OwnRows
/-
  The checksum of frames as a function of lists of bytes: bit by bit, half a byte at a time, that it is linear; and that bits that are turned side by side are found.
-/
namespace Go.Proofs.YtgeacocdnenhdaaDoor
open Go.Proofs.ShaWords

def poly32 : BitVec 32 := 0xEDB88320#32
def pk (b : Bool) : BitVec 32 := if b then poly32 else 0#32
def bit1 (r : BitVec 32) : BitVec 32 := (r >>> 1) ^^^ pk (r.getLsbD 0)
def bitN : Nat → BitVec 32 → BitVec 32
  | 0, r => r
  | k + 1, r => bitN k (bit1 r)
def eat (r : BitVec 32) (b : BitVec 8) : BitVec 32 := bitN 8 (r ^^^ ext b)
def crcR (r : BitVec 32) (l : List (BitVec 8)) : BitVec 32 := l.foldl eat r
/-- The checksum. -/
def crcOf (l : List (BitVec 8)) : BitVec 32 := ~~~ crcR (~~~ 0#32) l

/-- Half a byte at a time. -/
def remT : List (BitVec 32) := [0x00000000#32, 0x1DB71064#32, 0x3B6E20C8#32, 0x26D930AC#32, 0x76DC4190#32, 0x6B6B51F4#32, 0x4DB26158#32, 0x5005713C#32,
  0xEDB88320#32, 0xF00F9344#32, 0xD6D6A3E8#32, 0xCB61B38C#32, 0x9B64C2B0#32, 0x86D3D2D4#32, 0xA00AE278#32, 0xBDBDF21C#32]
/-- One bit of a list turned. -/
def flip1 (l : List (BitVec 8)) (j : Nat) : List (BitVec 8) := l.set (j / 8) (l.getD (j / 8) 0#8 ^^^ 1#8 <<< (j % 8))
/-- Some bits turned, out of so many from a place on. -/
def turned (l : List (BitVec 8)) (at_ fin : Nat) (x : BitVec 32) : Nat → List (BitVec 8)
  | 0 => l
  | i + 1 => if x.getLsbD i && decide (at_ + i < fin) then flip1 (turned l at_ fin x i) (at_ + i) else turned l at_ fin x i
end Go.Proofs.YtgeacocdnenhdaaDoor

/-
  Frames as lists of bytes: what is put, what is got, what is scanned; that what is got is what was put, and in one form alone; that bits that are turned side by side are found.
-/
namespace Go.Proofs.YtgeacocdnenhdaaDoor
open Go.Proofs.ShaWords

def be4 (x : BitVec 32) : List (BitVec 8) := [lo8 (x >>> 24), lo8 (x >>> 16), lo8 (x >>> 8), lo8 x]
def w4 (l : List (BitVec 8)) : BitVec 32 := ext (l.getD 0 0#8) <<< 24 ||| ext (l.getD 1 0#8) <<< 16 ||| ext (l.getD 2 0#8) <<< 8 ||| ext (l.getD 3 0#8)
theorem be4_length (x : BitVec 32) : (be4 x).length = 4 := rfl
theorem ext_bit (b : BitVec 8) (i : Nat) : (ext b).getLsbD i = b.getLsbD i := by
  unfold ext
  rw [BitVec.getLsbD_setWidth]
  by_cases h : i < 32
  · simp [h]
  · rw [BitVec.getLsbD_of_ge b i (by omega)]; simp
theorem lo8_bit (x : BitVec 32) (i : Nat) : (lo8 x).getLsbD i = (decide (i < 8) && x.getLsbD i) := by unfold lo8; rw [BitVec.getLsbD_setWidth]
theorem w4_be4 (x : BitVec 32) (r : List (BitVec 8)) : w4 (be4 x ++ r) = x := by
  show ext (lo8 (x >>> 24)) <<< 24 ||| ext (lo8 (x >>> 16)) <<< 16 ||| ext (lo8 (x >>> 8)) <<< 8 ||| ext (lo8 x) = x
  apply BitVec.eq_of_getLsbD_eq
  intro i hi
  simp only [BitVec.getLsbD_or, BitVec.getLsbD_shiftLeft, ext_bit, lo8_bit, BitVec.getLsbD_ushiftRight, hi, decide_true, Bool.true_and]
  by_cases h1 : i < 8
  · have a : i < 24 := by omega
    have b : i < 16 := by omega
    simp [h1, a, b]
  · by_cases h2 : i < 16
    · have a : i < 24 := by omega
      have c : i - 8 < 8 := by omega
      have e : 8 + (i - 8) = i := by omega
      simp [h1, h2, a, c, e]
    · by_cases h3 : i < 24
      · have c : i - 16 < 8 := by omega
        have d : ¬ i - 8 < 8 := by omega
        have e : 16 + (i - 16) = i := by omega
        simp [h1, h2, h3, c, d, e]
      · have c : ¬ i - 16 < 8 := by omega
        have d : ¬ i - 8 < 8 := by omega
        have f : i - 24 < 8 := by omega
        have e : 24 + (i - 24) = i := by omega
        simp [h1, h2, h3, c, d, f, e]
/-- A frame's bytes ahead of the sum, and all of them. -/
def headF (k : BitVec 8) (l : List (BitVec 8)) : List (BitVec 8) := k :: (be4 (BitVec.ofNat 32 l.length) ++ l)
def frameB (k : BitVec 8) (l : List (BitVec 8)) : List (BitVec 8) := headF k l ++ be4 (crcOf (headF k l))
theorem headF_length (k : BitVec 8) (l : List (BitVec 8)) : (headF k l).length = l.length + 5 := by
  unfold headF
  rw [List.length_cons, List.length_append, be4_length]; omega
theorem frameB_length (k : BitVec 8) (l : List (BitVec 8)) : (frameB k l).length = l.length + 9 := by
  unfold frameB
  rw [List.length_append, headF_length, be4_length]
/-- What is got: the length that is told, the error, the frame. -/
def len4 (b : List (BitVec 8)) : Nat := (w4 (b.drop 1)).toNat
def getE (b : List (BitVec 8)) : Nat :=
  if b.length < 5 then 4 else if b.getD 0 0#8 = 0#8 then 2 else if 2039 < len4 b then 5 else if b.length < len4 b + 9 then 4
  else if w4 (b.drop (len4 b + 5)) = crcOf (b.take (len4 b + 5)) then 0 else 6
theorem len4_head (k : BitVec 8) (l r : List (BitVec 8)) (hl : l.length < 4294967296) : len4 (headF k l ++ r) = l.length := by
  unfold len4 headF
  rw [List.cons_append, List.drop_succ_cons, List.drop_zero, List.append_assoc, w4_be4, BitVec.toNat_ofNat]
  omega
/-- What was put is got again, whatever stands behind it. -/
theorem getE_frame (k : BitVec 8) (l r : List (BitVec 8)) (hk : k ≠ 0#8) (hl : l.length ≤ 2039) : getE (frameB k l ++ r) = 0 := by
  have e : frameB k l ++ r = headF k l ++ (be4 (crcOf (headF k l)) ++ r) := by unfold frameB; rw [List.append_assoc]
  have e1 : len4 (frameB k l ++ r) = l.length := by rw [e]; exact len4_head _ _ _ (by omega)
  have e2 : (frameB k l ++ r).length = l.length + 9 + r.length := by rw [List.length_append, frameB_length]
  have e3 : (frameB k l ++ r).getD 0 0#8 = k := by rw [e]; rfl
  unfold getE
  rw [e1, e2, e3, if_neg (by omega), if_neg hk, if_neg (by omega), if_neg (by omega), if_pos ?_]
  rw [e, ← headF_length k l, List.drop_append_of_le_length (Nat.le_refl _), List.drop_length, List.nil_append, w4_be4, List.take_append_of_le_length (Nat.le_refl _), List.take_length]
/-- Frames one behind the other. -/
def framesB (fs : List (BitVec 8 × List (BitVec 8))) : List (BitVec 8) := fs.flatMap fun f => frameB f.1 f.2
/-- What is scanned of bytes: these frames, and then what is none. -/
structure ScanOf (b : List (BitVec 8)) (fs : List (BitVec 8 × List (BitVec 8))) (r : List (BitVec 8)) : Prop where
  eq : b = framesB fs ++ r
  ok : ∀ f ∈ fs, f.1 ≠ 0#8 ∧ f.2.length ≤ 2039
  last : getE r ≠ 0
theorem framesB_cons (f : BitVec 8 × List (BitVec 8)) (fs : List (BitVec 8 × List (BitVec 8))) : framesB (f :: fs) = frameB f.1 f.2 ++ framesB fs := by
  unfold framesB; rw [List.flatMap_cons]
theorem ScanOf.none {b : List (BitVec 8)} {fs : List (BitVec 8 × List (BitVec 8))} {r : List (BitVec 8)} (h : ScanOf b fs r) (he : getE b ≠ 0) : fs = [] ∧ r = b := by
  cases fs with
  | nil => exact ⟨rfl, by have := h.eq; rw [this]; simp [framesB]⟩
  | cons g gs =>
    exfalso
    have hg := h.ok g List.mem_cons_self
    rw [h.eq, framesB_cons, List.append_assoc] at he
    exact he (getE_frame g.1 g.2 _ hg.1 hg.2)
end Go.Proofs.YtgeacocdnenhdaaDoor

/-
  The program's checksum: over any bytes that lie anywhere.
-/
namespace Go.Proofs.YtgeacocdnenhdaaDoor
open Go.RowKit Go.Proofs.ShaWords
/-- The table of half bytes lies in its variable. -/
def Rem (w : World) : Prop := w.rangeAt 0 0 (wordsV remT)
theorem Rem.size {w : World} (h : Rem w) : 0 < w.heap.size := World.block_lt_of_cell? w _ (h 0 (.int .u32 0) rfl)
theorem Rem.below {w w' : World} {B : Nat} (h : Rem w) (hb : Below B w w') (hB : 0 < B) : Rem w' := fun j v hv => (hb.cell (p := ⟨0, 0 + j, none⟩) hB).trans (h j v hv)
theorem Rem.on {w w' : World} (h : Rem w) (hb : Below w.heap.size w w') : Rem w' := h.below hb h.size
theorem Rem.grown {w w' : World} {g : Nat} (h : Rem w) (hb : w.grownBy w' (some g)) (hg : g ≠ 0) : Rem w' := Reads.grown h hb (fun e => hg e.symm)
/-- The lowest half byte, as a place of the table. -/
def low4 (x : BitVec 32) : Nat := (x &&& 15#32).toNat
theorem Rem.at {w : World} (h : Rem w) (m : Nat) (hl : m < 16) : w.cell? ⟨0, m, none⟩ = some (.int .u32 (n32 (remT.getD m 0#32))) := by
  have := h m (.int .u32 (n32 (remT.getD m 0#32))) (by
    have h16 : m < remT.length := hl
    simp only [wordsV, List.getElem?_map, List.getElem?_eq_getElem h16, List.getD, Option.map_some, Option.getD_some])
  rwa [Nat.zero_add] at this
theorem and15 (x : BitVec 32) : bits .and .u32 (n32 x) 15 = (low4 x : Int) := by
  have h := and32 x 15#32
  exact h
theorem shr32_4 (x : BitVec 32) : n32 x / (16 : Int) = n32 (x >>> 4) := shr32 x 4
theorem not32 (x : BitVec 32) : bits .xor .u32 IntKind.u32.max (n32 x) = n32 (~~~ x) := by
  have h := xor32 4294967295#32 x
  rw [show ~~~ x = 4294967295#32 ^^^ x by
    rw [show (4294967295#32 : BitVec 32) = BitVec.allOnes 32 by decide, BitVec.allOnes_xor]]
  exact h
attribute [local go_sem] xor32 wrap32_n8 shr32_4 and15 not32
end Go.Proofs.YtgeacocdnenhdaaDoor

/-
  The contract of sha.mix: for every eight words and every block of 64 bytes, where the package's table holds its constants, it returns the words mixed with the block; nothing that was there changes.
-/
namespace Go.Proofs.YtgeacocdnenhdaaDoor
open Go.RowKit Go.Proofs.ShaWords
attribute [local go_sem] and32 or32 xor32 add32 shl32 shr32 wrap32_n8 wrap8_n32 shl32_8 shl32_16 shl32_24 shr32_3 shr32_8 shr32_10 shr32_16 shr32_24

attribute [local go_sem] not32

/-- The eight words. -/
structure St where
  a : BitVec 32
  b : BitVec 32
  c : BitVec 32
  d : BitVec 32
  e : BitVec 32
  f : BitVec 32
  g : BitVec 32
  h : BitVec 32
def St.list (s : St) : List (BitVec 32) := [s.a, s.b, s.c, s.d, s.e, s.f, s.g, s.h]
def kTable : List (BitVec 32) := [0x428a2f98#32, 0x71374491#32, 0xb5c0fbcf#32, 0xe9b5dba5#32, 0x3956c25b#32, 0x59f111f1#32, 0x923f82a4#32, 0xab1c5ed5#32,
  0xd807aa98#32, 0x12835b01#32, 0x243185be#32, 0x550c7dc3#32, 0x72be5d74#32, 0x80deb1fe#32, 0x9bdc06a7#32, 0xc19bf174#32,
  0xe49b69c1#32, 0xefbe4786#32, 0x0fc19dc6#32, 0x240ca1cc#32, 0x2de92c6f#32, 0x4a7484aa#32, 0x5cb0a9dc#32, 0x76f988da#32,
  0x983e5152#32, 0xa831c66d#32, 0xb00327c8#32, 0xbf597fc7#32, 0xc6e00bf3#32, 0xd5a79147#32, 0x06ca6351#32, 0x14292967#32,
  0x27b70a85#32, 0x2e1b2138#32, 0x4d2c6dfc#32, 0x53380d13#32, 0x650a7354#32, 0x766a0abb#32, 0x81c2c92e#32, 0x92722c85#32,
  0xa2bfe8a1#32, 0xa81a664b#32, 0xc24b8b70#32, 0xc76c51a3#32, 0xd192e819#32, 0xd6990624#32, 0xf40e3585#32, 0x106aa070#32,
  0x19a4c116#32, 0x1e376c08#32, 0x2748774c#32, 0x34b0bcb5#32, 0x391c0cb3#32, 0x4ed8aa4a#32, 0x5b9cca4f#32, 0x682e6ff3#32,
  0x748f82ee#32, 0x78a5636f#32, 0x84c87814#32, 0x8cc70208#32, 0x90befffa#32, 0xa4506ceb#32, 0xbef9a3f7#32, 0xc67178f2#32]
def uOf (k w : BitVec 32) (s : St) : BitVec 32 :=
  s.h + (rr s.e 6 ^^^ rr s.e 11 ^^^ rr s.e 25) + (s.e &&& s.f ||| ~~~s.e &&& s.g) + k + w
def vOf (s : St) : BitVec 32 :=
  (rr s.a 2 ^^^ rr s.a 13 ^^^ rr s.a 22) + (s.a &&& s.b ||| s.a &&& s.c ||| s.b &&& s.c)
def stepR (k w : BitVec 32) (s : St) : St := ⟨uOf k w s + vOf s, s.a, s.b, s.c, s.d + uOf k w s, s.e, s.f, s.g⟩
def rounds (W : List (BitVec 32)) (s : St) : Nat → St
  | 0 => s
  | n + 1 => stepR (kTable.getD n 0#32) (W.getD n 0#32) (rounds W s n)
def addSt (s t : St) : St := ⟨s.a + t.a, s.b + t.b, s.c + t.c, s.d + t.d, s.e + t.e, s.f + t.f, s.g + t.g, s.h + t.h⟩
def mixOf (s : St) (blk : List (BitVec 8)) : St := addSt s (rounds (scheduleOf blk) s 64)

theorem rounds_succ (W : List (BitVec 32)) (s : St) (n : Nat) : rounds W s (n + 1) = stepR (kTable.getD n 0#32) (W.getD n 0#32) (rounds W s n) := rfl
theorem stepR_a (k w : BitVec 32) (s : St) : (stepR k w s).a = s.h + (rr s.e 6 ^^^ rr s.e 11 ^^^ rr s.e 25) + (s.e &&& s.f ||| ~~~s.e &&& s.g) + k + w + ((rr s.a 2 ^^^ rr s.a 13 ^^^ rr s.a 22) + (s.a &&& s.b ||| s.a &&& s.c ||| s.b &&& s.c)) := rfl
theorem stepR_b (k w : BitVec 32) (s : St) : (stepR k w s).b = s.a := rfl
theorem stepR_c (k w : BitVec 32) (s : St) : (stepR k w s).c = s.b := rfl
theorem stepR_d (k w : BitVec 32) (s : St) : (stepR k w s).d = s.c := rfl
theorem stepR_e (k w : BitVec 32) (s : St) : (stepR k w s).e = s.d + (s.h + (rr s.e 6 ^^^ rr s.e 11 ^^^ rr s.e 25) + (s.e &&& s.f ||| ~~~s.e &&& s.g) + k + w) := rfl
theorem stepR_f (k w : BitVec 32) (s : St) : (stepR k w s).f = s.e := rfl
theorem stepR_g (k w : BitVec 32) (s : St) : (stepR k w s).g = s.f := rfl
theorem stepR_h (k w : BitVec 32) (s : St) : (stepR k w s).h = s.g := rfl
theorem addSt_vals (s t : St) : (wordsV (addSt s t).list).toArray = #[.int .u32 (n32 (s.a + t.a)), .int .u32 (n32 (s.b + t.b)), .int .u32 (n32 (s.c + t.c)), .int .u32 (n32 (s.d + t.d)), .int .u32 (n32 (s.e + t.e)), .int .u32 (n32 (s.f + t.f)), .int .u32 (n32 (s.g + t.g)), .int .u32 (n32 (s.h + t.h))] := rfl
theorem listSize (s : St) : (wordsV s.list).toArray.size = 8 := rfl
theorem info44 (s : St) : (Tryd.prog.info? 203).map (·.size) = some (wordsV s.list).toArray.size := by
  rw [listSize]; kernel_rfl
theorem mixOf_eq (s : St) (blk : List (BitVec 8)) : mixOf s blk = addSt s (rounds (scheduleOf blk) s 64) := rfl
theorem rounds_zero (W : List (BitVec 32)) (s : St) : rounds W s 0 = s := rfl
attribute [local irreducible] rounds stepR scheduleOf uOf vOf addSt kTable mixOf

/-- What sha.mix has in memory: the words that came in, the result's cells, the block's 64 words in block G, and the table. -/
def MixW (w : World) (s : St) (G : Nat) (W : List (BitVec 32)) (wr : World) : Prop :=
  wr.heap[w.heap.size]? = some (.cells (wordsV s.list).toArray 203 (0, 0)) ∧
  wr.heap[w.heap.size + 1 + 1]? = some (.cells #[Value.int IntKind.u32 0, Value.int IntKind.u32 0, Value.int IntKind.u32 0, Value.int IntKind.u32 0, Value.int IntKind.u32 0, Value.int IntKind.u32 0, Value.int IntKind.u32 0, Value.int IntKind.u32 0] 203 (0, 0)) ∧
  wr.heap[G]? = some (.cells (wordsV W).toArray 212 (0, 0)) ∧ Below w.heap.size w wr ∧ w.heap.size + 1 + 1 < G

/-- The table of constants, as the package's second variable holds it. -/
def Consts (w : World) : Prop := ∀ i, i < 64 → w.cell? ⟨2, i, none⟩ = some (.int .u32 (n32 (kTable.getD i 0#32)))
theorem Consts.size {w : World} (h : Consts w) : 2 < w.heap.size := World.block_lt_of_cell? w _ (h 0 (by omega))
theorem Consts.below {w w' : World} {B : Nat} (h : Consts w) (hb : Below B w w') (hB : 2 < B) : Consts w' := fun i hi => (hb.cell (p := ⟨2, i, none⟩) hB).trans (h i hi)
theorem MixW.drewN {w : World} {s : St} {G : Nat} {W : List (BitVec 32)} {wr : World} (h : MixW w s G W wr) (n : Nat) : MixW w s G W (wr.drewN n) :=
  ⟨h.1, h.2.1, h.2.2.1, h.2.2.2.1.trans ⟨rfl, rfl, rfl, Nat.le_refl _, fun _ _ => rfl⟩, h.2.2.2.2⟩
theorem MixW.drew {w : World} {s : St} {G : Nat} {W : List (BitVec 32)} {wr : World} (h : MixW w s G W wr) : MixW w s G W wr.drew := h.drewN 1
theorem MixW.size {w : World} {s : St} {G : Nat} {W : List (BitVec 32)} {wr : World} (h : MixW w s G W wr) : G < wr.heap.size :=
  (Array.getElem?_eq_some_iff.1 h.2.2.1).1
theorem MixW.alloc {w : World} {s : St} {G : Nat} {W : List (BitVec 32)} {wr : World} (h : MixW w s G W wr) (o : Obj) : MixW w s G W (wr.alloc o) := by
  have h1 := h.size
  obtain ⟨a, b, c, d, e⟩ := h
  refine ⟨?_, ?_, ?_, d.alloc (by omega) o, e⟩
  · rw [Below.heap_alloc _ _ _ (by omega)]; exact a
  · rw [Below.heap_alloc _ _ _ (by omega)]; exact b
  · rw [Below.heap_alloc _ _ _ (by omega)]; exact c

set_option maxRecDepth 100000 in
set_option maxHeartbeats 1000000 in
theorem mix_any (st : St) (blk : List (BitVec 8)) (w : World) (hl : blk.length = 64) (hk : Consts w) :
    Calls Tryd.prog 196 #[.agg (wordsV st.list).toArray, .agg (bytesV blk).toArray] w fun e w' => e = .returned (.agg (wordsV (mixOf st blk).list).toArray) ∧ Below w.heap.size w w' := by
  have HI47 := Lib.hid ((show (Tryd.prog.info? 153).map (·.size) = some 64 by kernel_rfl).trans (congrArg some (bytesV_size blk 64 hl).symm))
  have HL := Lib.hid hl; clear hl
  have HK := Lib.hid hk; clear hk
  go_enter Tryd.func196, Tryd.ntmps196
  go_wp2_with (first
            | (refine wpList_load_row rfl 153 (.tmp 3) rfl (w.heap.size + 1) rfl 153 (bytesV blk).toArray (0, 0) _ (alloc3_2 _ _ _ _) Tryd.underlying153 rfl HI47.out ?_))
  have h0 := alloc3_1 w (Obj.cells (wordsV st.list).toArray 203) (Obj.cells (bytesV blk).toArray 153) (Obj.cells #[Value.int IntKind.u32 0, Value.int IntKind.u32 0, Value.int IntKind.u32 0, Value.int IntKind.u32 0, Value.int IntKind.u32 0, Value.int IntKind.u32 0, Value.int IntKind.u32 0, Value.int IntKind.u32 0] 203)
  have z0 := alloc3_3 w (Obj.cells (wordsV st.list).toArray 203) (Obj.cells (bytesV blk).toArray 153) (Obj.cells #[Value.int IntKind.u32 0, Value.int IntKind.u32 0, Value.int IntKind.u32 0, Value.int IntKind.u32 0, Value.int IntKind.u32 0, Value.int IntKind.u32 0, Value.int IntKind.u32 0, Value.int IntKind.u32 0] 203)
  have b0 := alloc3_below w (Obj.cells (wordsV st.list).toArray 203) (Obj.cells (bytesV blk).toArray 153) (Obj.cells #[Value.int IntKind.u32 0, Value.int IntKind.u32 0, Value.int IntKind.u32 0, Value.int IntKind.u32 0, Value.int IntKind.u32 0, Value.int IntKind.u32 0, Value.int IntKind.u32 0, Value.int IntKind.u32 0] 203)
  generalize ((w.alloc (Obj.cells (wordsV st.list).toArray 203)).alloc (Obj.cells (bytesV blk).toArray 153)).alloc (Obj.cells #[Value.int IntKind.u32 0, Value.int IntKind.u32 0, Value.int IntKind.u32 0, Value.int IntKind.u32 0, Value.int IntKind.u32 0, Value.int IntKind.u32 0, Value.int IntKind.u32 0, Value.int IntKind.u32 0] 203) = w0 at h0 z0 b0 ⊢
  have s0 : w.heap.size + 1 + 1 < w0.heap.size := (Array.getElem?_eq_some_iff.1 z0).1
  refine (schedule_any blk w0 HL.out).mono ?_
  rintro e w1 ⟨rfl, b1⟩
  rw [← b1.block _ (by omega)] at h0
  rw [← b1.block _ (by omega)] at z0
  replace b0 := b0.trans (b1.mono (by omega))
  have s1 : w.heap.size + 1 + 1 < w1.heap.size := Nat.lt_of_lt_of_le s0 b1.size
  have hfl : (scheduleOf blk).length = 64 := by rw [scheduleOf, spreadBy_length, first16_length]
  have HFL := Lib.hid hfl
  have HI60 := Lib.hid ((show (Tryd.prog.info? 212).map (·.size) = some 64 by kernel_rfl).trans (congrArg some (wordsV_size _ 64 hfl).symm))
  have HONE := Lib.hid (wordsV_one (scheduleOf blk))
  have HSZ := Lib.hid (wordsV_size _ 64 hfl)
  clear b1 s0 hfl
  have H0 := Lib.hid h0; clear h0
  have Z0 := Lib.hid z0; clear z0
  have B0 := Lib.hid b0; clear b0
  clear HI47
  generalize hW : scheduleOf blk = W at HI60 HONE HSZ HFL ⊢
  have HW := Lib.hid hW; clear hW
  go_wp2_with (first
    | (refine wpList_store_row rfl 212 (.tmp 5) (.tmp 20) rfl w1.heap.size (wordsV W).toArray rfl rfl 212 _ (heap_new_at rfl) HI60.out (by rw [HSZ.out]; rfl) HONE.out ?_))
  refine wp_gen (MixW w st w1.heap.size W) ?_ ?_
  · refine ⟨?_, ?_, setRow_heap _ _ _ _ _ _ (heap_new_at rfl), ?_, s1⟩
    · rw [setRow_other _ _ _ _ (by omega), Below.heap_alloc _ _ _ (by omega)]; exact H0.out
    · rw [setRow_other _ _ _ _ (by omega), Below.heap_alloc _ _ _ (by omega)]; exact Z0.out
    · exact below_setRow (B0.out.alloc (by omega) _) (by omega) _
  generalize w1.heap.size = G
  clear H0 Z0 B0 s1 HI60 HONE HSZ w0 w1
  intro w2 hm
  go_frame
  have c0 := cell_wordsV hm.1 (j := 0) (by simp [St.list])
  have c1 := cell_wordsV hm.1 (j := 1) (by simp [St.list])
  have c2 := cell_wordsV hm.1 (j := 2) (by simp [St.list])
  have c3 := cell_wordsV hm.1 (j := 3) (by simp [St.list])
  have c4 := cell_wordsV hm.1 (j := 4) (by simp [St.list])
  have c5 := cell_wordsV hm.1 (j := 5) (by simp [St.list])
  have c6 := cell_wordsV hm.1 (j := 6) (by simp [St.list])
  have c7 := cell_wordsV hm.1 (j := 7) (by simp [St.list])
  simp only [St.list, List.getElem_cons_zero, List.getElem_cons_succ] at c0 c1 c2 c3 c4 c5 c6 c7
  have HM := Lib.hid hm; clear hm
  go_quiet (fail)
  go_wp2_with fail
  have hm := HM.out
  replace hm : MixW w st G W (w2.drewN nq) := MixW.drewN hm nq
  generalize w2.drewN nq = w3 at hm ⊢
  clear HM c0 c1 c2 c3 c4 c5 c6 c7
  have HM := Lib.hid hm; clear hm
  go_loopw [6, 7, 8, 9, 10, 11, 12, 13, 14, 15, 16, 17, 18, 37] (fun a b c d e f g h _ _ _ _ _ i wr => ∃ t : Nat, t ≤ 64 ∧ i = .int .i64 t ∧
      a = .int .u32 (n32 (rounds W st t).a) ∧ b = .int .u32 (n32 (rounds W st t).b) ∧ c = .int .u32 (n32 (rounds W st t).c) ∧ d = .int .u32 (n32 (rounds W st t).d) ∧
      e = .int .u32 (n32 (rounds W st t).e) ∧ f = .int .u32 (n32 (rounds W st t).f) ∧ g = .int .u32 (n32 (rounds W st t).g) ∧ h = .int .u32 (n32 (rounds W st t).h) ∧ MixW w st G W wr)
    (fun _ _ _ _ _ _ _ _ _ _ _ _ _ i _ => 64 - (intOf i).toNat)
  case atStart => exact ⟨0, by omega, rfl, by rw [rounds_zero], by rw [rounds_zero], by rw [rounds_zero], by rw [rounds_zero], by rw [rounds_zero], by rw [rounds_zero], by rw [rounds_zero], by rw [rounds_zero], HM.out⟩
  case round =>
    clear HM
    obtain ⟨t, ht, rfl, rfl, rfl, rfl, rfl, rfl, rfl, rfl, rfl, hm⟩ := hrel
    by_cases hlt : t < 64
    · have HR := Lib.hid (rounds_succ W st t)
      have ck := ((HK.out.below hm.2.2.2.1 HK.out.size)) t hlt
      have cw := cell_wordsV hm.2.2.1 (j := t) (by rw [HFL.out]; exact hlt)
      rw [show W[t]'(by rw [HFL.out]; exact hlt) = W.getD t 0#32 by simp [List.getD, HFL.out, hlt]] at cw
      generalize rounds W st t = s at HR ⊢
      generalize kTable.getD t 0#32 = kt at ck HR
      generalize W.getD t 0#32 = wt at cw HR
      have hsz := hm.size
      have h1g : 1 < G := by have := HK.out.size; have := hm.2.2.2.2; omega
      have HM := Lib.hid hm; clear hm
      go_wp2_with fail
      have q0 : (t : Int) < 64 := by omega
      go_region_held3 (fun w' => w'.cell? ⟨2, t, none⟩ = some (.int .u32 (n32 kt)) ∧ w'.cell? ⟨G, t, none⟩ = some (.int .u32 (n32 wt))) (go_keep)
        (first | (go_at_call 206; refine (turned_three s.e 6 11 25 _ _ _ (by omega) (by omega) (by omega) ?_ ?_ ?_).mono ?_; (simp [*]); (simp [*]); (simp [*]); rintro e w' ⟨rfl, rfl⟩))
      go_wp2_with (go_at_call 206; refine (turned_three s.a 2 13 22 _ _ _ (by omega) (by omega) (by omega) ?_ ?_ ?_).mono ?_; (simp [*]); (simp [*]); (simp [*]); rintro e w' ⟨rfl, rfl⟩)
      go_roundw
      case rel =>
        refine ⟨t + 1, by omega, by go_num, ?_⟩
        rw [HR.out]
        refine ⟨?_, ?_, ?_, ?_, ?_, ?_, ?_, ?_, ?_⟩
        · rw [stepR_a]
        · rw [stepR_b]
        · rw [stepR_c]
        · rw [stepR_d]
        · rw [stepR_e]
        · rw [stepR_f]
        · rw [stepR_g]
        · rw [stepR_h]
        · exact ((HM.out.alloc _).alloc _).drew
      case measure => simp [intOf]; omega
    · have c0 := cell_wordsV hm.1 (j := 0) (by simp [St.list])
      have c1 := cell_wordsV hm.1 (j := 1) (by simp [St.list])
      have c2 := cell_wordsV hm.1 (j := 2) (by simp [St.list])
      have c3 := cell_wordsV hm.1 (j := 3) (by simp [St.list])
      have c4 := cell_wordsV hm.1 (j := 4) (by simp [St.list])
      have c5 := cell_wordsV hm.1 (j := 5) (by simp [St.list])
      have c6 := cell_wordsV hm.1 (j := 6) (by simp [St.list])
      have c7 := cell_wordsV hm.1 (j := 7) (by simp [St.list])
      simp only [St.list, List.getElem_cons_zero, List.getElem_cons_succ] at c0 c1 c2 c3 c4 c5 c6 c7
      have HT : Hid (t = 64) := show t = 64 by omega
      generalize hs : rounds W st t = s
      have HS := Lib.hid hs; clear hs
      have HM := Lib.hid hm; clear hm
      go_wp2_with (refine wpList_store_row rfl 203 (.tmp 4) (.tmp 124) rfl (w.heap.size + 1 + 1) (wordsV (addSt st s).list).toArray rfl ?_ 203 _ HM.out.2.1 (info44 _) (by rw [listSize]; rfl) (wordsV_one _) ?_)
      · rw [addSt_vals]; rfl
      have hrow := setRow_heap wr (w.heap.size + 1 + 1) _ (wordsV (addSt st s).list).toArray 203 _ HM.out.2.1
      have hbel := below_setRow HM.out.2.2.2.1 (show w.heap.size ≤ w.heap.size + 1 + 1 by omega) (wordsV (addSt st s).list).toArray
      generalize wr.setRow (w.heap.size + 1 + 1) (wordsV (addSt st s).list).toArray = wz at hrow hbel ⊢
      have hres : ∀ tmps : Array Value, tmps.getD 4 undef = .pointer (some ⟨w.heap.size + 1 + 1, 0, none⟩) → Sem.run Tryd.prog (results Tryd.f196 tmps) wz = .ok (.agg (wordsV (addSt st s).list).toArray) wz := fun tmps h =>
        results_cell_row (P := Tryd.prog) (p := 4) (ty := 203) Tryd.results196 tmps wz (w.heap.size + 1 + 1) 203 _ (0, 0) (TypeDesc.array 8 176) h hrow Tryd.underlying203 rfl (info44 _)
      exact bodyPost_ret (v := .agg (wordsV (addSt st s).list).toArray) (hres _ rfl) rfl ⟨by rw [mixOf_eq, HW.out, ← HT.out, HS.out], hbel⟩
end Go.Proofs.YtgeacocdnenhdaaDoor

/-
  Plain mathematics of a hash that is fed byte by byte: what a piece of bytes does to the words, the waiting block and the length.
-/
namespace Go.Proofs.YtgeacocdnenhdaaDoor
open Go.RowKit Go.Proofs.ShaWords

/-- A hash: its words, its block, how many bytes were written. -/
structure HS where
  s : St
  blk : List (BitVec 8)
  n : Nat
/-- One byte more. -/
def feed (h : HS) (b : BitVec 8) : HS :=
  if (h.n + 1) % 64 = 0 then ⟨mixOf h.s (h.blk.set (h.n % 64) b), h.blk.set (h.n % 64) b, h.n + 1⟩ else ⟨h.s, h.blk.set (h.n % 64) b, h.n + 1⟩
def writeOf (h : HS) (bs : List (BitVec 8)) : HS := bs.foldl feed h
theorem writeOf_append (h : HS) (a b : List (BitVec 8)) : writeOf h (a ++ b) = writeOf (writeOf h a) b := List.foldl_append
theorem feed_n (h : HS) (b : BitVec 8) : (feed h b).n = h.n + 1 := by unfold feed; split <;> rfl
theorem feed_blk (h : HS) (b : BitVec 8) : (feed h b).blk = h.blk.set (h.n % 64) b := by unfold feed; split <;> rfl
theorem writeOf_n (h : HS) (bs : List (BitVec 8)) : (writeOf h bs).n = h.n + bs.length := by
  induction bs generalizing h with
  | nil => rfl
  | cons b r ih => rw [writeOf, List.foldl_cons, ← writeOf, ih, feed_n]; simp; omega
theorem writeOf_blk_length (h : HS) (bs : List (BitVec 8)) : (writeOf h bs).blk.length = h.blk.length := by
  induction bs generalizing h with
  | nil => rfl
  | cons b r ih => rw [writeOf, List.foldl_cons, ← writeOf, ih, feed_blk]; simp
/-- A piece that goes into the block. -/
theorem writeOf_chunk (h : HS) (bs : List (BitVec 8)) (hb : h.blk.length = 64) (hne : bs ≠ []) (hfit : h.n % 64 + bs.length ≤ 64) :
    writeOf h bs = if (h.n + bs.length) % 64 = 0 then ⟨mixOf h.s (splice h.blk (h.n % 64) bs), splice h.blk (h.n % 64) bs, h.n + bs.length⟩ else ⟨h.s, splice h.blk (h.n % 64) bs, h.n + bs.length⟩ := by
  induction bs generalizing h with
  | nil => exact absurd rfl hne
  | cons b r ih =>
    simp only [List.length_cons] at hfit
    rw [writeOf, List.foldl_cons, ← writeOf]
    by_cases hr : r = []
    · subst hr
      rw [splice_cons _ _ _ _ (by simp; omega), splice_nil]; rfl
    · have hrl : 0 < r.length := List.length_pos_iff.2 hr
      have hlt : ¬ (h.n + 1) % 64 = 0 := by omega
      have hm : (h.n + 1) % 64 = h.n % 64 + 1 := by omega
      have hf : feed h b = ⟨h.s, h.blk.set (h.n % 64) b, h.n + 1⟩ := by unfold feed; rw [if_neg hlt]
      rw [hf, ih ⟨h.s, h.blk.set (h.n % 64) b, h.n + 1⟩ (by simp [hb]) hr (by show (h.n + 1) % 64 + r.length ≤ 64; omega)]
      simp only [hm, List.length_cons]
      rw [splice_cons _ _ _ _ (by omega), show h.n + 1 + r.length = h.n + (r.length + 1) by omega]
end Go.Proofs.YtgeacocdnenhdaaDoor

/-
  The contract of (*sha.Hash).Write: for a hash that lies whole in a block of its own and any bytes that lie in another block, the hash is fed these bytes; nothing else that was there changes.
-/
namespace Go.Proofs.YtgeacocdnenhdaaDoor
open Go.RowKit Go.Proofs.ShaWords

def hashCells (h : HS) : List Value := wordsV h.s.list ++ (bytesV h.blk ++ [.int .u64 (h.n : Int)])
/-- Block g holds this hash. -/
def HashAt (w : World) (g : Nat) (h : HS) : Prop := w.heap[g]? = some (.cells (hashCells h).toArray 205 (0, 0)) ∧ h.blk.length = 64
theorem hashCells_length (h : HS) (hb : h.blk.length = 64) : (hashCells h).length = 73 := by
  simp [hashCells, wordsV_length, bytesV_length, hb, St.list]
theorem HashAt.cellN {w : World} {g : Nat} {h : HS} (ha : HashAt w g h) : w.cell? ⟨g, 72, none⟩ = some (.int .u64 (h.n : Int)) := by
  rw [cell_of_row w g 72 _ 205 (0, 0) ha.1]
  have e : (hashCells h)[72]? = some (.int .u64 (h.n : Int)) := by
    unfold hashCells
    rw [List.getElem?_append_right (by simp [wordsV_length, St.list]), List.getElem?_append_right (by simp [wordsV_length, bytesV_length, St.list, ha.2])]
    simp [wordsV_length, bytesV_length, St.list, ha.2]
  simpa using e
theorem HashAt.frozen {w : World} {g : Nat} {h : HS} (ha : HashAt w g h) (j : Nat) : w.frozen? ⟨g, j, none⟩ = false := frozen_of_row _ _ _ _ _ ha.1

/-- A copy into the block, seen in the whole row. -/
theorem hash_splice (h : HS) (m : Nat) (cs : List (BitVec 8)) (hb : h.blk.length = 64) (hm : m + cs.length ≤ 64) :
    (hashCells h).take (8 + m) ++ (bytesV cs ++ (hashCells h).drop (8 + m + (bytesV cs).length)) = hashCells ⟨h.s, splice h.blk m cs, h.n⟩ := by
  have hw : (wordsV h.s.list).length = 8 := by simp [wordsV_length, St.list]
  have hbl : (bytesV h.blk).length = 64 := by simp [bytesV_length, hb]
  unfold hashCells splice
  rw [bytesV_append, bytesV_append, bytesV_take, bytesV_drop]
  generalize bytesV h.blk = B at hbl
  generalize wordsV h.s.list = W at hw
  rw [show (bytesV cs).length = cs.length from bytesV_length cs]
  rw [List.take_append, List.take_of_length_le (by omega), hw, show 8 + m - 8 = m by omega, List.take_append_of_le_length (by omega),
    List.drop_append, List.drop_of_length_le (by omega), hw, show 8 + m + cs.length - 8 = m + cs.length by omega, List.nil_append, List.drop_append_of_le_length (by omega)]
  simp only [List.append_assoc]
theorem HashAt.setN {w : World} {g : Nat} {h : HS} (ha : HashAt w g h) (n' : Nat) : HashAt (w.setCell ⟨g, 72, none⟩ (.int .u64 (n' : Int))) g ⟨h.s, h.blk, n'⟩ := by
  refine ⟨?_, ha.2⟩
  rw [heap_setCell_same _ _ _ _ _ _ ha.1]
  have e : ((hashCells h).toArray.setIfInBounds 72 (.int .u64 (n' : Int))) = (hashCells ⟨h.s, h.blk, n'⟩).toArray := by
    simp only [List.setIfInBounds_toArray, hashCells]
    rw [List.set_append_right _ _ (by simp [wordsV_length, St.list]), List.set_append_right _ _ (by simp [wordsV_length, bytesV_length, St.list, ha.2])]
    simp [wordsV_length, bytesV_length, St.list, ha.2]
  rw [e]

/-- The copy into a hash's block. -/
theorem wpList_copy_hash {P : Program} {w : World} {ops : Array Oper} {rest : List Oper} {o : Oper} {a : Act} {Q : Exit → Act → World → Prop} (hgd : o.guard = none) (d s : Operand) (dT sT : TypeId)
    (ho : o.op = .call { callee := .builtin .copy, args := #[d, s], argTypes := #[dT, sT] }) (elem : TypeId) (hu : P.underlying dT = some (.slice elem)) (hsz : (P.info? elem).map (·.size) = some 1)
    (g m b off sLen sCap k : Nat) (h : HS) (bs : List (BitVec 8)) (hd : a.eval d = .slice (some ⟨g, 8 + m, none⟩) (64 - m) (64 - m)) (hs : a.eval s = .slice (some ⟨b, off, none⟩) sLen sCap)
    (ha : HashAt w g h) (hl : bs.length = sLen) (hk : k = Nat.min sLen (64 - m)) (hm : m < 64) (hr : w.rangeAt b off (bytesV bs))
    (hK : ∀ w', HashAt w' g ⟨h.s, splice h.blk m (bs.take k), h.n⟩ → w.grownBy w' (some g) → wpList P ops Q rest (a.put o.dst (.int .i64 (k : Int))) w') :
    wpList P ops Q (o :: rest) a w := by
  have hk1 : k ≤ bs.length := by rw [hk, hl]; exact Nat.min_le_left _ _
  have hk2 : m + k ≤ 64 := by have h2 : k ≤ 64 - m := hk ▸ Nat.min_le_right _ _; omega
  have hkl : (bytesV (bs.take k)).length = k := by rw [bytesV_length, List.length_take]; omega
  refine wpList_copy_own hgd d s dT sT ho elem hu hsz g (8 + m) (64 - m) (64 - m) ⟨b, off, none⟩ sLen sCap hd hs (hashCells h).toArray 205 ha.1 (bytesV (bs.take k)) (by rw [hkl, hk]) ?_ ?_ (fun v hv => bytesV_mem hv) ?_
  · intro j v hv
    rw [Addr.add_mid]
    refine hr j v ?_
    rw [bytesV_take, List.getElem?_take] at hv
    split at hv
    · exact hv
    · cases hv
  · rw [hkl, List.size_toArray, hashCells_length h ha.2]; omega
  · rw [hkl]
    refine hK _ ⟨?_, ?_⟩ (grown_setRow _ _ _)
    · rw [setRow_heap _ _ _ _ _ _ ha.1]
      have e := hash_splice h m (bs.take k) ha.2 (by rw [← bytesV_length, hkl]; exact hk2)
      rw [hkl] at e
      rw [← e]
    · show (splice h.blk m (bs.take k)).length = 64
      rw [length_splice _ _ _ (by rw [← bytesV_length (bs.take k), hkl, ha.2]; exact hk2), ha.2]

theorem HashAt.words {w : World} {g : Nat} {h : HS} (ha : HashAt w g h) : w.rangeAt g 0 (wordsV h.s.list) := fun j v hv => by
  rw [Nat.zero_add, cell_of_row w g j _ 205 (0, 0) ha.1]
  have hj : j < (wordsV h.s.list).length := (List.getElem?_eq_some_iff.1 hv).1
  simp only [List.getElem?_toArray, hashCells]
  rw [List.getElem?_append_left hj]; exact hv
theorem HashAt.bytes {w : World} {g : Nat} {h : HS} (ha : HashAt w g h) : w.rangeAt g 8 (bytesV h.blk) := fun j v hv => by
  rw [cell_of_row w g _ _ 205 (0, 0) ha.1]
  have hj : j < (bytesV h.blk).length := (List.getElem?_eq_some_iff.1 hv).1
  have hw : (wordsV h.s.list).length = 8 := by simp [wordsV_length, St.list]
  simp only [List.getElem?_toArray, hashCells]
  rw [List.getElem?_append_right (by omega), hw, show 8 + j - 8 = j by omega, List.getElem?_append_left hj]; exact hv
theorem HashAt.there {w : World} {g : Nat} {h : HS} (ha : HashAt w g h) (o n : Nat) (hon : o + n ≤ 73) : w.there g o n := fun j hj => by
  refine ⟨?_, ha.frozen _⟩
  rw [cell_of_row w g _ _ 205 (0, 0) ha.1]
  have : o + j < (hashCells h).length := by rw [hashCells_length h ha.2]; omega
  simp [this]
theorem HashAt.setWords {w : World} {g : Nat} {h : HS} (ha : HashAt w g h) (s' : St) : HashAt (w.setCells g 0 (wordsV s'.list)) g ⟨s', h.blk, h.n⟩ := by
  refine ⟨?_, ha.2⟩
  rw [heap_setCells g 205 _ 0 (hashCells h) w ha.1 (by rw [hashCells_length h ha.2, wordsV_length]; simp [St.list])]
  have e : splice (hashCells h) 0 (wordsV s'.list) = hashCells ⟨s', h.blk, h.n⟩ := by
    have hw : (wordsV h.s.list).length = 8 := by simp [wordsV_length, St.list]
    have hw' : (wordsV s'.list).length = 8 := by simp [wordsV_length, St.list]
    unfold splice hashCells
    rw [hw', List.take_zero, List.nil_append, Nat.zero_add, List.drop_append, List.drop_of_length_le (by omega), hw]; rfl
  rw [e]
theorem HashAt.size {w : World} {g : Nat} {h : HS} (ha : HashAt w g h) : g < w.heap.size := (Array.getElem?_eq_some_iff.1 ha.1).1
theorem HashAt.keep {w w' : World} {g : Nat} {h : HS} (ha : HashAt w g h) (hb : Below w.heap.size w w') : HashAt w' g h := ⟨(hb.block _ ha.size).trans ha.1, ha.2⟩
theorem Consts.grown {w w' : World} {g : Nat} (h : Consts w) (hb : w.grownBy w' (some g)) (hg : g ≠ 2) : Consts w' := fun i hi =>
  (World.cell?_of_block (a := ⟨2, i, none⟩) (hb.block 2 h.size (fun e => hg (Option.some.inj e).symm))).trans (h i hi)

/-- The cells of a hash that the mixing statement touches. -/
theorem HashAt.eight {w : World} {g : Nat} {h : HS} (ha : HashAt w g h) : w.cell? ⟨g, 0, none⟩ = some (.int .u32 (n32 h.s.a)) ∧ w.cell? ⟨g, 1, none⟩ = some (.int .u32 (n32 h.s.b)) ∧ w.cell? ⟨g, 2, none⟩ = some (.int .u32 (n32 h.s.c)) ∧
    w.cell? ⟨g, 3, none⟩ = some (.int .u32 (n32 h.s.d)) ∧ w.cell? ⟨g, 4, none⟩ = some (.int .u32 (n32 h.s.e)) ∧ w.cell? ⟨g, 5, none⟩ = some (.int .u32 (n32 h.s.f)) ∧ w.cell? ⟨g, 6, none⟩ = some (.int .u32 (n32 h.s.g)) ∧ w.cell? ⟨g, 7, none⟩ = some (.int .u32 (n32 h.s.h)) :=
  ⟨ha.words 0 _ rfl, ha.words 1 _ rfl, ha.words 2 _ rfl, ha.words 3 _ rfl, ha.words 4 _ rfl, ha.words 5 _ rfl, ha.words 6 _ rfl, ha.words 7 _ rfl⟩
theorem run_field {ρ : Operand → Value} {o : Oper} {x : Operand} {f off g : Nat} (ho : o.op = .fieldAddr 205 x f)
    (hf : ∀ w, (Instr.fieldAt 205 (.pointer (some ⟨g, 0, none⟩)) f).run Tryd.prog w = .ok (.pointer (some ⟨g, off, none⟩)) w) (h : ρ x = .pointer (some ⟨g, 0, none⟩)) (w : World) :
    (execOp ρ o).run Tryd.prog w = .ok (.value (.pointer (some ⟨g, off, none⟩))) w := by
  unfold execOp; simp only [ho, h, Sem.run_bind, hf, Result.andThen_ok, Sem.run_pure]
theorem run_call28 {ρ : Operand → Value} {o : Oper} {x y : Operand} {v u : Value} (ho : o.op = .call { callee := .value (.func 196), args := #[x, y], argTypes := #[203, 153] }) (hf : ρ (.func 196) = .func (.func 196) #[] #[]) (hx : ρ x = v) (hy : ρ y = u) (w : World) :
    (execOp ρ o).run Tryd.prog w = .ok (.enter 196 #[v, u]) w := by
  obtain ⟨dst, op, ty, pos, after, guard⟩ := o
  simp only at ho
  subst ho
  go_simp

set_option maxRecDepth 100000 in
set_option maxHeartbeats 1000000 in
theorem write_any (g : Nat) (h : HS) (bs : List (BitVec 8)) (p : Option Addr) (cap : Nat) (w : World) (ha : HashAt w g h) (hr : Reads w g p bs) (hcap : bs.length ≤ cap) (hcm : cap ≤ 140737488351232)
    (hn : h.n + bs.length < 1099511627776) (hk : Consts w) (hg : g ≠ 2) :
    Calls Tryd.prog 178 #[.pointer (some ⟨g, 0, none⟩), .slice p bs.length cap] w fun e w' => e = .returned (.tuple #[]) ∧ HashAt w' g (writeOf h bs) ∧ w.grownBy w' (some g) := by
  have HG := Lib.hid hg; clear hg
  have HK := Lib.hid hk; clear hk
  have HA := Lib.hid ha; clear ha
  have HR := Lib.hid hr; clear hr
  go_enter Tryd.func178, Tryd.ntmps178
  go_wp2_with fail
  go_loopw [1, 4, 5] (fun b _ _ wr => ∃ (done rest : List (BitVec 8)) (p' : Option Addr) (cap' : Nat), bs = done ++ rest ∧ b = .slice p' rest.length cap' ∧ rest.length ≤ cap' ∧ cap' ≤ 140737488351232 ∧
      Reads wr g p' rest ∧ HashAt wr g (writeOf h done) ∧ w.grownBy wr (some g)) (fun b _ _ _ => match b with | .slice _ n _ => n | _ => 0)
  case atStart => exact ⟨[], bs, p, cap, rfl, rfl, hcap, hcm, HR.out, HA.out, World.grownBy.refl _ _⟩
  case round =>
    clear HR HA hcap hcm
    obtain ⟨done, rest, p', cap', hbs, rfl, hc1, hc2, hr, ha, hgr⟩ := hrel
    by_cases hne : rest = []
    · subst hne
      have HB := Lib.hid hbs; clear hbs
      have HA := Lib.hid ha; clear ha
      have HGR := Lib.hid hgr; clear hgr hr
      go_wp2_with fail
      go_end0
      refine ⟨rfl, ?_, HGR.out⟩
      have h1 := HB.out
      rw [List.append_nil] at h1
      rw [h1]; exact HA.out
    · have hpos : 0 < rest.length := List.length_pos_iff.2 hne
      have hblk := ha.2
      have hnn := writeOf_n h done
      have hlen : bs.length = done.length + rest.length := by rw [hbs, List.length_append]
      generalize hH : writeOf h done = H at ha hblk hnn
      have hnb : H.n + rest.length < 1099511627776 := by omega
      have cn := ha.cellN
      have HH := Lib.hid hH; clear hH hnn hlen
      have HB := Lib.hid hbs; clear hbs
      rcases hr with hr | ⟨b, off, rfl, hbg, hrg⟩
      · exact absurd hr hne
      have HR := Lib.hid hrg; clear hrg
      have HBG := Lib.hid hbg; clear hbg
      have HA := Lib.hid ha; clear ha
      have HBLK := Lib.hid hblk; clear hblk
      have HGR := Lib.hid hgr; clear hgr
      have HNE := Lib.hid hne; clear hne
      obtain ⟨m, hm, hm64⟩ : ∃ m : Nat, (H.n : Int) % 64 = (m : Int) ∧ m < 64 := ⟨H.n % 64, by omega, by omega⟩
      have hm0 : (m : Int) ≤ 64 := by omega
      have hm1 : ¬ (64 = m) := by omega
      have hm2 : ¬ (m = 64) := by omega
      obtain ⟨k, hk, hk1, hk2, hk3⟩ : ∃ k : Nat, k = Nat.min rest.length (64 - m) ∧ k ≤ rest.length ∧ m + k ≤ 64 ∧ 0 < k := ⟨_, rfl, Nat.min_le_left _ _, by have h2 : Nat.min rest.length (64 - m) ≤ 64 - m := Nat.min_le_right _ _; omega, by
        show 0 < Nat.min rest.length (64 - m); exact Nat.lt_min.2 ⟨hpos, by omega⟩⟩
      have HKK := Lib.hid hk; clear hk
      have hkc : (k : Int) ≤ (cap' : Int) := by omega
      obtain ⟨p2, hsl, hp3⟩ : ∃ p2 : Option Addr, (if cap' = k then some (⟨b, off, none⟩ : Addr) else some ⟨b, off + k, none⟩) = p2 ∧ (∀ w2 : World, w2.rangeAt b off (bytesV rest) → Reads w2 g p2 (rest.drop k)) := by
        by_cases hck : cap' = k
        · exact ⟨some ⟨b, off, none⟩, by rw [if_pos hck], fun _ _ => Or.inl (List.drop_of_length_le (by omega))⟩
        · exact ⟨some ⟨b, off + k, none⟩, by rw [if_neg hck], fun w2 hw2 => Or.inr ⟨b, off + k, rfl, HBG.out, range_drop hw2⟩⟩
      have HP3 := Lib.hid hp3; clear hp3
      by_cases hz : (H.n + k) % 64 = 0
      · have hzb : (((H.n : Int) + (k : Int)) % 64 == 0) = true := by rw [beq_iff_eq]; omega
        have HCH : Hid (writeOf h (done ++ rest.take k) = ⟨mixOf H.s (splice H.blk m (rest.take k)), splice H.blk m (rest.take k), H.n + k⟩) := by
          have hl : (rest.take k).length = k := by rw [List.length_take]; omega
          have hmn : H.n % 64 = m := by omega
          have e := writeOf_chunk H (rest.take k) HBLK.out (fun e => by rw [e] at hl; simp at hl; omega) (by omega)
          rw [hl, if_pos hz, hmn] at e
          show _ = _
          rw [writeOf_append, HH.out, e]
        clear hz
        go_wp2_with (refine wpList_copy_hash rfl (.tmp 18) (.tmp 19) 24 24 rfl 5 Tryd.underlying24 (by kernel_rfl) g m b off rest.length cap' k H rest rfl rfl HA.out rfl HKK.out hm64 HR.out ?_; intro w1 ha1 hg1; have cn := ha1.cellN; have fn := ha1.frozen 72; have HA1 := Lib.hid ha1; have HG1 := Lib.hid hg1; clear ha1 hg1)
        refine wp_gen (fun w2 => HashAt w2 g ⟨H.s, splice H.blk m (rest.take k), H.n + k⟩ ∧ wr.grownBy w2 (some g)) ⟨?_, ?_⟩ ?_
        · have h2 := HA1.out.setN (H.n + k)
          rw [Int.natCast_add] at h2; exact h2
        · exact grown_trans HG1.out (grown_setCell _ _ _ _)
        clear cn fn HA1 HG1 w1 HA
        rintro w2 ⟨ha2, hg2⟩
        have HA2 := Lib.hid ha2; clear ha2
        have HG2 := Lib.hid hg2; clear hg2
        have HCO := Lib.hid ((HK.out.grown HGR.out HG.out).grown HG2.out HG.out)
        have HB2 := Lib.hid HA2.out.2
        generalize hB : splice H.blk m (rest.take k) = B at HA2 HCH HB2
        clear hB
        refine wp_act (fun A hA => ?_)
        have h0 : A.eval (.tmp 0) = .pointer (some ⟨g, 0, none⟩) := by rw [hA]; rfl
        have hsz : A.tmps.size = 51 := by rw [hA]; rfl
        have HAA := Lib.hid hA; clear hA
        have hf0 : ∀ w, (Instr.fieldAt 205 (.pointer (some ⟨g, 0, none⟩)) 0).run Tryd.prog w = .ok (.pointer (some ⟨g, 0, none⟩)) w := fun _ => by kernel_rfl
        have hf1 : ∀ w, (Instr.fieldAt 205 (.pointer (some ⟨g, 0, none⟩)) 1).run Tryd.prog w = .ok (.pointer (some ⟨g, 8, none⟩)) w := fun _ => by kernel_rfl
        refine wp_region_noPanic ?_
        refine wp_region_any (by kernel_rfl) ?_
        change wpAny Tryd.prog .any _ _ 13 (Array.replicate 13 false) _ w2.drew
        refine abs_ops (fun ops hops => ?_)
        obtain ⟨o0, po0, q0, d0, u0g⟩ : ∃ o, ops[0]? = some o ∧ o.op = .move (.tmp 0) ∧ o.dst = some 39 ∧ o.guard = none := ⟨_, by rw [hops]; rfl, rfl, rfl, rfl⟩
        obtain ⟨o1, po1, q1, d1, u1g⟩ : ∃ o, ops[1]? = some o ∧ o.op = .move (.tmp 0) ∧ o.dst = some 40 ∧ o.guard = none := ⟨_, by rw [hops]; rfl, rfl, rfl, rfl⟩
        obtain ⟨o2, po2, q2, d2, u2g⟩ : ∃ o, ops[2]? = some o ∧ o.op = .nilCheck (.tmp 40) ∧ o.dst = some 41 ∧ o.guard = none := ⟨_, by rw [hops]; rfl, rfl, rfl, rfl⟩
        obtain ⟨o3, po3, q3, d3, u3g⟩ : ∃ o, ops[3]? = some o ∧ o.op = .fieldAddr 205 (.tmp 41) 0 ∧ o.dst = some 42 ∧ o.guard = none := ⟨_, by rw [hops]; rfl, rfl, rfl, rfl⟩
        obtain ⟨o4, po4, q4, d4, u4g⟩ : ∃ o, ops[4]? = some o ∧ o.op = .load 203 (.tmp 42) ∧ o.dst = some 43 ∧ o.guard = none := ⟨_, by rw [hops]; rfl, rfl, rfl, rfl⟩
        obtain ⟨o5, po5, q5, d5, u5g⟩ : ∃ o, ops[5]? = some o ∧ o.op = .move (.tmp 0) ∧ o.dst = some 44 ∧ o.guard = none := ⟨_, by rw [hops]; rfl, rfl, rfl, rfl⟩
        obtain ⟨o6, po6, q6, d6, u6g⟩ : ∃ o, ops[6]? = some o ∧ o.op = .nilCheck (.tmp 44) ∧ o.dst = some 45 ∧ o.guard = none := ⟨_, by rw [hops]; rfl, rfl, rfl, rfl⟩
        obtain ⟨o7, po7, q7, d7, u7g⟩ : ∃ o, ops[7]? = some o ∧ o.op = .fieldAddr 205 (.tmp 45) 1 ∧ o.dst = some 46 ∧ o.guard = none := ⟨_, by rw [hops]; rfl, rfl, rfl, rfl⟩
        obtain ⟨o8, po8, q8, d8, u8g⟩ : ∃ o, ops[8]? = some o ∧ o.op = .load 153 (.tmp 46) ∧ o.dst = some 47 ∧ o.guard = none := ⟨_, by rw [hops]; rfl, rfl, rfl, rfl⟩
        obtain ⟨o9, po9, q9, d9, u9g⟩ : ∃ o, ops[9]? = some o ∧ o.op = .call { callee := .value (.func 196), args := #[.tmp 43, .tmp 47], argTypes := #[203, 153] } ∧ o.dst = some 48 ∧ o.guard = none := ⟨_, by rw [hops]; rfl, rfl, rfl, rfl⟩
        obtain ⟨o10, po10, q10, d10, u10g⟩ : ∃ o, ops[10]? = some o ∧ o.op = .nilCheck (.tmp 39) ∧ o.dst = some 49 ∧ o.guard = none := ⟨_, by rw [hops]; rfl, rfl, rfl, rfl⟩
        obtain ⟨o11, po11, q11, d11, u11g⟩ : ∃ o, ops[11]? = some o ∧ o.op = .fieldAddr 205 (.tmp 49) 0 ∧ o.dst = some 50 ∧ o.guard = none := ⟨_, by rw [hops]; rfl, rfl, rfl, rfl⟩
        obtain ⟨o12, po12, q12, d12, u12g⟩ : ∃ o, ops[12]? = some o ∧ o.op = .store 203 (.tmp 50) (.tmp 48) ∧ o.dst = none ∧ o.guard = none := ⟨_, by rw [hops]; rfl, rfl, rfl, rfl⟩
        have hns : Region.noSelect ops = true := by rw [hops]; kernel_rfl
        have f0 : Region.free .any ops (Array.replicate 13 false) 0 = true := by rw [hops]; kernel_rfl
        have r0 : (Region.ready .any ops (Array.replicate 13 false)).contains 0 = true := by rw [hops]; kernel_rfl
        have f1 : Region.free .any ops ((Array.replicate 13 false).setIfInBounds 0 true) 1 = true := by rw [hops]; kernel_rfl
        have r1 : (Region.ready .any ops ((Array.replicate 13 false).setIfInBounds 0 true)).contains 1 = true := by rw [hops]; kernel_rfl
        have f2 : Region.free .any ops (((Array.replicate 13 false).setIfInBounds 0 true).setIfInBounds 1 true) 2 = true := by rw [hops]; kernel_rfl
        have r2 : (Region.ready .any ops (((Array.replicate 13 false).setIfInBounds 0 true).setIfInBounds 1 true)).contains 2 = true := by rw [hops]; kernel_rfl
        have f3 : Region.free .any ops ((((Array.replicate 13 false).setIfInBounds 0 true).setIfInBounds 1 true).setIfInBounds 2 true) 3 = true := by rw [hops]; kernel_rfl
        have r3 : (Region.ready .any ops ((((Array.replicate 13 false).setIfInBounds 0 true).setIfInBounds 1 true).setIfInBounds 2 true)).contains 3 = true := by rw [hops]; kernel_rfl
        have f5 : Region.free .any ops (((((Array.replicate 13 false).setIfInBounds 0 true).setIfInBounds 1 true).setIfInBounds 2 true).setIfInBounds 3 true) 5 = true := by rw [hops]; kernel_rfl
        have r5 : (Region.ready .any ops (((((Array.replicate 13 false).setIfInBounds 0 true).setIfInBounds 1 true).setIfInBounds 2 true).setIfInBounds 3 true)).contains 5 = true := by rw [hops]; kernel_rfl
        have f6 : Region.free .any ops ((((((Array.replicate 13 false).setIfInBounds 0 true).setIfInBounds 1 true).setIfInBounds 2 true).setIfInBounds 3 true).setIfInBounds 5 true) 6 = true := by rw [hops]; kernel_rfl
        have r6 : (Region.ready .any ops ((((((Array.replicate 13 false).setIfInBounds 0 true).setIfInBounds 1 true).setIfInBounds 2 true).setIfInBounds 3 true).setIfInBounds 5 true)).contains 6 = true := by rw [hops]; kernel_rfl
        have f7 : Region.free .any ops (((((((Array.replicate 13 false).setIfInBounds 0 true).setIfInBounds 1 true).setIfInBounds 2 true).setIfInBounds 3 true).setIfInBounds 5 true).setIfInBounds 6 true) 7 = true := by rw [hops]; kernel_rfl
        have r7 : (Region.ready .any ops (((((((Array.replicate 13 false).setIfInBounds 0 true).setIfInBounds 1 true).setIfInBounds 2 true).setIfInBounds 3 true).setIfInBounds 5 true).setIfInBounds 6 true)).contains 7 = true := by rw [hops]; kernel_rfl
        have r48 : Region.ready .any ops ((((((((Array.replicate 13 false).setIfInBounds 0 true).setIfInBounds 1 true).setIfInBounds 2 true).setIfInBounds 3 true).setIfInBounds 5 true).setIfInBounds 6 true).setIfInBounds 7 true) = [4, 8] := by rw [hops]; kernel_rfl
        have r8a : Region.ready .any ops (((((((((Array.replicate 13 false).setIfInBounds 0 true).setIfInBounds 1 true).setIfInBounds 2 true).setIfInBounds 3 true).setIfInBounds 5 true).setIfInBounds 6 true).setIfInBounds 7 true).setIfInBounds 4 true) = [8] := by rw [hops]; kernel_rfl
        have r4a : Region.ready .any ops (((((((((Array.replicate 13 false).setIfInBounds 0 true).setIfInBounds 1 true).setIfInBounds 2 true).setIfInBounds 3 true).setIfInBounds 5 true).setIfInBounds 6 true).setIfInBounds 7 true).setIfInBounds 8 true) = [4] := by rw [hops]; kernel_rfl
        have hLL : ((((((((((Array.replicate 13 false).setIfInBounds 0 true).setIfInBounds 1 true).setIfInBounds 2 true).setIfInBounds 3 true).setIfInBounds 5 true).setIfInBounds 6 true).setIfInBounds 7 true).setIfInBounds 8 true).setIfInBounds 4 true) = ((((((((((Array.replicate 13 false).setIfInBounds 0 true).setIfInBounds 1 true).setIfInBounds 2 true).setIfInBounds 3 true).setIfInBounds 5 true).setIfInBounds 6 true).setIfInBounds 7 true).setIfInBounds 4 true).setIfInBounds 8 true) := by kernel_rfl
        have r9 : Region.ready .any ops ((((((((((Array.replicate 13 false).setIfInBounds 0 true).setIfInBounds 1 true).setIfInBounds 2 true).setIfInBounds 3 true).setIfInBounds 5 true).setIfInBounds 6 true).setIfInBounds 7 true).setIfInBounds 4 true).setIfInBounds 8 true) = [9] := by rw [hops]; kernel_rfl
        have r10 : Region.ready .any ops (((((((((((Array.replicate 13 false).setIfInBounds 0 true).setIfInBounds 1 true).setIfInBounds 2 true).setIfInBounds 3 true).setIfInBounds 5 true).setIfInBounds 6 true).setIfInBounds 7 true).setIfInBounds 4 true).setIfInBounds 8 true).setIfInBounds 9 true) = [10] := by rw [hops]; kernel_rfl
        have r11 : Region.ready .any ops ((((((((((((Array.replicate 13 false).setIfInBounds 0 true).setIfInBounds 1 true).setIfInBounds 2 true).setIfInBounds 3 true).setIfInBounds 5 true).setIfInBounds 6 true).setIfInBounds 7 true).setIfInBounds 4 true).setIfInBounds 8 true).setIfInBounds 9 true).setIfInBounds 10 true) = [11] := by rw [hops]; kernel_rfl
        have r12 : Region.ready .any ops (((((((((((((Array.replicate 13 false).setIfInBounds 0 true).setIfInBounds 1 true).setIfInBounds 2 true).setIfInBounds 3 true).setIfInBounds 5 true).setIfInBounds 6 true).setIfInBounds 7 true).setIfInBounds 4 true).setIfInBounds 8 true).setIfInBounds 9 true).setIfInBounds 10 true).setIfInBounds 11 true) = [12] := by rw [hops]; kernel_rfl
        have r13 : Region.ready .any ops ((((((((((((((Array.replicate 13 false).setIfInBounds 0 true).setIfInBounds 1 true).setIfInBounds 2 true).setIfInBounds 3 true).setIfInBounds 5 true).setIfInBounds 6 true).setIfInBounds 7 true).setIfInBounds 4 true).setIfInBounds 8 true).setIfInBounds 9 true).setIfInBounds 10 true).setIfInBounds 11 true).setIfInBounds 12 true) = [] := by rw [hops]; kernel_rfl
        clear hops
        refine wpAny_take (v := .pointer (some ⟨g, 0, none⟩)) po0 hns f0 r0 (fun _ _ _ h => h) (Or.inl ⟨wanted_of u0g, run_move q0 h0⟩) ?_
        rw [d0]
        refine wpAny_take (v := .pointer (some ⟨g, 0, none⟩)) po1 hns f1 r1 (fun _ _ _ h => h) (Or.inl ⟨wanted_of u1g, run_move q1 (by rw [eval_other _ 39 0 _ (by decide)]; exact h0)⟩) ?_
        rw [d1]
        refine wpAny_take (v := .pointer (some ⟨g, 0, none⟩)) po2 hns f2 r2 (fun _ _ _ h => h) (Or.inl ⟨wanted_of u2g, run_nilCheck q2 (eval_same _ _ _ (by simp only [put_size, hsz]; decide))⟩) ?_
        rw [d2]
        refine wpAny_take (v := .pointer (some ⟨g, 0, none⟩)) po3 hns f3 r3 (fun _ _ _ h => h) (Or.inl ⟨wanted_of u3g, run_field q3 hf0 (eval_same _ _ _ (by simp only [put_size, hsz]; decide))⟩) ?_
        rw [d3]
        refine wpAny_take (v := .pointer (some ⟨g, 0, none⟩)) po5 hns f5 r5 (fun _ _ _ h => h) (Or.inl ⟨wanted_of u5g, run_move q5 (by rw [eval_other _ 42 0 _ (by decide), eval_other _ 41 0 _ (by decide), eval_other _ 40 0 _ (by decide), eval_other _ 39 0 _ (by decide)]; exact h0)⟩) ?_
        rw [d5]
        refine wpAny_take (v := .pointer (some ⟨g, 0, none⟩)) po6 hns f6 r6 (fun _ _ _ h => h) (Or.inl ⟨wanted_of u6g, run_nilCheck q6 (eval_same _ _ _ (by simp only [put_size, hsz]; decide))⟩) ?_
        rw [d6]
        refine wpAny_take (v := .pointer (some ⟨g, 8, none⟩)) po7 hns f7 r7 (fun _ _ _ h => h) (Or.inl ⟨wanted_of u7g, run_field q7 hf1 (eval_same _ _ _ (by simp only [put_size, hsz]; decide))⟩) ?_
        rw [d7]
        have htail : ∀ (Qx : Exit → Act → World → Prop) (A1 : Act), A1.tmps.size = 51 → A1.eval (.tmp 43) = .agg (wordsV H.s.list).toArray → A1.eval (.tmp 47) = .agg (bytesV B).toArray → A1.eval (.tmp 39) = .pointer (some ⟨g, 0, none⟩) →
            (∀ w3 : World, HashAt w3 g ⟨mixOf H.s B, B, H.n + k⟩ → w2.grownBy w3 (some g) → Qx .normal ((((A1.put (some 48) (.agg (wordsV (mixOf H.s B).list).toArray)).put (some 49) (.pointer (some ⟨g, 0, none⟩))).put (some 50) (.pointer (some ⟨g, 0, none⟩))).put none undef) w3) →
            wpAny Tryd.prog .any ops Qx 4 ((((((((((Array.replicate 13 false).setIfInBounds 0 true).setIfInBounds 1 true).setIfInBounds 2 true).setIfInBounds 3 true).setIfInBounds 5 true).setIfInBounds 6 true).setIfInBounds 7 true).setIfInBounds 4 true).setIfInBounds 8 true) A1 w2.drew := by
          intro Qx A1 s1 e43 e47 e39 hend
          refine wpAny_one 9 r9 (wpOp_of_wp po9 u9g (wp_enter (run_call28 q9 rfl e43 e47 _) (mix_any H.s B w2.drew HB2.out HCO.out) ?_))
          intro w3 hb3
          have ha3 := HashAt.keep (w := w2.drew) HA2.out hb3
          rw [d9]
          refine wpAny_one 10 r10 (Yields.wpOp po10 (Or.inl ⟨wanted_of u10g, run_nilCheck q10 (by rw [eval_other _ 48 39 _ (by decide)]; exact e39)⟩) ?_)
          rw [d10]
          refine wpAny_one 11 r11 (Yields.wpOp po11 (Or.inl ⟨wanted_of u11g, run_field q11 hf0 (eval_same _ _ _ (by simp only [put_size, s1]; decide))⟩) ?_)
          rw [d11]
          refine wpAny_one 12 r12 (wpOp_of_wp po12 u12g (wp_store_mid 203 (.tmp 50) (.tmp 48) q12 g 0 (wordsV (mixOf H.s B).list).toArray (eval_same _ _ _ (by simp only [put_size, s1]; decide)) ?_ ?_ (info44 _) (wordsV_one _) ?_))
          · rw [eval_other _ 50 48 _ (by decide), eval_other _ 49 48 _ (by decide)]; exact eval_same _ _ _ (by rw [s1]; decide)
          · exact ha3.there 0 8 (by omega)
          · rw [d12]
            exact wpAny_done r13 (hend _ (ha3.setWords _) (grown_trans (grown_below (w := w2) ⟨hb3.os, hb3.tape, hb3.output, hb3.size, hb3.block⟩ (Nat.le_refl _) _) (grown_setCells _ _ _ _))) _
        refine wpAny_two 4 8 r48 ?_ ?_
        · refine wpOp_of_wp po4 u4g (wp_load_mid 203 (.tmp 42) q4 g 0 (by rw [eval_other _ 46 42 _ (by decide), eval_other _ 45 42 _ (by decide), eval_other _ 44 42 _ (by decide)]; exact eval_same _ _ _ (by simp only [put_size, hsz]; decide)) (wordsV H.s.list) (.array 8 176) HA2.out.words Tryd.underlying203 rfl (by rw [wordsV_length]; kernel_rfl) ?_)
          rw [d4]
          refine wpAny_one 8 r8a (wpOp_of_wp po8 u8g (wp_load_mid 153 (.tmp 46) q8 g 8 (by rw [eval_other _ 43 46 _ (by decide)]; exact eval_same _ _ _ (by simp only [put_size, hsz]; decide)) (bytesV B) (.array 64 5) HA2.out.bytes Tryd.underlying153 rfl (by rw [bytesV_length, HB2.out]; kernel_rfl) ?_))
          rw [d8]
          refine htail _ _ (by simp only [put_size, hsz]) (by rw [eval_other _ 47 43 _ (by decide)]; exact eval_same _ _ _ (by simp only [put_size, hsz]; decide)) (eval_same _ _ _ (by simp only [put_size, hsz]; decide)) ?_ ?_
          · rw [eval_other _ 47 39 _ (by decide), eval_other _ 43 39 _ (by decide), eval_other _ 46 39 _ (by decide), eval_other _ 45 39 _ (by decide), eval_other _ 44 39 _ (by decide), eval_other _ 42 39 _ (by decide), eval_other _ 41 39 _ (by decide), eval_other _ 40 39 _ (by decide)]
            exact eval_same _ _ _ (by rw [hsz]; decide)
          · intro w3 ha3 hg3
            refine NoPanic.normal ?_
            rw [HAA.out]
            have HA3 := Lib.hid ha3
            have HG3 := Lib.hid (grown_trans HG2.out hg3)
            clear ha3 hg3 htail
            go_frame
            go_wp2_with fail
            go_roundw
            case rel =>
              refine ⟨done ++ rest.take k, rest.drop k, p2, cap' - k, ?_, ?_, ?_, by omega, ?_, ?_, ?_⟩
              · rw [HB.out, List.append_assoc, List.take_append_drop]
              · rw [List.length_drop]
              · rw [List.length_drop]; omega
              · exact HP3.out _ (Reads.grown HR.out HG3.out HBG.out)
              · rw [HCH.out]; exact HA3.out
              · exact grown_trans HGR.out HG3.out
            case measure => simp; omega
        · refine wpOp_of_wp po8 u8g (wp_load_mid 153 (.tmp 46) q8 g 8 (eval_same _ _ _ (by simp only [put_size, hsz]; decide)) (bytesV B) (.array 64 5) HA2.out.bytes Tryd.underlying153 rfl (by rw [bytesV_length, HB2.out]; kernel_rfl) ?_)
          rw [d8]
          refine wpAny_one 4 r4a (wpOp_of_wp po4 u4g (wp_load_mid 203 (.tmp 42) q4 g 0 (by rw [eval_other _ 47 42 _ (by decide), eval_other _ 46 42 _ (by decide), eval_other _ 45 42 _ (by decide), eval_other _ 44 42 _ (by decide)]; exact eval_same _ _ _ (by simp only [put_size, hsz]; decide)) (wordsV H.s.list) (.array 8 176) HA2.out.words Tryd.underlying203 rfl (by rw [wordsV_length]; kernel_rfl) ?_))
          rw [d4, hLL]
          refine htail _ _ (by simp only [put_size, hsz]) (eval_same _ _ _ (by simp only [put_size, hsz]; decide)) (by rw [eval_other _ 43 47 _ (by decide)]; exact eval_same _ _ _ (by simp only [put_size, hsz]; decide)) ?_ ?_
          · rw [eval_other _ 43 39 _ (by decide), eval_other _ 47 39 _ (by decide), eval_other _ 46 39 _ (by decide), eval_other _ 45 39 _ (by decide), eval_other _ 44 39 _ (by decide), eval_other _ 42 39 _ (by decide), eval_other _ 41 39 _ (by decide), eval_other _ 40 39 _ (by decide)]
            exact eval_same _ _ _ (by rw [hsz]; decide)
          · intro w3 ha3 hg3
            refine NoPanic.normal ?_
            rw [HAA.out]
            have HA3 := Lib.hid ha3
            have HG3 := Lib.hid (grown_trans HG2.out hg3)
            clear ha3 hg3 htail
            go_frame
            go_wp2_with fail
            go_roundw
            case rel =>
              refine ⟨done ++ rest.take k, rest.drop k, p2, cap' - k, ?_, ?_, ?_, by omega, ?_, ?_, ?_⟩
              · rw [HB.out, List.append_assoc, List.take_append_drop]
              · rw [List.length_drop]
              · rw [List.length_drop]; omega
              · exact HP3.out _ (Reads.grown HR.out HG3.out HBG.out)
              · rw [HCH.out]; exact HA3.out
              · exact grown_trans HGR.out HG3.out
            case measure => simp; omega
      · have hzb : (((H.n : Int) + (k : Int)) % 64 == 0) = false := by rw [beq_eq_false_iff_ne]; omega
        have HCH : Hid (writeOf h (done ++ rest.take k) = ⟨H.s, splice H.blk m (rest.take k), H.n + k⟩) := by
          have hl : (rest.take k).length = k := by rw [List.length_take]; omega
          have hmn : H.n % 64 = m := by omega
          have e := writeOf_chunk H (rest.take k) HBLK.out (fun e => by rw [e] at hl; simp at hl; omega) (by omega)
          rw [hl, if_neg hz, hmn] at e
          show _ = _
          rw [writeOf_append, HH.out, e]
        clear hz
        go_wp2_with (refine wpList_copy_hash rfl (.tmp 18) (.tmp 19) 24 24 rfl 5 Tryd.underlying24 (by kernel_rfl) g m b off rest.length cap' k H rest rfl rfl HA.out rfl HKK.out hm64 HR.out ?_; intro w1 ha1 hg1; have cn := ha1.cellN; have fn := ha1.frozen 72; have HA1 := Lib.hid ha1; have HG1 := Lib.hid hg1; clear ha1 hg1)
        have hg3 := grown_trans HG1.out (grown_setCell w1 g 72 (.int .u64 ((H.n : Int) + (k : Int))))
        have ha3 := HA1.out.setN (H.n + k)
        rw [Int.natCast_add] at ha3
        go_roundw
        case rel =>
          refine ⟨done ++ rest.take k, rest.drop k, p2, cap' - k, ?_, ?_, ?_, by omega, ?_, ?_, ?_⟩
          · rw [HB.out, List.append_assoc, List.take_append_drop]
          · rw [List.length_drop]
          · rw [List.length_drop]; omega
          · exact HP3.out _ (Reads.grown HR.out hg3 HBG.out)
          · rw [HCH.out]; exact ha3
          · exact grown_trans HGR.out hg3
        case measure => simp; omega
end Go.Proofs.YtgeacocdnenhdaaDoor

/-
  The contracts of sha.New and (*sha.Hash).Sum: where the package's two tables hold their numbers, New makes a hash that nothing was written to, and Sum returns the digest of what was written; nothing that was there changes.
-/
namespace Go.Proofs.YtgeacocdnenhdaaDoor
open Go.RowKit Go.Proofs.ShaWords
attribute [local go_sem] and32 or32 xor32 add32 shl32 shr32 wrap32_n8 wrap8_n32 shl32_8 shl32_16 shl32_24 shr32_3 shr32_8 shr32_10 shr32_16 shr32_24

def iv : St := ⟨0x6a09e667#32, 0xbb67ae85#32, 0x3c6ef372#32, 0xa54ff53a#32, 0x510e527f#32, 0x9b05688c#32, 0x1f83d9ab#32, 0x5be0cd19#32⟩
/-- The first words, as the package's first variable holds them. -/
def Starts (w : World) : Prop := w.rangeAt 1 0 (wordsV iv.list)
def newHS : HS := ⟨iv, List.replicate 64 0#8, 0⟩
set_option maxRecDepth 100000 in
set_option maxHeartbeats 400000 in
theorem new_any (w : World) (hs : Starts w) :
    Calls Tryd.prog 176 #[] w fun e w' => e = .returned (.pointer (some ⟨w.heap.size, 0, none⟩)) ∧ HashAt w' w.heap.size newHS ∧ Below w.heap.size w w' := by
  have HS := Lib.hid hs; clear hs
  go_enter Tryd.func176, Tryd.ntmps176
  go_wp2_with (refine wpList_load_mid rfl 203 (.global 1) rfl 1 0 rfl (wordsV iv.list) (.array 8 176) HS.out Tryd.underlying203 rfl (by kernel_rfl) ?_; refine wpList_build_eq rfl 205 #[(0, .tmp 1)] rfl (hashCells newHS).toArray (by kernel_rfl) ?_)

  go_ret
  refine ⟨rfl, ⟨heap_new_at rfl, rfl⟩, (Below.refl _ _).alloc (Nat.le_refl _) _⟩

/-- A word's four bytes, the highest first. -/
def wbytes (x : BitVec 32) : List (BitVec 8) := [lo8 (x >>> 24), lo8 (x >>> 16), lo8 (x >>> 8), lo8 x]
def digTo (s : St) (k : Nat) : List (BitVec 8) := (s.list.take k).flatMap wbytes
def digestOf (s : St) : List (BitVec 8) := s.list.flatMap wbytes
/-- The digest of what was written. -/
def sumOf (h : HS) : List (BitVec 8) := digestOf (writeOf h (padOf h.n)).s
theorem digTo_length (s : St) (k : Nat) (hk : k ≤ 8) : (digTo s k).length = 4 * k := by
  have h : ∀ l : List (BitVec 32), (l.flatMap wbytes).length = 4 * l.length := by
    intro l
    induction l with
    | nil => rfl
    | cons a r ih => rw [List.flatMap_cons, List.length_append, ih]; simp [wbytes]; omega
  rw [digTo, h, List.length_take]
  simp [St.list]; omega
theorem digTo_succ (s : St) (k : Nat) (hk : k < 8) : digTo s (k + 1) = digTo s k ++ wbytes (s.list.getD k 0#32) := by
  have hl : k < s.list.length := by simp [St.list]; omega
  rw [digTo, List.take_succ_eq_append_getElem hl, List.flatMap_append, digTo]
  simp [List.getD, hl]
theorem digTo_full (s : St) : digTo s 8 = digestOf s := by rfl
theorem dig_set (s : St) (k : Nat) (hk : k < 8) : ((((digTo s k ++ List.replicate (32 - 4 * k) 0#8).set (4 * k) (lo8 (s.list.getD k 0#32 >>> 24))).set (4 * k + 1) (lo8 (s.list.getD k 0#32 >>> 16))).set (4 * k + 2) (lo8 (s.list.getD k 0#32 >>> 8))).set (4 * k + 3) (lo8 (s.list.getD k 0#32))
    = digTo s (k + 1) ++ List.replicate (32 - 4 * (k + 1)) 0#8 := by
  have hl := digTo_length s k (by omega)
  obtain ⟨m, hm⟩ : ∃ m, 32 - 4 * k = m + 4 := ⟨28 - 4 * k, by omega⟩
  rw [digTo_succ s k hk, hm, show 32 - 4 * (k + 1) = m by omega]
  generalize s.list.getD k 0#32 = x
  generalize digTo s k = D at hl
  rw [List.set_append_right _ _ (by omega), List.set_append_right _ _ (by omega), List.set_append_right _ _ (by omega), List.set_append_right _ _ (by omega), hl]
  rw [show 4 * k - 4 * k = 0 by omega, show 4 * k + 1 - 4 * k = 1 by omega, show 4 * k + 2 - 4 * k = 2 by omega, show 4 * k + 3 - 4 * k = 3 by omega]
  simp [List.replicate_succ, wbytes]
theorem index8 (s : St) (k : Nat) (hk : k < 8) (w : World) : (Instr.index 203 (.agg (wordsV s.list).toArray) (.int .i64 (k : Int))).run Tryd.prog w = .ok (.int .u32 (n32 (s.list.getD k 0#32))) w := by
  rcases k with _ | _ | _ | _ | _ | _ | _ | _ | k
  · kernel_rfl
  · kernel_rfl
  · kernel_rfl
  · kernel_rfl
  · kernel_rfl
  · kernel_rfl
  · kernel_rfl
  · kernel_rfl
  · omega

theorem HashAt.all {w : World} {g : Nat} {h : HS} (ha : HashAt w g h) : w.rangeAt g 0 (hashCells h) := fun j v hv => by
  rw [Nat.zero_add, cell_of_row w g j _ 205 (0, 0) ha.1]; simpa using hv
theorem hashCells_one (h : HS) : (hashCells h).toArray.all (·.oneCell') = true := all_oneCell_toArray fun v hv => by
  unfold hashCells at hv
  rcases List.mem_append.1 hv with hv | hv
  · exact wordsV_mem hv
  · rcases List.mem_append.1 hv with hv | hv
    · exact bytesV_mem hv
    · rw [List.mem_singleton.1 hv]; rfl

def zeroHS : HS := ⟨⟨0#32, 0#32, 0#32, 0#32, 0#32, 0#32, 0#32, 0#32⟩, List.replicate 64 0#8, 0⟩
theorem zero50 (w : World) : (zeroValue 205).run Tryd.prog w = .ok (.agg (hashCells zeroHS).toArray) w := by kernel_rfl
theorem zero50_size : (hashCells zeroHS).toArray.size = 73 := by kernel_rfl

theorem padOf_length (n : Nat) : (padOf n).length ≤ 72 := by rw [padOf, padTo_length]; have := zc_le n; omega
/-- What (*Hash).Sum has in memory while it writes the digest: the result's cells in block R, the digest's in block G. -/
def SumW (w : World) (R G : Nat) (l : List (BitVec 8)) (wr : World) : Prop :=
  wr.heap[R]? = some (.cells (bytesV (List.replicate 32 0#8)).toArray 48 (0, 0)) ∧ wr.heap[G]? = some (.cells (bytesV l).toArray 48 (0, 0)) ∧ Below w.heap.size w wr
theorem SumW.set {w wr : World} {R G : Nat} {l : List (BitVec 8)} (h : SumW w R G l wr) (hR : R ≠ G) (hG : w.heap.size ≤ G) (k : Nat) (x : BitVec 8) : SumW w R G (l.set k x) (wr.setCell ⟨G, k, none⟩ (.int .u8 (n8 x))) :=
  ⟨by rw [heap_setCell_other _ _ _ _ hR]; exact h.1, by rw [heap_setCell_same _ _ _ _ _ _ h.2.1, bytesV_set], h.2.2.setCell hG _⟩

set_option maxRecDepth 100000 in
set_option maxHeartbeats 1000000 in
theorem hashSum_any (g : Nat) (h : HS) (w : World) (ha : HashAt w g h) (hk : Consts w) (hn : h.n < 549755813888) :
    Calls Tryd.prog 179 #[.pointer (some ⟨g, 0, none⟩)] w fun e w' => e = .returned (.agg (bytesV (sumOf h)).toArray) ∧ Below w.heap.size w w' := by
  have HI50 := Lib.hid ((show (Tryd.prog.info? 205).map (·.size) = some 73 by kernel_rfl).trans (congrArg some (hashCells_length h ha.2).symm))
  have HK := Lib.hid hk; clear hk
  have HA := Lib.hid ha; clear ha
  have HSZ := Lib.hid (show (hashCells zeroHS).toArray.size = (hashCells h).toArray.size by rw [zero50_size, List.size_toArray]; exact (hashCells_length h HA.out.2).symm)
  have hz50 := zero50
  go_enter Tryd.func179, Tryd.ntmps179
  go_wp2_with (first
    | (refine wpList_load_mid rfl 205 (.tmp 8) rfl g 0 rfl (hashCells h) _ (HashAt.all (HashAt.keep HA.out ((Below.refl _ _).alloc (Nat.le_refl _) _))) Tryd.underlying205 rfl HI50.out ?_)
    | (refine wpList_store_new rfl 205 (.tmp 3) (.tmp 9) rfl (w.heap.size + 1) (size_alloc _ _) (hashCells h).toArray rfl rfl HI50.out HSZ.out (hashCells_one h) ?_; intro w2 h2 b2; have z2 := (b2.block w.heap.size (by omega)).trans (heap_new_at rfl); have B2 := Lib.hid (((Below.refl _ _).alloc (Nat.le_refl _) _).trans (b2.mono (by omega))); have H2 := Lib.hid (show HashAt w2 (w.heap.size + 1) h from ⟨h2, HA.out.2⟩); have cn := (HA.out.keep B2.out).cellN; have Z2 := Lib.hid z2; clear h2 b2 z2))
  clear cn hz50 HSZ
  rw [← noughts32] at Z2
  refine (padding_any h.n w2 (by omega)).mono ?_
  rintro e w3 ⟨g3, rfl, h3, b3, hg3⟩
  have s2 := H2.out.size
  have H3 := Lib.hid (HashAt.keep H2.out b3)
  have Z3 := Lib.hid ((b3.block _ (by omega)).trans Z2.out)
  have B3 := Lib.hid (B2.out.trans (b3.mono B2.out.size))
  have R3 := Lib.hid (range_bytesV h3)
  have hs1 := HK.out.size
  have C3 := Lib.hid (HK.out.below B3.out hs1)
  have hpl := padOf_length h.n
  clear h3 b3 H2 Z2 B2
  go_wp2_with fail
  refine (write_any (w.heap.size + 1) h (padOf h.n) (some ⟨g3, 0, none⟩) _ w3 H3.out (Or.inr ⟨g3, 0, rfl, by omega, R3.out⟩) (Nat.le_refl _) (by omega) (by omega) C3.out (by omega)).mono ?_
  rintro e w4 ⟨rfl, ha4, hg4⟩
  have H4 := Lib.hid ha4
  have s3 := H3.out.size
  have Z4 := Lib.hid ((hg4.block w.heap.size (by omega) (fun e => by have := Option.some.inj e; omega)).trans Z3.out)
  have B4 := Lib.hid (B3.out.grown hg4 (by omega) (fun k hk => by have := Option.some.inj hk; omega))
  have s4 := ha4.size
  have HSO : Hid (sumOf h = digestOf (writeOf h (padOf h.n)).s) := show _ = _ from rfl
  clear ha4 hg4 H3 Z3 B3 R3 C3
  generalize writeOf h (padOf h.n) = h4 at H4 HSO
  go_wp2_with (refine wpList_load_mid rfl 203 (.tmp 16) rfl (w.heap.size + 1) 0 rfl (wordsV h4.s.list) _ (HashAt.words (HashAt.keep H4.out ((Below.refl _ _).alloc (Nat.le_refl _) _))) Tryd.underlying203 rfl (info44 _) ?_)
  refine wp_gen (SumW w w.heap.size w4.heap.size (List.replicate 32 0#8)) ?_ ?_
  · refine ⟨by rw [Below.heap_alloc _ _ _ (by omega)]; exact Z4.out, by rw [noughts32]; exact heap_new_at rfl, B4.out.alloc (by omega) _⟩
  generalize w4.heap.size = G at s4
  have hRG : w.heap.size ≠ G := by omega
  have hWG : w.heap.size ≤ G := by omega
  have HRG := Lib.hid hRG
  have HWG := Lib.hid hWG
  generalize h4.s = s at HSO
  clear H4 Z4 B4 s4 s3 s2 hs1 hg3 w2 w3 w4 hRG hWG HI50 HA HK
  intro w5 hw5
  have HW5 := Lib.hid hw5; clear hw5
  go_loopw [5, 6, 18] (fun _ _ i wr => ∃ k : Nat, k ≤ 8 ∧ i = .int .i64 k ∧ SumW w w.heap.size G (digTo s k ++ List.replicate (32 - 4 * k) 0#8) wr) (fun _ _ i _ => 8 - (intOf i).toNat)
  case atStart => exact ⟨0, by omega, rfl, HW5.out⟩
  case round =>
    clear HW5
    obtain ⟨k, hk, rfl, hw⟩ := hrel
    have hlen : (digTo s k ++ List.replicate (32 - 4 * k) 0#8).length = 32 := by rw [List.length_append, digTo_length s k hk]; simp; omega
    by_cases hlt : k < 8
    · have hix := index8 s k hlt
      have HDS := Lib.hid (dig_set s k hlt)
      obtain ⟨c0, e0⟩ : ∃ v, wr.cell? ⟨G, 4 * k, none⟩ = some v := ⟨_, cell_bytesV hw.2.1 (j := 4 * k) (by omega)⟩
      obtain ⟨c1, e1⟩ : ∃ v, wr.cell? ⟨G, 4 * k + 1, none⟩ = some v := ⟨_, cell_bytesV hw.2.1 (j := 4 * k + 1) (by omega)⟩
      obtain ⟨c2, e2⟩ : ∃ v, wr.cell? ⟨G, 4 * k + 2, none⟩ = some v := ⟨_, cell_bytesV hw.2.1 (j := 4 * k + 2) (by omega)⟩
      obtain ⟨c3, e3⟩ : ∃ v, wr.cell? ⟨G, 4 * k + 3, none⟩ = some v := ⟨_, cell_bytesV hw.2.1 (j := 4 * k + 3) (by omega)⟩
      have f0 := frozen_of_row _ _ (4 * k) _ _ hw.2.1
      have f1 := frozen_of_row _ _ (4 * k + 1) _ _ hw.2.1
      have f2 := frozen_of_row _ _ (4 * k + 2) _ _ hw.2.1
      have f3 := frozen_of_row _ _ (4 * k + 3) _ _ hw.2.1
      generalize s.list.getD k 0#32 = x at hix HDS
      have HW := Lib.hid hw; clear hw hlen
      go_wp2_with fail
      go_roundw
      case rel =>
        refine ⟨k + 1, by omega, by go_num, ?_⟩
        rw [← HDS.out]
        exact (((HW.out.set HRG.out HWG.out _ _).set HRG.out HWG.out _ _).set HRG.out HWG.out _ _).set HRG.out HWG.out _ _
      case measure => simp [intOf]; omega
    · have HK8 : Hid (k = 8) := show k = 8 by omega
      have HFULL : Hid (wr.heap[G]? = some (.cells (bytesV (digestOf s)).toArray 48 (0, 0))) := by
        have h1 := hw.2.1
        rw [HK8.out, digTo_full] at h1
        have e : digestOf s ++ List.replicate (32 - 4 * 8) 0#8 = digestOf s := by simp
        rw [e] at h1; exact h1
      have hdl : (digestOf s).length = 32 := by rw [← digTo_full, digTo_length s 8 (by omega)]
      have HI := Lib.hid ((show (Tryd.prog.info? 48).map (·.size) = some 32 by kernel_rfl).trans (congrArg some (bytesV_size _ 32 hdl).symm))
      have HOLD := Lib.hid (show (bytesV (List.replicate 32 0#8)).toArray.size = (bytesV (digestOf s)).toArray.size by rw [bytesV_size _ 32 hdl]; rfl)
      have HONE := Lib.hid (bytesV_one (digestOf s))
      have HZ := Lib.hid hw.1
      have HB := Lib.hid hw.2.2
      clear hw hlen hdl
      generalize hfe : (bytesV (digestOf s)).toArray = full at HFULL HI HOLD HONE
      have HFE := Lib.hid hfe; clear hfe
      go_wp2_with (first
        | (refine wpList_load_row rfl 48 (.tmp 4) rfl G rfl 48 full (0, 0) _ HFULL.out Tryd.underlying48 rfl HI.out ?_)
        | (refine wpList_store_row rfl 48 (.tmp 2) (.tmp 49) rfl w.heap.size full rfl rfl 48 _ HZ.out HI.out HOLD.out HONE.out ?_))
      have hrow := setRow_heap wr w.heap.size _ full 48 _ HZ.out
      have hbel := below_setRow HB.out (Nat.le_refl w.heap.size) full
      generalize wr.setRow w.heap.size full = wz at hrow hbel ⊢
      have hres : ∀ tmps : Array Value, tmps.getD 2 undef = .pointer (some ⟨w.heap.size, 0, none⟩) → Sem.run Tryd.prog (results Tryd.f179 tmps) wz = .ok (.agg full) wz := fun tmps h =>
        results_cell_row (P := Tryd.prog) (p := 2) (ty := 48) Tryd.results179 tmps wz w.heap.size 48 _ (0, 0) (TypeDesc.array 32 5) h hrow Tryd.underlying48 rfl HI.out
      exact bodyPost_ret (v := .agg full) (hres _ rfl) rfl ⟨by rw [HSO.out, HFE.out], hbel⟩

end Go.Proofs.YtgeacocdnenhdaaDoor

/-
  The contracts of sha.Sum and of the law's own sum; two digests of the same bytes compare as equal; the published digest of abc by the kernel's own reckoning.
-/
namespace Go.Proofs.YtgeacocdnenhdaaDoor
open Go.RowKit Go.Proofs.ShaWords
attribute [local go_sem] and32 or32 xor32 add32 shl32 shr32 wrap32_n8 wrap8_n32 shl32_8 shl32_16 shl32_24 shr32_3 shr32_8 shr32_10 shr32_16 shr32_24

theorem Starts.below {w w' : World} {B : Nat} (h : Starts w) (hb : Below B w w') (hB : 1 < B) : Starts w' := fun j v hv => (hb.cell (p := ⟨1, 0 + j, none⟩) hB).trans (h j v hv)
theorem Starts.grown {w w' : World} {g : Nat} (h : Starts w) (hb : w.grownBy w' (some g)) (hg : g ≠ 1) : Starts w' := fun j v hv =>
  (World.cell?_of_block (a := ⟨1, 0 + j, none⟩) (hb.block 1 (World.block_lt_of_cell? w _ (h j v hv)) (fun e => hg (Option.some.inj e).symm))).trans (h j v hv)

/-- The digest of bytes. -/
def shaOf (bs : List (BitVec 8)) : List (BitVec 8) := sumOf (writeOf newHS bs)

theorem flat_get (l : List (BitVec 32)) (i : Nat) (hi : i < 4 * l.length) : (l.flatMap wbytes).getD i 0#8 = lo8 (l.getD (i / 4) 0#32 >>> (24 - 8 * (i % 4))) := by
  induction l generalizing i with
  | nil => simp at hi
  | cons a r ih =>
    rw [List.flatMap_cons]
    by_cases h4 : i < 4
    · have e : i / 4 = 0 := by omega
      rw [e, show i % 4 = i by omega]
      rcases i with _ | _ | _ | _ | i
      · rfl
      · rfl
      · rfl
      · simp [wbytes]
      · omega
    · obtain ⟨j, rfl⟩ : ∃ j, i = j + 4 := ⟨i - 4, by omega⟩
      have hj := ih j (by simp at hi; omega)
      rw [show (j + 4) / 4 = j / 4 + 1 by omega, show (j + 4) % 4 = j % 4 by omega]
      simp only [List.getD_cons_succ]
      rw [← hj]
      simp [List.getD, wbytes]
theorem digest_get (s : St) (i : Nat) (hi : i < 32) : (digestOf s).getD i 0#8 = lo8 (s.list.getD (i / 4) 0#32 >>> (24 - 8 * (i % 4))) :=
  flat_get s.list i (by simp [St.list]; omega)
theorem digestOf_length (s : St) : (digestOf s).length = 32 := by rw [← digTo_full, digTo_length _ 8 (by omega)]

end Go.Proofs.YtgeacocdnenhdaaDoor

/- sha.Hash.Write and sha.Sum of a slice of whatever capacity (functions 14 and 10): as Write and Digest have them, with a wider bound on the capacity. -/
namespace Go.Proofs.YtgeacocdnenhdaaDoor
open Go.RowKit Go.Proofs.ShaWords
section

set_option maxRecDepth 100000 in
set_option maxHeartbeats 1000000 in
theorem write_cap (g : Nat) (h : HS) (bs : List (BitVec 8)) (p : Option Addr) (cap : Nat) (w : World) (ha : HashAt w g h) (hr : Reads w g p bs) (hcap : bs.length ≤ cap) (hcm : cap ≤ 9223372036854775807)
    (hn : h.n + bs.length < 1099511627776) (hk : Consts w) (hg : g ≠ 2) :
    Calls Tryd.prog 178 #[.pointer (some ⟨g, 0, none⟩), .slice p bs.length cap] w fun e w' => e = .returned (.tuple #[]) ∧ HashAt w' g (writeOf h bs) ∧ w.grownBy w' (some g) := by
  have HG := Lib.hid hg; clear hg
  have HK := Lib.hid hk; clear hk
  have HA := Lib.hid ha; clear ha
  have HR := Lib.hid hr; clear hr
  go_enter Tryd.func178, Tryd.ntmps178
  go_wp2_with fail
  go_loopw [1, 4, 5] (fun b _ _ wr => ∃ (done rest : List (BitVec 8)) (p' : Option Addr) (cap' : Nat), bs = done ++ rest ∧ b = .slice p' rest.length cap' ∧ rest.length ≤ cap' ∧ cap' ≤ 9223372036854775807 ∧
      Reads wr g p' rest ∧ HashAt wr g (writeOf h done) ∧ w.grownBy wr (some g)) (fun b _ _ _ => match b with | .slice _ n _ => n | _ => 0)
  case atStart => exact ⟨[], bs, p, cap, rfl, rfl, hcap, hcm, HR.out, HA.out, World.grownBy.refl _ _⟩
  case round =>
    clear HR HA hcap hcm
    obtain ⟨done, rest, p', cap', hbs, rfl, hc1, hc2, hr, ha, hgr⟩ := hrel
    by_cases hne : rest = []
    · subst hne
      have HB := Lib.hid hbs; clear hbs
      have HA := Lib.hid ha; clear ha
      have HGR := Lib.hid hgr; clear hgr hr
      go_wp2_with fail
      go_end0
      refine ⟨rfl, ?_, HGR.out⟩
      have h1 := HB.out
      rw [List.append_nil] at h1
      rw [h1]; exact HA.out
    · have hpos : 0 < rest.length := List.length_pos_iff.2 hne
      have hblk := ha.2
      have hnn := writeOf_n h done
      have hlen : bs.length = done.length + rest.length := by rw [hbs, List.length_append]
      generalize hH : writeOf h done = H at ha hblk hnn
      have hnb : H.n + rest.length < 1099511627776 := by omega
      have cn := ha.cellN
      have HH := Lib.hid hH; clear hH hnn hlen
      have HB := Lib.hid hbs; clear hbs
      rcases hr with hr | ⟨b, off, rfl, hbg, hrg⟩
      · exact absurd hr hne
      have HR := Lib.hid hrg; clear hrg
      have HBG := Lib.hid hbg; clear hbg
      have HA := Lib.hid ha; clear ha
      have HBLK := Lib.hid hblk; clear hblk
      have HGR := Lib.hid hgr; clear hgr
      have HNE := Lib.hid hne; clear hne
      obtain ⟨m, hm, hm64⟩ : ∃ m : Nat, (H.n : Int) % 64 = (m : Int) ∧ m < 64 := ⟨H.n % 64, by omega, by omega⟩
      have hm0 : (m : Int) ≤ 64 := by omega
      have hm1 : ¬ (64 = m) := by omega
      have hm2 : ¬ (m = 64) := by omega
      obtain ⟨k, hk, hk1, hk2, hk3⟩ : ∃ k : Nat, k = Nat.min rest.length (64 - m) ∧ k ≤ rest.length ∧ m + k ≤ 64 ∧ 0 < k := ⟨_, rfl, Nat.min_le_left _ _, by have h2 : Nat.min rest.length (64 - m) ≤ 64 - m := Nat.min_le_right _ _; omega, by
        show 0 < Nat.min rest.length (64 - m); exact Nat.lt_min.2 ⟨hpos, by omega⟩⟩
      have HKK := Lib.hid hk; clear hk
      have hkc : (k : Int) ≤ (cap' : Int) := by omega
      obtain ⟨p2, hsl, hp3⟩ : ∃ p2 : Option Addr, (if cap' = k then some (⟨b, off, none⟩ : Addr) else some ⟨b, off + k, none⟩) = p2 ∧ (∀ w2 : World, w2.rangeAt b off (bytesV rest) → Reads w2 g p2 (rest.drop k)) := by
        by_cases hck : cap' = k
        · exact ⟨some ⟨b, off, none⟩, by rw [if_pos hck], fun _ _ => Or.inl (List.drop_of_length_le (by omega))⟩
        · exact ⟨some ⟨b, off + k, none⟩, by rw [if_neg hck], fun w2 hw2 => Or.inr ⟨b, off + k, rfl, HBG.out, range_drop hw2⟩⟩
      have HP3 := Lib.hid hp3; clear hp3
      by_cases hz : (H.n + k) % 64 = 0
      · have hzb : (((H.n : Int) + (k : Int)) % 64 == 0) = true := by rw [beq_iff_eq]; omega
        have HCH : Hid (writeOf h (done ++ rest.take k) = ⟨mixOf H.s (splice H.blk m (rest.take k)), splice H.blk m (rest.take k), H.n + k⟩) := by
          have hl : (rest.take k).length = k := by rw [List.length_take]; omega
          have hmn : H.n % 64 = m := by omega
          have e := writeOf_chunk H (rest.take k) HBLK.out (fun e => by rw [e] at hl; simp at hl; omega) (by omega)
          rw [hl, if_pos hz, hmn] at e
          show _ = _
          rw [writeOf_append, HH.out, e]
        clear hz
        go_wp2_with (refine wpList_copy_hash rfl (.tmp 18) (.tmp 19) 24 24 rfl 5 Tryd.underlying24 (by kernel_rfl) g m b off rest.length cap' k H rest rfl rfl HA.out rfl HKK.out hm64 HR.out ?_; intro w1 ha1 hg1; have cn := ha1.cellN; have fn := ha1.frozen 72; have HA1 := Lib.hid ha1; have HG1 := Lib.hid hg1; clear ha1 hg1)
        refine wp_gen (fun w2 => HashAt w2 g ⟨H.s, splice H.blk m (rest.take k), H.n + k⟩ ∧ wr.grownBy w2 (some g)) ⟨?_, ?_⟩ ?_
        · have h2 := HA1.out.setN (H.n + k)
          rw [Int.natCast_add] at h2; exact h2
        · exact grown_trans HG1.out (grown_setCell _ _ _ _)
        clear cn fn HA1 HG1 w1 HA
        rintro w2 ⟨ha2, hg2⟩
        have HA2 := Lib.hid ha2; clear ha2
        have HG2 := Lib.hid hg2; clear hg2
        have HCO := Lib.hid ((HK.out.grown HGR.out HG.out).grown HG2.out HG.out)
        have HB2 := Lib.hid HA2.out.2
        generalize hB : splice H.blk m (rest.take k) = B at HA2 HCH HB2
        clear hB
        refine wp_act (fun A hA => ?_)
        have h0 : A.eval (.tmp 0) = .pointer (some ⟨g, 0, none⟩) := by rw [hA]; rfl
        have hsz : A.tmps.size = 51 := by rw [hA]; rfl
        have HAA := Lib.hid hA; clear hA
        have hf0 : ∀ w, (Instr.fieldAt 205 (.pointer (some ⟨g, 0, none⟩)) 0).run Tryd.prog w = .ok (.pointer (some ⟨g, 0, none⟩)) w := fun _ => by kernel_rfl
        have hf1 : ∀ w, (Instr.fieldAt 205 (.pointer (some ⟨g, 0, none⟩)) 1).run Tryd.prog w = .ok (.pointer (some ⟨g, 8, none⟩)) w := fun _ => by kernel_rfl
        refine wp_region_noPanic ?_
        refine wp_region_any (by kernel_rfl) ?_
        change wpAny Tryd.prog .any _ _ 13 (Array.replicate 13 false) _ w2.drew
        refine abs_ops (fun ops hops => ?_)
        obtain ⟨o0, po0, q0, d0, u0g⟩ : ∃ o, ops[0]? = some o ∧ o.op = .move (.tmp 0) ∧ o.dst = some 39 ∧ o.guard = none := ⟨_, by rw [hops]; rfl, rfl, rfl, rfl⟩
        obtain ⟨o1, po1, q1, d1, u1g⟩ : ∃ o, ops[1]? = some o ∧ o.op = .move (.tmp 0) ∧ o.dst = some 40 ∧ o.guard = none := ⟨_, by rw [hops]; rfl, rfl, rfl, rfl⟩
        obtain ⟨o2, po2, q2, d2, u2g⟩ : ∃ o, ops[2]? = some o ∧ o.op = .nilCheck (.tmp 40) ∧ o.dst = some 41 ∧ o.guard = none := ⟨_, by rw [hops]; rfl, rfl, rfl, rfl⟩
        obtain ⟨o3, po3, q3, d3, u3g⟩ : ∃ o, ops[3]? = some o ∧ o.op = .fieldAddr 205 (.tmp 41) 0 ∧ o.dst = some 42 ∧ o.guard = none := ⟨_, by rw [hops]; rfl, rfl, rfl, rfl⟩
        obtain ⟨o4, po4, q4, d4, u4g⟩ : ∃ o, ops[4]? = some o ∧ o.op = .load 203 (.tmp 42) ∧ o.dst = some 43 ∧ o.guard = none := ⟨_, by rw [hops]; rfl, rfl, rfl, rfl⟩
        obtain ⟨o5, po5, q5, d5, u5g⟩ : ∃ o, ops[5]? = some o ∧ o.op = .move (.tmp 0) ∧ o.dst = some 44 ∧ o.guard = none := ⟨_, by rw [hops]; rfl, rfl, rfl, rfl⟩
        obtain ⟨o6, po6, q6, d6, u6g⟩ : ∃ o, ops[6]? = some o ∧ o.op = .nilCheck (.tmp 44) ∧ o.dst = some 45 ∧ o.guard = none := ⟨_, by rw [hops]; rfl, rfl, rfl, rfl⟩
        obtain ⟨o7, po7, q7, d7, u7g⟩ : ∃ o, ops[7]? = some o ∧ o.op = .fieldAddr 205 (.tmp 45) 1 ∧ o.dst = some 46 ∧ o.guard = none := ⟨_, by rw [hops]; rfl, rfl, rfl, rfl⟩
        obtain ⟨o8, po8, q8, d8, u8g⟩ : ∃ o, ops[8]? = some o ∧ o.op = .load 153 (.tmp 46) ∧ o.dst = some 47 ∧ o.guard = none := ⟨_, by rw [hops]; rfl, rfl, rfl, rfl⟩
        obtain ⟨o9, po9, q9, d9, u9g⟩ : ∃ o, ops[9]? = some o ∧ o.op = .call { callee := .value (.func 196), args := #[.tmp 43, .tmp 47], argTypes := #[203, 153] } ∧ o.dst = some 48 ∧ o.guard = none := ⟨_, by rw [hops]; rfl, rfl, rfl, rfl⟩
        obtain ⟨o10, po10, q10, d10, u10g⟩ : ∃ o, ops[10]? = some o ∧ o.op = .nilCheck (.tmp 39) ∧ o.dst = some 49 ∧ o.guard = none := ⟨_, by rw [hops]; rfl, rfl, rfl, rfl⟩
        obtain ⟨o11, po11, q11, d11, u11g⟩ : ∃ o, ops[11]? = some o ∧ o.op = .fieldAddr 205 (.tmp 49) 0 ∧ o.dst = some 50 ∧ o.guard = none := ⟨_, by rw [hops]; rfl, rfl, rfl, rfl⟩
        obtain ⟨o12, po12, q12, d12, u12g⟩ : ∃ o, ops[12]? = some o ∧ o.op = .store 203 (.tmp 50) (.tmp 48) ∧ o.dst = none ∧ o.guard = none := ⟨_, by rw [hops]; rfl, rfl, rfl, rfl⟩
        have hns : Region.noSelect ops = true := by rw [hops]; kernel_rfl
        have f0 : Region.free .any ops (Array.replicate 13 false) 0 = true := by rw [hops]; kernel_rfl
        have r0 : (Region.ready .any ops (Array.replicate 13 false)).contains 0 = true := by rw [hops]; kernel_rfl
        have f1 : Region.free .any ops ((Array.replicate 13 false).setIfInBounds 0 true) 1 = true := by rw [hops]; kernel_rfl
        have r1 : (Region.ready .any ops ((Array.replicate 13 false).setIfInBounds 0 true)).contains 1 = true := by rw [hops]; kernel_rfl
        have f2 : Region.free .any ops (((Array.replicate 13 false).setIfInBounds 0 true).setIfInBounds 1 true) 2 = true := by rw [hops]; kernel_rfl
        have r2 : (Region.ready .any ops (((Array.replicate 13 false).setIfInBounds 0 true).setIfInBounds 1 true)).contains 2 = true := by rw [hops]; kernel_rfl
        have f3 : Region.free .any ops ((((Array.replicate 13 false).setIfInBounds 0 true).setIfInBounds 1 true).setIfInBounds 2 true) 3 = true := by rw [hops]; kernel_rfl
        have r3 : (Region.ready .any ops ((((Array.replicate 13 false).setIfInBounds 0 true).setIfInBounds 1 true).setIfInBounds 2 true)).contains 3 = true := by rw [hops]; kernel_rfl
        have f5 : Region.free .any ops (((((Array.replicate 13 false).setIfInBounds 0 true).setIfInBounds 1 true).setIfInBounds 2 true).setIfInBounds 3 true) 5 = true := by rw [hops]; kernel_rfl
        have r5 : (Region.ready .any ops (((((Array.replicate 13 false).setIfInBounds 0 true).setIfInBounds 1 true).setIfInBounds 2 true).setIfInBounds 3 true)).contains 5 = true := by rw [hops]; kernel_rfl
        have f6 : Region.free .any ops ((((((Array.replicate 13 false).setIfInBounds 0 true).setIfInBounds 1 true).setIfInBounds 2 true).setIfInBounds 3 true).setIfInBounds 5 true) 6 = true := by rw [hops]; kernel_rfl
        have r6 : (Region.ready .any ops ((((((Array.replicate 13 false).setIfInBounds 0 true).setIfInBounds 1 true).setIfInBounds 2 true).setIfInBounds 3 true).setIfInBounds 5 true)).contains 6 = true := by rw [hops]; kernel_rfl
        have f7 : Region.free .any ops (((((((Array.replicate 13 false).setIfInBounds 0 true).setIfInBounds 1 true).setIfInBounds 2 true).setIfInBounds 3 true).setIfInBounds 5 true).setIfInBounds 6 true) 7 = true := by rw [hops]; kernel_rfl
        have r7 : (Region.ready .any ops (((((((Array.replicate 13 false).setIfInBounds 0 true).setIfInBounds 1 true).setIfInBounds 2 true).setIfInBounds 3 true).setIfInBounds 5 true).setIfInBounds 6 true)).contains 7 = true := by rw [hops]; kernel_rfl
        have r48 : Region.ready .any ops ((((((((Array.replicate 13 false).setIfInBounds 0 true).setIfInBounds 1 true).setIfInBounds 2 true).setIfInBounds 3 true).setIfInBounds 5 true).setIfInBounds 6 true).setIfInBounds 7 true) = [4, 8] := by rw [hops]; kernel_rfl
        have r8a : Region.ready .any ops (((((((((Array.replicate 13 false).setIfInBounds 0 true).setIfInBounds 1 true).setIfInBounds 2 true).setIfInBounds 3 true).setIfInBounds 5 true).setIfInBounds 6 true).setIfInBounds 7 true).setIfInBounds 4 true) = [8] := by rw [hops]; kernel_rfl
        have r4a : Region.ready .any ops (((((((((Array.replicate 13 false).setIfInBounds 0 true).setIfInBounds 1 true).setIfInBounds 2 true).setIfInBounds 3 true).setIfInBounds 5 true).setIfInBounds 6 true).setIfInBounds 7 true).setIfInBounds 8 true) = [4] := by rw [hops]; kernel_rfl
        have hLL : ((((((((((Array.replicate 13 false).setIfInBounds 0 true).setIfInBounds 1 true).setIfInBounds 2 true).setIfInBounds 3 true).setIfInBounds 5 true).setIfInBounds 6 true).setIfInBounds 7 true).setIfInBounds 8 true).setIfInBounds 4 true) = ((((((((((Array.replicate 13 false).setIfInBounds 0 true).setIfInBounds 1 true).setIfInBounds 2 true).setIfInBounds 3 true).setIfInBounds 5 true).setIfInBounds 6 true).setIfInBounds 7 true).setIfInBounds 4 true).setIfInBounds 8 true) := by kernel_rfl
        have r9 : Region.ready .any ops ((((((((((Array.replicate 13 false).setIfInBounds 0 true).setIfInBounds 1 true).setIfInBounds 2 true).setIfInBounds 3 true).setIfInBounds 5 true).setIfInBounds 6 true).setIfInBounds 7 true).setIfInBounds 4 true).setIfInBounds 8 true) = [9] := by rw [hops]; kernel_rfl
        have r10 : Region.ready .any ops (((((((((((Array.replicate 13 false).setIfInBounds 0 true).setIfInBounds 1 true).setIfInBounds 2 true).setIfInBounds 3 true).setIfInBounds 5 true).setIfInBounds 6 true).setIfInBounds 7 true).setIfInBounds 4 true).setIfInBounds 8 true).setIfInBounds 9 true) = [10] := by rw [hops]; kernel_rfl
        have r11 : Region.ready .any ops ((((((((((((Array.replicate 13 false).setIfInBounds 0 true).setIfInBounds 1 true).setIfInBounds 2 true).setIfInBounds 3 true).setIfInBounds 5 true).setIfInBounds 6 true).setIfInBounds 7 true).setIfInBounds 4 true).setIfInBounds 8 true).setIfInBounds 9 true).setIfInBounds 10 true) = [11] := by rw [hops]; kernel_rfl
        have r12 : Region.ready .any ops (((((((((((((Array.replicate 13 false).setIfInBounds 0 true).setIfInBounds 1 true).setIfInBounds 2 true).setIfInBounds 3 true).setIfInBounds 5 true).setIfInBounds 6 true).setIfInBounds 7 true).setIfInBounds 4 true).setIfInBounds 8 true).setIfInBounds 9 true).setIfInBounds 10 true).setIfInBounds 11 true) = [12] := by rw [hops]; kernel_rfl
        have r13 : Region.ready .any ops ((((((((((((((Array.replicate 13 false).setIfInBounds 0 true).setIfInBounds 1 true).setIfInBounds 2 true).setIfInBounds 3 true).setIfInBounds 5 true).setIfInBounds 6 true).setIfInBounds 7 true).setIfInBounds 4 true).setIfInBounds 8 true).setIfInBounds 9 true).setIfInBounds 10 true).setIfInBounds 11 true).setIfInBounds 12 true) = [] := by rw [hops]; kernel_rfl
        clear hops
        refine wpAny_take (v := .pointer (some ⟨g, 0, none⟩)) po0 hns f0 r0 (fun _ _ _ h => h) (Or.inl ⟨wanted_of u0g, run_move q0 h0⟩) ?_
        rw [d0]
        refine wpAny_take (v := .pointer (some ⟨g, 0, none⟩)) po1 hns f1 r1 (fun _ _ _ h => h) (Or.inl ⟨wanted_of u1g, run_move q1 (by rw [eval_other _ 39 0 _ (by decide)]; exact h0)⟩) ?_
        rw [d1]
        refine wpAny_take (v := .pointer (some ⟨g, 0, none⟩)) po2 hns f2 r2 (fun _ _ _ h => h) (Or.inl ⟨wanted_of u2g, run_nilCheck q2 (eval_same _ _ _ (by simp only [put_size, hsz]; decide))⟩) ?_
        rw [d2]
        refine wpAny_take (v := .pointer (some ⟨g, 0, none⟩)) po3 hns f3 r3 (fun _ _ _ h => h) (Or.inl ⟨wanted_of u3g, run_field q3 hf0 (eval_same _ _ _ (by simp only [put_size, hsz]; decide))⟩) ?_
        rw [d3]
        refine wpAny_take (v := .pointer (some ⟨g, 0, none⟩)) po5 hns f5 r5 (fun _ _ _ h => h) (Or.inl ⟨wanted_of u5g, run_move q5 (by rw [eval_other _ 42 0 _ (by decide), eval_other _ 41 0 _ (by decide), eval_other _ 40 0 _ (by decide), eval_other _ 39 0 _ (by decide)]; exact h0)⟩) ?_
        rw [d5]
        refine wpAny_take (v := .pointer (some ⟨g, 0, none⟩)) po6 hns f6 r6 (fun _ _ _ h => h) (Or.inl ⟨wanted_of u6g, run_nilCheck q6 (eval_same _ _ _ (by simp only [put_size, hsz]; decide))⟩) ?_
        rw [d6]
        refine wpAny_take (v := .pointer (some ⟨g, 8, none⟩)) po7 hns f7 r7 (fun _ _ _ h => h) (Or.inl ⟨wanted_of u7g, run_field q7 hf1 (eval_same _ _ _ (by simp only [put_size, hsz]; decide))⟩) ?_
        rw [d7]
        have htail : ∀ (Qx : Exit → Act → World → Prop) (A1 : Act), A1.tmps.size = 51 → A1.eval (.tmp 43) = .agg (wordsV H.s.list).toArray → A1.eval (.tmp 47) = .agg (bytesV B).toArray → A1.eval (.tmp 39) = .pointer (some ⟨g, 0, none⟩) →
            (∀ w3 : World, HashAt w3 g ⟨mixOf H.s B, B, H.n + k⟩ → w2.grownBy w3 (some g) → Qx .normal ((((A1.put (some 48) (.agg (wordsV (mixOf H.s B).list).toArray)).put (some 49) (.pointer (some ⟨g, 0, none⟩))).put (some 50) (.pointer (some ⟨g, 0, none⟩))).put none undef) w3) →
            wpAny Tryd.prog .any ops Qx 4 ((((((((((Array.replicate 13 false).setIfInBounds 0 true).setIfInBounds 1 true).setIfInBounds 2 true).setIfInBounds 3 true).setIfInBounds 5 true).setIfInBounds 6 true).setIfInBounds 7 true).setIfInBounds 4 true).setIfInBounds 8 true) A1 w2.drew := by
          intro Qx A1 s1 e43 e47 e39 hend
          refine wpAny_one 9 r9 (wpOp_of_wp po9 u9g (wp_enter (run_call28 q9 rfl e43 e47 _) (mix_any H.s B w2.drew HB2.out HCO.out) ?_))
          intro w3 hb3
          have ha3 := HashAt.keep (w := w2.drew) HA2.out hb3
          rw [d9]
          refine wpAny_one 10 r10 (Yields.wpOp po10 (Or.inl ⟨wanted_of u10g, run_nilCheck q10 (by rw [eval_other _ 48 39 _ (by decide)]; exact e39)⟩) ?_)
          rw [d10]
          refine wpAny_one 11 r11 (Yields.wpOp po11 (Or.inl ⟨wanted_of u11g, run_field q11 hf0 (eval_same _ _ _ (by simp only [put_size, s1]; decide))⟩) ?_)
          rw [d11]
          refine wpAny_one 12 r12 (wpOp_of_wp po12 u12g (wp_store_mid 203 (.tmp 50) (.tmp 48) q12 g 0 (wordsV (mixOf H.s B).list).toArray (eval_same _ _ _ (by simp only [put_size, s1]; decide)) ?_ ?_ (info44 _) (wordsV_one _) ?_))
          · rw [eval_other _ 50 48 _ (by decide), eval_other _ 49 48 _ (by decide)]; exact eval_same _ _ _ (by rw [s1]; decide)
          · exact ha3.there 0 8 (by omega)
          · rw [d12]
            exact wpAny_done r13 (hend _ (ha3.setWords _) (grown_trans (grown_below (w := w2) ⟨hb3.os, hb3.tape, hb3.output, hb3.size, hb3.block⟩ (Nat.le_refl _) _) (grown_setCells _ _ _ _))) _
        refine wpAny_two 4 8 r48 ?_ ?_
        · refine wpOp_of_wp po4 u4g (wp_load_mid 203 (.tmp 42) q4 g 0 (by rw [eval_other _ 46 42 _ (by decide), eval_other _ 45 42 _ (by decide), eval_other _ 44 42 _ (by decide)]; exact eval_same _ _ _ (by simp only [put_size, hsz]; decide)) (wordsV H.s.list) (.array 8 176) HA2.out.words Tryd.underlying203 rfl (by rw [wordsV_length]; kernel_rfl) ?_)
          rw [d4]
          refine wpAny_one 8 r8a (wpOp_of_wp po8 u8g (wp_load_mid 153 (.tmp 46) q8 g 8 (by rw [eval_other _ 43 46 _ (by decide)]; exact eval_same _ _ _ (by simp only [put_size, hsz]; decide)) (bytesV B) (.array 64 5) HA2.out.bytes Tryd.underlying153 rfl (by rw [bytesV_length, HB2.out]; kernel_rfl) ?_))
          rw [d8]
          refine htail _ _ (by simp only [put_size, hsz]) (by rw [eval_other _ 47 43 _ (by decide)]; exact eval_same _ _ _ (by simp only [put_size, hsz]; decide)) (eval_same _ _ _ (by simp only [put_size, hsz]; decide)) ?_ ?_
          · rw [eval_other _ 47 39 _ (by decide), eval_other _ 43 39 _ (by decide), eval_other _ 46 39 _ (by decide), eval_other _ 45 39 _ (by decide), eval_other _ 44 39 _ (by decide), eval_other _ 42 39 _ (by decide), eval_other _ 41 39 _ (by decide), eval_other _ 40 39 _ (by decide)]
            exact eval_same _ _ _ (by rw [hsz]; decide)
          · intro w3 ha3 hg3
            refine NoPanic.normal ?_
            rw [HAA.out]
            have HA3 := Lib.hid ha3
            have HG3 := Lib.hid (grown_trans HG2.out hg3)
            clear ha3 hg3 htail
            go_frame
            go_wp2_with fail
            go_roundw
            case rel =>
              refine ⟨done ++ rest.take k, rest.drop k, p2, cap' - k, ?_, ?_, ?_, by omega, ?_, ?_, ?_⟩
              · rw [HB.out, List.append_assoc, List.take_append_drop]
              · rw [List.length_drop]
              · rw [List.length_drop]; omega
              · exact HP3.out _ (Reads.grown HR.out HG3.out HBG.out)
              · rw [HCH.out]; exact HA3.out
              · exact grown_trans HGR.out HG3.out
            case measure => simp; omega
        · refine wpOp_of_wp po8 u8g (wp_load_mid 153 (.tmp 46) q8 g 8 (eval_same _ _ _ (by simp only [put_size, hsz]; decide)) (bytesV B) (.array 64 5) HA2.out.bytes Tryd.underlying153 rfl (by rw [bytesV_length, HB2.out]; kernel_rfl) ?_)
          rw [d8]
          refine wpAny_one 4 r4a (wpOp_of_wp po4 u4g (wp_load_mid 203 (.tmp 42) q4 g 0 (by rw [eval_other _ 47 42 _ (by decide), eval_other _ 46 42 _ (by decide), eval_other _ 45 42 _ (by decide), eval_other _ 44 42 _ (by decide)]; exact eval_same _ _ _ (by simp only [put_size, hsz]; decide)) (wordsV H.s.list) (.array 8 176) HA2.out.words Tryd.underlying203 rfl (by rw [wordsV_length]; kernel_rfl) ?_))
          rw [d4, hLL]
          refine htail _ _ (by simp only [put_size, hsz]) (eval_same _ _ _ (by simp only [put_size, hsz]; decide)) (by rw [eval_other _ 43 47 _ (by decide)]; exact eval_same _ _ _ (by simp only [put_size, hsz]; decide)) ?_ ?_
          · rw [eval_other _ 43 39 _ (by decide), eval_other _ 47 39 _ (by decide), eval_other _ 46 39 _ (by decide), eval_other _ 45 39 _ (by decide), eval_other _ 44 39 _ (by decide), eval_other _ 42 39 _ (by decide), eval_other _ 41 39 _ (by decide), eval_other _ 40 39 _ (by decide)]
            exact eval_same _ _ _ (by rw [hsz]; decide)
          · intro w3 ha3 hg3
            refine NoPanic.normal ?_
            rw [HAA.out]
            have HA3 := Lib.hid ha3
            have HG3 := Lib.hid (grown_trans HG2.out hg3)
            clear ha3 hg3 htail
            go_frame
            go_wp2_with fail
            go_roundw
            case rel =>
              refine ⟨done ++ rest.take k, rest.drop k, p2, cap' - k, ?_, ?_, ?_, by omega, ?_, ?_, ?_⟩
              · rw [HB.out, List.append_assoc, List.take_append_drop]
              · rw [List.length_drop]
              · rw [List.length_drop]; omega
              · exact HP3.out _ (Reads.grown HR.out HG3.out HBG.out)
              · rw [HCH.out]; exact HA3.out
              · exact grown_trans HGR.out HG3.out
            case measure => simp; omega
      · have hzb : (((H.n : Int) + (k : Int)) % 64 == 0) = false := by rw [beq_eq_false_iff_ne]; omega
        have HCH : Hid (writeOf h (done ++ rest.take k) = ⟨H.s, splice H.blk m (rest.take k), H.n + k⟩) := by
          have hl : (rest.take k).length = k := by rw [List.length_take]; omega
          have hmn : H.n % 64 = m := by omega
          have e := writeOf_chunk H (rest.take k) HBLK.out (fun e => by rw [e] at hl; simp at hl; omega) (by omega)
          rw [hl, if_neg hz, hmn] at e
          show _ = _
          rw [writeOf_append, HH.out, e]
        clear hz
        go_wp2_with (refine wpList_copy_hash rfl (.tmp 18) (.tmp 19) 24 24 rfl 5 Tryd.underlying24 (by kernel_rfl) g m b off rest.length cap' k H rest rfl rfl HA.out rfl HKK.out hm64 HR.out ?_; intro w1 ha1 hg1; have cn := ha1.cellN; have fn := ha1.frozen 72; have HA1 := Lib.hid ha1; have HG1 := Lib.hid hg1; clear ha1 hg1)
        have hg3 := grown_trans HG1.out (grown_setCell w1 g 72 (.int .u64 ((H.n : Int) + (k : Int))))
        have ha3 := HA1.out.setN (H.n + k)
        rw [Int.natCast_add] at ha3
        go_roundw
        case rel =>
          refine ⟨done ++ rest.take k, rest.drop k, p2, cap' - k, ?_, ?_, ?_, by omega, ?_, ?_, ?_⟩
          · rw [HB.out, List.append_assoc, List.take_append_drop]
          · rw [List.length_drop]
          · rw [List.length_drop]; omega
          · exact HP3.out _ (Reads.grown HR.out hg3 HBG.out)
          · rw [HCH.out]; exact ha3
          · exact grown_trans HGR.out hg3
        case measure => simp; omega
end
section
attribute [local go_sem] and32 or32 xor32 add32 shl32 shr32 wrap32_n8 wrap8_n32 shl32_8 shl32_16 shl32_24 shr32_3 shr32_8 shr32_10 shr32_16 shr32_24
set_option maxRecDepth 100000 in
set_option maxHeartbeats 1000000 in
theorem shaSum_cap (bs : List (BitVec 8)) (p : Option Addr) (cap : Nat) (w : World) (hr : Lies w p bs) (hcap : bs.length ≤ cap) (hcm : cap ≤ 9223372036854775807) (hn : bs.length < 549755813888) (hk : Consts w) (hs : Starts w) :
    Calls Tryd.prog 175 #[.slice p bs.length cap] w fun e w' => e = .returned (.agg (bytesV (shaOf bs)).toArray) ∧ Below w.heap.size w w' := by
  have hs1 := hk.size
  have HK := Lib.hid hk; clear hk
  have HS := Lib.hid hs; clear hs
  have HR := Lib.hid hr; clear hr
  go_enter Tryd.func175, Tryd.ntmps175
  go_wp2_with fail
  have z0 := heap_new_at (w := w) (o := Obj.cells (bytesV (List.replicate 32 0#8)).toArray 48) rfl
  have b0 := (Below.refl w.heap.size w).alloc (Nat.le_refl _) (Obj.cells (bytesV (List.replicate 32 0#8)).toArray 48)
  have s0 := size_alloc w (Obj.cells (bytesV (List.replicate 32 0#8)).toArray 48)
  rw [noughts32] at z0 b0 s0
  generalize w.alloc (Obj.cells #[Value.int IntKind.u8 0, Value.int IntKind.u8 0, Value.int IntKind.u8 0, Value.int IntKind.u8 0, Value.int IntKind.u8 0, Value.int IntKind.u8 0, Value.int IntKind.u8 0, Value.int IntKind.u8 0, Value.int IntKind.u8 0, Value.int IntKind.u8 0, Value.int IntKind.u8 0, Value.int IntKind.u8 0, Value.int IntKind.u8 0, Value.int IntKind.u8 0, Value.int IntKind.u8 0, Value.int IntKind.u8 0, Value.int IntKind.u8 0, Value.int IntKind.u8 0, Value.int IntKind.u8 0, Value.int IntKind.u8 0, Value.int IntKind.u8 0, Value.int IntKind.u8 0, Value.int IntKind.u8 0, Value.int IntKind.u8 0, Value.int IntKind.u8 0, Value.int IntKind.u8 0, Value.int IntKind.u8 0, Value.int IntKind.u8 0, Value.int IntKind.u8 0, Value.int IntKind.u8 0, Value.int IntKind.u8 0, Value.int IntKind.u8 0] 48) = w0 at z0 b0 s0 ⊢
  rw [← noughts32] at z0
  refine (new_any w0 (HS.out.below b0 (by omega))).mono ?_
  rintro e w1 ⟨rfl, ha1, hb1⟩
  have B1 := Lib.hid (b0.trans (hb1.mono (by omega)))
  have Z1 := Lib.hid ((hb1.block w.heap.size (by omega)).trans z0)
  have HA1 := Lib.hid ha1
  have S1 := Lib.hid s0
  clear z0 hb1 ha1 b0
  generalize hg0 : w0.heap.size = g0 at HA1 S1 ⊢
  clear hg0 s0
  have hg0 : w.heap.size < g0 := by have := S1.out; omega
  clear S1
  go_wp2_with fail
  refine (write_cap g0 newHS bs p cap w1 HA1.out (HR.out.reads B1.out g0 (by omega)) hcap hcm (by show 0 + bs.length < _; omega) (HK.out.below B1.out hs1) (by omega)).mono ?_
  rintro e w2 ⟨rfl, ha2, hg2⟩
  have hs2 := HA1.out.size
  have HA2 := Lib.hid ha2
  have B2 := Lib.hid (B1.out.grown hg2 (by omega) (fun k hk => by have := Option.some.inj hk; omega))
  have Z2 := Lib.hid ((hg2.block w.heap.size (by omega) (fun e => by have := Option.some.inj e; omega)).trans Z1.out)
  clear ha2 hg2 HA1 B1 Z1
  go_wp2_with fail
  refine (hashSum_any g0 (writeOf newHS bs) w2 HA2.out (HK.out.below B2.out hs1) (by rw [writeOf_n]; show 0 + bs.length < _; omega)).mono ?_
  rintro e w3 ⟨rfl, hb3⟩
  have s2 := HA2.out.size
  have B3 := Lib.hid (B2.out.trans (hb3.mono (by omega)))
  have Z3 := Lib.hid ((hb3.block w.heap.size (by omega)).trans Z2.out)
  have hdl : (shaOf bs).length = 32 := by rw [shaOf, sumOf, ← digTo_full, digTo_length _ 8 (by omega)]
  have HI := Lib.hid ((show (Tryd.prog.info? 48).map (·.size) = some 32 by kernel_rfl).trans (congrArg some (bytesV_size _ 32 hdl).symm))
  have HOLD := Lib.hid (show (bytesV (List.replicate 32 0#8)).toArray.size = (bytesV (shaOf bs)).toArray.size by rw [bytesV_size _ 32 hdl]; rfl)
  have HONE := Lib.hid (bytesV_one (shaOf bs))
  clear hb3 B2 Z2 HA2 hdl
  rw [show sumOf (writeOf newHS bs) = shaOf bs from rfl]
  generalize hfe : (bytesV (shaOf bs)).toArray = full at HI HOLD HONE ⊢
  have HFE := Lib.hid hfe; clear hfe
  go_wp2_with (refine wpList_store_row rfl 48 (.tmp 2) (.tmp 9) rfl w.heap.size full rfl rfl 48 _ Z3.out HI.out HOLD.out HONE.out ?_)
  have hrow := setRow_heap w3 w.heap.size _ full 48 _ Z3.out
  have hbel := below_setRow B3.out (Nat.le_refl w.heap.size) full
  generalize w3.setRow w.heap.size full = wz at hrow hbel ⊢
  have hres : ∀ tmps : Array Value, tmps.getD 2 undef = .pointer (some ⟨w.heap.size, 0, none⟩) → Sem.run Tryd.prog (results Tryd.f175 tmps) wz = .ok (.agg full) wz := fun tmps h =>
    results_cell_row (P := Tryd.prog) (p := 2) (ty := 48) Tryd.results175 tmps wz w.heap.size 48 _ (0, 0) (TypeDesc.array 32 5) h hrow Tryd.underlying48 rfl HI.out
  exact bodyPost_ret (v := .agg full) (hres _ rfl) rfl ⟨by rw [HFE.out], hbel⟩

end
end Go.Proofs.YtgeacocdnenhdaaDoor

/-
  The contract of mac.pass: a block combined with a byte, and bytes behind it, are written to the hash whose Write came in; nothing else that was there changes.
-/
namespace Go.Proofs.YtgeacocdnenhdaaDoor
open Go.RowKit Go.Proofs.ShaWords

/-- A block whose first k bytes are combined with a byte. -/
def xorTo (blk : List (BitVec 8)) (p : BitVec 8) (k : Nat) : List (BitVec 8) := (blk.take k).map (· ^^^ p) ++ blk.drop k
def xorAll (blk : List (BitVec 8)) (p : BitVec 8) : List (BitVec 8) := blk.map (· ^^^ p)
theorem xorTo_zero (blk : List (BitVec 8)) (p : BitVec 8) : xorTo blk p 0 = blk := by simp [xorTo]
theorem xorTo_full (blk : List (BitVec 8)) (p : BitVec 8) (n : Nat) (h : blk.length = n) : xorTo blk p n = xorAll blk p := by subst h; simp [xorTo, xorAll]
theorem xorTo_length (blk : List (BitVec 8)) (p : BitVec 8) (k : Nat) (hk : k ≤ blk.length) : (xorTo blk p k).length = blk.length := by simp [xorTo]; omega
theorem xorAll_length (blk : List (BitVec 8)) (p : BitVec 8) : (xorAll blk p).length = blk.length := by simp [xorAll]
theorem xorTo_get (blk : List (BitVec 8)) (p : BitVec 8) (k : Nat) (hk : k < blk.length) : (xorTo blk p k)[k]? = some (blk.getD k 0#8) := by
  simp [xorTo, List.getElem?_append, List.getD, hk, Nat.min_eq_left (Nat.le_of_lt hk)]
theorem xorTo_succ (blk : List (BitVec 8)) (p : BitVec 8) (k : Nat) (hk : k < blk.length) : (xorTo blk p k).set k (blk.getD k 0#8 ^^^ p) = xorTo blk p (k + 1) := by
  unfold xorTo
  rw [List.set_append_right _ _ (by simp; omega), List.take_succ_eq_append_getElem hk, List.map_append, List.append_assoc, List.length_map, List.length_take, Nat.min_eq_left (by omega), Nat.sub_self,
    show blk.drop k = blk[k] :: blk.drop (k + 1) from (List.getElem_cons_drop (h := hk)).symm, List.set_cons_zero]
  rw [show blk.getD k 0#8 = blk[k] by simp [List.getD, hk]]
  rfl

theorem write_len (n : Nat) (g : Nat) (h : HS) (bs : List (BitVec 8)) (p : Option Addr) (cap : Nat) (w : World) (hbn : bs.length = n) (ha : HashAt w g h) (hr : Reads w g p bs) (hcap : n ≤ cap) (hcm : cap ≤ 9223372036854775807)
    (hn : h.n + n < 1099511627776) (hk : Consts w) (hg : g ≠ 2) :
    Calls Tryd.prog 178 #[.pointer (some ⟨g, 0, none⟩), .slice p n cap] w fun e w' => e = .returned (.tuple #[]) ∧ HashAt w' g (writeOf h bs) ∧ w.grownBy w' (some g) := by
  subst hbn; exact write_cap g h bs p cap w ha hr hcap hcm hn hk hg
attribute [local irreducible] writeOf xorTo xorAll
set_option maxRecDepth 100000 in
set_option maxHeartbeats 1000000 in
theorem pass_any (g : Nat) (h : HS) (blk bs : List (BitVec 8)) (pd : BitVec 8) (p : Option Addr) (cap : Nat) (w : World) (hl : blk.length = 64) (ha : HashAt w g h) (hr : Reads w g p bs) (hcap : bs.length ≤ cap)
    (hcm : cap ≤ 9223372036854775807) (hn : h.n + 64 + bs.length < 1099511627776) (hk : Consts w) (hg : g ≠ 2) :
    Calls Tryd.prog 177 #[.func (.func 178) #[.pointer (some ⟨g, 0, none⟩)] #[], .agg (bytesV blk).toArray, .int .u8 (n8 pd), .slice p bs.length cap] w
      fun e w' => e = .returned (.tuple #[]) ∧ HashAt w' g (writeOf h (xorAll blk pd ++ bs)) ∧ w.grownBy w' (some g) := by
  have HL := Lib.hid hl; clear hl
  have HG := Lib.hid hg; clear hg
  have HK := Lib.hid hk; clear hk
  have HA := Lib.hid ha; clear ha
  have HR := Lib.hid hr; clear hr
  have HF := Lib.hid (xorTo_full blk pd 64 HL.out)
  go_enter Tryd.func177, Tryd.ntmps177
  go_wp2_with fail
  refine wp_gen (fun w1 => w1.heap[w.heap.size]? = some (.cells (bytesV (xorTo blk pd 0)).toArray 153 (0, 0)) ∧ Below w.heap.size w w1) ⟨by rw [xorTo_zero]; exact heap_alloc_new w _, (Below.refl _ _).alloc (Nat.le_refl _) _⟩ ?_
  rintro w1 ⟨h1, bel⟩
  have HB1 := Lib.hid h1; have HBE := Lib.hid bel
  clear h1 bel
  go_loopw [8, 9] (fun _ i wr => ∃ k : Nat, k ≤ 64 ∧ i = .int .i64 (k : Int) ∧ wr.heap[w.heap.size]? = some (.cells (bytesV (xorTo blk pd k)).toArray 153 (0, 0)) ∧ Below w.heap.size w wr) (fun _ i _ => 64 - (intOf i).toNat)
  case atStart => exact ⟨0, by omega, rfl, HB1.out, HBE.out⟩
  case round =>
    clear HB1 HBE
    obtain ⟨k, hk, rfl, hrow, hb⟩ := hrel
    by_cases hlt : k < 64
    · have hc := cell_of_row wr w.heap.size k _ 153 (0, 0) hrow
      have hf := frozen_of_row wr w.heap.size k _ 153 hrow
      rw [List.getElem?_toArray, show (bytesV (xorTo blk pd k))[k]? = some (.int .u8 (n8 (blk.getD k 0#8))) by
        unfold bytesV; rw [List.getElem?_map, xorTo_get _ _ _ (by rw [HL.out]; exact hlt)]; rfl] at hc
      have HST := Lib.hid (setCell_bytes (k := k) hrow (blk.getD k 0#8 ^^^ pd))
      rw [xorTo_succ _ _ _ (by rw [HL.out]; exact hlt)] at HST
      generalize blk.getD k 0#8 = x at hc HST
      have HBB := Lib.hid (hb.setCell (Nat.le_refl _) (p := ⟨w.heap.size, k, none⟩) (.int .u8 (n8 (x ^^^ pd)))); clear hb hrow
      have q0 : (k : Int) < 64 := by omega
      have hx1 := xor8 x pd
      go_wp2_with fail
      exact ⟨⟨k + 1, by omega, by go_num, HST.out, HBB.out⟩, by simp [intOf]; omega⟩
    · obtain rfl : k = 64 := by omega
      rw [HF.out] at hrow
      have hxl : (xorAll blk pd).length = 64 := by rw [xorAll_length, HL.out]
      have hgs := HA.out.size
      have HRW := Lib.hid (range_bytesV hrow)
      have HXL := Lib.hid hxl
      have HBB := Lib.hid hb
      clear hb hrow hxl hlt hk
      generalize hX : xorAll blk pd = X at HRW HXL HF
      have HX := Lib.hid hX; clear hX
      go_wp2_with fail
      refine (write_len 64 g h X _ _ wr HXL.out (HA.out.keep HBB.out) (Or.inr ⟨w.heap.size, 0, rfl, by omega, HRW.out⟩) (by omega) (by omega) (by omega) (HK.out.below HBB.out HK.out.size) HG.out).mono ?_
      rintro e w2 ⟨rfl, ha2, hg2⟩
      have HG2 := Lib.hid hg2
      have HA2 := Lib.hid ha2
      have HR2 := Lib.hid ((HR.out.on HBB.out).past hg2)
      have HK2 := Lib.hid ((HK.out.below HBB.out HK.out.size).grown hg2 HG.out)
      have HN2 : Hid ((writeOf h X).n = h.n + 64) := show _ = _ by rw [writeOf_n, HXL.out]
      clear ha2 hg2
      go_wp2_with fail
      refine (write_cap g (writeOf h X) bs p cap w2 HA2.out HR2.out hcap hcm (by rw [HN2.out]; omega) HK2.out HG.out).mono ?_
      rintro e w3 ⟨rfl, ha3, hg3⟩
      have HA3 := Lib.hid ha3
      have HG3 := Lib.hid (grown_trans (grown_trans (grown_of_below HBB.out _) HG2.out) hg3)
      clear ha3 hg3
      go_wp2_with fail
      go_end0
      exact ⟨rfl, by rw [HX.out, writeOf_append]; exact HA3.out, HG3.out⟩
end Go.Proofs.YtgeacocdnenhdaaDoor

/-
  A region that draws its order, carried out along one list of its operations: those that yield their value in every world that keeps the old blocks are taken as they come, the others must stand alone when they come up.
-/
namespace Go.Proofs.YtgeacocdnenhdaaDoor
open Go.RowKit Go.Proofs.ShaWords

section
variable {P : Program} {ρ : Operand → Value} {o : Oper} {x y c : Operand} {v u : Value}
theorem sumOf_length (h : HS) : (sumOf h).length = 32 := digestOf_length _
theorem shaOf_length (bs : List (BitVec 8)) : (shaOf bs).length = 32 := sumOf_length _
end
end Go.Proofs.YtgeacocdnenhdaaDoor

/-
  The contract of mac.padded: the digest of a block combined with a byte, followed by bytes; nothing that was there changes.
-/
namespace Go.Proofs.YtgeacocdnenhdaaDoor
open Go.RowKit Go.Proofs.ShaWords

theorem writeOf_new_len (l : List (BitVec 8)) : (writeOf newHS l).n = l.length := by rw [writeOf_n]; show 0 + _ = _; omega
theorem sum_sha' (g : Nat) (l : List (BitVec 8)) (w : World) (ha : HashAt w g (writeOf newHS l)) (hk : Consts w) (hn : l.length < 549755813888) :
    Calls Tryd.prog 179 #[.pointer (some ⟨g, 0, none⟩)] w fun e w' => e = .returned (.agg (bytesV (shaOf l)).toArray) ∧ Below w.heap.size w w' :=
  hashSum_any g (writeOf newHS l) w ha hk (by rw [writeOf_new_len]; exact hn)
theorem info64 (l : List (BitVec 8)) (h : l.length = 64) : (Tryd.prog.info? 153).map (·.size) = some (bytesV l).toArray.size :=
  (show (Tryd.prog.info? 153).map (·.size) = some 64 by kernel_rfl).trans (congrArg some (bytesV_size _ 64 h).symm)
theorem info32 (l : List (BitVec 8)) (h : l.length = 32) : (Tryd.prog.info? 48).map (·.size) = some (bytesV l).toArray.size :=
  (show (Tryd.prog.info? 48).map (·.size) = some 32 by kernel_rfl).trans (congrArg some (bytesV_size _ 32 h).symm)

attribute [local irreducible] writeOf xorAll shaOf
set_option maxRecDepth 100000 in
set_option maxHeartbeats 1000000 in
theorem padded_any (blk bs : List (BitVec 8)) (pd : BitVec 8) (p : Option Addr) (cap : Nat) (w : World) (hl : blk.length = 64) (hr : Lies w p bs) (hcap : bs.length ≤ cap)
    (hcm : cap ≤ 9223372036854775807) (hn : bs.length < 549755813000) (hk : Consts w) (hs : Starts w) :
    Calls Tryd.prog 130 #[.agg (bytesV blk).toArray, .int .u8 (n8 pd), .slice p bs.length cap] w
      fun e w' => e = .returned (.agg (bytesV (shaOf (xorAll blk pd ++ bs))).toArray) ∧ Below w.heap.size w w' := by
  have hs1 := hk.size
  have HL := Lib.hid hl; clear hl
  have HK := Lib.hid hk; clear hk
  have HS := Lib.hid hs; clear hs
  have HR := Lib.hid hr; clear hr
  go_enter Tryd.func130, Tryd.ntmps130
  go_wp2_with fail
  refine calls_gen (fun w0 => BytesAt w0 w.heap.size 153 blk ∧ BytesAt w0 (w.heap.size + 1) 48 (noughts 32) ∧ Below w.heap.size w w0) ⟨?_, ?_, ((Below.refl _ _).alloc (Nat.le_refl _) _).alloc (by rw [size_alloc]; omega) _⟩ ?_
  · exact BytesAt.keep (w := w.alloc _) (heap_alloc_new w _) ((Below.refl _ _).alloc (Nat.le_refl _) _)
  · show _ = some (Obj.cells (bytesV (List.replicate 32 0#8)).toArray _ _)
    rw [noughts32]; exact heap_new_at (size_alloc _ _)
  rintro w0 ⟨hb0, hz0, bel0⟩
  have sz0 := hz0.size
  refine (new_any w0 (HS.out.below bel0 (by omega))).mono ?_
  rintro e w1 ⟨rfl, ha1, hb1⟩
  have sz1 := ha1.size
  have HB1 := Lib.hid (bel0.trans (hb1.mono (by omega)))
  have HA1 := Lib.hid ha1
  have HBL := Lib.hid (hb0.keep hb1)
  have HZ := Lib.hid (hz0.keep hb1)
  clear hb0 hz0 bel0 ha1 hb1
  generalize w0.heap.size = g at sz0 sz1 HA1 ⊢
  have HI := Lib.hid (info64 blk HL.out)
  go_wp2_with (refine wpList_load_row rfl 153 (.tmp 3) rfl w.heap.size rfl 153 (bytesV blk).toArray (0, 0) _ HBL.out Tryd.underlying153 rfl HI.out ?_)
  refine (pass_any g newHS blk bs pd p cap w1 HL.out HA1.out (HR.out.reads HB1.out g (by omega)) hcap hcm (by show 0 + 64 + bs.length < _; omega) (HK.out.below HB1.out hs1) (by omega)).mono ?_
  rintro e w2 ⟨rfl, ha2, hg2⟩
  have HB2 := Lib.hid (HB1.out.grown hg2 (by omega) (fun k hk => by have := Option.some.inj hk; omega))
  have HA2 := Lib.hid ha2
  have HZ2 := Lib.hid (HZ.out.past hg2 (by omega))
  have sz2 := ha2.size
  have hxl : (xorAll blk pd ++ bs).length < 549755813888 := by rw [List.length_append, xorAll_length, HL.out]; omega
  have HXL := Lib.hid hxl
  clear hxl ha2 hg2 HA1 HB1 HZ HBL HI
  generalize hX : xorAll blk pd ++ bs = X at HA2 HXL ⊢
  have HX := Lib.hid hX; clear hX
  go_wp2_with fail
  refine (sum_sha' g X w2 HA2.out (HK.out.below HB2.out hs1) HXL.out).mono ?_
  rintro e w3 ⟨rfl, hb3⟩
  have HB3 := Lib.hid (HB2.out.trans (hb3.mono (by omega)))
  have HZ3 := Lib.hid (HZ2.out.keep hb3)
  clear hb3 HA2 HB2 HZ2 HXL
  have HSL := Lib.hid (shaOf_length X)
  have HI := Lib.hid (info32 _ HSL.out)
  have HOLD := Lib.hid (show (bytesV (noughts 32)).toArray.size = (bytesV (shaOf X)).toArray.size by rw [bytesV_size _ 32 HSL.out, bytesV_size _ 32 (noughts_length 32)])
  have HONE := Lib.hid (bytesV_one (shaOf X))
  generalize hfe : (bytesV (shaOf X)).toArray = full at HI HOLD HONE ⊢
  have HFE := Lib.hid hfe; clear hfe
  go_wp2_with (refine wpList_store_row rfl 48 (.tmp 6) (.tmp 16) rfl (w.heap.size + 1) full rfl rfl 48 _ HZ3.out HI.out HOLD.out HONE.out ?_)
  have hrow := setRow_heap w3 (w.heap.size + 1) _ full 48 _ HZ3.out
  have hbel := below_setRow HB3.out (show w.heap.size ≤ w.heap.size + 1 by omega) full
  generalize w3.setRow (w.heap.size + 1) full = wz at hrow hbel ⊢
  have hres : ∀ tmps : Array Value, tmps.getD 6 undef = .pointer (some ⟨w.heap.size + 1, 0, none⟩) → Sem.run Tryd.prog (results Tryd.f130 tmps) wz = .ok (.agg full) wz := fun tmps h =>
    results_cell_row (P := Tryd.prog) (p := 6) (ty := 48) Tryd.results130 tmps wz (w.heap.size + 1) 48 full (0, 0) (TypeDesc.array 32 5) h hrow Tryd.underlying48 rfl HI.out
  exact bodyPost_ret (v := .agg full) (hres _ rfl) rfl ⟨by rw [HX.out, HFE.out], hbel⟩
end Go.Proofs.YtgeacocdnenhdaaDoor

/-
  The contract of mac.blockOf: a key's block; nothing that was there changes.
-/
namespace Go.Proofs.YtgeacocdnenhdaaDoor
open Go.RowKit Go.Proofs.ShaWords

/-- A key's block. -/
def keyOf (key : List (BitVec 8)) : List (BitVec 8) := if key.length ≤ 64 then key else shaOf key
def blockK (key : List (BitVec 8)) : List (BitVec 8) := splice (noughts 64) 0 (keyOf key)
theorem keyOf_length (key : List (BitVec 8)) : (keyOf key).length ≤ 64 := by
  unfold keyOf; split
  · assumption
  · rw [shaOf_length]; omega
theorem blockK_length (key : List (BitVec 8)) : (blockK key).length = 64 := by
  have := keyOf_length key
  unfold blockK
  rw [length_splice _ _ _ (by rw [noughts_length]; omega), noughts_length]
theorem blockK_eq (key : List (BitVec 8)) : blockK key = keyOf key ++ noughts (64 - (keyOf key).length) := by
  unfold blockK noughts; exact splice_noughts 64 _
/-- A slice over a whole array. -/
theorem run_slice64 {ρ : Operand → Value} {o : Oper} {x : Operand} {g : Nat} (ho : o.op = .slice 153 x none none none) (hx : ρ x = .pointer (some ⟨g, 0, none⟩)) (w : World) :
    (execOp ρ o).run Tryd.prog w = .ok (.value (.slice (some ⟨g, 0, none⟩) 64 64)) w := by
  obtain ⟨dst, op, ty', pos, after, guard⟩ := o
  simp only at ho
  subst ho
  go_simp
theorem run_slice32 {ρ : Operand → Value} {o : Oper} {x : Operand} {g : Nat} (ho : o.op = .slice 48 x none none none) (hx : ρ x = .pointer (some ⟨g, 0, none⟩)) (w : World) :
    (execOp ρ o).run Tryd.prog w = .ok (.value (.slice (some ⟨g, 0, none⟩) 32 32)) w := by
  obtain ⟨dst, op, ty', pos, after, guard⟩ := o
  simp only at ho
  subst ho
  go_simp

theorem two_blocks (w : World) (A : Array Value) (hA : A = (bytesV (noughts 64)).toArray) :
    BytesAt ((w.alloc (.cells A 153)).alloc (.cells A 153)) w.heap.size 153 (noughts 64) ∧ BytesAt ((w.alloc (.cells A 153)).alloc (.cells A 153)) (w.heap.size + 1) 153 (noughts 64) ∧
      Below w.heap.size w ((w.alloc (.cells A 153)).alloc (.cells A 153)) := by
  subst hA
  exact ⟨BytesAt.keep (w := w.alloc _) (heap_alloc_new w _) ((Below.refl _ _).alloc (Nat.le_refl _) _), heap_new_at (size_alloc _ _), ((Below.refl _ _).alloc (Nat.le_refl _) _).alloc (by rw [size_alloc]; omega) _⟩
/-- The end: the block is loaded and stored into the result. -/
theorem blockK_short (key : List (BitVec 8)) (h : key.length ≤ 64) : splice (noughts 64) 0 key = blockK key := by unfold blockK keyOf; rw [if_pos h]
theorem blockK_long (key : List (BitVec 8)) (h : 64 < key.length) : splice (noughts 64) 0 (shaOf key) = blockK key := by unfold blockK keyOf; rw [if_neg (by omega)]
attribute [local irreducible] shaOf blockK
set_option maxRecDepth 100000 in
set_option maxHeartbeats 1000000 in
theorem blockOf_any (key : List (BitVec 8)) (p : Option Addr) (cap : Nat) (w : World) (hr : Lies w p key) (hcap : key.length ≤ cap) (hcm : cap ≤ 9223372036854775807) (hn : key.length < 549755813000) (hk : Consts w) (hs : Starts w) :
    Calls Tryd.prog 129 #[.slice p key.length cap] w fun e w' => e = .returned (.agg (bytesV (blockK key)).toArray) ∧ Below w.heap.size w w' := by
  have hs1 := hk.size
  have HK := Lib.hid hk; clear hk
  have HS := Lib.hid hs; clear hs
  have HR := Lib.hid hr; clear hr
  by_cases hlong : 64 < key.length
  · go_enter Tryd.func129, Tryd.ntmps129
    go_wp2_with fail
    refine calls_gen (fun w0 => BytesAt w0 w.heap.size 153 (noughts 64) ∧ BytesAt w0 (w.heap.size + 1) 153 (noughts 64) ∧ Below w.heap.size w w0) (two_blocks w _ rfl) ?_
    rintro w0 ⟨hz0, hb0, bel0⟩
    have sz0 := hb0.size
    refine (shaSum_cap key p cap w0 (HR.out.below bel0) hcap hcm (by omega) (HK.out.below bel0 hs1) (HS.out.below bel0 (by omega))).mono ?_
    rintro e w1 ⟨rfl, hb1⟩
    have HB1 := Lib.hid (bel0.trans (hb1.mono (by omega)))
    have HZ1 := Lib.hid (hz0.keep hb1)
    have HC1 := Lib.hid (hb0.keep hb1)
    have sz1 := HC1.out.size
    clear hb0 hz0 bel0 hb1
    have HSL := Lib.hid (shaOf_length key)
    have HSI := Lib.hid (info32 _ HSL.out)
    have HSO := Lib.hid (show (bytesV (noughts 32)).toArray.size = (bytesV (shaOf key)).toArray.size by rw [bytesV_size _ 32 HSL.out, bytesV_size _ 32 (noughts_length 32)])
    have HS1 := Lib.hid (bytesV_one (shaOf key))
    go_wp2_with (refine wpList_store_new rfl 48 (.tmp 4) (.tmp 9) rfl w1.heap.size rfl (bytesV (shaOf key)).toArray rfl rfl HSI.out (by rw [← noughts32]; exact HSO.out) HS1.out ?_; intro w2 h2 b2; have HD2 := Lib.hid h2; have HC2 := Lib.hid (HC1.out.keep b2); have HZ2 := Lib.hid (HZ1.out.keep b2); have HB2 := Lib.hid (HB1.out.trans (b2.mono (by omega))); have sz2 := (Array.getElem?_eq_some_iff.1 h2).1; clear h2 b2)
    generalize w1.heap.size = D at HD2 sz1 sz2 ⊢
    clear HB1 HZ1 HC1 HSI HSO HS1
    refine region_schedS (fun _ => True) trivial [(0, true), (1, true), (2, false)] (by kernel_rfl) (by kernel_rfl) (by kernel_rfl) (by kernel_rfl) (fun ops hops A hA => ?_)
    have hsz : A.tmps.size = 17 := by rw [hA]; rfl
    have base3 : A.eval (.tmp 3) = .pointer (some ⟨w.heap.size + 1, 0, none⟩) := by rw [hA]; rfl
    have base4 : A.eval (.tmp 4) = .pointer (some ⟨D, 0, none⟩) := by rw [hA]; rfl
    have HAA := Lib.hid hA; clear hA
    obtain ⟨o0, po0, q0, d0, gd0⟩ : ∃ o, ops[0]? = some o ∧ o.op = .slice 153 (.tmp 3) none none none ∧ o.dst = some 10 ∧ o.guard = none := ⟨_, by rw [hops]; rfl, rfl, rfl, rfl⟩
    obtain ⟨o1, po1, q1, d1, gd1⟩ : ∃ o, ops[1]? = some o ∧ o.op = .slice 48 (.tmp 4) none none none ∧ o.dst = some 11 ∧ o.guard = none := ⟨_, by rw [hops]; rfl, rfl, rfl, rfl⟩
    obtain ⟨o2, po2, q2, d2, gd2⟩ : ∃ o, ops[2]? = some o ∧ o.op = .call { callee := .builtin .copy, args := #[.tmp 10, .tmp 11], argTypes := #[24, 24] } ∧ o.dst = some 12 ∧ o.guard = none := ⟨_, by rw [hops]; rfl, rfl, rfl, rfl⟩
    clear hops
    obtain ⟨w3, hrun, hc3, hg3⟩ := run_copy_bytes w2.drew o2.type (w.heap.size + 1) 64 64 153 (noughts 64) (shaOf key) (some ⟨D, 0, none⟩) 32 32 HC2.out (noughts_length 64) (Or.inr ⟨D, 0, rfl, range_bytesV (w := w2.drew) HD2.out⟩) HSL.out (by omega)
    refine step_pure po0 d0 (wanted_of gd0) (fun w' _ => run_slice64 q0 base3 w') ?_
    refine step_pure po1 d1 (wanted_of gd1) (fun w' _ => run_slice32 q1 ((eval_other _ 10 4 _ (by decide)).trans base4) w') ?_
    refine step_op po2 d2 (wanted_of gd2) (run_copy_op q2 ((eval_other _ 11 10 _ (by decide)).trans (eval_same _ _ _ (by rw [hsz]; decide))) (eval_same _ _ _ (by simp only [put_size, hsz]; decide)) hrun) trivial ?_
    rw [blockK_long key hlong] at hc3
    have HC := Lib.hid hc3
    have HZ3 := Lib.hid (BytesAt.past (w := w2.drew) HZ2.out hg3 (by omega))
    have HB3 := Lib.hid (HB2.out.drew.grown hg3 (by show w.heap.size ≤ w2.heap.size; omega) (fun k hk => by have := Option.some.inj hk; omega))
    clear hc3 hg3 hrun
    show NoPanic _ .normal _ _
    refine NoPanic.normal ?_
    rw [HAA.out]
    go_frame
    have HBK := Lib.hid (blockK_length key)
    have HI := Lib.hid (info64 _ HBK.out)
    have HOLD := Lib.hid (show (bytesV (noughts 64)).toArray.size = (bytesV (blockK key)).toArray.size by rw [bytesV_size _ 64 HBK.out, bytesV_size _ 64 (noughts_length 64)])
    have HONE := Lib.hid (bytesV_one (blockK key))
    have HC3 : Hid (w3.heap[w.heap.size + 1]? = some (.cells (bytesV (blockK key)).toArray 153 (0, 0))) := HC.out
    clear HC
    generalize hfe : (bytesV (blockK key)).toArray = full at HI HOLD HONE HC3 ⊢
    have HFE := Lib.hid hfe; clear hfe
    go_wp2_with (first
      | (refine wpList_load_row rfl 153 (.tmp 3) rfl (w.heap.size + 1) rfl 153 full (0, 0) _ HC3.out Tryd.underlying153 rfl HI.out ?_)
      | (refine wpList_store_row rfl 153 (.tmp 2) (.tmp 16) rfl w.heap.size full rfl rfl 153 _ HZ3.out HI.out HOLD.out HONE.out ?_))
    have hrow := setRow_heap w3 w.heap.size _ full 153 _ HZ3.out
    have hbel := below_setRow HB3.out (Nat.le_refl w.heap.size) full
    generalize w3.setRow w.heap.size full = wz at hrow hbel ⊢
    have hres : ∀ tmps : Array Value, tmps.getD 2 undef = .pointer (some ⟨w.heap.size, 0, none⟩) → Sem.run Tryd.prog (results Tryd.f129 tmps) wz = .ok (.agg full) wz := fun tmps h =>
      results_cell_row (P := Tryd.prog) (p := 2) (ty := 153) Tryd.results129 tmps wz w.heap.size 153 full (0, 0) (TypeDesc.array 64 5) h hrow Tryd.underlying153 rfl HI.out
    exact bodyPost_ret (v := .agg full) (hres _ rfl) rfl ⟨by rw [HFE.out], hbel⟩
  · have hlong2 : ¬ (64 : Int) < (key.length : Int) := by omega
    have h64 : key.length ≤ 64 := by omega
    have HBK := Lib.hid (blockK_length key)
    have HI := Lib.hid (info64 _ HBK.out)
    have HOLD := Lib.hid (show (bytesV (noughts 64)).toArray.size = (bytesV (blockK key)).toArray.size by rw [bytesV_size _ 64 HBK.out, bytesV_size _ 64 (noughts_length 64)])
    have HONE := Lib.hid (bytesV_one (blockK key))
    obtain ⟨full, hfe⟩ : ∃ full, full = (bytesV (blockK key)).toArray := ⟨_, rfl⟩
    rw [← hfe] at HI HOLD HONE
    have HFE := Lib.hid hfe; clear hfe
    have HFC : Hid (∀ w3 : World, BytesAt w3 (w.heap.size + 1) 153 (splice (noughts 64) 0 key) → w3.heap[w.heap.size + 1]? = some (.cells full 153 (0, 0))) := fun w3 h3 => by
      rw [blockK_short key h64] at h3; rw [HFE.out]; exact h3
    go_enter Tryd.func129, Tryd.ntmps129
    go_wp2_with (first
      | (refine wpList_copy_bytes rfl (.tmp 13) (.tmp 14) rfl (w.heap.size + 1) 64 64 153 (noughts 64) key p key.length cap rfl rfl (two_blocks w _ rfl).2.1 (noughts_length 64) (HR.out.below (two_blocks w _ rfl).2.2) rfl h64 ?_; intro w3 hc3 hg3; have HC3 := Lib.hid (HFC.out w3 hc3); have HZ3 := Lib.hid ((two_blocks w _ rfl).1.past hg3 (by omega)); have HB3 := Lib.hid ((two_blocks w _ rfl).2.2.grown hg3 (by rw [size_alloc, size_alloc]; omega) (fun k hk => by have := Option.some.inj hk; omega)); clear hc3 hg3)
      | (refine wpList_load_row rfl 153 (.tmp 3) rfl (w.heap.size + 1) rfl 153 full (0, 0) _ HC3.out Tryd.underlying153 rfl HI.out ?_)
      | (refine wpList_store_row rfl 153 (.tmp 2) (.tmp 16) rfl w.heap.size full rfl rfl 153 _ HZ3.out HI.out HOLD.out HONE.out ?_))
    have hrow := setRow_heap w3 w.heap.size _ full 153 _ HZ3.out
    have hbel := below_setRow HB3.out (Nat.le_refl w.heap.size) full
    generalize w3.setRow w.heap.size full = wz at hrow hbel ⊢
    have hres : ∀ tmps : Array Value, tmps.getD 2 undef = .pointer (some ⟨w.heap.size, 0, none⟩) → Sem.run Tryd.prog (results Tryd.f129 tmps) wz = .ok (.agg full) wz := fun tmps h =>
      results_cell_row (P := Tryd.prog) (p := 2) (ty := 153) Tryd.results129 tmps wz w.heap.size 153 full (0, 0) (TypeDesc.array 64 5) h hrow Tryd.underlying153 rfl HI.out
    exact bodyPost_ret (v := .agg full) (hres _ rfl) rfl ⟨by rw [HFE.out], hbel⟩
end Go.Proofs.YtgeacocdnenhdaaDoor

/-
  The contracts of mac.Of and mac.Chain: the code of bytes under a key; nothing that was there changes.
-/
namespace Go.Proofs.YtgeacocdnenhdaaDoor
open Go.RowKit Go.Proofs.ShaWords

/-- The code of bytes under a key. -/
def innerOf (key bs : List (BitVec 8)) : List (BitVec 8) := shaOf (xorAll (blockK key) 0x36#8 ++ bs)
def macOf (key bs : List (BitVec 8)) : List (BitVec 8) := shaOf (xorAll (blockK key) 0x5c#8 ++ innerOf key bs)
theorem innerOf_length (key bs : List (BitVec 8)) : (innerOf key bs).length = 32 := shaOf_length _
theorem macOf_length (key bs : List (BitVec 8)) : (macOf key bs).length = 32 := shaOf_length _
theorem padded_at (blk bs : List (BitVec 8)) (n : Nat) (pd : BitVec 8) (z : Int) (p : Option Addr) (cap : Nat) (w : World) (hz : n8 pd = z) (hbn : bs.length = n) (hl : blk.length = 64) (hr : Lies w p bs) (hcap : n ≤ cap)
    (hcm : cap ≤ 9223372036854775807) (hn : n < 549755813000) (hk : Consts w) (hs : Starts w) :
    Calls Tryd.prog 130 #[.agg (bytesV blk).toArray, .int .u8 z, .slice p n cap] w
      fun e w' => e = .returned (.agg (bytesV (shaOf (xorAll blk pd ++ bs))).toArray) ∧ Below w.heap.size w w' := by
  subst hz; subst hbn
  exact padded_any blk bs pd p cap w hl hr hcap hcm hn hk hs
theorem inner_at (key bs : List (BitVec 8)) (p : Option Addr) (cap : Nat) (w : World) (hr : Lies w p bs) (hcap : bs.length ≤ cap) (hcm : cap ≤ 9223372036854775807) (hn : bs.length < 549755813000) (hk : Consts w) (hs : Starts w) :
    Calls Tryd.prog 130 #[.agg (bytesV (blockK key)).toArray, .int .u8 54, .slice p bs.length cap] w fun e w' => e = .returned (.agg (bytesV (innerOf key bs)).toArray) ∧ Below w.heap.size w w' :=
  padded_at (blockK key) bs bs.length 0x36#8 54 p cap w rfl rfl (blockK_length _) hr hcap hcm hn hk hs
theorem outer_at (key bs : List (BitVec 8)) (g : Nat) (w : World) (hr : w.rangeAt g 0 (bytesV (innerOf key bs))) (hk : Consts w) (hs : Starts w) :
    Calls Tryd.prog 130 #[.agg (bytesV (blockK key)).toArray, .int .u8 92, .slice (some ⟨g, 0, none⟩) 32 32] w fun e w' => e = .returned (.agg (bytesV (macOf key bs)).toArray) ∧ Below w.heap.size w w' :=
  padded_at (blockK key) (innerOf key bs) 32 0x5c#8 92 _ 32 w rfl (innerOf_length _ _) (blockK_length _) (Or.inr ⟨g, 0, rfl, hr⟩) (by omega) (by omega) (by omega) hk hs
theorem run_load64 {ρ : Operand → Value} {o : Oper} {x : Operand} {l : List (BitVec 8)} {b : Nat} {w : World} (ho : o.op = .load 153 x) (hx : ρ x = .pointer (some ⟨b, 0, none⟩)) (hl : l.length = 64) (hr : w.rangeAt b 0 (bytesV l)) : (execOp ρ o).run Tryd.prog w = .ok (.value (.agg (bytesV l).toArray)) w := by
  have h := run_loadAt_mid (P := Tryd.prog) w b 0 153 (bytesV l) _ hr Tryd.underlying153 rfl (by rw [bytesV_length, hl]; kernel_rfl)
  unfold execOp
  simp only [ho, hx, Sem.run_bind, h, Result.andThen_ok, Sem.run_pure]

attribute [local irreducible] shaOf blockK xorAll innerOf macOf
set_option maxRecDepth 100000 in
set_option maxHeartbeats 1000000 in
theorem of_any (key bs : List (BitVec 8)) (p q : Option Addr) (ck cb : Nat) (w : World) (hrk : Lies w p key) (hrb : Lies w q bs) (hck : key.length ≤ ck) (hckm : ck ≤ 9223372036854775807) (hnk : key.length < 549755813000)
    (hcb : bs.length ≤ cb) (hcbm : cb ≤ 9223372036854775807) (hnb : bs.length < 549755813000) (hk : Consts w) (hs : Starts w) :
    Calls Tryd.prog 56 #[.slice p key.length ck, .slice q bs.length cb] w fun e w' => e = .returned (.agg (bytesV (macOf key bs)).toArray) ∧ Below w.heap.size w w' := by
  have hs1 := hk.size
  have HK := Lib.hid hk; clear hk
  have HS := Lib.hid hs; clear hs
  have HRK := Lib.hid hrk; clear hrk
  have HRB := Lib.hid hrb; clear hrb
  have HBK := Lib.hid (blockK_length key)
  have HI64 := Lib.hid (info64 _ HBK.out)
  have HO64 := Lib.hid (show (bytesV (noughts 64)).toArray.size = (bytesV (blockK key)).toArray.size by rw [bytesV_size _ 64 HBK.out, bytesV_size _ 64 (noughts_length 64)])
  have HW64 := Lib.hid (bytesV_one (blockK key))
  have HIN := Lib.hid (innerOf_length key bs)
  have HI32 := Lib.hid (info32 _ HIN.out)
  have HO32 := Lib.hid (show (bytesV (noughts 32)).toArray.size = (bytesV (innerOf key bs)).toArray.size by rw [bytesV_size _ 32 HIN.out, bytesV_size _ 32 (noughts_length 32)])
  have HW32 := Lib.hid (bytesV_one (innerOf key bs))
  go_enter Tryd.func56, Tryd.ntmps56
  go_wp2_with fail
  refine calls_gen (fun w0 => BytesAt w0 w.heap.size 48 (noughts 32) ∧ Below w.heap.size w w0) ⟨by show _ = some (Obj.cells (bytesV (List.replicate 32 0#8)).toArray _ _); rw [noughts32]; exact heap_alloc_new w _, (Below.refl _ _).alloc (Nat.le_refl _) _⟩ ?_
  rintro w0 ⟨hz0, bel0⟩
  have sz0 := hz0.size
  refine (blockOf_any key p ck w0 (HRK.out.below bel0) hck hckm hnk (HK.out.below bel0 hs1) (HS.out.below bel0 (by omega))).mono ?_
  rintro e w1 ⟨rfl, hb1⟩
  have HB1 := Lib.hid (bel0.trans (hb1.mono (by omega)))
  have HZ1 := Lib.hid (hz0.keep hb1)
  have sz1 := HZ1.out.size
  clear hz0 bel0 hb1
  go_wp2_with (first
    | (refine wpList_store_new rfl 153 (.tmp 5) (.tmp 8) rfl w1.heap.size rfl (bytesV (blockK key)).toArray rfl rfl HI64.out HO64.out HW64.out ?_; intro w2 h2 b2; have HC2 := Lib.hid (show BytesAt w2 w1.heap.size 153 (blockK key) from h2); have HZ2 := Lib.hid (HZ1.out.keep b2); have HB2 := Lib.hid (HB1.out.trans (b2.mono (by omega))); clear h2 b2)
    | (refine wpList_load_row rfl 153 (.tmp 5) rfl w1.heap.size rfl 153 (bytesV (blockK key)).toArray (0, 0) _ HC2.out Tryd.underlying153 rfl HI64.out ?_))
  have sz2 := HC2.out.size
  clear HB1 HZ1
  generalize w1.heap.size = C at sz1 sz2 HC2 ⊢
  refine (inner_at key bs q cb w2 (HRB.out.below HB2.out) hcb hcbm hnb (HK.out.below HB2.out hs1) (HS.out.below HB2.out (by omega))).mono ?_
  rintro e w3 ⟨rfl, hb3⟩
  have HB3 := Lib.hid (HB2.out.trans (hb3.mono (by omega)))
  have HZ3 := Lib.hid (HZ2.out.keep hb3)
  have HC3 := Lib.hid (HC2.out.keep hb3)
  have sz3 := HC3.out.size
  clear hb3 HB2 HZ2 HC2
  go_wp2_with (refine wpList_store_new rfl 48 (.tmp 6) (.tmp 11) rfl w3.heap.size rfl (bytesV (innerOf key bs)).toArray rfl rfl HI32.out (by rw [← noughts32]; exact HO32.out) HW32.out ?_; intro w4 h4 b4; have HD4 := Lib.hid (show BytesAt w4 w3.heap.size 48 (innerOf key bs) from h4); have HZ4 := Lib.hid (HZ3.out.keep b4); have HC4 := Lib.hid (HC3.out.keep b4); have HB4 := Lib.hid (HB3.out.trans (b4.mono (by omega))); clear h4 b4)
  have sz4 := HD4.out.size
  clear HB3 HZ3 HC3
  generalize w3.heap.size = D at sz3 sz4 HD4 ⊢
  refine region_schedS (fun w' => w'.rangeAt C 0 (bytesV (blockK key))) (HC4.out.range : w4.drew.rangeAt _ _ _) [(0, true), (1, true), (2, false), (3, false)] (by kernel_rfl) (by kernel_rfl) (by kernel_rfl) (by kernel_rfl) (fun ops hops A hA => ?_)
  have hsz : A.tmps.size = 15 := by rw [hA]; rfl
  have base4 : A.eval (.tmp 4) = .pointer (some ⟨w.heap.size, 0, none⟩) := by rw [hA]; rfl
  have base5 : A.eval (.tmp 5) = .pointer (some ⟨C, 0, none⟩) := by rw [hA]; rfl
  have base6 : A.eval (.tmp 6) = .pointer (some ⟨D, 0, none⟩) := by rw [hA]; rfl
  have HAA := Lib.hid hA; clear hA
  obtain ⟨o0, po0, q0, d0, gd0⟩ : ∃ o, ops[0]? = some o ∧ o.op = .load 153 (.tmp 5) ∧ o.dst = some 12 ∧ o.guard = none := ⟨_, by rw [hops]; rfl, rfl, rfl, rfl⟩
  obtain ⟨o1, po1, q1, d1, gd1⟩ : ∃ o, ops[1]? = some o ∧ o.op = .slice 48 (.tmp 6) none none none ∧ o.dst = some 13 ∧ o.guard = none := ⟨_, by rw [hops]; rfl, rfl, rfl, rfl⟩
  obtain ⟨o2, po2, q2, d2, gd2⟩ : ∃ o, ops[2]? = some o ∧ o.op = .call { callee := .value (.func 130), args := #[.tmp 12, .const (.int .u8 92), .tmp 13], argTypes := #[153, 5, 24] } ∧ o.dst = some 14 ∧ o.guard = none := ⟨_, by rw [hops]; rfl, rfl, rfl, rfl⟩
  obtain ⟨o3, po3, q3, d3, gd3⟩ : ∃ o, ops[3]? = some o ∧ o.op = .store 48 (.tmp 4) (.tmp 14) ∧ o.dst = none ∧ o.guard = none := ⟨_, by rw [hops]; rfl, rfl, rfl, rfl⟩
  clear hops
  refine step_pure po0 d0 (wanted_of gd0) (fun w' hw' => run_load64 q0 base5 HBK.out hw') ?_
  refine step_pure po1 d1 (wanted_of gd1) (fun w' _ => run_slice32 q1 ((eval_other _ 12 6 _ (by decide)).trans base6) w') ?_
  refine step_call po2 d2 (wanted_of gd2) (run_callf3 q2 rfl ((eval_other _ 13 12 _ (by decide)).trans (eval_same _ _ _ (by rw [hsz]; decide))) rfl (eval_same _ _ _ (by simp only [put_size, hsz]; decide)) Tryd.func130 (by kernel_rfl) _)
    (outer_at key bs D w4.drew (HD4.out.range : w4.drew.rangeAt _ _ _) (HK.out.below HB4.out.drew hs1) (HS.out.below HB4.out.drew (by omega))) (fun w' hR => (BytesAt.keep (w := w4.drew) HC4.out hR).range) ?_
  intro w5 hb5
  have hz5 := BytesAt.keep (w := w4.drew) HZ4.out hb5
  have hc5 := BytesAt.keep (w := w4.drew) HC4.out hb5
  have hb5' := HB4.out.drew.trans (hb5.mono (by show w.heap.size ≤ w4.heap.size; omega))
  have hml := macOf_length key bs
  have him := info32 _ hml
  have hrow := setRow_heap w5 w.heap.size _ (bytesV (macOf key bs)).toArray 48 _ hz5
  have hbel := below_setRow hb5' (Nat.le_refl w.heap.size) (bytesV (macOf key bs)).toArray
  have hcz : BytesAt (w5.setRow w.heap.size (bytesV (macOf key bs)).toArray) C 153 (blockK key) := (setRow_other w5 w.heap.size C _ (by omega)).trans hc5
  refine step_wp po3 (wanted_of gd3) (wp_store_row 48 (.tmp 4) (.tmp 14) q3 w.heap.size (bytesV (macOf key bs)).toArray ((eval_other _ 14 4 _ (by decide)).trans ((eval_other _ 13 4 _ (by decide)).trans ((eval_other _ 12 4 _ (by decide)).trans base4))) (eval_same _ _ _ (by simp only [put_size, hsz]; decide)) 48 _ hz5 him
    (by rw [bytesV_size _ 32 hml, bytesV_size _ 32 (noughts_length 32)]) (bytesV_one _) ⟨hcz.range, ?_⟩)
  generalize w5.setRow w.heap.size (bytesV (macOf key bs)).toArray = wz at hrow hbel hcz
  generalize hfe : (bytesV (macOf key bs)).toArray = full at hrow him hbel ⊢
  have HFE := Lib.hid hfe; clear hfe
  rw [d3]
  show NoPanic _ .normal _ _
  refine NoPanic.normal ?_
  rw [HAA.out]
  have HROW := Lib.hid hrow
  have HIM := Lib.hid him
  have HBEL := Lib.hid hbel
  clear hcz hrow him hbel hb5' hc5 hz5 hb5 hml
  go_frame
  go_wp2_with fail
  have hres : ∀ tmps : Array Value, tmps.getD 4 undef = .pointer (some ⟨w.heap.size, 0, none⟩) → Sem.run Tryd.prog (results Tryd.f56 tmps) wz = .ok (.agg full) wz := fun tmps h =>
    results_cell_row (P := Tryd.prog) (p := 4) (ty := 48) Tryd.results56 tmps wz w.heap.size 48 full (0, 0) (TypeDesc.array 32 5) h HROW.out Tryd.underlying48 rfl HIM.out
  exact bodyPost_ret (v := .agg full) (hres _ rfl) rfl ⟨by rw [HFE.out], HBEL.out⟩
theorem of_len (n m : Nat) (key bs : List (BitVec 8)) (p q : Option Addr) (ck cb : Nat) (w : World) (hkn : key.length = n) (hbm : bs.length = m) (hrk : Lies w p key) (hrb : Lies w q bs) (hck : n ≤ ck) (hckm : ck ≤ 9223372036854775807) (hnk : n < 549755813000)
    (hcb : m ≤ cb) (hcbm : cb ≤ 9223372036854775807) (hnb : m < 549755813000) (hk : Consts w) (hs : Starts w) :
    Calls Tryd.prog 56 #[.slice p n ck, .slice q m cb] w fun e w' => e = .returned (.agg (bytesV (macOf key bs)).toArray) ∧ Below w.heap.size w w' := by
  subst hkn; subst hbm
  exact of_any key bs p q ck cb w hrk hrb hck hckm hnk hcb hcbm hnb hk hs
set_option maxRecDepth 100000 in
set_option maxHeartbeats 1000000 in
theorem chain_any (s bs : List (BitVec 8)) (q : Option Addr) (cb : Nat) (w : World) (hsl : s.length = 32) (hrb : Lies w q bs)
    (hcb : bs.length ≤ cb) (hcbm : cb ≤ 9223372036854775807) (hnb : bs.length < 549755813000) (hk : Consts w) (hs : Starts w) :
    Calls Tryd.prog 60 #[.agg (bytesV s).toArray, .slice q bs.length cb] w fun e w' => e = .returned (.agg (bytesV (macOf s bs)).toArray) ∧ Below w.heap.size w w' := by
  have hs1 := hk.size
  have HK := Lib.hid hk; clear hk
  have HS := Lib.hid hs; clear hs
  have HRB := Lib.hid hrb; clear hrb
  have HSL := Lib.hid hsl; clear hsl
  have HIN := Lib.hid (macOf_length s bs)
  have HI := Lib.hid (info32 _ HIN.out)
  have HOLD := Lib.hid (show (bytesV (noughts 32)).toArray.size = (bytesV (macOf s bs)).toArray.size by rw [bytesV_size _ 32 HIN.out, bytesV_size _ 32 (noughts_length 32)])
  have HONE := Lib.hid (bytesV_one (macOf s bs))
  go_enter Tryd.func60, Tryd.ntmps60
  go_wp2_with fail
  refine calls_gen (fun w0 => BytesAt w0 w.heap.size 48 s ∧ BytesAt w0 (w.heap.size + 1) 48 (noughts 32) ∧ Below w.heap.size w w0) ⟨?_, ?_, ((Below.refl _ _).alloc (Nat.le_refl _) _).alloc (by rw [size_alloc]; omega) _⟩ ?_
  · exact BytesAt.keep (w := w.alloc _) (heap_alloc_new w _) ((Below.refl _ _).alloc (Nat.le_refl _) _)
  · show _ = some (Obj.cells (bytesV (List.replicate 32 0#8)).toArray _ _)
    rw [noughts32]; exact heap_new_at (size_alloc _ _)
  rintro w0 ⟨hb0, hz0, bel0⟩
  have sz0 := hz0.size
  refine (of_len 32 bs.length s bs _ q 32 cb w0 HSL.out rfl (Or.inr ⟨w.heap.size, 0, rfl, hb0.range⟩) (HRB.out.below bel0) (by omega) (by omega) (by omega) hcb hcbm hnb (HK.out.below bel0 hs1) (HS.out.below bel0 (by omega))).mono ?_
  rintro e w3 ⟨rfl, hb3⟩
  have HB3 := Lib.hid (bel0.trans (hb3.mono (by omega)))
  have HZ3 := Lib.hid (hz0.keep hb3)
  clear hb0 hz0 bel0 hb3
  generalize hfe : (bytesV (macOf s bs)).toArray = full at HI HOLD HONE ⊢
  have HFE := Lib.hid hfe; clear hfe
  go_wp2_with (refine wpList_store_row rfl 48 (.tmp 4) (.tmp 7) rfl (w.heap.size + 1) full rfl rfl 48 _ HZ3.out HI.out HOLD.out HONE.out ?_)
  have hrow := setRow_heap w3 (w.heap.size + 1) _ full 48 _ HZ3.out
  have hbel := below_setRow HB3.out (show w.heap.size ≤ w.heap.size + 1 by omega) full
  generalize w3.setRow (w.heap.size + 1) full = wz at hrow hbel ⊢
  have hres : ∀ tmps : Array Value, tmps.getD 4 undef = .pointer (some ⟨w.heap.size + 1, 0, none⟩) → Sem.run Tryd.prog (results Tryd.f60 tmps) wz = .ok (.agg full) wz := fun tmps h =>
    results_cell_row (P := Tryd.prog) (p := 4) (ty := 48) Tryd.results60 tmps wz (w.heap.size + 1) 48 full (0, 0) (TypeDesc.array 32 5) h hrow Tryd.underlying48 rfl HI.out
  exact bodyPost_ret (v := .agg full) (hres _ rfl) rfl ⟨by rw [HFE.out], hbel⟩
end Go.Proofs.YtgeacocdnenhdaaDoor

/-
  Four bytes behind others, the highest first; the number of the first four bytes.
-/
namespace Go.Proofs.YtgeacocdnenhdaaDoor
open Go.RowKit Go.Proofs.ShaWords
attribute [local go_sem] or32 wrap32_n8 wrap8_n32 shr32_8 shr32_16 shr32_24 shl32_8 shl32_16 shl32_24
end Go.Proofs.YtgeacocdnenhdaaDoor

/-
  What is put: a frame's bytes, in new memory, or the error.
-/
namespace Go.Proofs.YtgeacocdnenhdaaDoor
open Go.RowKit Go.Proofs.ShaWords
end Go.Proofs.YtgeacocdnenhdaaDoor

/-
  Single operations about frames: a byte as a number, two words compared, a slice from a place on; a frame as a struct in memory; a function that returns a frame and two numbers.
-/
namespace Go.Proofs.YtgeacocdnenhdaaDoor
open Go.RowKit Go.Proofs.ShaWords
section
variable {ρ : Operand → Value} {o : Oper} {x y : Operand}
end
end Go.Proofs.YtgeacocdnenhdaaDoor

/-
  What is got: the frame in front of bytes, and how many it has, or the error.
-/
namespace Go.Proofs.YtgeacocdnenhdaaDoor
open Go.RowKit Go.Proofs.ShaWords
end Go.Proofs.YtgeacocdnenhdaaDoor

/-
  Frames one behind the other in memory of one's own: a slice of structs whose second part is a slice of bytes of its own.
-/
namespace Go.Proofs.YtgeacocdnenhdaaDoor
open Go.RowKit Go.Proofs.ShaWords
end Go.Proofs.YtgeacocdnenhdaaDoor

/-
  Steps within a round about frames: a frame loaded, a slice of one frame, one more frame behind a slice.
-/
namespace Go.Proofs.YtgeacocdnenhdaaDoor
open Go.RowKit Go.Proofs.ShaWords
section
variable {F : Fence} {n : Nat} {ops : Array Oper} {rest : List Oper} {o : Oper} {a : Act} {w w' : World} {Q : Exit → Act → World → Prop}
theorem wpListIn_value {P : Program} {v : Value} (hg : o.guard = none) (hab : ∀ f, o.about P w a.eval = some f → False) (hd : ∀ c, o.op ≠ .defer c) (hr : (execOp a.eval o).run P w = .ok (.value v) w') (h : wpListIn F n P ops Q rest (a.put o.dst v) w') : wpListIn F n P ops Q (o :: rest) a w := by
  refine wpListIn_plain hg fun K hK' => ?_
  unfold Oper.wpIn
  refine ⟨fun f e => (hab f e).elim, ?_⟩
  rw [Oper.semAt_plain F _ _ hd, hr]
  exact hK' _ _ h
end
end Go.Proofs.YtgeacocdnenhdaaDoor

/-
  The contract of the law's own check: where the package's two tables hold their numbers, works returns true, and nothing that was there changes.
-/
namespace Go.Proofs.YtgeacocdnenhdaaDoor
open Go.RowKit Go.Proofs.ShaWords

end Go.Proofs.YtgeacocdnenhdaaDoor

/- The document's answer on words: a word turned right, slices of words of the call's own, and the words of a block of 64 bytes (functions 34 and 33). -/
namespace Go.Proofs.YtgeacocdnenhdaaDoor
open Go.RowKit Go.Proofs.ShaWords
attribute [local go_sem] and32 or32 xor32 add32 shl32 shr32 wrap32_n8 wrap8_n32 shl32_8 shl32_16 shl32_24 shr32_3 shr32_8 shr32_10 shr32_16 shr32_24 not32

theorem right_any (x : BitVec 32) (n : Int) (w : World) (h1 : 1 ≤ n) (h2 : n ≤ 31) :
    Calls Tryd.prog 204 #[.int .u32 (n32 x), .int .u64 n] w fun e w' => e = .returned (.int .u32 (n32 (rr x n.toNat))) ∧ w' = w := by
  go_enter Tryd.func204, Tryd.ntmps204
  go_wp2_with fail
  go_ret
  refine ⟨?_, rfl⟩
  show Ending.returned (.int .u32 (n32 (x >>> n.toNat ||| x <<< (32 - n).toNat))) = _
  unfold rr
  rw [show (32 - n).toNat = 32 - n.toNat by omega, BitVec.or_comm]

/-- A slice of words of the call's own. -/
def OwnW (B : Nat) (w : World) (l : List (BitVec 32)) (v : Value) : Prop := w.ownsRow B 176 1 v l.length (wordsV l)
theorem OwnW.nil (B : Nat) (w : World) : OwnW B w [] (.slice none 0 0) := World.ownsRow_nil w B 176 1
theorem OwnW.below {B : Nat} {w w' : World} {l : List (BitVec 32)} {v : Value} (h : OwnW B w l v) (hb : Below w.heap.size w w') : OwnW B w' l v :=
  World.ownsRow.kept h (grown_below hb (Nat.le_refl _) none) (by cases v.ownBlock <;> simp)
theorem info41 : (Tryd.prog.info? 176).map (fun i => (i.zero, i.size, i.bytes)) = some (some (.int .u32 0), 1, 4) := by kernel_rfl
/-- What a slice of words that is not empty looks like. -/
theorem OwnW.form {B : Nat} {w : World} {l : List (BitVec 32)} {v : Value} (h : OwnW B w l v) (hn : l ≠ []) : ∃ g cap, v = .slice (some ⟨g, 0, none⟩) l.length cap ∧ B ≤ g ∧ l.length ≤ cap ∧ cap ≤ maxLen ∧ w.rangeAt g 0 (wordsV l) := by
  rcases h.2 with ⟨rfl, h0⟩ | ⟨g, cap, cur, rfl, hg, hh, hc, hm, hs, ht⟩
  · exact absurd (List.length_eq_zero_iff.1 h0) hn
  · refine ⟨g, cap, rfl, hg, hc, hm, fun j v hv => ?_⟩
    rw [Nat.zero_add, cell_of_row w g j cur 176 (0, 0) hh]
    rw [← ht, Nat.mul_one, List.getElem?_take] at hv
    split at hv
    · rw [← hv]; simp
    · cases hv
/-- A word out of four bytes, by sums: the same word. -/
theorem word_sum (a b c d : BitVec 8) : ext a <<< 24 + ext b <<< 16 + ext c <<< 8 + ext d = (ext a <<< 24 ||| ext b <<< 16 ||| ext c <<< 8 ||| ext d) := by
  have ha := a.isLt
  have hb := b.isLt
  have hc := c.isLt
  have hd := d.isLt
  have e : ∀ x : BitVec 8, (ext x).toNat = x.toNat := fun x => by
    unfold ext; rw [BitVec.toNat_setWidth]; have := x.isLt; omega
  have s : ∀ (x : BitVec 8) (k : Nat), k ≤ 24 → (ext x <<< k).toNat = x.toNat <<< k := fun x k hk => by
    rw [BitVec.toNat_shiftLeft, e, Nat.shiftLeft_eq]
    have h1 : x.toNat * 2 ^ k < 2 ^ 32 := by
      have h2 : 2 ^ k ≤ 2 ^ 24 := Nat.pow_le_pow_right (by omega) hk
      have h3 := x.isLt
      calc x.toNat * 2 ^ k ≤ 255 * 2 ^ 24 := Nat.mul_le_mul (by omega) h2
        _ < 2 ^ 32 := by decide
    exact Nat.mod_eq_of_lt h1
  apply BitVec.eq_of_toNat_eq
  rw [BitVec.toNat_or, BitVec.toNat_or, BitVec.toNat_or, BitVec.toNat_add, BitVec.toNat_add, BitVec.toNat_add, s a 24 (by omega), s b 16 (by omega), s c 8 (by omega), e d]
  rw [Nat.or_assoc, Nat.or_assoc, ← Nat.shiftLeft_add_eq_or_of_lt (show d.toNat < 2 ^ 8 by omega)]
  rw [← Nat.shiftLeft_add_eq_or_of_lt (show c.toNat <<< 8 + d.toNat < 2 ^ 16 by rw [Nat.shiftLeft_eq]; omega)]
  rw [← Nat.shiftLeft_add_eq_or_of_lt (show b.toNat <<< 16 + (c.toNat <<< 8 + d.toNat) < 2 ^ 24 by rw [Nat.shiftLeft_eq, Nat.shiftLeft_eq]; omega)]
  simp only [Nat.shiftLeft_eq]
  omega
set_option maxRecDepth 100000 in
set_option maxHeartbeats 1000000 in
theorem words_any (blk : List (BitVec 8)) (b off cap : Nat) (w : World) (hl : blk.length = 64) (hr : w.rangeAt b off (bytesV blk)) :
    Calls Tryd.prog 202 #[.slice (some ⟨b, off, none⟩) 64 cap] w fun e w' => ∃ v, e = .returned v ∧ OwnW w.heap.size w' (first16 blk) v ∧ Below w.heap.size w w' := by
  obtain ⟨i0, hi, hz0, hz1, hz2⟩ := info_parts info41
  have HI := Lib.hid hi; clear hi
  have HZ0 := Lib.hid hz0; clear hz0
  have HZ1 := Lib.hid hz1; clear hz1
  have HZ2 := Lib.hid hz2; clear hz2
  have HL := Lib.hid hl; clear hl
  have HR := Lib.hid hr; clear hr
  go_enter Tryd.func202, Tryd.ntmps202
  go_wp2_with fail
  go_loopw [3, 4] (fun v i wr => ∃ k : Nat, k ≤ 16 ∧ i = .int .i64 (4 * (k : Int)) ∧ OwnW w.heap.size wr ((List.range k).map (wordOf blk)) v ∧ Below w.heap.size w wr) (fun _ i _ => 64 - (intOf i).toNat)
  case atStart => exact ⟨0, by omega, rfl, OwnW.nil _ _, Below.refl _ _⟩
  case round =>
    obtain ⟨k, hk, rfl, ho, hb⟩ := hrel
    by_cases hlt : k < 16
    · have hg : ∀ j, j < 64 → (bytesV blk)[j]? = some (.int .u8 (n8 (blk.getD j 0#8))) := fun j hj => by simp [bytesV, List.getD, HL.out, hj]
      have hbw : b < w.heap.size := World.block_lt_of_cell? w _ (HR.out 0 _ (hg 0 (by omega)))
      have c0 := (hb.cell (p := ⟨b, off + 4 * k, none⟩) hbw).trans (HR.out (4 * k) _ (hg (4 * k) (by omega)))
      have c1 := (hb.cell (p := ⟨b, off + (4 * k + 1), none⟩) hbw).trans (HR.out (4 * k + 1) _ (hg (4 * k + 1) (by omega)))
      have c2 := (hb.cell (p := ⟨b, off + (4 * k + 2), none⟩) hbw).trans (HR.out (4 * k + 2) _ (hg (4 * k + 2) (by omega)))
      have c3 := (hb.cell (p := ⟨b, off + (4 * k + 3), none⟩) hbw).trans (HR.out (4 * k + 3) _ (hg (4 * k + 3) (by omega)))
      have HW : Hid (wordOf blk k = ext (blk.getD (4 * k) 0#8) <<< 24 + ext (blk.getD (4 * k + 1) 0#8) <<< 16 + ext (blk.getD (4 * k + 2) 0#8) <<< 8 + ext (blk.getD (4 * k + 3) 0#8)) := show _ = _ from (word_sum _ _ _ _).symm
      generalize blk.getD (4 * k) 0#8 = b0 at c0 HW
      generalize blk.getD (4 * k + 1) 0#8 = b1 at c1 HW
      generalize blk.getD (4 * k + 2) 0#8 = b2 at c2 HW
      generalize blk.getD (4 * k + 3) 0#8 = b3 at c3 HW
      have sz := hb.size
      have hlen : ((List.range k).map (wordOf blk)).length = k := by simp
      have HO : Hid (wr.ownsRow w.heap.size 176 1 u3 k (wordsV ((List.range k).map (wordOf blk)))) := by
        have h1 : World.ownsRow _ _ _ _ _ _ _ := ho
        rw [hlen] at h1
        exact h1
      have HNE : Hid (∀ g, Value.ownBlock u3 = some g → w.heap.size ≤ g) := fun g hgg => (World.ownsRow.lt ho g hgg).1
      have HB := Lib.hid hb; clear hb ho hg
      have HLEN := Lib.hid hlen; clear hlen
      go_wp2_with fail
      have m0 : IntKind.i64.wrap (4 * (k : Int)) = 4 * (k : Int) := IntWalk.i64_in _ (by omega)
      have m1 : IntKind.i64.wrap (4 * (k : Int) + 1) = 4 * (k : Int) + 1 := IntWalk.i64_in _ (by omega)
      have m2 : IntKind.i64.wrap (4 * (k : Int) + 2) = 4 * (k : Int) + 2 := IntWalk.i64_in _ (by omega)
      have m3 : IntKind.i64.wrap (4 * (k : Int) + 3) = 4 * (k : Int) + 3 := IntWalk.i64_in _ (by omega)
      have n0 : (4 * (k : Int)).toNat = 4 * k := by omega
      have n1 : (4 * (k : Int) + 1).toNat = 4 * k + 1 := by omega
      have n2 : (4 * (k : Int) + 2).toNat = 4 * k + 2 := by omega
      have n3 : (4 * (k : Int) + 3).toNat = 4 * k + 3 := by omega
      have p0 : (0 : Int) ≤ 4 * (k : Int) := by omega
      have p1 : (0 : Int) ≤ 4 * (k : Int) + 1 := by omega
      have p2 : (0 : Int) ≤ 4 * (k : Int) + 2 := by omega
      have p3 : (0 : Int) ≤ 4 * (k : Int) + 3 := by omega
      have q0 : 4 * (k : Int) < 64 := by omega
      have q1 : 4 * (k : Int) + 1 < 64 := by omega
      have q2 : 4 * (k : Int) + 2 < 64 := by omega
      go_region_held3 (fun w' => w'.cell? ⟨b, off + 4 * k, none⟩ = some (.int .u8 (n8 b0)) ∧ w'.cell? ⟨b, off + (4 * k + 1), none⟩ = some (.int .u8 (n8 b1)) ∧
          w'.cell? ⟨b, off + (4 * k + 2), none⟩ = some (.int .u8 (n8 b2)) ∧ w'.cell? ⟨b, off + (4 * k + 3), none⟩ = some (.int .u8 (n8 b3)))
        (first
          | go_keep
          | (go_split_ands
             refine ⟨?_, ?_, ?_, ?_⟩ <;> (rw [hgrow.cell_far _ (by simp; omega) (fun hh => absurd (HNE.out _ hh.symm) (by simp; omega))]; assumption)))
        ((refine step_append_lies _ (by rfl) _ _ _ (by rfl) w.heap.size 176 i0 _ 1 4 Tryd.underlying199 HI.out HZ0.out HZ1.out HZ2.out rfl (by omega) u3 k _ (by rfl) ((HO.out.alloc _).drew)
            ⟨wr.heap.size, 0, none⟩ 1 1 [.int .u32 (n32 (ext b0 <<< 24 + ext b1 <<< 16 + ext b2 <<< 8 + ext b3))] (by rfl) (by rfl) (World.news_of_block (cs := #[.int .u32 (n32 (ext b0 <<< 24 + ext b1 <<< 16 + ext b2 <<< 8 + ext b3))]) (t := 176) (fr := (0, 0)) (heap_alloc_new wr _)) (by simp [Value.oneCell'])
            (by omega) (by unfold maxLen; omega) (by omega) (by simp; omega) (wr.heap.size + 1) (by simp) ?_; intro gg cap w1 hown1 hgrow hat hltg))
      have HO1 : Hid (OwnW w.heap.size w1 ((List.range (k + 1)).map (wordOf blk)) (.slice (some ⟨gg, 0, none⟩) (k + 1) cap)) := by
        unfold OwnW
        rw [List.range_succ, List.map_append, List.map_cons, List.map_nil, HW.out, List.length_append, HLEN.out, wordsV_append]
        exact hown1
      have HB1 : Hid (Below w.heap.size w w1) := ((HB.out.alloc sz _).drew).grown hgrow (by simp; omega) HNE.out
      clear hown1 hgrow hat hltg
      go_wp2_with fail
      go_roundw
      case rel => exact ⟨k + 1, by omega, by go_num, HO1.out, HB1.out⟩
      case measure => simp [intOf]; omega
    · have HO := Lib.hid ho; clear ho
      have HB := Lib.hid hb; clear hb
      have HK16 : Hid (k = 16) := show k = 16 by omega
      go_wp2_with fail
      go_ret
      refine ⟨_, rfl, ?_, HB.out⟩
      have h1 := HO.out
      rw [HK16.out] at h1
      exact h1
end Go.Proofs.YtgeacocdnenhdaaDoor

/- The document's answer: a block's words, and those behind them (function 32). -/
namespace Go.Proofs.YtgeacocdnenhdaaDoor
open Go.RowKit Go.Proofs.ShaWords
attribute [local go_sem] and32 or32 xor32 add32 shl32 shr32 wrap32_n8 wrap8_n32 shl32_8 shl32_16 shl32_24 shr32_3 shr32_8 shr32_10 shr32_16 shr32_24 not32

theorem quo32_8 (x : BitVec 32) : (n32 x).tdiv 8 = n32 (x >>> 3) := (Int.tdiv_eq_ediv_of_nonneg (n32_nonneg x)).trans (shr32_3 x)
theorem quo32_256 (x : BitVec 32) : (n32 x).tdiv 256 = n32 (x >>> 8) := (Int.tdiv_eq_ediv_of_nonneg (n32_nonneg x)).trans (shr32_8 x)
theorem quo32_1024 (x : BitVec 32) : (n32 x).tdiv 1024 = n32 (x >>> 10) := (Int.tdiv_eq_ediv_of_nonneg (n32_nonneg x)).trans (shr32_10 x)
theorem mod32 (x : BitVec 32) : n32 x % 4294967296 = n32 x := by
  unfold n32; have := x.isLt; omega
attribute [local go_sem] quo32_8 quo32_256 quo32_1024 mod32

set_option maxRecDepth 100000 in
set_option maxHeartbeats 1000000 in
theorem spread_any (l : List (BitVec 32)) (v : Value) (B : Nat) (w : World) (hl : l.length = 16) (ho : OwnW B w l v) (hB : B ≤ w.heap.size) :
    Calls Tryd.prog 201 #[v] w fun e w' => ∃ v', e = .returned v' ∧ OwnW B w' (spreadBy 48 l) v' ∧ Below B w w' := by
  obtain ⟨i0, hi, hz0, hz1, hz2⟩ := info_parts info41
  have HI := Lib.hid hi; clear hi
  have HZ0 := Lib.hid hz0; clear hz0
  have HZ1 := Lib.hid hz1; clear hz1
  have HZ2 := Lib.hid hz2; clear hz2
  have HL := Lib.hid hl; clear hl
  have HO := Lib.hid ho; clear ho
  go_enter Tryd.func201, Tryd.ntmps201
  go_wp2_with fail
  go_loopw [0, 3, 4, 5, 6, 7] (fun v' i _ _ _ _ wr => ∃ t : Nat, 16 ≤ t ∧ t ≤ 64 ∧ i = .int .i64 (t : Int) ∧ OwnW B wr (spreadBy (t - 16) l) v' ∧ Below B w wr) (fun _ i _ _ _ _ _ => 64 - (intOf i).toNat)
  case atStart => exact ⟨16, by omega, by omega, rfl, HO.out, Below.refl _ _⟩
  case round =>
    obtain ⟨t, ht0, ht, rfl, ho, hb⟩ := hrel
    by_cases hlt : t < 64
    · have hlen : (spreadBy (t - 16) l).length = t := by rw [spreadBy_length, HL.out]; omega
      have sz := hb.size
      have HN : Hid (spreadBy (t + 1 - 16) l = spreadBy (t - 16) l ++ [nextW (spreadBy (t - 16) l)]) := by
        show _ = _
        rw [show t + 1 - 16 = (t - 16) + 1 by omega]; exact spreadBy_snoc _ _
      generalize spreadBy (t - 16) l = r at ho hlen HN
      obtain ⟨g, cap, rfl, hg, hc, hm, hr⟩ := ho.form (by intro h0; rw [h0] at hlen; simp at hlen; omega)
      have hw : ∀ j, j < t → wr.cell? ⟨g, j, none⟩ = some (.int .u32 (n32 (r.getD j 0#32))) := fun j hj => by
        have := hr j (.int .u32 (n32 (r.getD j 0#32))) (by simp [wordsV, List.getD, hlen, hj])
        rwa [Nat.zero_add] at this
      have c16 := hw (t - 16) (by omega)
      have c15 := hw (t - 15) (by omega)
      have c7 := hw (t - 7) (by omega)
      have c2 := hw (t - 2) (by omega)
      have HW : Hid (nextW r = r.getD (t - 16) 0#32 + (rr (r.getD (t - 15) 0#32) 7 ^^^ rr (r.getD (t - 15) 0#32) 18 ^^^ r.getD (t - 15) 0#32 >>> 3) + r.getD (t - 7) 0#32 + (rr (r.getD (t - 2) 0#32) 17 ^^^ rr (r.getD (t - 2) 0#32) 19 ^^^ r.getD (t - 2) 0#32 >>> 10)) := by
        show _ = _
        unfold nextW; rw [hlen]
      generalize r.getD (t - 16) 0#32 = x16 at c16 HW
      generalize r.getD (t - 15) 0#32 = x15 at c15 HW
      generalize r.getD (t - 7) 0#32 = x7 at c7 HW
      generalize r.getD (t - 2) 0#32 = x2 at c2 HW
      have HO1 : Hid (wr.ownsRow B 176 1 (.slice (some ⟨g, 0, none⟩) t cap) t (wordsV r)) := by
        have h1 : World.ownsRow _ _ _ _ _ _ _ := ho
        rw [hlen] at h1
        exact h1
      have HB := Lib.hid hb; clear hb ho hw hr
      have HLEN := Lib.hid hlen
      rw [hlen]
      clear hlen
      have m16 : IntKind.i64.wrap ((t : Int) - 16) = (t : Int) - 16 := IntWalk.i64_in _ (by omega)
      have m15 : IntKind.i64.wrap ((t : Int) - 15) = (t : Int) - 15 := IntWalk.i64_in _ (by omega)
      have m7 : IntKind.i64.wrap ((t : Int) - 7) = (t : Int) - 7 := IntWalk.i64_in _ (by omega)
      have m2 : IntKind.i64.wrap ((t : Int) - 2) = (t : Int) - 2 := IntWalk.i64_in _ (by omega)
      have n16 : ((t : Int) - 16).toNat = t - 16 := by omega
      have n15 : ((t : Int) - 15).toNat = t - 15 := by omega
      have n7 : ((t : Int) - 7).toNat = t - 7 := by omega
      have n2 : ((t : Int) - 2).toNat = t - 2 := by omega
      have p16 : (0 : Int) ≤ (t : Int) - 16 := by omega
      have p15 : (0 : Int) ≤ (t : Int) - 15 := by omega
      have p7 : (0 : Int) ≤ (t : Int) - 7 := by omega
      have p2 : (0 : Int) ≤ (t : Int) - 2 := by omega
      have r16 : (16 : Int) ≤ (t : Int) := by omega
      have r7 : (7 : Int) ≤ (t : Int) := by omega
      have q16 : (t : Int) - 16 < (t : Int) := by omega
      have q15 : (t : Int) - 15 < (t : Int) := by omega
      have q7 : (t : Int) - 7 < (t : Int) := by omega
      have q2 : (t : Int) - 2 < (t : Int) := by omega
      go_wp2_with (go_at_call 204; refine (right_any _ _ _ (by decide) (by decide)).mono ?_; rintro e w' ⟨rfl, rfl⟩)
      go_region_law
        ((refine step_append_lies _ (by rfl) _ _ _ (by rfl) B 176 i0 _ 1 4 Tryd.underlying199 HI.out HZ0.out HZ1.out HZ2.out rfl (by omega) (.slice (some ⟨g, 0, none⟩) t cap) t _ (by rfl) ((HO1.out.alloc _).drew)
            ⟨w'.heap.size, 0, none⟩ 1 1 [.int .u32 (n32 (x16 + (rr x15 7 ^^^ rr x15 18 ^^^ x15 >>> 3) + x7 + (rr x2 17 ^^^ rr x2 19 ^^^ x2 >>> 10)))] (by rfl) (by rfl) (World.news_of_block (cs := #[.int .u32 (n32 (x16 + (rr x15 7 ^^^ rr x15 18 ^^^ x15 >>> 3) + x7 + (rr x2 17 ^^^ rr x2 19 ^^^ x2 >>> 10)))]) (t := 176) (fr := (0, 0)) (heap_alloc_new w' _)) (by simp [Value.oneCell'])
            (by omega) (by unfold maxLen; omega) (by omega) (by simp; omega) (w'.heap.size + 1) (by simp) ?_; intro gg cap w1 hown1 hgrow hat hltg))
      all_goals
        have HO2 : Hid (OwnW B w1 (spreadBy (t + 1 - 16) l) (.slice (some ⟨gg, 0, none⟩) (t + 1) cap)) := by
          show OwnW _ _ _ _
          unfold OwnW
          rw [HN.out, HW.out, List.length_append, HLEN.out, wordsV_append]
          exact hown1
        have HB1 : Hid (Below B w w1) := ((HB.out.alloc (by omega) _).drew).grown hgrow (by simp; omega) (fun j hj => by cases hj; exact hg)
        clear hown1 hgrow hat hltg
        go_wp2_with fail
        go_roundw
        case rel => exact ⟨t + 1, by omega, by omega, by go_num, HO2.out, HB1.out⟩
        case measure => simp [intOf]; omega
    · have HO := Lib.hid ho; clear ho
      have HB := Lib.hid hb; clear hb
      have HK : Hid (t = 64) := show t = 64 by omega
      go_wp2_with fail
      go_ret
      refine ⟨_, rfl, ?_, HB.out⟩
      have h1 := HO.out
      rw [HK.out] at h1
      exact h1
end Go.Proofs.YtgeacocdnenhdaaDoor

/- The document's answer: its two tables (functions 18 and 20). -/
namespace Go.Proofs.YtgeacocdnenhdaaDoor
open Go.RowKit Go.Proofs.ShaWords
theorem OwnW.lit (w : World) (l : List (BitVec 32)) (n : Nat) (hn : l.length = n) (hm : n ≤ maxLen) : OwnW w.heap.size (w.alloc (.cells (wordsV l).toArray 176)) l (.slice (some ⟨w.heap.size, 0, none⟩) n n) := by
  subst hn
  have h := World.ownsRow_lit (base := w.heap.size) (e := 176) (size := 1) w (wordsV l).toArray l.length (Nat.le_refl _) hm (by simp [wordsV])
  exact h
set_option maxRecDepth 100000 in
set_option maxHeartbeats 1000000 in
theorem constants_any (w : World) :
    Calls Tryd.prog 203 #[] w fun e w' => ∃ v, e = .returned v ∧ OwnW w.heap.size w' kTable v ∧ Below w.heap.size w w' := by
  go_enter Tryd.func203, Tryd.ntmps203
  go_wp2_with fail
  go_ret
  exact ⟨_, rfl, OwnW.lit w kTable 64 rfl (by decide), (Below.refl _ _).alloc (Nat.le_refl _) _⟩
theorem starts_any (w : World) :
    Calls Tryd.prog 192 #[] w fun e w' => ∃ v, e = .returned v ∧ OwnW w.heap.size w' iv.list v ∧ Below w.heap.size w w' := by
  go_enter Tryd.func192, Tryd.ntmps192
  go_wp2_with fail
  go_ret
  exact ⟨_, rfl, OwnW.lit w iv.list 8 rfl (by decide), (Below.refl _ _).alloc (Nat.le_refl _) _⟩
end Go.Proofs.YtgeacocdnenhdaaDoor

/- The document's answer: what a block makes of eight words is what the code's mix makes (function 26). -/
namespace Go.Proofs.YtgeacocdnenhdaaDoor
open Go.RowKit Go.Proofs.ShaWords
attribute [local go_sem] and32 or32 xor32 add32 shl32 shr32 wrap32_n8 wrap8_n32 shl32_8 shl32_16 shl32_24 shr32_3 shr32_8 shr32_10 shr32_16 shr32_24 not32
theorem stepR_vals (y x : BitVec 32) (r : St) : wordsV (stepR y x r).list = [.int .u32 (n32 (r.h + (rr r.e 6 ^^^ rr r.e 11 ^^^ rr r.e 25) + (r.e &&& r.f ||| ~~~r.e &&& r.g) + y + x + ((rr r.a 2 ^^^ rr r.a 13 ^^^ rr r.a 22) + (r.a &&& r.b ||| r.a &&& r.c ||| r.b &&& r.c)))), .int .u32 (n32 r.a), .int .u32 (n32 r.b), .int .u32 (n32 r.c), .int .u32 (n32 (r.d + (r.h + (rr r.e 6 ^^^ rr r.e 11 ^^^ rr r.e 25) + (r.e &&& r.f ||| ~~~r.e &&& r.g) + y + x))), .int .u32 (n32 r.e), .int .u32 (n32 r.f), .int .u32 (n32 r.g)] := rfl
theorem addSt_take (s r : St) : ∀ k, k < 8 → (addSt s r).list.take (k + 1) = (addSt s r).list.take k ++ [s.list.getD k 0#32 + r.list.getD k 0#32]
  | 0, _ | 1, _ | 2, _ | 3, _ | 4, _ | 5, _ | 6, _ | 7, _ => rfl
  | k + 8, h => absurd h (by omega)
theorem range_new (w : World) (vs : List Value) : (w.alloc (.cells vs.toArray 176)).rangeAt w.heap.size 0 vs := fun j v hv => by
  rw [Nat.zero_add, cell_of_row _ _ j vs.toArray 176 (0, 0) (heap_alloc_new w _)]
  simpa using hv
attribute [local irreducible] rounds stepR scheduleOf uOf vOf addSt kTable mixOf spreadBy first16

/-- A word of a row that lies in a block. -/
theorem word_at {w : World} {g : Nat} {l : List (BitVec 32)} (h : w.rangeAt g 0 (wordsV l)) (j : Nat) (hj : j < l.length) : w.cell? ⟨g, j, none⟩ = some (.int .u32 (n32 (l.getD j 0#32))) := by
  have := h j (.int .u32 (n32 (l.getD j 0#32))) (by simp [wordsV, List.getD, hj])
  rwa [Nat.zero_add] at this
theorem range_below {w w' : World} {B g off : Nat} {xs : List Value} (hb : Below B w w') (h : w.rangeAt g off xs) (hg : g < B) : w'.rangeAt g off xs := fun j v hv => (hb.cell (p := ⟨g, off + j, none⟩) hg).trans (h j v hv)
theorem scheduleOf_length (blk : List (BitVec 8)) : (scheduleOf blk).length = 64 := by
  unfold scheduleOf; rw [spreadBy_length, first16_length]
set_option maxRecDepth 100000 in
set_option maxHeartbeats 1000000 in
theorem block_any (s : St) (blk : List (BitVec 8)) (hb hc b off cap : Nat) (w : World) (hl : blk.length = 64) (hh : w.rangeAt hb 0 (wordsV s.list)) (hr : w.rangeAt b off (bytesV blk)) :
    Calls Tryd.prog 193 #[.slice (some ⟨hb, 0, none⟩) 8 hc, .slice (some ⟨b, off, none⟩) 64 cap] w fun e w' => ∃ v, e = .returned v ∧ OwnW w.heap.size w' (mixOf s blk).list v ∧ Below w.heap.size w w' := by
  obtain ⟨i0, hi, hz0, hz1, hz2⟩ := info_parts info41
  have HI := Lib.hid hi; clear hi
  have HZ0 := Lib.hid hz0; clear hz0
  have HZ1 := Lib.hid hz1; clear hz1
  have HZ2 := Lib.hid hz2; clear hz2
  have HL := Lib.hid hl; clear hl
  have HR := Lib.hid hr; clear hr
  have HH := Lib.hid hh; clear hh
  go_enter Tryd.func193, Tryd.ntmps193
  go_wp2_with fail
  refine (words_any blk b off cap w HL.out HR.out).mono ?_
  rintro e w1 ⟨v1, rfl, ho1, hb1⟩
  have HO1 := Lib.hid ho1; clear ho1
  have HB1 := Lib.hid hb1; clear hb1
  go_wp2_with fail
  refine (spread_any (first16 blk) v1 w.heap.size w1 (first16_length blk) HO1.out HB1.out.size).mono ?_
  rintro e w2 ⟨v2, rfl, ho2, hb2⟩
  have ho2 : OwnW w.heap.size w2 (scheduleOf blk) v2 := by unfold scheduleOf; exact ho2
  have HO2 := Lib.hid ho2; clear ho2
  have HB2 := Lib.hid (HB1.out.trans hb2); clear hb2 HB1 HO1
  go_wp2_with fail
  refine (constants_any w2).mono ?_
  rintro e w3 ⟨v3, rfl, ho3, hb3⟩
  have HO3 := Lib.hid ho3
  have HO4 := Lib.hid (HO2.out.below hb3)
  have HB3 := Lib.hid (HB2.out.trans (hb3.mono HB2.out.size)); clear hb3 ho3 HB2 HO2
  go_wp2_with fail
  obtain ⟨gw, cw, rfl, hgw, -, -, hrw⟩ := HO4.out.form (fun h0 => by have h1 := scheduleOf_length blk; rw [h0] at h1; cases h1)
  obtain ⟨gk, ck, rfl, hgk, -, -, hrk⟩ := HO3.out.form (by unfold kTable; simp)
  have hrh := range_below HB3.out HH.out (World.block_lt_of_cell? w _ (HH.out 0 _ rfl))
  rw [scheduleOf_length, show kTable.length = 64 from by unfold kTable; rfl]
  have HRW := Lib.hid hrw; clear hrw
  have HRK := Lib.hid hrk; clear hrk
  have HRH := Lib.hid hrh; clear hrh
  clear HO4 HO3 hgw hgk
  go_loopw [7, 8, 9, 10, 11, 12] (fun sv i _ _ _ _ wr => ∃ t g c : Nat, t ≤ 64 ∧ i = .int .i64 (t : Int) ∧ sv = .slice (some ⟨g, 0, none⟩) 8 c ∧ wr.rangeAt g 0 (wordsV (rounds (scheduleOf blk) s t).list) ∧ Below w3.heap.size w3 wr) (fun _ i _ _ _ _ _ => 64 - (intOf i).toNat)
  case atStart => exact ⟨0, hb, hc, by omega, rfl, rfl, by rw [rounds_zero]; exact HRH.out, Below.refl _ _⟩
  case round =>
    obtain ⟨t, g, c, ht, rfl, rfl, hr, hb⟩ := hrel
    by_cases hlt : t < 64
    · have HST : Hid (rounds (scheduleOf blk) s (t + 1) = stepR (kTable.getD t 0#32) ((scheduleOf blk).getD t 0#32) (rounds (scheduleOf blk) s t)) := rounds_succ _ _ _
      have hw := word_at HRW.out t (by rw [scheduleOf_length]; omega)
      have hk := word_at HRK.out t (by rw [show kTable.length = 64 from by unfold kTable; rfl]; omega)
      have hw := (hb.cell (World.block_lt_of_cell? w3 _ hw)).trans hw
      have hk := (hb.cell (World.block_lt_of_cell? w3 _ hk)).trans hk
      generalize rounds (scheduleOf blk) s t = r at hr HST
      generalize (scheduleOf blk).getD t 0#32 = x at hw HST
      generalize kTable.getD t 0#32 = y at hk HST
      have c0 : wr.cell? ⟨g, 0, none⟩ = some (.int .u32 (n32 r.a)) := word_at hr 0 (by simp [St.list])
      have c1 : wr.cell? ⟨g, 1, none⟩ = some (.int .u32 (n32 r.b)) := word_at hr 1 (by simp [St.list])
      have c2 : wr.cell? ⟨g, 2, none⟩ = some (.int .u32 (n32 r.c)) := word_at hr 2 (by simp [St.list])
      have c3 : wr.cell? ⟨g, 3, none⟩ = some (.int .u32 (n32 r.d)) := word_at hr 3 (by simp [St.list])
      have c4 : wr.cell? ⟨g, 4, none⟩ = some (.int .u32 (n32 r.e)) := word_at hr 4 (by simp [St.list])
      have c5 : wr.cell? ⟨g, 5, none⟩ = some (.int .u32 (n32 r.f)) := word_at hr 5 (by simp [St.list])
      have c6 : wr.cell? ⟨g, 6, none⟩ = some (.int .u32 (n32 r.g)) := word_at hr 6 (by simp [St.list])
      have c7 : wr.cell? ⟨g, 7, none⟩ = some (.int .u32 (n32 r.h)) := word_at hr 7 (by simp [St.list])
      have HB := Lib.hid hb; clear hb hr
      have k0 : (0 : Int) ≤ (t : Int) := by omega
      have k1 : (t : Int) < 64 := by omega
      go_wp2_with fail
      go_quiet (fail)
      go_wp2_with fail
      refine wp_gen (fun w' => Below w3.heap.size w3 w' ∧ w'.cell? ⟨gw, t, none⟩ = some (.int .u32 (n32 x)) ∧ w'.cell? ⟨gk, t, none⟩ = some (.int .u32 (n32 y)) ∧ w'.cell? ⟨g, 0, none⟩ = some (.int .u32 (n32 r.a)) ∧ w'.cell? ⟨g, 1, none⟩ = some (.int .u32 (n32 r.b)) ∧ w'.cell? ⟨g, 2, none⟩ = some (.int .u32 (n32 r.c)) ∧ w'.cell? ⟨g, 3, none⟩ = some (.int .u32 (n32 r.d)) ∧ w'.cell? ⟨g, 4, none⟩ = some (.int .u32 (n32 r.e)) ∧ w'.cell? ⟨g, 5, none⟩ = some (.int .u32 (n32 r.f)) ∧ w'.cell? ⟨g, 6, none⟩ = some (.int .u32 (n32 r.g)) ∧ w'.cell? ⟨g, 7, none⟩ = some (.int .u32 (n32 r.h))) ⟨⟨HB.out.os, HB.out.tape, HB.out.output, HB.out.size, HB.out.block⟩, hw, hk, c0, c1, c2, c3, c4, c5, c6, c7⟩ ?_
      clear c0 c1 c2 c3 c4 c5 c6 c7 hw hk HB
      rintro wr ⟨hb, hw, hk, c0, c1, c2, c3, c4, c5, c6, c7⟩
      have HB := Lib.hid hb; clear hb
      go_quiet (fail)
      go_wp2_with fail
      refine wp_gen (fun w' => Below w3.heap.size w3 w' ∧ w'.cell? ⟨gw, t, none⟩ = some (.int .u32 (n32 x)) ∧ w'.cell? ⟨gk, t, none⟩ = some (.int .u32 (n32 y)) ∧ w'.cell? ⟨g, 0, none⟩ = some (.int .u32 (n32 r.a)) ∧ w'.cell? ⟨g, 1, none⟩ = some (.int .u32 (n32 r.b)) ∧ w'.cell? ⟨g, 2, none⟩ = some (.int .u32 (n32 r.c)) ∧ w'.cell? ⟨g, 3, none⟩ = some (.int .u32 (n32 r.d)) ∧ w'.cell? ⟨g, 4, none⟩ = some (.int .u32 (n32 r.e)) ∧ w'.cell? ⟨g, 5, none⟩ = some (.int .u32 (n32 r.f)) ∧ w'.cell? ⟨g, 6, none⟩ = some (.int .u32 (n32 r.g)) ∧ w'.cell? ⟨g, 7, none⟩ = some (.int .u32 (n32 r.h))) ⟨⟨HB.out.os, HB.out.tape, HB.out.output, HB.out.size, HB.out.block⟩, hw, hk, c0, c1, c2, c3, c4, c5, c6, c7⟩ ?_
      clear c0 c1 c2 c3 c4 c5 c6 c7 hw hk HB
      rintro wr ⟨hb, hw, hk, c0, c1, c2, c3, c4, c5, c6, c7⟩
      have HB := Lib.hid hb; clear hb
      go_quiet (first | (go_at_call 204; refine Calls.quiet_of_same (right_any r.e _ _ (by decide) (by decide))))
      go_wp2_with fail
      refine wp_gen (fun w' => Below w3.heap.size w3 w' ∧ w'.cell? ⟨gw, t, none⟩ = some (.int .u32 (n32 x)) ∧ w'.cell? ⟨gk, t, none⟩ = some (.int .u32 (n32 y)) ∧ w'.cell? ⟨g, 0, none⟩ = some (.int .u32 (n32 r.a)) ∧ w'.cell? ⟨g, 1, none⟩ = some (.int .u32 (n32 r.b)) ∧ w'.cell? ⟨g, 2, none⟩ = some (.int .u32 (n32 r.c)) ∧ w'.cell? ⟨g, 3, none⟩ = some (.int .u32 (n32 r.d)) ∧ w'.cell? ⟨g, 4, none⟩ = some (.int .u32 (n32 r.e)) ∧ w'.cell? ⟨g, 5, none⟩ = some (.int .u32 (n32 r.f)) ∧ w'.cell? ⟨g, 6, none⟩ = some (.int .u32 (n32 r.g)) ∧ w'.cell? ⟨g, 7, none⟩ = some (.int .u32 (n32 r.h))) ⟨⟨HB.out.os, HB.out.tape, HB.out.output, HB.out.size, HB.out.block⟩, hw, hk, c0, c1, c2, c3, c4, c5, c6, c7⟩ ?_
      clear c0 c1 c2 c3 c4 c5 c6 c7 hw hk HB
      rintro wr ⟨hb, hw, hk, c0, c1, c2, c3, c4, c5, c6, c7⟩
      have HB := Lib.hid hb; clear hb
      go_quiet (first | (go_at_call 204; refine Calls.quiet_of_same (right_any r.a _ _ (by decide) (by decide))))
      go_wp2_with fail
      refine wp_gen (fun w' => Below w3.heap.size w3 w' ∧ w'.cell? ⟨gw, t, none⟩ = some (.int .u32 (n32 x)) ∧ w'.cell? ⟨gk, t, none⟩ = some (.int .u32 (n32 y)) ∧ w'.cell? ⟨g, 0, none⟩ = some (.int .u32 (n32 r.a)) ∧ w'.cell? ⟨g, 1, none⟩ = some (.int .u32 (n32 r.b)) ∧ w'.cell? ⟨g, 2, none⟩ = some (.int .u32 (n32 r.c)) ∧ w'.cell? ⟨g, 3, none⟩ = some (.int .u32 (n32 r.d)) ∧ w'.cell? ⟨g, 4, none⟩ = some (.int .u32 (n32 r.e)) ∧ w'.cell? ⟨g, 5, none⟩ = some (.int .u32 (n32 r.f)) ∧ w'.cell? ⟨g, 6, none⟩ = some (.int .u32 (n32 r.g)) ∧ w'.cell? ⟨g, 7, none⟩ = some (.int .u32 (n32 r.h))) ⟨⟨HB.out.os, HB.out.tape, HB.out.output, HB.out.size, HB.out.block⟩, hw, hk, c0, c1, c2, c3, c4, c5, c6, c7⟩ ?_
      clear c0 c1 c2 c3 c4 c5 c6 c7 hw hk HB
      rintro wr ⟨hb, hw, hk, c0, c1, c2, c3, c4, c5, c6, c7⟩
      have HB := Lib.hid hb; clear hb
      go_region_held3 (fun w' => w'.cell? ⟨g, 0, none⟩ = some (.int .u32 (n32 r.a)) ∧ w'.cell? ⟨g, 1, none⟩ = some (.int .u32 (n32 r.b)) ∧ w'.cell? ⟨g, 2, none⟩ = some (.int .u32 (n32 r.c)) ∧ w'.cell? ⟨g, 3, none⟩ = some (.int .u32 (n32 r.d)) ∧ w'.cell? ⟨g, 4, none⟩ = some (.int .u32 (n32 r.e)) ∧ w'.cell? ⟨g, 5, none⟩ = some (.int .u32 (n32 r.f)) ∧ w'.cell? ⟨g, 6, none⟩ = some (.int .u32 (n32 r.g)))
        (go_keep)
        (fail)
      have HNEW : Hid ((wr.alloc (.cells (wordsV (stepR y x r).list).toArray 176)).rangeAt wr.heap.size 0 (wordsV (stepR y x r).list)) := range_new wr _
      rw [stepR_vals] at HNEW
      have HBN := Lib.hid ((HB.out.alloc HB.out.size (.cells (wordsV (stepR y x r).list).toArray 176)).drew)
      rw [stepR_vals] at HBN
      have HSV := Lib.hid (stepR_vals y x r)
      clear c0 c1 c2 c3 c4 c5 c6 c7 hw hk
      go_wp2_with fail
      go_roundw
      case rel => exact ⟨t + 1, wr.heap.size, 8, by omega, by go_num, rfl, by rw [HST.out, HSV.out]; exact HNEW.out, HBN.out⟩
      case measure => simp [intOf]; omega
    · have HK : Hid (t = 64) := show t = 64 by omega
      have HB := Lib.hid hb; clear hb
      have hgl : g < wr.heap.size := World.block_lt_of_cell? wr _ (word_at hr 0 (by simp [St.list]))
      have hmx : mixOf s blk = addSt s (rounds (scheduleOf blk) s t) := by rw [HK.out]; exact mixOf_eq s blk
      generalize rounds (scheduleOf blk) s t = r at hr hmx
      have hrh := range_below HB.out HRH.out (World.block_lt_of_cell? w3 _ (word_at HRH.out 0 (by simp [St.list])))
      have hhl : hb < wr.heap.size := World.block_lt_of_cell? wr _ (word_at hrh 0 (by simp [St.list]))
      have HR2 := Lib.hid hr; clear hr
      have HRH2 := Lib.hid hrh; clear hrh
      have HMX := Lib.hid hmx; clear hmx
      have HBW := Lib.hid (HB3.out.trans (HB.out.mono HB3.out.size)); clear HB HB3 HRH HRW HRK
      go_wp2_with fail
      rename World => w4
      go_loopw [13, 14] (fun v i w' => ∃ k : Nat, k ≤ 8 ∧ i = .int .i64 (k : Int) ∧ OwnW w4.heap.size w' ((addSt s r).list.take k) v ∧ Below w4.heap.size w4 w') (fun _ i _ => 8 - (intOf i).toNat)
      case atStart => exact ⟨0, by omega, rfl, OwnW.nil _ _, Below.refl _ _⟩
      case round =>
        obtain ⟨k, hk, rfl, ho, hb'⟩ := hrel
        by_cases hk8 : k < 8
        · have HT := Lib.hid (addSt_take s r k hk8)
          have hlen : ((addSt s r).list.take k).length = k := by unfold addSt; simp [St.list]; omega
          have c0 := (hb'.cell hhl).trans (word_at HRH2.out k (by simp [St.list]; omega))
          have c1 := (hb'.cell hgl).trans (word_at HR2.out k (by simp [St.list]; omega))
          generalize s.list.getD k 0#32 = x at c0 HT
          generalize r.list.getD k 0#32 = y at c1 HT
          have sz := hb'.size
          have HO : Hid (wr.ownsRow w4.heap.size 176 1 u13 k (wordsV ((addSt s r).list.take k))) := by
            have h1 : World.ownsRow _ _ _ _ _ _ _ := ho
            rw [hlen] at h1
            exact h1
          have HNE : Hid (∀ j, Value.ownBlock u13 = some j → w4.heap.size ≤ j) := fun j hj => (World.ownsRow.lt ho j hj).1
          have HLEN := Lib.hid hlen; clear hlen
          have HB' := Lib.hid hb'; clear hb' ho
          have k0 : (0 : Int) ≤ (k : Int) := by omega
          have k1 : (k : Int) < 8 := by omega
          go_wp2_with fail
          go_region_held3 (fun w' => w'.cell? ⟨hb, k, none⟩ = some (.int .u32 (n32 x)) ∧ w'.cell? ⟨g, k, none⟩ = some (.int .u32 (n32 y)))
            (first
              | go_keep
              | (go_split_ands
                 refine ⟨?_, ?_⟩ <;> (rw [hgrow.cell_far _ (by simp; omega) (fun hh => absurd (HNE.out _ hh.symm) (by simp; omega))]; assumption)))
            ((refine step_append_lies _ (by rfl) _ _ _ (by rfl) w4.heap.size 176 i0 _ 1 4 Tryd.underlying199 HI.out HZ0.out HZ1.out HZ2.out rfl (by omega) u13 k _ (by rfl) ((HO.out.alloc _).drew)
                ⟨wr.heap.size, 0, none⟩ 1 1 [.int .u32 (n32 (x + y))] (by rfl) (by rfl) (World.news_of_block (cs := #[.int .u32 (n32 (x + y))]) (t := 176) (fr := (0, 0)) (heap_alloc_new wr _)) (by simp [Value.oneCell'])
                (by omega) (by unfold maxLen; omega) (by omega) (by simp; omega) (wr.heap.size + 1) (by simp) ?_; intro gg cap w1 hown1 hgrow hat hltg))
          have HO1 : Hid (OwnW w4.heap.size w1 ((addSt s r).list.take (k + 1)) (.slice (some ⟨gg, 0, none⟩) (k + 1) cap)) := by
            show OwnW _ _ _ _
            unfold OwnW
            rw [HT.out, List.length_append, HLEN.out, wordsV_append]
            exact hown1
          have HB1 : Hid (Below w4.heap.size w4 w1) := ((HB'.out.alloc sz _).drew).grown hgrow (by simp; omega) HNE.out
          clear hown1 hgrow hat hltg
          go_wp2_with fail
          go_roundw
          case rel => exact ⟨k + 1, by omega, by go_num, HO1.out, HB1.out⟩
          case measure => simp [intOf]; omega
        · have HK8 : Hid (k = 8) := show k = 8 by omega
          have HO := Lib.hid ho; clear ho
          have HB' := Lib.hid hb'; clear hb'
          go_wp2_with fail
          go_ret
          refine ⟨_, rfl, ?_, HBW.out.trans (HB'.out.mono HBW.out.size)⟩
          have h1 := HO.out
          rw [HK8.out, show (addSt s r).list.take 8 = (addSt s r).list from rfl, ← HMX.out] at h1
          exact World.ownsRow.mono h1 HBW.out.size
end Go.Proofs.YtgeacocdnenhdaaDoor

/- The document's answer: the padded row of bytes (function 25). -/
namespace Go.Proofs.YtgeacocdnenhdaaDoor
open Go.RowKit Go.Proofs.ShaWords
attribute [local irreducible] lenByte padTo
/-- The length of a slice, as a measure reads it. -/
def lenOf : Value → Nat
  | .slice _ n _ => n
  | _ => 0
theorem padTo_zero (n : Nat) : padTo n 0 0 = [128#8] := by unfold padTo; rfl
theorem padTo_nought (n z : Nat) : padTo n (z + 1) 0 = padTo n z 0 ++ [0#8] := by unfold padTo; simp [List.replicate_succ']
theorem Own.shape {B : Nat} {w : World} {l : List (BitVec 8)} {v : Value} (h : Own B w l v) : ∃ p cap, v = .slice p l.length cap := by
  rcases h.2 with ⟨rfl, h0⟩ | ⟨g, cap, cur, rfl, _⟩
  · exact ⟨none, 0, by rw [h0]⟩
  · exact ⟨_, cap, rfl⟩
theorem zc_end (n z : Nat) (h : z ≤ zc n) : (n + 1 + z) % 64 = 56 ↔ z = zc n := by unfold zc at *; omega
set_option maxRecDepth 100000 in
set_option maxHeartbeats 1000000 in
theorem row_any (l : List (BitVec 8)) (p : Option Addr) (cap : Nat) (w : World) (hl : l.length < 1000000) (hL : Lies w p l) :
    Calls Tryd.prog 191 #[.slice p l.length cap] w fun e w' => ∃ v, e = .returned v ∧ Own w.heap.size w' (l ++ padOf l.length) v ∧ Below w.heap.size w w' := by
  have HL := Lib.hid hL; clear hL
  go_enter Tryd.func191, Tryd.ntmps191
  go_wp2_with fail
  go_loopw [3, 4] (fun v i wr => ∃ k : Nat, k ≤ l.length ∧ i = .int .i64 k ∧ Own w.heap.size wr (l.take k) v ∧ Below w.heap.size w wr) (fun _ i _ => l.length - (intOf i).toNat)
  case atStart => exact ⟨0, Nat.zero_le _, rfl, Own.nil _ _, Below.refl _ _⟩
  case round =>
    obtain ⟨k, hk, rfl, ho, hb⟩ := hrel
    have sz := hb.size
    by_cases hlt : k < l.length
    · rcases HL.out with h0 | ⟨b, off, rfl, hr⟩
      · exfalso; rw [h0] at hlt; simp at hlt
      · have hv : (bytesV l)[k]? = some (.int .u8 (n8 l[k])) := by simp [bytesV, hlt]
        have hbl := World.block_lt_of_cell? w _ (hr k _ hv)
        have hc := (hb.cell (p := ⟨b, off + k, none⟩) hbl).trans (hr k _ hv)
        clear hv
        have HTK := Lib.hid (List.take_succ_eq_append_getElem hlt)
        generalize l[k] = x at hc HTK
        have hk1 : (l.take k).length < 1099511627776 := by rw [List.length_take]; omega
        have HO := Lib.hid ho; clear ho
        have HB := Lib.hid hb; clear hb hr hbl
        have HK1 := Lib.hid hk1; clear hk1
        go_wp2_with (at_builtin; refine wpList_append_byte rfl (.tmp 15) (.tmp 20) rfl w.heap.size _ (l.take k) x rfl HO.out rfl HK1.out (by omega) ?_; intro v' w' ho' hb'; rw [← HTK.out] at ho'; have HO' := Lib.hid ho'; have HB' := Lib.hid (HB.out.trans hb'); clear ho' hb')
        go_roundw
        case rel => exact ⟨k + 1, by omega, by go_num, HO'.out, HB'.out⟩
        case measure => simp [intOf]; omega
    · have ho2 : Own w.heap.size wr l u3 := by
        rw [List.take_of_length_le (by omega)] at ho
        exact ho
      have HO := Lib.hid ho2; clear ho ho2
      have HB := Lib.hid hb; clear hb
      clear HL
      have HK1 : Hid (l.length < 1099511627776) := show l.length < 1099511627776 by omega
      go_wp2_with (at_builtin; refine wpList_append_byte rfl (.tmp 22) (.tmp 23) rfl w.heap.size _ l 128#8 rfl HO.out rfl HK1.out (by omega) ?_; intro v' w' ho' hb'; rw [← padTo_zero l.length] at ho'; have HO' := Lib.hid ho'; have HB' := Lib.hid (HB.out.trans hb'); clear ho' hb')
      clear HO HB HK1
      go_loopw [3] (fun v wr => ∃ z : Nat, z ≤ zc l.length ∧ Own w.heap.size wr (l ++ padTo l.length z 0) v ∧ Below w.heap.size w wr) (fun v _ => zc l.length + l.length + 1 - lenOf v)
      case atStart => exact ⟨0, Nat.zero_le _, HO'.out, HB'.out⟩
      case round =>
        clear HO' HB'
        obtain ⟨z, hz, ho, hb⟩ := hrel
        have hzc := zc_le l.length
        have sz2 := hb.size
        have hend := zc_end l.length z hz
        have hlen : (l ++ padTo l.length z 0).length = l.length + 1 + z := by rw [List.length_append, padTo_length]; omega
        obtain ⟨pp, cc, rfl⟩ := ho.shape
        have HK1 : Hid ((l ++ padTo l.length z 0).length < 1099511627776) := show _ < _ by rw [hlen]; omega
        rw [hlen] at ho
        rw [hlen]
        have hrem : ((l.length : Int) + 1 + z).tmod 64 = (((l.length + 1 + z) % 64 : Nat) : Int) := by
          rw [Int.tmod_eq_emod_of_nonneg (by omega)]; omega
        have HO := Lib.hid ho; clear ho
        have HB := Lib.hid hb; clear hb
        by_cases hlt2 : z = zc l.length
        · have HZ : Hid (z = zc l.length) := hlt2
          go_wp2_with fail
          all_goals first | (exfalso; have h1 := hend.2 hlt2; simp at *; omega) | skip
          have HO2 : Hid (Own w.heap.size wr (l ++ padTo l.length (zc l.length) 0) (.slice pp (l.length + 1 + z) cc)) := by rw [← HZ.out]; exact HO.out
          clear HO
          rename World => w5
          go_loopw [3, 6, 7, 8] (fun v kk _ _ wr => ∃ j : Nat, j ≤ 8 ∧ kk = .int .i64 (7 - (j : Int)) ∧ Own w.heap.size wr (l ++ padTo l.length (zc l.length) j) v ∧ Below w.heap.size w wr) (fun _ kk _ _ _ => (intOf kk + 1).toNat)
          case atStart => exact ⟨0, by omega, rfl, HO2.out, HB.out⟩
          case round =>
            obtain ⟨j, hj, rfl, ho, hb⟩ := hrel
            by_cases hj8 : j < 8
            · have sz3 := hb.size
              have HO3 := Lib.hid ho; clear ho
              have HB3 := Lib.hid hb; clear hb
              have hlen3 : (l ++ padTo l.length (zc l.length) j).length < 1099511627776 := by rw [List.length_append, padTo_length]; omega
              have HK3 := Lib.hid hlen3; clear hlen3
              clear HO2 HB HK1 hend hrem hlen
              go_wp2_with fail
              rename World => w6
              go_loopw [7, 8] (fun x i wr => ∃ m q : Nat, m ≤ 7 - j ∧ i = .int .i64 (m : Int) ∧ x = .int .u64 (q : Int) ∧ q = 8 * l.length / 256 ^ m ∧ q < 8000000 ∧ wr = w6) (fun _ i _ => 7 - j - (intOf i).toNat)
              case atStart => exact ⟨0, 8 * l.length, by omega, rfl, by rw [Int.natCast_mul, Int.mul_comm]; rfl, by simp, by omega, rfl⟩
              case round =>
                obtain ⟨m, q, hm, rfl, rfl, hq, hq1, rfl⟩ := hrel
                have HQ := Lib.hid hq; clear hq
                by_cases hm7 : m < 7 - j
                · have hlt7 : (m : Int) < 7 - (j : Int) := by omega
                  have hd : (q : Int).tdiv 256 = ((q / 256 : Nat) : Int) := by rw [Int.tdiv_eq_ediv_of_nonneg (by omega)]; rfl
                  have hd2 : q / 256 < 8000000 := by omega
                  have HQ2 : Hid (q / 256 = 8 * l.length / 256 ^ (m + 1)) := by
                    show _ = _
                    rw [HQ.out, Nat.div_div_eq_div_mul, Nat.pow_succ]
                  generalize q / 256 = q2 at hd hd2 HQ2
                  go_wp2_with fail
                  go_roundw
                  case rel => exact ⟨m + 1, q2, by omega, by go_num, by go_num, HQ2.out, hd2, by first | rfl | trivial⟩
                  case measure => simp [intOf]; omega
                · have HM : Hid (m = 7 - j) := show m = 7 - j by omega
                  have hlt7 : ¬ (m : Int) < 7 - (j : Int) := by omega
                  have HPS : Hid (padTo l.length (zc l.length) (j + 1) = padTo l.length (zc l.length) j ++ [lenByte l.length j]) := padTo_succ _ _ _
                  have hlb : (q : Int) % 256 = n8 (lenByte l.length j) := by
                    rw [← lenByte_eq, HQ.out, HM.out, show 256 ^ (7 - j) = 2 ^ (56 - 8 * j) by rw [show 256 = 2 ^ 8 from rfl, ← Nat.pow_mul]; congr 1; omega, Int.natCast_ediv, Int.natCast_pow, Int.natCast_mul]
                    rfl
                  generalize lenByte l.length j = x at hlb HPS
                  clear HQ
                  go_wp2_with (at_builtin; refine wpList_append_byte rfl (.tmp 48) (.tmp 52) rfl w.heap.size _ (l ++ padTo l.length (zc l.length) j) x rfl HO3.out rfl HK3.out (by omega) ?_; intro v' w' ho' hb'; rw [List.append_assoc, ← HPS.out] at ho'; have HO' := Lib.hid ho'; have HB' := Lib.hid (HB3.out.trans hb'); clear ho' hb')
                  go_roundw
                  case rel => exact ⟨j + 1, by omega, by go_num, HO'.out, HB'.out⟩
                  case measure => simp [intOf]; omega
            · have HJ : Hid (j = 8) := show j = 8 by omega
              go_wp2_with fail
              go_ret
              refine ⟨_, rfl, ?_, hb⟩
              rw [HJ.out] at ho
              exact ho
        · have HE : Hid (¬ (l.length + 1 + z) % 64 = 56) := fun h => hlt2 (hend.1 h)
          go_wp2_with (at_builtin; refine wpList_append_byte rfl (.tmp 29) (.tmp 30) rfl w.heap.size _ (l ++ padTo l.length z 0) 0#8 rfl HO.out rfl HK1.out (by omega) ?_; intro v' w' ho' hb'; rw [List.append_assoc, ← padTo_nought l.length z] at ho'; have HO' := Lib.hid ho'; have HB' := Lib.hid (HB.out.trans hb'); clear ho' hb')
          all_goals first | (exfalso; have h1 := HE.out; simp at *; omega) | skip
          obtain ⟨p2, c2, rfl⟩ := HO'.out.shape
          go_roundw
          case rel => exact ⟨z + 1, by omega, HO'.out, HB'.out⟩
          case measure => simp only [lenOf, List.length_append, padTo_length]; simp; omega
end Go.Proofs.YtgeacocdnenhdaaDoor

/- The document's answer: its sum of any bytes is the code's (function 11). -/
namespace Go.Proofs.YtgeacocdnenhdaaDoor
open Go.RowKit Go.Proofs.ShaWords
/-- The eight words behind m blocks of a row. -/
def stateOf (row : List (BitVec 8)) (m : Nat) : St := (writeOf newHS (row.take (64 * m))).s
theorem stateOf_zero (row : List (BitVec 8)) : stateOf row 0 = iv := rfl
theorem splice_whole (L bs : List (BitVec 8)) (h : L.length = bs.length) : splice L 0 bs = bs := by
  unfold splice
  rw [List.take_zero, List.nil_append, Nat.zero_add, ← h, List.drop_length, List.append_nil]
theorem stateOf_succ (row : List (BitVec 8)) (m : Nat) (h : 64 * (m + 1) ≤ row.length) : stateOf row (m + 1) = mixOf (stateOf row m) ((row.drop (64 * m)).take 64) := by
  have hb : ((row.drop (64 * m)).take 64).length = 64 := by rw [List.length_take, List.length_drop]; omega
  have hn : (writeOf newHS (row.take (64 * m))).n = 64 * m := by
    rw [writeOf_n, List.length_take]
    show 0 + _ = _
    omega
  have hk : (writeOf newHS (row.take (64 * m))).blk.length = 64 := by rw [writeOf_blk_length]; rfl
  unfold stateOf
  rw [show 64 * (m + 1) = 64 * m + 64 by omega, List.take_add, writeOf_append, writeOf_chunk _ _ hk (by intro h0; rw [h0] at hb; cases hb) (by rw [hn, hb]; omega), hn, hb, if_pos (by omega), show 64 * m % 64 = 0 by omega, splice_whole _ _ (by rw [hk, hb])]
theorem row_length (n : Nat) : ∃ M, n + (padOf n).length = 64 * M := by
  rw [padOf, padTo_length]
  refine ⟨(n + (1 + zc n + 8)) / 64, ?_⟩
  unfold zc; omega
theorem stateOf_full (l : List (BitVec 8)) (M : Nat) (h : l.length + (padOf l.length).length = 64 * M) : digestOf (stateOf (l ++ padOf l.length) M) = shaOf l := by
  unfold stateOf shaOf sumOf
  rw [List.take_of_length_le (by rw [List.length_append]; omega), writeOf_append]
  have : (writeOf newHS l).n = l.length := by rw [writeOf_n]; show 0 + _ = _; omega
  rw [this]
theorem mod32_256 (x : BitVec 32) : n32 x % 256 = n8 (lo8 x) := by
  unfold n32 n8 lo8; rw [BitVec.toNat_setWidth]; omega
theorem rem32_256 (x : BitVec 32) : (n32 x).tmod 256 = n8 (lo8 x) := (Int.tmod_eq_emod_of_nonneg (n32_nonneg x)).trans (mod32_256 x)
theorem mod8_32 (x : BitVec 8) : n8 x % 4294967296 = n8 x := by unfold n8; have := x.isLt; omega
theorem mod8_8 (x : BitVec 8) : n8 x % 256 = n8 x := by unfold n8; have := x.isLt; omega
theorem wrap8_n8 (x : BitVec 8) : IntKind.u8.wrap (n8 x) = n8 x := by rw [IntKind.wrap_u8', mod8_8]
theorem lo8_ext (x : BitVec 8) : lo8 (ext x) = x := by
  unfold lo8 ext
  apply BitVec.eq_of_toNat_eq
  rw [BitVec.toNat_setWidth, BitVec.toNat_setWidth]; have := x.isLt; omega
attribute [local go_sem] mod32_256 rem32_256 mod8_32 mod8_8 wrap8_n8 lo8_ext
attribute [local irreducible] stateOf mixOf padOf digestOf shaOf
attribute [local go_sem] and32 or32 xor32 add32 shl32 shr32 wrap32_n8 wrap8_n32 shl32_8 shl32_16 shl32_24 shr32_3 shr32_8 shr32_10 shr32_16 shr32_24 not32 quo32_8 quo32_256 quo32_1024 mod32
set_option maxRecDepth 100000 in
set_option maxHeartbeats 1000000 in
theorem refSum_any (l : List (BitVec 8)) (p : Option Addr) (cap : Nat) (w : World) (hl : l.length < 1000000) (hL : Lies w p l) :
    Calls Tryd.prog 167 #[.slice p l.length cap] w fun e w' => e = .returned (.agg (bytesV (shaOf l)).toArray) ∧ Below w.heap.size w w' := by
  have HL := Lib.hid hL; clear hL
  obtain ⟨M, hM⟩ := row_length l.length
  have HSF := Lib.hid (stateOf_full l M hM)
  have hM2 : 0 < M := by
    have : 0 < (padOf l.length).length := by unfold padOf; rw [padTo_length]; omega
    omega
  have hM3 : M < 20000 := by
    have := padOf_length l.length
    omega
  go_enter Tryd.func167, Tryd.ntmps167
  go_wp2_with fail
  rw [← noughts32]
  have hz0 : (w.alloc (.cells (bytesV (List.replicate 32 0#8)).toArray 48)).heap[w.heap.size]? = some (.cells (bytesV (List.replicate 32 0#8)).toArray 48 (0, 0)) := heap_alloc_new w _
  have hb0 : Below w.heap.size w (w.alloc (.cells (bytesV (List.replicate 32 0#8)).toArray 48)) := (Below.refl _ _).alloc (Nat.le_refl _) _
  have hs0 : w.heap.size < (w.alloc (.cells (bytesV (List.replicate 32 0#8)).toArray 48)).heap.size := by rw [size_alloc]; omega
  generalize w.alloc (.cells (bytesV (List.replicate 32 0#8)).toArray 48) = w1 at hz0 hb0 hs0 ⊢
  have hL1 := HL.out.below hb0
  refine (row_any l p cap w1 hl hL1).mono ?_
  rintro e w2 ⟨v2, rfl, ho2, hb2⟩
  have HO2 := Lib.hid ho2; clear ho2
  have HB2 := Lib.hid hb2; clear hb2
  have HZ0 := Lib.hid hz0; clear hz0
  have HB0 := Lib.hid hb0; clear hb0 hL1 HL
  go_wp2_with fail
  refine (starts_any w2).mono ?_
  rintro e w3 ⟨v3, rfl, ho3, hb3⟩
  have sz2 := HB2.out.size
  have sz3 := hb3.size
  have hrl : (l ++ padOf l.length).length = 64 * M := by rw [List.length_append]; exact hM
  obtain ⟨pr, cr, rfl, hcr, hcm, hlr⟩ := (HO2.out.below hb3).lies
  rcases hlr with h0 | ⟨b, off, rfl, hrr⟩
  · exfalso; rw [h0] at hrl; simp at hrl; omega
  obtain ⟨hb, hc, rfl, hgb, -, -, hrh⟩ := ho3.form (by intro h0; cases h0)
  have hbl : b < w3.heap.size := World.block_lt_of_cell? w3 _ (hrr 0 _ (by rw [bytesV, List.getElem?_map, List.getElem?_eq_getElem (by omega)]; rfl))
  have HZ3 : Hid (w3.heap[w.heap.size]? = some (.cells (bytesV (List.replicate 32 0#8)).toArray 48 (0, 0))) := by
    show _ = _
    rw [hb3.block _ (by omega), HB2.out.block _ hs0]; exact HZ0.out
  have HB3 := Lib.hid (HB0.out.trans ((HB2.out.mono (by omega)).trans (hb3.mono (by omega))))
  rw [hrl] at hcr
  rw [hrl, show iv.list.length = 8 from rfl]
  have HRL := Lib.hid hrl; clear hrl
  have HRR := Lib.hid hrr; clear hrr
  have HRH := Lib.hid hrh; clear hrh
  clear HZ0 HB0 HB2 HO2 ho3 hb3
  generalize l ++ padOf l.length = row at HSF HRL HRR
  go_wp2_with fail
  go_loopw [4, 5] (fun h i wr => ∃ m g c : Nat, m ≤ M ∧ i = .int .i64 ((64 * m : Nat) : Int) ∧ h = .slice (some ⟨g, 0, none⟩) 8 c ∧ wr.rangeAt g 0 (wordsV (stateOf row m).list) ∧ Below w3.heap.size w3 wr) (fun _ i _ => 64 * M - (intOf i).toNat)
  case atStart => exact ⟨0, hb, hc, by omega, rfl, rfl, by rw [stateOf_zero]; exact HRH.out, Below.refl _ _⟩
  case round =>
    obtain ⟨m, g, c, hm, rfl, rfl, hr, hbw⟩ := hrel
    have szr := hbw.size
    by_cases hlt : m < M
    · have HS := Lib.hid (stateOf_succ row m (by rw [HRL.out]; omega))
      have hbk : ((row.drop (64 * m)).take 64).length = 64 := by rw [List.length_take, List.length_drop, HRL.out]; omega
      have hrb : wr.rangeAt b (off + 64 * m) (bytesV ((row.drop (64 * m)).take 64)) := by
        have h1 := range_below hbw HRR.out hbl
        rw [← List.take_append_drop (64 * m) row] at h1
        have h2 := range_back h1
        rw [List.length_take, HRL.out, Nat.min_eq_left (by omega)] at h2
        rw [← List.take_append_drop 64 (row.drop (64 * m))] at h2
        exact range_front h2
      have HBK := Lib.hid hbk; clear hbk
      have HRB := Lib.hid hrb; clear hrb
      have HR2 := Lib.hid hr; clear hr
      have HBW := Lib.hid hbw; clear hbw
      have k0 : (0 : Int) ≤ ((64 * m : Nat) : Int) := by omega
      have k1 : ((64 * m : Nat) : Int) < ((64 * M : Nat) : Int) := by omega
      have k2 : ((64 * m : Nat) : Int) + 64 ≤ (cr : Int) := by omega
      have k3 : IntKind.i64.wrap (((64 * m : Nat) : Int) + 64) = ((64 * m : Nat) : Int) + 64 := IntWalk.i64_in _ (by omega)
      go_wp2_with fail
      refine (block_any (stateOf row m) _ g c b (off + 64 * m) (cr - 64 * m) wr HBK.out HR2.out HRB.out).mono ?_
      rintro e w4 ⟨v4, rfl, ho4, hb4⟩
      rw [← HS.out] at ho4
      obtain ⟨g2, c2, rfl, hg2, -, -, hr2⟩ := ho4.form (by intro h0; cases h0)
      have HR4 := Lib.hid hr2; clear hr2 ho4
      have HB4 := Lib.hid (HBW.out.trans (hb4.mono szr)); clear hb4
      go_wp2_with fail
      go_roundw
      case rel => exact ⟨m + 1, g2, c2, by omega, by go_num, rfl, HR4.out, HB4.out⟩
      case measure => simp [intOf]; omega
    · have HMM : Hid (m = M) := show m = M by omega
      have HD : Hid (digestOf (stateOf row m) = shaOf l) := by
        show _ = _
        rw [HMM.out]; exact HSF.out
      have HZR : Hid (wr.heap[w.heap.size]? = some (.cells (bytesV (List.replicate 32 0#8)).toArray 48 (0, 0))) := by
        show _ = _
        rw [hbw.block _ (by omega)]; exact HZ3.out
      have HBR := Lib.hid (HB3.out.trans (hbw.mono HB3.out.size)); clear hbw HZ3 HB3 HRR HRH HSF HRL
      have hgr : g < wr.heap.size := World.block_lt_of_cell? wr _ (word_at hr 0 (by simp [St.list]))
      have HR2 := Lib.hid hr; clear hr
      generalize stateOf row m = s at HD HR2
      have hwr : w.heap.size < wr.heap.size := by omega
      go_wp2_with fail
      refine wp_gen (fun w2 => w2.rangeAt g 0 (wordsV s.list) ∧ SumW w w.heap.size wr.heap.size (List.replicate 32 0#8) w2) ?_ ?_
      · rw [← noughts32]
        refine ⟨fun j v hv => ?_, ?_, heap_alloc_new wr _, HBR.out.alloc (by omega) _⟩
        · exact (((Below.refl wr.heap.size wr).alloc (Nat.le_refl _) _).cell (p := ⟨g, 0 + j, none⟩) hgr).trans (HR2.out j v hv)
        · rw [Below.heap_alloc _ _ _ hwr]; exact HZR.out
      intro w5 hw5
      have HW5 := Lib.hid hw5; clear hw5
      have hdl := digestOf_length s
      have HDL := Lib.hid hdl; clear hdl
      generalize wr.heap.size = G at hgr hwr HW5 ⊢
      clear HR2 HZR HBR szr
      go_loopw [7, 8, 9] (fun i _ _ wr => ∃ k : Nat, k ≤ 32 ∧ i = .int .i64 (k : Int) ∧ wr.rangeAt g 0 (wordsV s.list) ∧ SumW w w.heap.size G ((digestOf s).take k ++ List.replicate (32 - k) 0#8) wr) (fun i _ _ _ => 32 - (intOf i).toNat)
      case atStart => exact ⟨0, by omega, rfl, HW5.out.1, HW5.out.2⟩
      case round =>
        clear HW5
        obtain ⟨k, hk, rfl, hc, hw⟩ := hrel
        have hlen : ((digestOf s).take k ++ List.replicate (32 - k) 0#8).length = 32 := by rw [List.length_append, List.length_take, HDL.out]; simp; omega
        by_cases hk32 : k < 32
        · have HDG := Lib.hid (digest_get s k hk32)
          have HTS := Lib.hid (take_set_fill (digestOf s) 32 k HDL.out hk32)
          have cs := word_at hc (k / 4) (by simp [St.list]; omega)
          obtain ⟨c0, e0⟩ : ∃ v, wr.cell? ⟨G, k, none⟩ = some v := ⟨_, cell_bytesV hw.2.1 (j := k) (by omega)⟩
          have f0 := frozen_of_row _ _ k _ _ hw.2.1
          generalize s.list.getD (k / 4) 0#32 = x at cs HDG
          have HW := Lib.hid hw; clear hw hlen
          have HC := Lib.hid hc; clear hc
          have k0 : (0 : Int) ≤ (k : Int) := by omega
          go_wp2_with fail
          rename World => w6
          go_loopw [8, 9] (fun xv i wr => ∃ (d : Nat) (y : BitVec 32), k % 4 + d ≤ 3 ∧ i = .int .i64 ((k % 4 + d : Nat) : Int) ∧ xv = .int .u32 (n32 y) ∧ y = x >>> (8 * d) ∧ wr = w6) (fun _ i _ => 3 - (intOf i).toNat)
          case atStart => exact ⟨0, x, by omega, by simp, rfl, by simp, rfl⟩
          case round =>
            obtain ⟨d, y, hd, rfl, rfl, hy, rfl⟩ := hrel
            have HY := Lib.hid hy; clear hy
            generalize hi : k % 4 + d = i at hd ⊢
            have HI := Lib.hid hi; clear hi
            by_cases hd3 : i < 3
            · have HY2 : Hid (y >>> 8 = x >>> (8 * (d + 1))) := by
                show _ = _
                rw [HY.out, show 8 * (d + 1) = 8 * d + 8 by omega, BitVec.shiftRight_add]
              go_wp2_with fail
              go_roundw
              case rel => exact ⟨d + 1, y >>> 8, by have := HI.out; omega, by have := HI.out; rw [show k % 4 + (d + 1) = i + 1 by omega]; go_num, by first | rfl | (simp only [mod32]) | (rw [IntKind.wrap_u32', mod32]) | go_num, HY2.out, by first | rfl | trivial⟩
              case measure => simp [intOf]; omega
            · have HE : Hid (lo8 y = (digestOf s).getD k 0#8) := by
                show _ = _
                rw [HDG.out, HY.out, show 8 * d = 24 - 8 * (k % 4) by have := HI.out; omega]
              go_wp2_with fail
              go_roundw
              case rel =>
                refine ⟨k + 1, by omega, by go_num, ?_, ?_⟩
                · exact fun j v hv => (World.cell?_of_block (a := ⟨g, 0 + j, none⟩) (heap_setCell_other _ _ _ _ (by show g ≠ G; omega))).trans (HC.out j v hv)
                · rw [← HTS.out, ← HE.out]
                  exact HW.out.set (by omega) (by omega) k (lo8 y)
              case measure => simp [intOf]; omega
        · have HFULL : Hid (wr.heap[G]? = some (.cells (bytesV (digestOf s)).toArray 48 (0, 0))) := by
            have h1 := hw.2.1
            rw [show k = 32 by omega, List.take_of_length_le (by rw [HDL.out]; omega), show 32 - 32 = 0 by omega, List.replicate_zero, List.append_nil] at h1
            exact h1
          have HI := Lib.hid ((show (Tryd.prog.info? 48).map (·.size) = some 32 by kernel_rfl).trans (congrArg some (bytesV_size _ 32 HDL.out).symm))
          have HOLD := Lib.hid (show (bytesV (List.replicate 32 0#8)).toArray.size = (bytesV (digestOf s)).toArray.size by rw [bytesV_size _ 32 HDL.out]; rfl)
          have HONE := Lib.hid (bytesV_one (digestOf s))
          have HZ := Lib.hid hw.1
          have HB := Lib.hid hw.2.2
          clear hw hlen hc
          rw [HD.out] at HFULL HI HOLD HONE
          generalize hfe : (bytesV (shaOf l)).toArray = full at HFULL HI HOLD HONE
          have HFE := Lib.hid hfe; clear hfe
          go_wp2_with (first
            | (refine wpList_load_row rfl 48 (.tmp 6) rfl G rfl 48 full (0, 0) _ HFULL.out Tryd.underlying48 rfl HI.out ?_)
            | (refine wpList_store_row rfl 48 (.tmp 2) (.tmp 48) rfl w.heap.size full rfl rfl 48 _ HZ.out HI.out HOLD.out HONE.out ?_))
          have hrow := setRow_heap wr w.heap.size _ full 48 _ HZ.out
          have hbel := below_setRow HB.out (show w.heap.size ≤ w.heap.size by omega) full
          generalize wr.setRow w.heap.size full = wz at hrow hbel ⊢
          have hres : ∀ tmps : Array Value, tmps.getD 2 undef = .pointer (some ⟨w.heap.size, 0, none⟩) → Sem.run Tryd.prog (results Tryd.f167 tmps) wz = .ok (.agg full) wz := fun tmps h =>
            results_cell_row (P := Tryd.prog) (p := 2) (ty := 48) Tryd.results167 tmps wz w.heap.size 48 _ (0, 0) (TypeDesc.array 32 5) h hrow Tryd.underlying48 rfl HI.out
          exact bodyPost_ret (v := .agg full) (hres _ rfl) rfl ⟨by rw [HFE.out], hbel⟩
end Go.Proofs.YtgeacocdnenhdaaDoor

/- ShaSums, at every slice of bytes that lies in memory: the law returns true and writes nothing that was there (function 3). -/
namespace Go.Proofs.YtgeacocdnenhdaaDoor
open Go.RowKit Go.Proofs.ShaWords
end Go.Proofs.YtgeacocdnenhdaaDoor

/- What ShaPieces keeps in memory: slices of the call's own beside a hash. -/
namespace Go.Proofs.YtgeacocdnenhdaaDoor
open Go.RowKit Go.Proofs.ShaWords
/-- A slice of the call's own is read by a hash that lies elsewhere. -/
theorem Own.reads {B : Nat} {w : World} {l r : List (BitVec 8)} {p : Option Addr} {n cap : Nat} (h : Own B w (l ++ r) (.slice p n cap)) (g : Nat) (hg : g < B) : Reads w g p l := by
  rcases h.2 with ⟨h0, h1⟩ | ⟨g', cap', cur, h0, hB, hh, hc, hm, hs, ht⟩
  · left
    have : l ++ r = [] := List.length_eq_zero_iff.1 h1
    exact (List.append_eq_nil_iff.1 this).1
  · cases h0
    right
    refine ⟨g', 0, rfl, by omega, ?_⟩
    have hr : w.rangeAt g' 0 (bytesV (l ++ r)) := fun j v hv => by
      rw [Nat.zero_add, cell_of_row w g' j cur 5 (0, 0) hh]
      rw [← ht, Nat.mul_one, List.getElem?_take] at hv
      split at hv
      · rw [← hv]; simp
      · cases hv
    exact range_front hr
/-- A slice of the call's own that lies below what is written. -/
theorem Own.under {B B' : Nat} {w w' : World} {l : List (BitVec 8)} {v : Value} (h : Own B w l v) (hb : Below B' w w') (hlt : ∀ g, v.ownBlock = some g → g < B') : Own B w' l v := by
  refine ⟨h.1, ?_⟩
  rcases h.2 with ⟨h0, h1⟩ | ⟨g', cap', cur, rfl, hB, hh, hc⟩
  · exact Or.inl ⟨h0, h1⟩
  · exact Or.inr ⟨g', cap', cur, rfl, hB, (hb.block g' (hlt g' rfl)).trans hh, hc⟩
end Go.Proofs.YtgeacocdnenhdaaDoor

/-
  The document's answer for layer 2: a key's block turned by a byte, and bytes behind it; the code; a code behind a code.
-/
namespace Go.Proofs.YtgeacocdnenhdaaDoor
open Go.RowKit Go.Proofs.ShaWords

/-- The first k bytes of a list, noughts behind them up to 64. -/
def fillTo (l : List (BitVec 8)) (k : Nat) : List (BitVec 8) := l.take k ++ noughts (64 - k)
theorem fillTo_zero (l : List (BitVec 8)) : fillTo l 0 = noughts 64 := by simp [fillTo]
theorem fillTo_length (l : List (BitVec 8)) (k : Nat) (h : k ≤ l.length) (h2 : l.length ≤ 64) : (fillTo l k).length = 64 := by
  unfold fillTo; rw [List.length_append, List.length_take, noughts_length]; omega
theorem fillTo_succ (l : List (BitVec 8)) (k : Nat) (h : k < l.length) (h2 : l.length ≤ 64) : (fillTo l k).set k (l.getD k 0#8) = fillTo l (k + 1) := by
  unfold fillTo
  obtain ⟨m, hm⟩ : ∃ m, 64 - k = m + 1 := ⟨63 - k, by omega⟩
  rw [List.set_append_right _ _ (by rw [List.length_take]; omega), hm, show 64 - (k + 1) = m by omega, List.take_succ_eq_append_getElem h, List.length_take, Nat.min_eq_left (by omega), Nat.sub_self, List.append_assoc]
  simp [noughts, List.replicate_succ, List.getD, h]
theorem fillTo_full (key : List (BitVec 8)) : fillTo (keyOf key) (keyOf key).length = blockK key := by
  rw [blockK_eq]; unfold fillTo; rw [List.take_length]
theorem setCell_at {w : World} {g : Nat} {t : TypeId} {l : List (BitVec 8)} (h : BytesAt w g t l) (k : Nat) (x : BitVec 8) : BytesAt (w.setCell ⟨g, k, none⟩ (.int .u8 (n8 x))) g t (l.set k x) := setCell_bytes h x
theorem cell_at {w : World} {g : Nat} {t : TypeId} {l : List (BitVec 8)} (h : BytesAt w g t l) (k : Nat) (hk : k < l.length) : w.cell? ⟨g, k, none⟩ = some (.int .u8 (n8 (l.getD k 0#8))) := by
  have := h.range k (.int .u8 (n8 (l.getD k 0#8))) (by simp [bytesV, List.getD, hk])
  rwa [Nat.zero_add] at this
theorem frozen_at {w : World} {g : Nat} {t : TypeId} {l : List (BitVec 8)} (h : BytesAt w g t l) (k : Nat) : w.frozen? ⟨g, k, none⟩ = false := frozen_of_row _ _ _ _ _ h
theorem BytesAt.own {w : World} {g B n : Nat} {l : List (BitVec 8)} (h : BytesAt w g 5 l) (hB : B ≤ g) (hl : l.length = n) (hn : n ≤ maxLen) : Own B w l (.slice (some ⟨g, 0, none⟩) n n) := by
  subst hl
  exact ⟨by rw [bytesV_length, Nat.mul_one], .inr ⟨g, l.length, _, rfl, hB, h, Nat.le_refl _, hn, by rw [bytesV_size _ _ rfl, Nat.mul_one], by
    rw [Nat.mul_one]; exact List.take_of_length_le (by simp [bytesV])⟩⟩
theorem xorTo_getD (blk : List (BitVec 8)) (p : BitVec 8) (k : Nat) (hk : k < blk.length) : (xorTo blk p k).getD k 0#8 = blk.getD k 0#8 := by
  rw [List.getD, xorTo_get _ _ _ hk]; rfl

theorem wpList_make_bytes {ops : Array Oper} {rest : List Oper} {o : Oper} {a : Act} {w : World} {Q : Exit → Act → World → Prop} (hg : o.guard = none) (l c : Operand) (hop : o.op = Op.makeSlice 24 l c) (n : Nat) (L : Int)
    (hl : a.eval l = .int .i64 L) (hc : a.eval c = .int .i64 L) (hL : L = (n : Int)) (b2 : n ≤ 281474976710656)
    (hK : ∀ w', BytesAt w' w.heap.size 5 (noughts n) → Below w.heap.size w w' → wpList Tryd.prog ops Q rest (a.put o.dst (.slice (some ⟨w.heap.size, 0, none⟩) n n)) w') : wpList Tryd.prog ops Q (o :: rest) a w := by
  obtain ⟨i, hi, hz, hsz, hby⟩ := info5'
  exact wpList_make_any hg l c 24 hop 5 i (.int .u8 0) Tryd.underlying24 hi hz hsz hby .i64 .i64 L L n n hl hc hL hL (Nat.le_refl _) b2 _ (made_noughts n) hK
attribute [local irreducible] shaOf blockK xorAll xorTo fillTo keyOf
set_option maxRecDepth 100000 in
set_option maxHeartbeats 2000000 in
theorem turned_ref (key bs : List (BitVec 8)) (pd : BitVec 8) (p q : Option Addr) (ck cb : Nat) (w : World) (hrk : Lies w p key) (hrb : Lies w q bs) (hnk : key.length < 100000) (hnb : bs.length < 100000) :
    Calls Tryd.prog 168 #[.slice p key.length ck, .int .u8 (n8 pd), .slice q bs.length cb] w fun e w' => ∃ v, e = .returned v ∧ Own w.heap.size w' (xorAll (blockK key) pd ++ bs) v ∧ Below w.heap.size w w' := by
  have HRK := Lib.hid hrk; clear hrk
  have HRB := Lib.hid hrb; clear hrb
  have HKL := Lib.hid (keyOf_length key)
  have HFF := Lib.hid (fillTo_full key)
  have HBK := Lib.hid (blockK_length key)
  by_cases hlong : key.length ≤ 64
  · have HKE : Hid (keyOf key = key) := show _ = _ by unfold keyOf; rw [if_pos hlong]
    have hd64 : decide ((key.length : Int) ≤ 64) = true := decide_eq_true (by omega)
    go_enter Tryd.func168, Tryd.ntmps168
    go_wp2_with (at_make; refine wpList_make_bytes rfl _ _ rfl 64 _ rfl rfl rfl (by omega) ?_; intro w1 h1 b1; have HF := Lib.hid (show BytesAt w1 w.heap.size 5 (fillTo (keyOf key) 0) by rw [fillTo_zero]; exact h1); have HBF := Lib.hid b1; clear h1 b1)
    rw [HKE.out] at HF HFF
    go_loopw [8] (fun i wr => ∃ k : Nat, k ≤ key.length ∧ i = .int .i64 (k : Int) ∧ BytesAt wr w.heap.size 5 (fillTo key k) ∧ Below w.heap.size w wr) (fun i _ => key.length - (intOf i).toNat)
    case atStart => exact ⟨0, by omega, rfl, HF.out, HBF.out⟩
    case round =>
      clear HF HBF
      obtain ⟨k, hk, rfl, hat, hb⟩ := hrel
      by_cases hlt : k < key.length
      · have hc0 := cell_at hat k (by rw [fillTo_length _ _ hk hlong]; omega)
        have hf := frozen_at hat k
        rcases HRK.out with h0 | ⟨b, off, rfl, hr⟩
        · exfalso; rw [h0] at hlt; simp at hlt
        have hv : (bytesV key)[k]? = some (.int .u8 (n8 (key.getD k 0#8))) := by simp [bytesV, List.getD, hlt]
        have hc := (hb.cell (p := ⟨b, off + k, none⟩) (World.block_lt_of_cell? w _ (hr k _ hv))).trans (hr k _ hv)
        have HST := Lib.hid (setCell_at hat k (key.getD k 0#8))
        rw [fillTo_succ _ _ hlt hlong] at HST
        clear hv hr
        generalize key.getD k 0#8 = x at hc HST
        generalize (fillTo key k).getD k 0#8 = y at hc0
        have HBB := Lib.hid (hb.setCell (Nat.le_refl _) (p := ⟨w.heap.size, k, none⟩) (.int .u8 (n8 x)))
        clear hat hb
        have k0 : (0 : Int) ≤ (k : Int) := by omega
        have k1 : (k : Int) < (key.length : Int) := by omega
        have k2 : (k : Int) < 64 := by omega
        go_wp2_with fail
        go_roundw
        case rel => exact ⟨k + 1, by omega, by go_num, HST.out, HBB.out⟩
        case measure => simp [intOf]; omega
      · have HF : Hid (BytesAt wr w.heap.size 5 (blockK key)) := by
          show BytesAt _ _ _ _
          rw [← HFF.out, ← show k = key.length by omega]; exact hat
        have HBF := Lib.hid hb
        clear hat hb
        go_wp2_with fail
        go_loopw [11] (fun i wr => ∃ k : Nat, k ≤ 64 ∧ i = .int .i64 (k : Int) ∧ BytesAt wr w.heap.size 5 (xorTo (blockK key) pd k) ∧ Below w.heap.size w wr) (fun i _ => 64 - (intOf i).toNat)
        case atStart => exact ⟨0, by omega, rfl, by rw [xorTo_zero]; exact HF.out, HBF.out⟩
        case round =>
          clear HF HBF
          obtain ⟨k, hk, rfl, hat, hb⟩ := hrel
          by_cases hlt : k < 64
          · have hkl : k < (blockK key).length := by rw [HBK.out]; exact hlt
            have hc := cell_at hat k (by rw [xorTo_length _ _ _ (by omega)]; exact hkl)
            rw [xorTo_getD _ _ _ hkl] at hc
            have hf := frozen_at hat k
            have HST := Lib.hid (setCell_at hat k ((blockK key).getD k 0#8 ^^^ pd))
            rw [xorTo_succ _ _ _ hkl] at HST
            generalize (blockK key).getD k 0#8 = x at hc HST
            have HBB := Lib.hid (hb.setCell (Nat.le_refl _) (p := ⟨w.heap.size, k, none⟩) (.int .u8 (n8 (x ^^^ pd))))
            clear hat hb hkl
            have hx1 := xor8 x pd
            have k0 : (0 : Int) ≤ (k : Int) := by omega
            have k1 : (k : Int) < 64 := by omega
            go_wp2_with fail
            go_roundw
            case rel => exact ⟨k + 1, by omega, by go_num, HST.out, HBB.out⟩
            case measure => simp [intOf]; omega
          · have HK64 : Hid (k = 64) := show k = 64 by omega
            rw [HK64.out, xorTo_full _ _ _ HBK.out] at hat
            have hxl : (xorAll (blockK key) pd).length = 64 := by rw [xorAll_length, HBK.out]
            have HOW := Lib.hid (hat.own (Nat.le_refl _) hxl (by unfold maxLen; omega))
            have HBB := Lib.hid hb
            have HXL := Lib.hid hxl
            clear hat hb hxl
            generalize hX : xorAll (blockK key) pd = X at HOW HXL ⊢
            have HX := Lib.hid hX; clear hX
            go_wp2_with fail
            go_loopw [7, 12] (fun v i wr => ∃ k : Nat, k ≤ bs.length ∧ i = .int .i64 (k : Int) ∧ Own w.heap.size wr (X ++ bs.take k) v ∧ Below w.heap.size w wr) (fun _ i _ => bs.length - (intOf i).toNat)
            case atStart => exact ⟨0, Nat.zero_le _, rfl, by rw [List.take_zero, List.append_nil]; exact HOW.out, HBB.out⟩
            case round =>
              clear HOW HBB
              obtain ⟨k, hk, rfl, ho, hb⟩ := hrel
              have sz := hb.size
              by_cases hlt : k < bs.length
              · rcases HRB.out with h0 | ⟨b, off, rfl, hr⟩
                · exfalso; rw [h0] at hlt; simp at hlt
                have hv : (bytesV bs)[k]? = some (.int .u8 (n8 bs[k])) := by simp [bytesV, hlt]
                have hbl := World.block_lt_of_cell? w _ (hr k _ hv)
                have hc := (hb.cell (p := ⟨b, off + k, none⟩) hbl).trans (hr k _ hv)
                clear hv
                have HTK : Hid (X ++ bs.take (k + 1) = (X ++ bs.take k) ++ [bs[k]]) := show _ = _ by rw [List.take_succ_eq_append_getElem hlt, List.append_assoc]
                have HK1 : Hid ((X ++ bs.take k).length < 1099511627776) := show _ < _ by rw [List.length_append, HXL.out, List.length_take]; omega
                generalize bs[k] = x at hc HTK
                generalize X ++ bs.take k = Y at ho HTK HK1 ⊢
                have HO := Lib.hid ho; clear ho
                have HB := Lib.hid hb; clear hb hr hbl
                go_wp2_with (at_builtin; refine wpList_append_byte rfl (.tmp 61) (.tmp 66) rfl w.heap.size _ Y x rfl HO.out rfl HK1.out (by omega) ?_; intro v' w' ho' hb'; rw [← HTK.out] at ho'; have HO' := Lib.hid ho'; have HB' := Lib.hid (HB.out.trans hb'); clear ho' hb')
                go_roundw
                case rel => exact ⟨k + 1, by omega, by go_num, HO'.out, HB'.out⟩
                case measure => simp [intOf]; omega
              · have HO := Lib.hid ho; clear ho
                have HB := Lib.hid hb; clear hb
                go_wp2_with fail
                go_ret
                refine ⟨_, rfl, ?_, HB.out⟩
                have h1 := HO.out
                rw [List.take_of_length_le (by omega)] at h1
                rw [HX.out]
                exact h1
  · have HKE : Hid (keyOf key = shaOf key) := show _ = _ by unfold keyOf; rw [if_neg hlong]
    have hlong2 : ¬ (key.length : Int) ≤ 64 := by omega
    go_enter Tryd.func168, Tryd.ntmps168
    go_wp2_with (at_make; refine wpList_make_bytes rfl _ _ rfl 64 _ rfl rfl rfl (by omega) ?_; intro w1 h1 b1; have HF := Lib.hid (show BytesAt w1 w.heap.size 5 (fillTo (keyOf key) 0) by rw [fillTo_zero]; exact h1); have HBF := Lib.hid b1; clear h1 b1)
    have sz1 := HF.out.size
    refine (refSum_any key p ck w1 (by omega) (HRK.out.below HBF.out)).mono ?_
    rintro e w2 ⟨rfl, hb2⟩
    have HF2 := Lib.hid (HF.out.keep hb2)
    have HB2 := Lib.hid (HBF.out.trans (hb2.mono (by omega)))
    have sz2 := HF2.out.size
    clear hb2 HF HBF
    have HSL := Lib.hid (shaOf_length key)
    have HSI := Lib.hid (info32 _ HSL.out)
    have HSO := Lib.hid (show (bytesV (noughts 32)).toArray.size = (bytesV (shaOf key)).toArray.size by rw [bytesV_size _ 32 HSL.out, bytesV_size _ 32 (noughts_length 32)])
    have HS1 := Lib.hid (bytesV_one (shaOf key))
    go_wp2_with (refine wpList_store_new rfl 48 (.tmp 9) (.tmp 31) rfl w2.heap.size rfl (bytesV (shaOf key)).toArray rfl rfl HSI.out (by rw [← noughts32]; exact HSO.out) HS1.out ?_; intro w3 h3 b3; have HD3 := Lib.hid (show BytesAt w3 w2.heap.size 48 (shaOf key) from h3); have HF3 := Lib.hid (HF2.out.keep b3); have HB3 := Lib.hid (HB2.out.trans (b3.mono (by omega))); clear h3 b3)
    generalize w2.heap.size = D at HD3 sz2 ⊢
    clear HF2 HB2 HSI HSO HS1
    rw [HKE.out] at HF3 HFF
    generalize shaOf key = S at HD3 HF3 HFF HSL
    have hs64 : S.length ≤ 64 := by rw [HSL.out]; omega
    go_loopw [10] (fun i wr => ∃ k : Nat, k ≤ 32 ∧ i = .int .i64 (k : Int) ∧ BytesAt wr w.heap.size 5 (fillTo S k) ∧ BytesAt wr D 48 S ∧ Below w.heap.size w wr) (fun i _ => 32 - (intOf i).toNat)
    case atStart => exact ⟨0, by omega, rfl, HF3.out, HD3.out, HB3.out⟩
    case round =>
      clear HF3 HD3 HB3
      obtain ⟨k, hk, rfl, hat, hd, hb⟩ := hrel
      by_cases hlt : k < 32
      · have hkl : k < S.length := by rw [HSL.out]; exact hlt
        have hc0 := cell_at hat k (by rw [fillTo_length _ _ (by omega) hs64]; omega)
        have hf := frozen_at hat k
        have hc := cell_at hd k hkl
        have HST := Lib.hid (setCell_at hat k (S.getD k 0#8))
        rw [fillTo_succ _ _ hkl hs64] at HST
        have HDD := Lib.hid (show BytesAt (wr.setCell ⟨w.heap.size, k, none⟩ (.int .u8 (n8 (S.getD k 0#8)))) D 48 S from (heap_setCell_other _ _ _ _ (fun e => by have : D = w.heap.size := e; omega)).trans hd)
        generalize S.getD k 0#8 = x at hc HST HDD
        generalize (fillTo S k).getD k 0#8 = y at hc0
        have HBB := Lib.hid (hb.setCell (Nat.le_refl _) (p := ⟨w.heap.size, k, none⟩) (.int .u8 (n8 x)))
        clear hat hb hd hkl
        have k0 : (0 : Int) ≤ (k : Int) := by omega
        have k1 : (k : Int) < 32 := by omega
        have k2 : (k : Int) < 64 := by omega
        go_wp2_with fail
        go_roundw
        case rel => exact ⟨k + 1, by omega, by go_num, HST.out, HDD.out, HBB.out⟩
        case measure => simp [intOf]; omega
      · have HF : Hid (BytesAt wr w.heap.size 5 (blockK key)) := by
          show BytesAt _ _ _ _
          rw [← HFF.out, ← show k = S.length by rw [HSL.out]; omega]; exact hat
        have HBF := Lib.hid hb
        clear hat hb hd
        go_wp2_with fail
        go_loopw [11] (fun i wr => ∃ k : Nat, k ≤ 64 ∧ i = .int .i64 (k : Int) ∧ BytesAt wr w.heap.size 5 (xorTo (blockK key) pd k) ∧ Below w.heap.size w wr) (fun i _ => 64 - (intOf i).toNat)
        case atStart => exact ⟨0, by omega, rfl, by rw [xorTo_zero]; exact HF.out, HBF.out⟩
        case round =>
          clear HF HBF
          obtain ⟨k, hk, rfl, hat, hb⟩ := hrel
          by_cases hlt : k < 64
          · have hkl : k < (blockK key).length := by rw [HBK.out]; exact hlt
            have hc := cell_at hat k (by rw [xorTo_length _ _ _ (by omega)]; exact hkl)
            rw [xorTo_getD _ _ _ hkl] at hc
            have hf := frozen_at hat k
            have HST := Lib.hid (setCell_at hat k ((blockK key).getD k 0#8 ^^^ pd))
            rw [xorTo_succ _ _ _ hkl] at HST
            generalize (blockK key).getD k 0#8 = x at hc HST
            have HBB := Lib.hid (hb.setCell (Nat.le_refl _) (p := ⟨w.heap.size, k, none⟩) (.int .u8 (n8 (x ^^^ pd))))
            clear hat hb hkl
            have hx1 := xor8 x pd
            have k0 : (0 : Int) ≤ (k : Int) := by omega
            have k1 : (k : Int) < 64 := by omega
            go_wp2_with fail
            go_roundw
            case rel => exact ⟨k + 1, by omega, by go_num, HST.out, HBB.out⟩
            case measure => simp [intOf]; omega
          · have HK64 : Hid (k = 64) := show k = 64 by omega
            rw [HK64.out, xorTo_full _ _ _ HBK.out] at hat
            have hxl : (xorAll (blockK key) pd).length = 64 := by rw [xorAll_length, HBK.out]
            have HOW := Lib.hid (hat.own (Nat.le_refl _) hxl (by unfold maxLen; omega))
            have HBB := Lib.hid hb
            have HXL := Lib.hid hxl
            clear hat hb hxl
            generalize hX : xorAll (blockK key) pd = X at HOW HXL ⊢
            have HX := Lib.hid hX; clear hX
            go_wp2_with fail
            go_loopw [7, 12] (fun v i wr => ∃ k : Nat, k ≤ bs.length ∧ i = .int .i64 (k : Int) ∧ Own w.heap.size wr (X ++ bs.take k) v ∧ Below w.heap.size w wr) (fun _ i _ => bs.length - (intOf i).toNat)
            case atStart => exact ⟨0, Nat.zero_le _, rfl, by rw [List.take_zero, List.append_nil]; exact HOW.out, HBB.out⟩
            case round =>
              clear HOW HBB
              obtain ⟨k, hk, rfl, ho, hb⟩ := hrel
              have sz := hb.size
              by_cases hlt : k < bs.length
              · rcases HRB.out with h0 | ⟨b, off, rfl, hr⟩
                · exfalso; rw [h0] at hlt; simp at hlt
                have hv : (bytesV bs)[k]? = some (.int .u8 (n8 bs[k])) := by simp [bytesV, hlt]
                have hbl := World.block_lt_of_cell? w _ (hr k _ hv)
                have hc := (hb.cell (p := ⟨b, off + k, none⟩) hbl).trans (hr k _ hv)
                clear hv
                have HTK : Hid (X ++ bs.take (k + 1) = (X ++ bs.take k) ++ [bs[k]]) := show _ = _ by rw [List.take_succ_eq_append_getElem hlt, List.append_assoc]
                have HK1 : Hid ((X ++ bs.take k).length < 1099511627776) := show _ < _ by rw [List.length_append, HXL.out, List.length_take]; omega
                generalize bs[k] = x at hc HTK
                generalize X ++ bs.take k = Y at ho HTK HK1 ⊢
                have HO := Lib.hid ho; clear ho
                have HB := Lib.hid hb; clear hb hr hbl
                go_wp2_with (at_builtin; refine wpList_append_byte rfl (.tmp 61) (.tmp 66) rfl w.heap.size _ Y x rfl HO.out rfl HK1.out (by omega) ?_; intro v' w' ho' hb'; rw [← HTK.out] at ho'; have HO' := Lib.hid ho'; have HB' := Lib.hid (HB.out.trans hb'); clear ho' hb')
                go_roundw
                case rel => exact ⟨k + 1, by omega, by go_num, HO'.out, HB'.out⟩
                case measure => simp [intOf]; omega
              · have HO := Lib.hid ho; clear ho
                have HB := Lib.hid hb; clear hb
                go_wp2_with fail
                go_ret
                refine ⟨_, rfl, ?_, HB.out⟩
                have h1 := HO.out
                rw [List.take_of_length_le (by omega)] at h1
                rw [HX.out]
                exact h1
end Go.Proofs.YtgeacocdnenhdaaDoor

/-
  The contracts of the law's own begins (where it holds) and known: the published code, by the kernel's own reckoning.
-/
namespace Go.Proofs.YtgeacocdnenhdaaDoor
open Go.RowKit Go.Proofs.ShaWords
attribute [local go_sem] add32 wrap32_n8 shl32_8 shl32_16 shl32_24

end Go.Proofs.YtgeacocdnenhdaaDoor

/-
  The contract of the law's own known: a published code; it returns true, and nothing that was there changes.
-/
namespace Go.Proofs.YtgeacocdnenhdaaDoor
open Go.RowKit Go.Proofs.ShaWords
attribute [local irreducible] macOf
end Go.Proofs.YtgeacocdnenhdaaDoor

/-
  What the walks of the laws MacKeys and MacCodes share: codes under equal blocks; what they hold in memory.
-/
namespace Go.Proofs.YtgeacocdnenhdaaDoor
open Go.RowKit Go.Proofs.ShaWords

end Go.Proofs.YtgeacocdnenhdaaDoor

/-
  The document's answer for layer 2: Of and Chain are what the code's are.
-/
namespace Go.Proofs.YtgeacocdnenhdaaDoor
open Go.RowKit Go.Proofs.ShaWords

theorem turned_at (z : Int) (n m : Nat) (key bs : List (BitVec 8)) (pd : BitVec 8) (p q : Option Addr) (ck cb : Nat) (w : World) (hz : n8 pd = z) (hkn : key.length = n) (hbm : bs.length = m) (hrk : Lies w p key) (hrb : Lies w q bs) (hnk : n < 100000) (hnb : m < 100000) :
    Calls Tryd.prog 168 #[.slice p n ck, .int .u8 z, .slice q m cb] w fun e w' => ∃ v, e = .returned v ∧ Own w.heap.size w' (xorAll (blockK key) pd ++ bs) v ∧ Below w.heap.size w w' := by
  subst hz; subst hkn; subst hbm
  exact turned_ref key bs pd p q ck cb w hrk hrb hnk hnb
theorem turned_inner (key bs : List (BitVec 8)) (p q : Option Addr) (ck cb : Nat) (w : World) (hrk : Lies w p key) (hrb : Lies w q bs) (hnk : key.length < 100000) (hnb : bs.length < 10000) :
    Calls Tryd.prog 168 #[.slice p key.length ck, .int .u8 54, .slice q bs.length cb] w fun e w' => ∃ l p' c', e = .returned (.slice p' l.length c') ∧ shaOf l = innerOf key bs ∧ l.length < 100000 ∧ Lies w' p' l ∧ Below w.heap.size w w' :=
  (turned_at 54 _ _ key bs 0x36#8 p q ck cb w rfl rfl rfl hrk hrb hnk (by omega)).mono (by
    rintro e w' ⟨v, rfl, ho, hb⟩
    obtain ⟨p', c', rfl, _, _, hl⟩ := ho.lies
    exact ⟨_, p', c', rfl, rfl, by rw [List.length_append, xorAll_length, blockK_length]; omega, hl, hb⟩)
theorem turned_outer (key bs : List (BitVec 8)) (p : Option Addr) (ck g : Nat) (w : World) (hrk : Lies w p key) (hr : w.rangeAt g 0 (bytesV (innerOf key bs))) (hnk : key.length < 100000) :
    Calls Tryd.prog 168 #[.slice p key.length ck, .int .u8 92, .slice (some ⟨g, 0, none⟩) 32 32] w fun e w' => ∃ l p' c', e = .returned (.slice p' l.length c') ∧ shaOf l = macOf key bs ∧ l.length < 100000 ∧ Lies w' p' l ∧ Below w.heap.size w w' :=
  (turned_at 92 _ 32 key (innerOf key bs) 0x5c#8 p (some ⟨g, 0, none⟩) ck 32 w rfl rfl (innerOf_length _ _) hrk (Or.inr ⟨g, 0, rfl, hr⟩) hnk (by omega)).mono (by
    rintro e w' ⟨v, rfl, ho, hb⟩
    obtain ⟨p', c', rfl, _, _, hl⟩ := ho.lies
    exact ⟨_, p', c', rfl, rfl, by rw [List.length_append, xorAll_length, blockK_length, innerOf_length]; omega, hl, hb⟩)
theorem refSum_eq (X l : List (BitVec 8)) (p : Option Addr) (cap : Nat) (w : World) (hX : shaOf l = X) (hl : l.length < 1000000) (hL : Lies w p l) :
    Calls Tryd.prog 167 #[.slice p l.length cap] w fun e w' => e = .returned (.agg (bytesV X).toArray) ∧ Below w.heap.size w w' := by
  subst hX; exact refSum_any l p cap w hl hL

attribute [local irreducible] shaOf blockK xorAll innerOf macOf
set_option maxRecDepth 100000 in
set_option maxHeartbeats 1000000 in
theorem refOf_any (key bs : List (BitVec 8)) (p q : Option Addr) (ck cb : Nat) (w : World) (hrk : Lies w p key) (hrb : Lies w q bs) (hnk : key.length < 10000) (hnb : bs.length < 10000) :
    Calls Tryd.prog 110 #[.slice p key.length ck, .slice q bs.length cb] w fun e w' => e = .returned (.agg (bytesV (macOf key bs)).toArray) ∧ Below w.heap.size w w' := by
  have HRK := Lib.hid hrk; clear hrk
  have HRB := Lib.hid hrb; clear hrb
  have HIN := Lib.hid (innerOf_length key bs)
  have HI32 := Lib.hid (info32 _ HIN.out)
  have HO32 := Lib.hid (show (bytesV (noughts 32)).toArray.size = (bytesV (innerOf key bs)).toArray.size by rw [bytesV_size _ 32 HIN.out, bytesV_size _ 32 (noughts_length 32)])
  have HW32 := Lib.hid (bytesV_one (innerOf key bs))
  go_enter Tryd.func110, Tryd.ntmps110
  go_wp2_with fail
  refine calls_gen (fun w0 => BytesAt w0 w.heap.size 48 (noughts 32) ∧ Below w.heap.size w w0) ⟨by show _ = some (Obj.cells (bytesV (List.replicate 32 0#8)).toArray _ _); rw [noughts32]; exact heap_alloc_new w _, (Below.refl _ _).alloc (Nat.le_refl _) _⟩ ?_
  rintro w0 ⟨hz0, bel0⟩
  have sz0 := hz0.size
  refine (turned_inner key bs p q ck cb w0 (HRK.out.below bel0) (HRB.out.below bel0) (by omega) hnb).mono ?_
  rintro e w1 ⟨l1, p1, c1, rfl, he1, hn1, hl1, hb1⟩
  have HB1 := Lib.hid (bel0.trans (hb1.mono (by omega)))
  have HZ1 := Lib.hid (hz0.keep hb1)
  have HE1 := Lib.hid he1
  have HL1 := Lib.hid hl1
  have sz1 := HZ1.out.size
  clear hz0 bel0 hb1 he1 hl1
  go_wp2_with fail
  refine (refSum_eq (innerOf key bs) l1 p1 c1 w1 HE1.out (by omega) HL1.out).mono ?_
  rintro e w2 ⟨rfl, hb2⟩
  have HB2 := Lib.hid (HB1.out.trans (hb2.mono (by omega)))
  have HZ2 := Lib.hid (HZ1.out.keep hb2)
  have sz2 := HZ2.out.size
  clear hb2 HB1 HZ1
  go_wp2_with (refine wpList_store_new rfl 48 (.tmp 5) (.tmp 9) rfl w2.heap.size rfl (bytesV (innerOf key bs)).toArray rfl rfl HI32.out (by rw [← noughts32]; exact HO32.out) HW32.out ?_; intro w4 h4 b4; have HD4 := Lib.hid (show BytesAt w4 w2.heap.size 48 (innerOf key bs) from h4); have HZ4 := Lib.hid (HZ2.out.keep b4); have HB4 := Lib.hid (HB2.out.trans (b4.mono (by omega))); clear h4 b4)
  have sz4 := HD4.out.size
  clear HB2 HZ2 HI32 HO32 HW32
  generalize w2.heap.size = D at sz2 sz4 HD4 ⊢
  refine (turned_outer key bs p ck D w4 (HRK.out.below HB4.out) HD4.out.range (by omega)).mono ?_
  rintro e w5 ⟨l5, p5, c5, rfl, he5, hn5, hl5, hb5⟩
  have HB5 := Lib.hid (HB4.out.trans (hb5.mono (by omega)))
  have HZ5 := Lib.hid (HZ4.out.keep hb5)
  have HE5 := Lib.hid he5
  have HL5 := Lib.hid hl5
  have sz5 := HZ5.out.size
  clear hb5 he5 hl5 HB4 HZ4
  go_wp2_with fail
  refine (refSum_eq (macOf key bs) l5 p5 c5 w5 HE5.out (by omega) HL5.out).mono ?_
  rintro e w3 ⟨rfl, hb3⟩
  have HB3 := Lib.hid (HB5.out.trans (hb3.mono (by omega)))
  have HZ3 := Lib.hid (HZ5.out.keep hb3)
  clear hb3 HB5 HZ5
  have HML := Lib.hid (macOf_length key bs)
  have HI := Lib.hid (info32 _ HML.out)
  have HOLD := Lib.hid (show (bytesV (noughts 32)).toArray.size = (bytesV (macOf key bs)).toArray.size by rw [bytesV_size _ 32 HML.out, bytesV_size _ 32 (noughts_length 32)])
  have HONE := Lib.hid (bytesV_one (macOf key bs))
  generalize hfe : (bytesV (macOf key bs)).toArray = full at HI HOLD HONE ⊢
  have HFE := Lib.hid hfe; clear hfe
  go_wp2_with (refine wpList_store_row rfl 48 (.tmp 4) (.tmp 13) rfl w.heap.size full rfl rfl 48 _ HZ3.out HI.out HOLD.out HONE.out ?_)
  have hrow := setRow_heap w3 w.heap.size _ full 48 _ HZ3.out
  have hbel := below_setRow HB3.out (Nat.le_refl w.heap.size) full
  generalize w3.setRow w.heap.size full = wz at hrow hbel ⊢
  have hres : ∀ tmps : Array Value, tmps.getD 4 undef = .pointer (some ⟨w.heap.size, 0, none⟩) → Sem.run Tryd.prog (results Tryd.f110 tmps) wz = .ok (.agg full) wz := fun tmps h =>
    results_cell_row (P := Tryd.prog) (p := 4) (ty := 48) Tryd.results110 tmps wz w.heap.size 48 full (0, 0) (TypeDesc.array 32 5) h hrow Tryd.underlying48 rfl HI.out
  exact bodyPost_ret (v := .agg full) (hres _ rfl) rfl ⟨by rw [HFE.out], hbel⟩
theorem refOf_len (n m : Nat) (key bs : List (BitVec 8)) (p q : Option Addr) (ck cb : Nat) (w : World) (hkn : key.length = n) (hbm : bs.length = m) (hrk : Lies w p key) (hrb : Lies w q bs) (hnk : n < 10000) (hnb : m < 10000) :
    Calls Tryd.prog 110 #[.slice p n ck, .slice q m cb] w fun e w' => e = .returned (.agg (bytesV (macOf key bs)).toArray) ∧ Below w.heap.size w w' := by
  subst hkn; subst hbm; exact refOf_any key bs p q ck cb w hrk hrb hnk hnb
set_option maxRecDepth 100000 in
set_option maxHeartbeats 1000000 in
theorem refChain_any (s bs : List (BitVec 8)) (q : Option Addr) (cb : Nat) (w : World) (hsl : s.length = 32) (hrb : Lies w q bs) (hnb : bs.length < 10000) :
    Calls Tryd.prog 105 #[.agg (bytesV s).toArray, .slice q bs.length cb] w fun e w' => e = .returned (.agg (bytesV (macOf s bs)).toArray) ∧ Below w.heap.size w w' := by
  have HRB := Lib.hid hrb; clear hrb
  have HSL := Lib.hid hsl; clear hsl
  have HIN := Lib.hid (macOf_length s bs)
  have HI := Lib.hid (info32 _ HIN.out)
  have HOLD := Lib.hid (show (bytesV (noughts 32)).toArray.size = (bytesV (macOf s bs)).toArray.size by rw [bytesV_size _ 32 HIN.out, bytesV_size _ 32 (noughts_length 32)])
  have HONE := Lib.hid (bytesV_one (macOf s bs))
  go_enter Tryd.func105, Tryd.ntmps105
  go_wp2_with fail
  refine calls_gen (fun w0 => BytesAt w0 w.heap.size 48 s ∧ BytesAt w0 (w.heap.size + 1) 48 (noughts 32) ∧ Below w.heap.size w w0) ⟨?_, ?_, ((Below.refl _ _).alloc (Nat.le_refl _) _).alloc (by rw [size_alloc]; omega) _⟩ ?_
  · exact BytesAt.keep (w := w.alloc _) (heap_alloc_new w _) ((Below.refl _ _).alloc (Nat.le_refl _) _)
  · show _ = some (Obj.cells (bytesV (List.replicate 32 0#8)).toArray _ _)
    rw [noughts32]; exact heap_new_at (size_alloc _ _)
  rintro w0 ⟨hb0, hz0, bel0⟩
  have sz0 := hz0.size
  refine (refOf_len 32 bs.length s bs _ q 32 cb w0 HSL.out rfl (Or.inr ⟨w.heap.size, 0, rfl, hb0.range⟩) (HRB.out.below bel0) (by omega) hnb).mono ?_
  rintro e w3 ⟨rfl, hb3⟩
  have HB3 := Lib.hid (bel0.trans (hb3.mono (by omega)))
  have HZ3 := Lib.hid (hz0.keep hb3)
  clear hb0 hz0 bel0 hb3
  generalize hfe : (bytesV (macOf s bs)).toArray = full at HI HOLD HONE ⊢
  have HFE := Lib.hid hfe; clear hfe
  go_wp2_with (refine wpList_store_row rfl 48 (.tmp 4) (.tmp 7) rfl (w.heap.size + 1) full rfl rfl 48 _ HZ3.out HI.out HOLD.out HONE.out ?_)
  have hrow := setRow_heap w3 (w.heap.size + 1) _ full 48 _ HZ3.out
  have hbel := below_setRow HB3.out (show w.heap.size ≤ w.heap.size + 1 by omega) full
  generalize w3.setRow (w.heap.size + 1) full = wz at hrow hbel ⊢
  have hres : ∀ tmps : Array Value, tmps.getD 4 undef = .pointer (some ⟨w.heap.size + 1, 0, none⟩) → Sem.run Tryd.prog (results Tryd.f105 tmps) wz = .ok (.agg full) wz := fun tmps h =>
    results_cell_row (P := Tryd.prog) (p := 4) (ty := 48) Tryd.results105 tmps wz (w.heap.size + 1) 48 full (0, 0) (TypeDesc.array 32 5) h hrow Tryd.underlying48 rfl HI.out
  exact bodyPost_ret (v := .agg full) (hres _ rfl) rfl ⟨by rw [HFE.out], hbel⟩
end Go.Proofs.YtgeacocdnenhdaaDoor
