/-
  What other texts lean on: FrModel, FrPure, FrSum, FrWord, FrPut, FrOps, FrGet, FrList, FrIx, FrWorks, FrFrames, FrRun, FrScan, FrIn.
-/
import Derived.Test.YtoidjapenompiaaDoorPkA
import Derived.Test.YtoidjapenompiaaDoorPkC
import Derived.Test.YtoidjapenompiaaDoorPkZ
import Derived.Deep.Cut
import Derived.OwnWalkIn
/-
  The checksum of frames as a function of lists of bytes: bit by bit, half a byte at a time, that it is linear; and that bits that are turned side by side are found.
-/
namespace Go.Proofs.YtoidjapenompiaaDoor
open Go.Proofs.ShaWords

def poly32 : BitVec 32 := 0xEDB88320#32
def pk (b : Bool) : BitVec 32 := if b then poly32 else 0#32
def bit1 (r : BitVec 32) : BitVec 32 := (r >>> 1) ^^^ pk (r.getLsbD 0)
def bitN : Nat → BitVec 32 → BitVec 32
  | 0, r => r
  | k + 1, r => bitN k (bit1 r)
def eat (r : BitVec 32) (b : BitVec 8) : BitVec 32 := bitN 8 (r ^^^ ext b)
def crcR (r : BitVec 32) (l : List (BitVec 8)) : BitVec 32 := l.foldl eat r
/-- The checksum. -/
def crcOf (l : List (BitVec 8)) : BitVec 32 := ~~~ crcR (~~~ 0#32) l

theorem xor_swap (a b c d : BitVec 32) : (a ^^^ b) ^^^ (c ^^^ d) = (a ^^^ c) ^^^ (b ^^^ d) := by
  rw [BitVec.xor_assoc, BitVec.xor_assoc]
  congr 1
  rw [← BitVec.xor_assoc, ← BitVec.xor_assoc, BitVec.xor_comm b c]
theorem pk_xor (a b : Bool) : pk (a ^^ b) = pk a ^^^ pk b := by cases a <;> cases b <;> decide
theorem bit1_xor (r s : BitVec 32) : bit1 (r ^^^ s) = bit1 r ^^^ bit1 s := by
  unfold bit1
  rw [BitVec.ushiftRight_xor_distrib, BitVec.getLsbD_xor, pk_xor, xor_swap]
theorem bitN_xor : ∀ (k : Nat) (r s : BitVec 32), bitN k (r ^^^ s) = bitN k r ^^^ bitN k s
  | 0, _, _ => rfl
  | k + 1, r, s => by rw [bitN, bit1_xor, bitN_xor k]; rfl
theorem bitN_add : ∀ (a b : Nat) (r : BitVec 32), bitN (a + b) r = bitN b (bitN a r)
  | 0, b, r => by rw [Nat.zero_add]; rfl
  | a + 1, b, r => by rw [Nat.add_right_comm, bitN, bitN_add a b]; rfl
theorem crcR_append (r : BitVec 32) (a b : List (BitVec 8)) : crcR r (a ++ b) = crcR (crcR r a) b := by
  unfold crcR; rw [List.foldl_append]
/-- Half a byte at a time. -/
def remT : List (BitVec 32) := [0x00000000#32, 0x1DB71064#32, 0x3B6E20C8#32, 0x26D930AC#32, 0x76DC4190#32, 0x6B6B51F4#32, 0x4DB26158#32, 0x5005713C#32,
  0xEDB88320#32, 0xF00F9344#32, 0xD6D6A3E8#32, 0xCB61B38C#32, 0x9B64C2B0#32, 0x86D3D2D4#32, 0xA00AE278#32, 0xBDBDF21C#32]
def nib (r : BitVec 32) : BitVec 32 := (r >>> 4) ^^^ remT.getD (r &&& 15#32).toNat 0#32
theorem rem_bits : ∀ n : Fin 16, bitN 4 (BitVec.ofNat 32 n.val) = remT.getD n.val 0#32 := by decide
theorem bit1_even {r : BitVec 32} (h : r.getLsbD 0 = false) : bit1 r = r >>> 1 := by
  unfold bit1; rw [h]; exact BitVec.xor_zero
theorem bitN4_high (r : BitVec 32) : bitN 4 (r &&& ~~~ 15#32) = r >>> 4 := by
  have hb : ∀ k, k < 4 → (r &&& ~~~ 15#32).getLsbD k = false := fun k hk => by
    rw [BitVec.getLsbD_and, BitVec.getLsbD_not]
    have : (15#32).getLsbD k = true := by
      have h4 : k = 0 ∨ k = 1 ∨ k = 2 ∨ k = 3 := by omega
      rcases h4 with rfl | rfl | rfl | rfl <;> decide
    rw [this]; simp
  generalize hx : r &&& ~~~ 15#32 = x at hb
  have e1 : bit1 x = x >>> 1 := bit1_even (hb 0 (by decide))
  have e2 : bit1 (x >>> 1) = x >>> 2 := by rw [bit1_even (by rw [BitVec.getLsbD_ushiftRight]; exact hb 1 (by decide)), ← BitVec.shiftRight_add]
  have e3 : bit1 (x >>> 2) = x >>> 3 := by rw [bit1_even (by rw [BitVec.getLsbD_ushiftRight]; exact hb 2 (by decide)), ← BitVec.shiftRight_add]
  have e4 : bit1 (x >>> 3) = x >>> 4 := by rw [bit1_even (by rw [BitVec.getLsbD_ushiftRight]; exact hb 3 (by decide)), ← BitVec.shiftRight_add]
  show bit1 (bit1 (bit1 (bit1 x))) = _
  rw [e1, e2, e3, e4, ← hx]
  apply BitVec.eq_of_getLsbD_eq
  intro i hi
  rw [BitVec.getLsbD_ushiftRight, BitVec.getLsbD_ushiftRight, BitVec.getLsbD_and, BitVec.getLsbD_not]
  have : (15#32).getLsbD (4 + i) = false := by
    rw [BitVec.getLsbD, BitVec.toNat_ofNat]
    apply Nat.testBit_lt_two_pow
    exact Nat.lt_of_lt_of_le (by decide : 15 % 2 ^ 32 < 2 ^ 4) (Nat.pow_le_pow_right (by decide) (by omega))
  rw [this]
  by_cases h : 4 + i < 32
  · simp [h]
  · rw [BitVec.getLsbD_of_ge r _ (by omega)]; simp
theorem low_high (r : BitVec 32) : r = (r &&& ~~~ 15#32) ^^^ (r &&& 15#32) := by
  apply BitVec.eq_of_getLsbD_eq
  intro i hi
  simp only [BitVec.getLsbD_xor, BitVec.getLsbD_and, BitVec.getLsbD_not, hi, decide_true, Bool.true_and]
  cases r.getLsbD i <;> cases (15#32).getLsbD i <;> rfl
theorem low_lt (r : BitVec 32) : (r &&& 15#32).toNat < 16 := by
  rw [BitVec.toNat_and, show (15#32).toNat = 2 ^ 4 - 1 from rfl, Nat.and_two_pow_sub_one_eq_mod]
  exact Nat.mod_lt _ (by decide)
theorem bitN4_nib (r : BitVec 32) : bitN 4 r = nib r := by
  have h := rem_bits ⟨(r &&& 15#32).toNat, low_lt r⟩
  simp only at h
  rw [BitVec.ofNat_toNat, BitVec.setWidth_eq] at h
  unfold nib
  rw [← h, ← bitN4_high r, ← bitN_xor, ← low_high]
theorem eat_nib (r : BitVec 32) (b : BitVec 8) : eat r b = nib (nib (r ^^^ ext b)) := by
  unfold eat
  rw [show 8 = 4 + 4 from rfl, bitN_add, bitN4_nib, bitN4_nib]
/-- As the document has it: by a remainder and a quotient. -/
theorem mod2_32 (r : BitVec 32) : n32 r % 2 = if r.getLsbD 0 then 1 else 0 := by
  unfold n32
  rw [BitVec.getLsbD, Nat.testBit_zero]
  by_cases h : r.toNat % 2 = 1
  · rw [decide_eq_true h, if_pos rfl]; omega
  · rw [decide_eq_false h, if_neg (by decide)]; omega
theorem bit1_on {r : BitVec 32} (h : r.getLsbD 0 = true) : bit1 r = (r >>> 1) ^^^ 0xEDB88320#32 := by unfold bit1; rw [h]; rfl

theorem bitN_succ : ∀ (k : Nat) (r : BitVec 32), bitN (k + 1) r = bit1 (bitN k r)
  | 0, _ => rfl
  | k + 1, r => bitN_succ k (bit1 r)
end Go.Proofs.YtoidjapenompiaaDoor

/-
  Frames as lists of bytes: what is put, what is got, what is scanned; that what is got is what was put, and in one form alone; that bits that are turned side by side are found.
-/
namespace Go.Proofs.YtoidjapenompiaaDoor
open Go.Proofs.ShaWords

def be4 (x : BitVec 32) : List (BitVec 8) := [lo8 (x >>> 24), lo8 (x >>> 16), lo8 (x >>> 8), lo8 x]
def w4 (l : List (BitVec 8)) : BitVec 32 := ext (l.getD 0 0#8) <<< 24 ||| ext (l.getD 1 0#8) <<< 16 ||| ext (l.getD 2 0#8) <<< 8 ||| ext (l.getD 3 0#8)
theorem be4_length (x : BitVec 32) : (be4 x).length = 4 := rfl
theorem ext_bit (b : BitVec 8) (i : Nat) : (ext b).getLsbD i = b.getLsbD i := by
  unfold ext
  rw [BitVec.getLsbD_setWidth]
  by_cases h : i < 32
  · simp [h]
  · rw [BitVec.getLsbD_of_ge b i (by omega)]; simp
theorem lo8_bit (x : BitVec 32) (i : Nat) : (lo8 x).getLsbD i = (decide (i < 8) && x.getLsbD i) := by unfold lo8; rw [BitVec.getLsbD_setWidth]
theorem w4_be4 (x : BitVec 32) (r : List (BitVec 8)) : w4 (be4 x ++ r) = x := by
  show ext (lo8 (x >>> 24)) <<< 24 ||| ext (lo8 (x >>> 16)) <<< 16 ||| ext (lo8 (x >>> 8)) <<< 8 ||| ext (lo8 x) = x
  apply BitVec.eq_of_getLsbD_eq
  intro i hi
  simp only [BitVec.getLsbD_or, BitVec.getLsbD_shiftLeft, ext_bit, lo8_bit, BitVec.getLsbD_ushiftRight, hi, decide_true, Bool.true_and]
  by_cases h1 : i < 8
  · have a : i < 24 := by omega
    have b : i < 16 := by omega
    simp [h1, a, b]
  · by_cases h2 : i < 16
    · have a : i < 24 := by omega
      have c : i - 8 < 8 := by omega
      have e : 8 + (i - 8) = i := by omega
      simp [h1, h2, a, c, e]
    · by_cases h3 : i < 24
      · have c : i - 16 < 8 := by omega
        have d : ¬ i - 8 < 8 := by omega
        have e : 16 + (i - 16) = i := by omega
        simp [h1, h2, h3, c, d, e]
      · have c : ¬ i - 16 < 8 := by omega
        have d : ¬ i - 8 < 8 := by omega
        have f : i - 24 < 8 := by omega
        have e : 24 + (i - 24) = i := by omega
        simp [h1, h2, h3, c, d, f, e]
/-- A frame's bytes ahead of the sum, and all of them. -/
def headF (k : BitVec 8) (l : List (BitVec 8)) : List (BitVec 8) := k :: (be4 (BitVec.ofNat 32 l.length) ++ l)
def frameB (k : BitVec 8) (l : List (BitVec 8)) : List (BitVec 8) := headF k l ++ be4 (crcOf (headF k l))
theorem headF_length (k : BitVec 8) (l : List (BitVec 8)) : (headF k l).length = l.length + 5 := by
  unfold headF
  rw [List.length_cons, List.length_append, be4_length]; omega
theorem frameB_length (k : BitVec 8) (l : List (BitVec 8)) : (frameB k l).length = l.length + 9 := by
  unfold frameB
  rw [List.length_append, headF_length, be4_length]
/-- What is got: the length that is told, the error, the frame. -/
def len4 (b : List (BitVec 8)) : Nat := (w4 (b.drop 1)).toNat
def getE (b : List (BitVec 8)) : Nat :=
  if b.length < 5 then 4 else if b.getD 0 0#8 = 0#8 then 2 else if 2039 < len4 b then 5 else if b.length < len4 b + 9 then 4
  else if w4 (b.drop (len4 b + 5)) = crcOf (b.take (len4 b + 5)) then 0 else 6
def getB (b : List (BitVec 8)) : List (BitVec 8) := (b.drop 5).take (len4 b)
theorem len4_head (k : BitVec 8) (l r : List (BitVec 8)) (hl : l.length < 4294967296) : len4 (headF k l ++ r) = l.length := by
  unfold len4 headF
  rw [List.cons_append, List.drop_succ_cons, List.drop_zero, List.append_assoc, w4_be4, BitVec.toNat_ofNat]
  omega
theorem getB_head (k : BitVec 8) (l r : List (BitVec 8)) (hl : l.length < 4294967296) : getB (headF k l ++ r) = l := by
  unfold getB
  rw [len4_head k l r hl]
  unfold headF
  rw [List.cons_append, List.drop_succ_cons, List.append_assoc, List.drop_append_of_le_length (by rw [be4_length]; omega), show (be4 (BitVec.ofNat 32 l.length)).drop 4 = [] from rfl, List.nil_append, List.take_append_of_le_length (Nat.le_refl _), List.take_length]
/-- What was put is got again, whatever stands behind it. -/
theorem getE_frame (k : BitVec 8) (l r : List (BitVec 8)) (hk : k ≠ 0#8) (hl : l.length ≤ 2039) : getE (frameB k l ++ r) = 0 := by
  have e : frameB k l ++ r = headF k l ++ (be4 (crcOf (headF k l)) ++ r) := by unfold frameB; rw [List.append_assoc]
  have e1 : len4 (frameB k l ++ r) = l.length := by rw [e]; exact len4_head _ _ _ (by omega)
  have e2 : (frameB k l ++ r).length = l.length + 9 + r.length := by rw [List.length_append, frameB_length]
  have e3 : (frameB k l ++ r).getD 0 0#8 = k := by rw [e]; rfl
  unfold getE
  rw [e1, e2, e3, if_neg (by omega), if_neg hk, if_neg (by omega), if_neg (by omega), if_pos ?_]
  rw [e, ← headF_length k l, List.drop_append_of_le_length (Nat.le_refl _), List.drop_length, List.nil_append, w4_be4, List.take_append_of_le_length (Nat.le_refl _), List.take_length]
theorem getB_frame (k : BitVec 8) (l r : List (BitVec 8)) (hl : l.length ≤ 2039) : getB (frameB k l ++ r) = l ∧ len4 (frameB k l ++ r) = l.length ∧ (frameB k l ++ r).getD 0 0#8 = k := by
  have e : frameB k l ++ r = headF k l ++ (be4 (crcOf (headF k l)) ++ r) := by unfold frameB; rw [List.append_assoc]
  rw [e]
  exact ⟨getB_head _ _ _ (by omega), len4_head _ _ _ (by omega), rfl⟩
theorem len4_of {b c : List (BitVec 8)} (h : w4 (b.drop 1) = w4 (c.drop 1)) : len4 b = len4 c := congrArg BitVec.toNat h
/-- Cut short it is too short. -/
theorem getE_cut (k : BitVec 8) (l : List (BitVec 8)) (n : Nat) (hk : k ≠ 0#8) (hl : l.length ≤ 2039) (hn : n < l.length + 9) : getE ((frameB k l).take n) = 4 := by
  have hlen : ((frameB k l).take n).length = n := by rw [List.length_take, frameB_length]; omega
  unfold getE
  rw [hlen]
  by_cases h5 : n < 5
  · rw [if_pos h5]
  have e0 : ((frameB k l).take n).getD 0 0#8 = k := by
    simp only [List.getD]
    rw [List.getElem?_take, if_pos (by omega)]
    rfl
  have e1 : len4 ((frameB k l).take n) = l.length := by
    have h := (getB_frame k l [] hl).2.1
    rw [List.append_nil] at h
    rw [← h]
    refine len4_of ?_
    unfold w4
    simp only [List.getD, List.getElem?_drop, List.getElem?_take]
    rw [if_pos (by omega), if_pos (by omega), if_pos (by omega), if_pos (by omega)]
  rw [if_neg h5, e0, if_neg hk, e1, if_neg (by omega), if_pos hn]

/-- Frames one behind the other. -/
def framesB (fs : List (BitVec 8 × List (BitVec 8))) : List (BitVec 8) := fs.flatMap fun f => frameB f.1 f.2
/-- What is scanned of bytes: these frames, and then what is none. -/
structure ScanOf (b : List (BitVec 8)) (fs : List (BitVec 8 × List (BitVec 8))) (r : List (BitVec 8)) : Prop where
  eq : b = framesB fs ++ r
  ok : ∀ f ∈ fs, f.1 ≠ 0#8 ∧ f.2.length ≤ 2039
  last : getE r ≠ 0
theorem framesB_cons (f : BitVec 8 × List (BitVec 8)) (fs : List (BitVec 8 × List (BitVec 8))) : framesB (f :: fs) = frameB f.1 f.2 ++ framesB fs := by
  unfold framesB; rw [List.flatMap_cons]
theorem framesB_append (a b : List (BitVec 8 × List (BitVec 8))) : framesB (a ++ b) = framesB a ++ framesB b := by
  unfold framesB; rw [List.flatMap_append]
theorem ScanOf.uncons {f : BitVec 8 × List (BitVec 8)} {b : List (BitVec 8)} {fs : List (BitVec 8 × List (BitVec 8))} {r : List (BitVec 8)} (h : ScanOf (frameB f.1 f.2 ++ b) fs r) (hk : f.1 ≠ 0#8) (hl : f.2.length ≤ 2039) : ∃ gs, fs = f :: gs ∧ ScanOf b gs r := by
  cases fs with
  | nil =>
    exfalso
    have h0 := h.eq
    rw [show framesB [] = [] from rfl, List.nil_append] at h0
    exact h.last (h0 ▸ getE_frame f.1 f.2 b hk hl)
  | cons g gs =>
    have hg := h.ok g List.mem_cons_self
    have h0 := h.eq
    rw [framesB_cons, List.append_assoc] at h0
    have a := getB_frame f.1 f.2 b hl
    rw [h0] at a
    have c := getB_frame g.1 g.2 (framesB gs ++ r) hg.2
    have e1 : g.1 = f.1 := c.2.2.symm.trans a.2.2
    have e2 : g.2 = f.2 := c.1.symm.trans a.1
    refine ⟨gs, by rw [show g = f from Prod.ext e1 e2], ?_, fun x hx => h.ok x (List.mem_cons_of_mem _ hx), h.last⟩
    rw [e1, e2] at h0
    exact List.append_cancel_left h0
/-- Of frames those that are laid ahead are scanned first. -/
theorem ScanOf.prefix_ : ∀ (l : List (BitVec 8 × List (BitVec 8))) {b : List (BitVec 8)} {fs : List (BitVec 8 × List (BitVec 8))} {r : List (BitVec 8)}, ScanOf (framesB l ++ b) fs r → (∀ f ∈ l, f.1 ≠ 0#8 ∧ f.2.length ≤ 2039) → ∃ gs, fs = l ++ gs ∧ ScanOf b gs r
  | [], _, fs, _, h, _ => ⟨fs, rfl, by simpa [framesB] using h⟩
  | f :: l, b, fs, r, h, ho => by
    rw [framesB_cons, List.append_assoc] at h
    obtain ⟨gs, rfl, h1⟩ := h.uncons (ho f List.mem_cons_self).1 (ho f List.mem_cons_self).2
    obtain ⟨hs, rfl, h2⟩ := ScanOf.prefix_ l h1 (fun x hx => ho x (List.mem_cons_of_mem _ hx))
    exact ⟨hs, rfl, h2⟩
theorem ScanOf.none {b : List (BitVec 8)} {fs : List (BitVec 8 × List (BitVec 8))} {r : List (BitVec 8)} (h : ScanOf b fs r) (he : getE b ≠ 0) : fs = [] ∧ r = b := by
  cases fs with
  | nil => exact ⟨rfl, by have := h.eq; rw [this]; simp [framesB]⟩
  | cons g gs =>
    exfalso
    have hg := h.ok g List.mem_cons_self
    rw [h.eq, framesB_cons, List.append_assoc] at he
    exact he (getE_frame g.1 g.2 _ hg.1 hg.2)
theorem ScanOf.unique {b : List (BitVec 8)} {fs gs : List (BitVec 8 × List (BitVec 8))} {r s : List (BitVec 8)} (h : ScanOf b fs r) (k : ScanOf b gs s) : fs = gs ∧ r = s := by
  have h1 := h
  rw [k.eq] at h1
  obtain ⟨xs, e, h2⟩ := ScanOf.prefix_ gs h1 k.ok
  obtain ⟨rfl, rfl⟩ := h2.none k.last
  exact ⟨by rw [e, List.append_nil], rfl⟩
/-- Frames that are cut short: those that are whole. -/
theorem scan_cut (fs gs : List (BitVec 8 × List (BitVec 8))) (f : BitVec 8 × List (BitVec 8)) (n : Nat) (ho : ∀ x ∈ fs, x.1 ≠ 0#8 ∧ x.2.length ≤ 2039) (hf : f.1 ≠ 0#8 ∧ f.2.length ≤ 2039) (h1 : (framesB fs).length ≤ n) (h2 : n < (framesB fs).length + (frameB f.1 f.2).length) :
    ScanOf ((framesB (fs ++ f :: gs)).take n) fs ((frameB f.1 f.2).take (n - (framesB fs).length)) := by
  refine ⟨?_, ho, ?_⟩
  · rw [framesB_append, framesB_cons, List.take_append, List.take_of_length_le h1, List.take_append_of_le_length (by omega)]
  · rw [getE_cut f.1 f.2 _ hf.1 hf.2 (by rw [frameB_length] at h2; omega)]
    decide
theorem scan_all (fs : List (BitVec 8 × List (BitVec 8))) (ho : ∀ x ∈ fs, x.1 ≠ 0#8 ∧ x.2.length ≤ 2039) : ScanOf (framesB fs) fs [] := ⟨by rw [List.append_nil], ho, by decide⟩

end Go.Proofs.YtoidjapenompiaaDoor

/-
  The program's checksum: over any bytes that lie anywhere.
-/
namespace Go.Proofs.YtoidjapenompiaaDoor
open Go.RowKit Go.Proofs.ShaWords
/-- The table of half bytes lies in its variable. -/
def Rem (w : World) : Prop := w.rangeAt 0 0 (wordsV remT)
theorem Rem.size {w : World} (h : Rem w) : 0 < w.heap.size := World.block_lt_of_cell? w _ (h 0 (.int .u32 0) rfl)
theorem Rem.below {w w' : World} {B : Nat} (h : Rem w) (hb : Below B w w') (hB : 0 < B) : Rem w' := fun j v hv => (hb.cell (p := ⟨0, 0 + j, none⟩) hB).trans (h j v hv)
theorem Rem.on {w w' : World} (h : Rem w) (hb : Below w.heap.size w w') : Rem w' := h.below hb h.size
theorem Rem.grown {w w' : World} {g : Nat} (h : Rem w) (hb : w.grownBy w' (some g)) (hg : g ≠ 0) : Rem w' := Reads.grown h hb (fun e => hg e.symm)
/-- The lowest half byte, as a place of the table. -/
def low4 (x : BitVec 32) : Nat := (x &&& 15#32).toNat
theorem low4_lt (x : BitVec 32) : low4 x < 16 := low_lt x
theorem nib_low (x : BitVec 32) : nib x = (x >>> 4) ^^^ remT.getD (low4 x) 0#32 := rfl
theorem Rem.at {w : World} (h : Rem w) (m : Nat) (hl : m < 16) : w.cell? ⟨0, m, none⟩ = some (.int .u32 (n32 (remT.getD m 0#32))) := by
  have := h m (.int .u32 (n32 (remT.getD m 0#32))) (by
    have h16 : m < remT.length := hl
    simp only [wordsV, List.getElem?_map, List.getElem?_eq_getElem h16, List.getD, Option.map_some, Option.getD_some])
  rwa [Nat.zero_add] at this
theorem and15 (x : BitVec 32) : bits .and .u32 (n32 x) 15 = (low4 x : Int) := by
  have h := and32 x 15#32
  exact h
theorem shr32_4 (x : BitVec 32) : n32 x / (16 : Int) = n32 (x >>> 4) := shr32 x 4
theorem not32 (x : BitVec 32) : bits .xor .u32 IntKind.u32.max (n32 x) = n32 (~~~ x) := by
  have h := xor32 4294967295#32 x
  rw [show ~~~ x = 4294967295#32 ^^^ x by
    rw [show (4294967295#32 : BitVec 32) = BitVec.allOnes 32 by decide, BitVec.allOnes_xor]]
  exact h
theorem crcR_take {l : List (BitVec 8)} {k : Nat} (h : k < l.length) (r : BitVec 32) : crcR r (l.take (k + 1)) = nib (nib (crcR r (l.take k) ^^^ ext l[k])) := by
  rw [List.take_succ_eq_append_getElem h, crcR_append, ← eat_nib]
  rfl
attribute [local go_sem] xor32 wrap32_n8 shr32_4 and15 not32
set_option maxHeartbeats 400000 in
theorem sum_any (l : List (BitVec 8)) (n : Nat) (p : Option Addr) (c : Nat) (w : World) (hn : l.length = n) (hl : n < 140737488355328) (hL : Lies w p l) (hR : Rem w) :
    Calls Tryd.prog 76 #[.slice p n c] w fun e w' => e = .returned (.int .u32 (n32 (crcOf l))) ∧ w' = w := by
  have HL := Lib.hid hL; clear hL
  have HN := Lib.hid hn; clear hn
  have HR := Lib.hid hR; clear hR
  go_enter Tryd.func76, Tryd.ntmps76
  go_wp2_with fail
  go_loopw [3, 8] (fun r i wr => ∃ k : Nat, k ≤ n ∧ i = .int .i64 k ∧ r = .int .u32 (n32 (crcR (~~~ 0#32) (l.take k))) ∧ wr = w) (fun _ i _ => n - (intOf i).toNat)
  case atStart => exact ⟨0, Nat.zero_le _, rfl, rfl, rfl⟩
  case round =>
    obtain ⟨k, hk, rfl, rfl, rfl⟩ := hrel
    by_cases hlt : k < n
    · have hlt' : k < l.length := by rw [HN.out]; exact hlt
      have hv : (bytesV l)[k]? = some (.int .u8 (n8 l[k])) := by simp [bytesV, hlt']
      rcases HL.out with h0 | ⟨b, off, rfl, hr⟩
      · exfalso; rw [h0] at hlt'; simp at hlt'
      have hc := hr k _ hv
      have HT := Lib.hid (crcR_take hlt' (~~~ 0#32))
      generalize l[k] = x at hc HT
      generalize crcR (~~~ 0#32) (l.take k) = r at HT ⊢
      have HT2 := Lib.hid (nib_low (r ^^^ ext x))
      have hl1 := low4_lt (r ^^^ ext x)
      have hc1 := HR.out.at _ hl1
      generalize remT.getD (low4 (r ^^^ ext x)) 0#32 = y1 at hc1 HT2
      have HT3 := Lib.hid (nib_low (((r ^^^ ext x) >>> 4) ^^^ y1))
      have hl2 := low4_lt (((r ^^^ ext x) >>> 4) ^^^ y1)
      have hc2 := HR.out.at _ hl2
      generalize remT.getD (low4 (((r ^^^ ext x) >>> 4) ^^^ y1)) 0#32 = y2 at hc2 HT3
      clear hr hv hlt'
      have q0 : (k : Int) < (n : Int) := by omega
      go_wp2_with fail
      go_roundw
      case rel =>
        refine ⟨k + 1, by omega, by go_num, ?_, by trivial⟩
        rw [HT.out, HT2.out, HT3.out]
      case measure => simp [intOf]; omega
    · have e : k = n := by omega
      subst e
      go_wp2_with fail
      go_ret
      refine ⟨?_, rfl⟩
      unfold crcOf
      rw [List.take_of_length_le (by rw [HN.out]; exact Nat.le_refl _)]
      rfl
end Go.Proofs.YtoidjapenompiaaDoor

/-
  Four bytes behind others, the highest first; the number of the first four bytes.
-/
namespace Go.Proofs.YtoidjapenompiaaDoor
open Go.RowKit Go.Proofs.ShaWords
attribute [local go_sem] or32 wrap32_n8 wrap8_n32 shr32_8 shr32_16 shr32_24 shl32_8 shl32_16 shl32_24
end Go.Proofs.YtoidjapenompiaaDoor

/-
  What is put: a frame's bytes, in new memory, or the error.
-/
namespace Go.Proofs.YtoidjapenompiaaDoor
open Go.RowKit Go.Proofs.ShaWords
/-- A number as a byte. -/
def kb (z : Int) : BitVec 8 := BitVec.ofInt 8 z
def putV (z : Int) (l : List (BitVec 8)) : List (BitVec 8) := if z < 1 ∨ 255 < z then [] else if 2039 < l.length then [] else frameB (kb z) l
end Go.Proofs.YtoidjapenompiaaDoor

/-
  Single operations about frames: a byte as a number, two words compared, a slice from a place on; a frame as a struct in memory; a function that returns a frame and two numbers.
-/
namespace Go.Proofs.YtoidjapenompiaaDoor
open Go.RowKit Go.Proofs.ShaWords
section
variable {ρ : Operand → Value} {o : Oper} {x y : Operand}
end
def getV (b : List (BitVec 8)) : List (BitVec 8) := if getE b = 0 then getB b else []
end Go.Proofs.YtoidjapenompiaaDoor

/-
  What is got: the frame in front of bytes, and how many it has, or the error.
-/
namespace Go.Proofs.YtoidjapenompiaaDoor
open Go.RowKit Go.Proofs.ShaWords
end Go.Proofs.YtoidjapenompiaaDoor

/-
  Frames one behind the other in memory of one's own: a slice of structs whose second part is a slice of bytes of its own.
-/
namespace Go.Proofs.YtoidjapenompiaaDoor
open Go.RowKit Go.Proofs.ShaWords
abbrev Fr9 : Type := BitVec 8 × List (BitVec 8)
end Go.Proofs.YtoidjapenompiaaDoor

/-
  A frame of a list in memory read: its place, its two parts; bytes from a place on, whatever place they have.
-/
namespace Go.Proofs.YtoidjapenompiaaDoor
open Go.RowKit Go.Proofs.ShaWords
section
variable {ρ : Operand → Value} {o : Oper} {x y : Operand}
/-- Bytes from a place on. -/
theorem run_fromP {p : Option Addr} {n c k : Nat} (hp : 0 < c → ∃ b off, p = some ⟨b, off, none⟩) (hk : k ≤ n) (hn : n ≤ c) :
    ∃ p2, (∀ {ρ : Operand → Value} {o : Oper} {x y : Operand}, o.op = .slice 37 x (some y) none none → ρ x = .slice p n c → ρ y = .int .i64 (k : Int) → ∀ w, (execOp ρ o).run Tryd.prog w = .ok (.value (.slice p2 (n - k) (c - k))) w) ∧
      ∀ (w : World) (l : List (BitVec 8)), l.length = n → Lies w p l → Lies w p2 (l.drop k) := by
  by_cases h0 : c = 0
  · obtain rfl : n = 0 := by omega
    obtain rfl : k = 0 := by omega
    subst h0
    refine ⟨p, fun ho hx hy w => ?_, fun w l _ h => by simpa using h⟩
    cases p with
    | none => exact r_from ho (Nat.le_refl _) (Nat.le_refl _) (Or.inl ⟨rfl, rfl, rfl⟩) hx hy w
    | some a =>
      rename_i ρ o x y
      obtain ⟨dst, op, ty', pos, after, guard⟩ := o
      simp only at ho
      subst ho
      go_simp
  · obtain ⟨b, off, rfl⟩ := hp (by omega)
    by_cases hck : c = k
    · refine ⟨some ⟨b, off, none⟩, fun ho hx hy w => r_from ho hk hn (Or.inr ⟨b, off, rfl, by rw [if_pos hck]⟩) hx hy w, fun w l hl h => Or.inl ?_⟩
      rw [show k = l.length by omega, List.drop_length]
    · refine ⟨some ⟨b, off + k, none⟩, fun ho hx hy w => r_from ho hk hn (Or.inr ⟨b, off, rfl, by rw [if_neg hck]⟩) hx hy w, fun w l hl h => ?_⟩
      rcases h with h1 | ⟨b', off', e, hr⟩
      · exact Or.inl (by rw [h1]; simp)
      · cases e
        exact Or.inr ⟨b, off + k, rfl, range_drop hr⟩
end
end Go.Proofs.YtoidjapenompiaaDoor

/-
  What each statement of layer 9 asks: the published sum; a frame, and back.
-/
namespace Go.Proofs.YtoidjapenompiaaDoor
open Go.RowKit Go.Proofs.ShaWords
end Go.Proofs.YtoidjapenompiaaDoor

/-
  The program's iterator over frames: to every caller it gives the frames that are scanned, each with how many bytes it has.
-/
namespace Go.Proofs.YtoidjapenompiaaDoor
open Go.RowKit Go.Proofs.ShaWords
attribute [local go_sem] Oper.semAt_some
/-- What is left behind so many frames. -/
def restF (fs : List Fr9) (r : List (BitVec 8)) (k : Nat) : List (BitVec 8) := framesB (fs.drop k) ++ r
/-- The iterator between two rounds: its place. -/
structure FrW (U : Nat → Prop) (J : Nat → World → Prop) (fs : List Fr9) (r : List (BitVec 8)) (X : World) (g : Nat) (W : World) (k : Nat) (wr : World) : Prop where
  inv : J k wr
  spares : Spares U W wr
  below : Below X.heap.size X wr
  box : ∃ p n c, wr.heap[g]? = some (.cells #[.slice p n c] 37 (0, 0)) ∧ (restF fs r k).length = n ∧ n ≤ c ∧ n < 140737488355000 ∧ Lies X p (restF fs r k)
end Go.Proofs.YtoidjapenompiaaDoor

/-
  Steps within a round about frames: a frame loaded, a slice of one frame, one more frame behind a slice.
-/
namespace Go.Proofs.YtoidjapenompiaaDoor
open Go.RowKit Go.Proofs.ShaWords
section
variable {F : Fence} {n : Nat} {ops : Array Oper} {rest : List Oper} {o : Oper} {a : Act} {w w' : World} {Q : Exit → Act → World → Prop}
end
end Go.Proofs.YtoidjapenompiaaDoor

/-
  The program's Scan: the frames in front of bytes, in new memory, and how many bytes they have.
-/
namespace Go.Proofs.YtoidjapenompiaaDoor
open Go.RowKit Go.Proofs.ShaWords
attribute [local go_sem] Oper.semAt_some
theorem Spares.stays {T : Nat → Prop} {a b : World} (h : Spares T a b) : Stays T a b := ⟨h.os, h.tape, h.output, h.size, h.block⟩
end Go.Proofs.YtoidjapenompiaaDoor

/-
  Frames that came in, opened; the kit's Pick as a function.
-/
namespace Go.Proofs.YtoidjapenompiaaDoor
open Go.ChangeShapes Go.WideShapes Go.ChangeAt Go.RowKit Go.Proofs.ShaWords Go.Deep
/-- A frame that came in. -/
structure In9 where
  z : Int
  p : Option Addr
  c : Nat
  b : List (BitVec 8)
instance : Inhabited In9 := ⟨⟨0, none, 0, []⟩⟩
def In9.cells (x : In9) : List Value := [.int .i64 x.z, .slice x.p x.b.length x.c]
structure In9.Ok (W : World) (x : In9) : Prop where
  cap : x.b.length ≤ x.c
  lies : Lies W x.p x.b
/-- The kit's Pick. -/
def pickZ (v n : Int) : Nat := (if v.tmod n < 0 then v.tmod n + n else v.tmod n).toNat
end Go.Proofs.YtoidjapenompiaaDoor
