/-
  What other texts lean on: FrModel, FrPure, FrSum, FrWord, FrPut, FrOps, FrGet, FrList, FrIx, FrWorks, FrFrames, FrRun, FrScan, FrIn.
-/
import Derived.Test.YtdkoomcmkfnfkaaDoorPkA
import Derived.Test.YtdkoomcmkfnfkaaDoorPkC
import Derived.Test.YtdkoomcmkfnfkaaDoorPkZ
import Derived.Deep.Cut
import Derived.OwnWalkIn
/-
  The checksum of frames as a function of lists of bytes: bit by bit, half a byte at a time, that it is linear; and that bits that are turned side by side are found.
-/
namespace Go.Proofs.YtdkoomcmkfnfkaaDoor
open Go.Proofs.ShaWords

def poly32 : BitVec 32 := 0xEDB88320#32
def pk (b : Bool) : BitVec 32 := if b then poly32 else 0#32
def bit1 (r : BitVec 32) : BitVec 32 := (r >>> 1) ^^^ pk (r.getLsbD 0)
def bitN : Nat → BitVec 32 → BitVec 32
  | 0, r => r
  | k + 1, r => bitN k (bit1 r)
def eat (r : BitVec 32) (b : BitVec 8) : BitVec 32 := bitN 8 (r ^^^ ext b)
def crcR (r : BitVec 32) (l : List (BitVec 8)) : BitVec 32 := l.foldl eat r
/-- The checksum. -/
def crcOf (l : List (BitVec 8)) : BitVec 32 := ~~~ crcR (~~~ 0#32) l

theorem xor_swap (a b c d : BitVec 32) : (a ^^^ b) ^^^ (c ^^^ d) = (a ^^^ c) ^^^ (b ^^^ d) := by
  rw [BitVec.xor_assoc, BitVec.xor_assoc]
  congr 1
  rw [← BitVec.xor_assoc, ← BitVec.xor_assoc, BitVec.xor_comm b c]
theorem pk_xor (a b : Bool) : pk (a ^^ b) = pk a ^^^ pk b := by cases a <;> cases b <;> decide
theorem bit1_xor (r s : BitVec 32) : bit1 (r ^^^ s) = bit1 r ^^^ bit1 s := by
  unfold bit1
  rw [BitVec.ushiftRight_xor_distrib, BitVec.getLsbD_xor, pk_xor, xor_swap]
theorem bit1_zero : bit1 0#32 = 0#32 := by decide
theorem bitN_xor : ∀ (k : Nat) (r s : BitVec 32), bitN k (r ^^^ s) = bitN k r ^^^ bitN k s
  | 0, _, _ => rfl
  | k + 1, r, s => by rw [bitN, bit1_xor, bitN_xor k]; rfl
theorem bitN_zero : ∀ k : Nat, bitN k 0#32 = 0#32
  | 0 => rfl
  | k + 1 => by rw [bitN, bit1_zero, bitN_zero k]
theorem bitN_add : ∀ (a b : Nat) (r : BitVec 32), bitN (a + b) r = bitN b (bitN a r)
  | 0, b, r => by rw [Nat.zero_add]; rfl
  | a + 1, b, r => by rw [Nat.add_right_comm, bitN, bitN_add a b]; rfl
theorem ext_xor (a b : BitVec 8) : ext (a ^^^ b) = ext a ^^^ ext b := by
  unfold ext
  exact BitVec.setWidth_xor
theorem eat_xor (r s : BitVec 32) (a b : BitVec 8) : eat (r ^^^ s) (a ^^^ b) = eat r a ^^^ eat s b := by
  unfold eat
  rw [ext_xor, xor_swap, bitN_xor]
/-- The exclusive or of two lists, place by place. -/
def xorL (a b : List (BitVec 8)) : List (BitVec 8) := List.zipWith (· ^^^ ·) a b
theorem crcR_xor : ∀ (a b : List (BitVec 8)) (r s : BitVec 32), a.length = b.length → crcR (r ^^^ s) (xorL a b) = crcR r a ^^^ crcR s b
  | [], [], r, s, _ => rfl
  | x :: a, y :: b, r, s, h => by
    show crcR (eat (r ^^^ s) (x ^^^ y)) (xorL a b) = crcR (eat r x) a ^^^ crcR (eat s y) b
    rw [eat_xor]
    exact crcR_xor a b _ _ (by simpa using h)
theorem crcR_append (r : BitVec 32) (a b : List (BitVec 8)) : crcR r (a ++ b) = crcR (crcR r a) b := by
  unfold crcR; rw [List.foldl_append]
/-- One bit's step loses nothing. -/
theorem bit1_inj0 {r : BitVec 32} (h : bit1 r = 0#32) : r = 0#32 := by
  unfold bit1 at h
  have h31 : (r >>> 1 ^^^ pk (r.getLsbD 0)).getLsbD 31 = false := by rw [h]; rfl
  cases h0 : r.getLsbD 0 with
  | true =>
    rw [h0, BitVec.getLsbD_xor, BitVec.getLsbD_ushiftRight] at h31
    have e : (pk true).getLsbD 31 = true := by decide
    rw [e, BitVec.getLsbD_of_ge r (1 + 31) (by decide)] at h31
    cases h31
  | false =>
    rw [h0] at h
    have e : pk false = 0#32 := rfl
    rw [e, BitVec.xor_zero] at h
    apply BitVec.eq_of_getLsbD_eq
    intro i hi
    cases i with
    | zero => rw [h0]; rfl
    | succ i =>
      have := congrArg (fun x => x.getLsbD i) h
      simp only [BitVec.getLsbD_ushiftRight] at this
      rw [Nat.add_comm 1 i] at this
      rw [this]; simp
theorem bitN_inj0 : ∀ (k : Nat) {r : BitVec 32}, bitN k r = 0#32 → r = 0#32
  | 0, _, h => h
  | k + 1, _, h => bit1_inj0 (bitN_inj0 k h)
theorem crcR_noughts : ∀ (k : Nat) (r : BitVec 32), crcR r (List.replicate k 0#8) = bitN (8 * k) r
  | 0, r => rfl
  | k + 1, r => by
    rw [List.replicate_succ]
    show crcR (eat r 0#8) (List.replicate k 0#8) = _
    rw [crcR_noughts k, show 8 * (k + 1) = 8 + 8 * k by omega, bitN_add]
    unfold eat
    rw [show ext 0#8 = 0#32 by decide, BitVec.xor_zero]
theorem xorL_self : ∀ a : List (BitVec 8), xorL a a = List.replicate a.length 0#8
  | [] => rfl
  | x :: a => by
    show (x ^^^ x) :: xorL a a = _
    rw [BitVec.xor_self, xorL_self a, List.length_cons, List.replicate_succ]
theorem not_xor_not (a b : BitVec 32) : ~~~ a ^^^ ~~~ b = a ^^^ b := by
  apply BitVec.eq_of_getLsbD_eq
  intro i hi
  simp only [BitVec.getLsbD_xor, BitVec.getLsbD_not, hi, decide_true, Bool.true_and]
  cases a.getLsbD i <;> cases b.getLsbD i <;> rfl
/-- Two lists of a length: the sums' difference is the register of the lists' difference. -/
theorem crcOf_diff {a b : List (BitVec 8)} (h : a.length = b.length) : crcOf a ^^^ crcOf b = crcR 0#32 (xorL a b) := by
  unfold crcOf
  rw [not_xor_not, ← crcR_xor _ _ _ _ h, BitVec.xor_self]
/-- Three rows: the sum of their exclusive or. -/
theorem crcOf_three {a b c : List (BitVec 8)} (h1 : a.length = b.length) (h2 : b.length = c.length) : crcOf (xorL (xorL a b) c) = crcOf a ^^^ crcOf b ^^^ crcOf c := by
  have e1 : (xorL a b).length = a.length := by unfold xorL; rw [List.length_zipWith, ← h1, Nat.min_self]
  have k : crcR (~~~ 0#32) (xorL (xorL a b) c) = crcR (~~~ 0#32) a ^^^ crcR (~~~ 0#32) b ^^^ crcR (~~~ 0#32) c := by
    rw [← crcR_xor a b _ _ h1, ← crcR_xor _ c _ _ (by rw [e1, h1, h2])]
    rfl
  unfold crcOf
  rw [k, not_xor_not]
  generalize crcR (~~~ 0#32) a ^^^ crcR (~~~ 0#32) b = x
  generalize crcR (~~~ 0#32) c = y
  apply BitVec.eq_of_getLsbD_eq
  intro i hi
  simp only [BitVec.getLsbD_xor, BitVec.getLsbD_not, hi, decide_true, Bool.true_and]
  cases x.getLsbD i <;> cases y.getLsbD i <;> rfl

/-- Half a byte at a time. -/
def remT : List (BitVec 32) := [0x00000000#32, 0x1DB71064#32, 0x3B6E20C8#32, 0x26D930AC#32, 0x76DC4190#32, 0x6B6B51F4#32, 0x4DB26158#32, 0x5005713C#32,
  0xEDB88320#32, 0xF00F9344#32, 0xD6D6A3E8#32, 0xCB61B38C#32, 0x9B64C2B0#32, 0x86D3D2D4#32, 0xA00AE278#32, 0xBDBDF21C#32]
def nib (r : BitVec 32) : BitVec 32 := (r >>> 4) ^^^ remT.getD (r &&& 15#32).toNat 0#32
theorem rem_bits : ∀ n : Fin 16, bitN 4 (BitVec.ofNat 32 n.val) = remT.getD n.val 0#32 := by decide
theorem bit1_even {r : BitVec 32} (h : r.getLsbD 0 = false) : bit1 r = r >>> 1 := by
  unfold bit1; rw [h]; exact BitVec.xor_zero
theorem bitN4_high (r : BitVec 32) : bitN 4 (r &&& ~~~ 15#32) = r >>> 4 := by
  have hb : ∀ k, k < 4 → (r &&& ~~~ 15#32).getLsbD k = false := fun k hk => by
    rw [BitVec.getLsbD_and, BitVec.getLsbD_not]
    have : (15#32).getLsbD k = true := by
      have h4 : k = 0 ∨ k = 1 ∨ k = 2 ∨ k = 3 := by omega
      rcases h4 with rfl | rfl | rfl | rfl <;> decide
    rw [this]; simp
  generalize hx : r &&& ~~~ 15#32 = x at hb
  have e1 : bit1 x = x >>> 1 := bit1_even (hb 0 (by decide))
  have e2 : bit1 (x >>> 1) = x >>> 2 := by rw [bit1_even (by rw [BitVec.getLsbD_ushiftRight]; exact hb 1 (by decide)), ← BitVec.shiftRight_add]
  have e3 : bit1 (x >>> 2) = x >>> 3 := by rw [bit1_even (by rw [BitVec.getLsbD_ushiftRight]; exact hb 2 (by decide)), ← BitVec.shiftRight_add]
  have e4 : bit1 (x >>> 3) = x >>> 4 := by rw [bit1_even (by rw [BitVec.getLsbD_ushiftRight]; exact hb 3 (by decide)), ← BitVec.shiftRight_add]
  show bit1 (bit1 (bit1 (bit1 x))) = _
  rw [e1, e2, e3, e4, ← hx]
  apply BitVec.eq_of_getLsbD_eq
  intro i hi
  rw [BitVec.getLsbD_ushiftRight, BitVec.getLsbD_ushiftRight, BitVec.getLsbD_and, BitVec.getLsbD_not]
  have : (15#32).getLsbD (4 + i) = false := by
    rw [BitVec.getLsbD, BitVec.toNat_ofNat]
    apply Nat.testBit_lt_two_pow
    exact Nat.lt_of_lt_of_le (by decide : 15 % 2 ^ 32 < 2 ^ 4) (Nat.pow_le_pow_right (by decide) (by omega))
  rw [this]
  by_cases h : 4 + i < 32
  · simp [h]
  · rw [BitVec.getLsbD_of_ge r _ (by omega)]; simp
theorem low_high (r : BitVec 32) : r = (r &&& ~~~ 15#32) ^^^ (r &&& 15#32) := by
  apply BitVec.eq_of_getLsbD_eq
  intro i hi
  simp only [BitVec.getLsbD_xor, BitVec.getLsbD_and, BitVec.getLsbD_not, hi, decide_true, Bool.true_and]
  cases r.getLsbD i <;> cases (15#32).getLsbD i <;> rfl
theorem low_lt (r : BitVec 32) : (r &&& 15#32).toNat < 16 := by
  rw [BitVec.toNat_and, show (15#32).toNat = 2 ^ 4 - 1 from rfl, Nat.and_two_pow_sub_one_eq_mod]
  exact Nat.mod_lt _ (by decide)
theorem bitN4_nib (r : BitVec 32) : bitN 4 r = nib r := by
  have h := rem_bits ⟨(r &&& 15#32).toNat, low_lt r⟩
  simp only at h
  rw [BitVec.ofNat_toNat, BitVec.setWidth_eq] at h
  unfold nib
  rw [← h, ← bitN4_high r, ← bitN_xor, ← low_high]
theorem eat_nib (r : BitVec 32) (b : BitVec 8) : eat r b = nib (nib (r ^^^ ext b)) := by
  unfold eat
  rw [show 8 = 4 + 4 from rfl, bitN_add, bitN4_nib, bitN4_nib]
/-- As the document has it: by a remainder and a quotient. -/
theorem mod2_32 (r : BitVec 32) : n32 r % 2 = if r.getLsbD 0 then 1 else 0 := by
  unfold n32
  rw [BitVec.getLsbD, Nat.testBit_zero]
  by_cases h : r.toNat % 2 = 1
  · rw [decide_eq_true h, if_pos rfl]; omega
  · rw [decide_eq_false h, if_neg (by decide)]; omega
theorem div2_32 (r : BitVec 32) : n32 r / 2 = n32 (r >>> 1) := shr32 r 1
theorem bit1_on {r : BitVec 32} (h : r.getLsbD 0 = true) : bit1 r = (r >>> 1) ^^^ 0xEDB88320#32 := by unfold bit1; rw [h]; rfl

/-- A list's bits, the lowest of each byte first; the register behind so many of them. -/
def bitOf (l : List (BitVec 8)) (j : Nat) : Bool := (l.getD (j / 8) 0#8).getLsbD (j % 8)
def one1 (b : Bool) : BitVec 32 := if b then 1#32 else 0#32
def regF (f : Nat → Bool) : Nat → BitVec 32
  | 0 => 0#32
  | n + 1 => bit1 (regF f n ^^^ one1 (f n))
theorem bit1_split (x : BitVec 32) : x = one1 (x.getLsbD 0) ^^^ ((x >>> 1) <<< 1) := by
  apply BitVec.eq_of_getLsbD_eq
  intro i hi
  rw [BitVec.getLsbD_xor, BitVec.getLsbD_shiftLeft, BitVec.getLsbD_ushiftRight]
  cases i with
  | zero => cases x.getLsbD 0 <;> simp [one1]
  | succ i =>
    have : (one1 (x.getLsbD 0)).getLsbD (i + 1) = false := by
      cases x.getLsbD 0
      · simp [one1]
      · simp only [one1, if_true, BitVec.getLsbD_one]; simp
    rw [this, Nat.add_comm 1, Nat.add_sub_cancel]
    simp [hi]
theorem bit1_shl {x : BitVec 32} (h : x.getLsbD 31 = false) : bit1 (x <<< 1) = x := by
  unfold bit1
  have e : (x <<< 1).getLsbD 0 = false := by rw [BitVec.getLsbD_shiftLeft]; simp
  rw [e]
  show _ ^^^ 0#32 = _
  rw [BitVec.xor_zero]
  apply BitVec.eq_of_getLsbD_eq
  intro i hi
  rw [BitVec.getLsbD_ushiftRight, BitVec.getLsbD_shiftLeft]
  by_cases h31 : i = 31
  · subst h31; rw [h]; simp
  · simp [Nat.add_comm 1 i]
    omega
/-- One bit fed, of a number that stands ahead. -/
theorem fed (r x : BitVec 32) : bit1 (r ^^^ x) = bit1 (r ^^^ one1 (x.getLsbD 0)) ^^^ (x >>> 1) := by
  have h31 : (x >>> 1).getLsbD 31 = false := by rw [BitVec.getLsbD_ushiftRight]; exact BitVec.getLsbD_of_ge _ _ (by decide)
  have h := bit1_split x
  conv => lhs; rw [h, ← BitVec.xor_assoc, bit1_xor, bit1_shl h31]
theorem bitN_succ : ∀ (k : Nat) (r : BitVec 32), bitN (k + 1) r = bit1 (bitN k r)
  | 0, _ => rfl
  | k + 1, r => bitN_succ k (bit1 r)
theorem fedN (f : Nat → Bool) (s : Nat) (x : BitVec 32) : ∀ k : Nat, (∀ i, i < k → f (s + i) = x.getLsbD i) → bitN k (regF f s ^^^ x) = regF f (s + k) ^^^ (x >>> k)
  | 0, _ => by
    show _ = _ ^^^ x >>> 0
    rw [BitVec.ushiftRight_zero]; rfl
  | k + 1, h => by
    have e : (x >>> k).getLsbD 0 = f (s + k) := by rw [BitVec.getLsbD_ushiftRight, h k (by omega)]; simp
    rw [bitN_succ, fedN f s x k (fun i hi => h i (by omega)), fed, e, ← BitVec.shiftRight_add]
    rfl
theorem regF_take (l : List (BitVec 8)) : ∀ k, k ≤ l.length → crcR 0#32 (l.take k) = regF (bitOf l) (8 * k)
  | 0, _ => by simp [crcR, regF]
  | k + 1, h => by
    rw [List.take_succ_eq_append_getElem (by omega), crcR_append, regF_take l k (by omega)]
    show bitN 8 (regF (bitOf l) (8 * k) ^^^ ext l[k]) = _
    rw [fedN (bitOf l) (8 * k) (ext l[k]) 8 (fun i hi => ?_)]
    · have e : ext l[k] >>> 8 = 0#32 := by
        apply BitVec.eq_of_getLsbD_eq
        intro i hi
        rw [BitVec.getLsbD_ushiftRight]
        unfold ext
        rw [BitVec.getLsbD_setWidth, BitVec.getLsbD_of_ge l[k] (8 + i) (by omega)]
        simp
      rw [e, BitVec.xor_zero]
      rfl
    · unfold bitOf ext
      rw [BitVec.getLsbD_setWidth, show (8 * k + i) / 8 = k by omega, show (8 * k + i) % 8 = i by omega]
      simp [List.getD, show k < l.length by omega, show i < 32 by omega]
theorem regF_crc (l : List (BitVec 8)) : crcR 0#32 l = regF (bitOf l) (8 * l.length) := by
  have := regF_take l l.length (Nat.le_refl _)
  rwa [List.take_length] at this
theorem regF_rest (f : Nat → Bool) (s : Nat) (h : ∀ i, s ≤ i → f i = false) : ∀ k, regF f (s + k) = bitN k (regF f s)
  | 0 => rfl
  | k + 1 => by
    rw [bitN_succ, ← regF_rest f s h k, ← Nat.add_assoc]
    show bit1 (_ ^^^ one1 (f (s + k))) = _
    rw [h _ (by omega)]
    exact congrArg bit1 BitVec.xor_zero
theorem regF_front (f : Nat → Bool) : ∀ s, (∀ i, i < s → f i = false) → regF f s = 0#32
  | 0, _ => rfl
  | s + 1, h => by
    show bit1 (regF f s ^^^ one1 (f s)) = _
    rw [regF_front f s (fun i hi => h i (by omega)), h s (by omega)]
    exact bit1_zero
/-- Bits within 32 side by side, the first of them turned: the register is not nought. -/
theorem burst (f : Nat → Bool) (at_ m n : Nat) (x : BitVec 32) (hm : m ≤ 32) (hn : at_ + m ≤ n) (h0 : ∀ i, i < at_ → f i = false) (h1 : ∀ i, i < m → f (at_ + i) = x.getLsbD i) (h2 : ∀ i, at_ + m ≤ i → f i = false) (hx : x.getLsbD 0 = true) (hp : 0 < m) : regF f n ≠ 0#32 := by
  intro h
  rw [show n = (at_ + m) + (n - (at_ + m)) by omega, regF_rest f (at_ + m) h2] at h
  have k := bitN_inj0 _ h
  have hf := fedN f at_ ((x.setWidth m).setWidth 32) m (fun i hi => by
    rw [BitVec.getLsbD_setWidth, BitVec.getLsbD_setWidth, h1 i hi]
    simp [hi, show i < 32 by omega])
  have hz : (x.setWidth m).setWidth 32 >>> m = 0#32 := by
    apply BitVec.eq_of_getLsbD_eq
    intro i hi
    rw [BitVec.getLsbD_ushiftRight, BitVec.getLsbD_setWidth, BitVec.getLsbD_setWidth, decide_eq_false (show ¬ m + i < m by omega)]
    simp
  rw [hz, BitVec.xor_zero, k, regF_front f at_ h0, BitVec.zero_xor] at hf
  have := bitN_inj0 _ hf
  have hb := congrArg (fun y => y.getLsbD 0) this
  simp only [BitVec.getLsbD_setWidth] at hb
  rw [hx] at hb
  simp [hp] at hb
/-- One bit of a list turned. -/
def flip1 (l : List (BitVec 8)) (j : Nat) : List (BitVec 8) := l.set (j / 8) (l.getD (j / 8) 0#8 ^^^ 1#8 <<< (j % 8))
theorem flip1_length (l : List (BitVec 8)) (j : Nat) : (flip1 l j).length = l.length := by unfold flip1; rw [List.length_set]
theorem bitOf_flip (l : List (BitVec 8)) (j k : Nat) (h : j < 8 * l.length) : bitOf (flip1 l j) k = (bitOf l k ^^ decide (k = j)) := by
  unfold bitOf flip1
  have hj : j / 8 < l.length := by omega
  by_cases e : k / 8 = j / 8
  · rw [e]
    have e1 : (l.set (j / 8) (l.getD (j / 8) 0#8 ^^^ 1#8 <<< (j % 8))).getD (j / 8) 0#8 = l.getD (j / 8) 0#8 ^^^ 1#8 <<< (j % 8) := by simp [List.getD, hj]
    rw [e1, BitVec.getLsbD_xor]
    congr 1
    have hk : k % 8 < 8 := Nat.mod_lt _ (by decide)
    have hj8 : j % 8 < 8 := Nat.mod_lt _ (by decide)
    have key : ∀ a b : Fin 8, (1#8 <<< b.val).getLsbD a.val = decide (a = b) := by decide
    have := key ⟨k % 8, hk⟩ ⟨j % 8, hj8⟩
    simp only at this
    rw [this]
    by_cases ek : k = j
    · subst ek; simp
    · have : ¬ k % 8 = j % 8 := by omega
      simp [ek, this, Fin.ext_iff]
  · have ek : ¬ k = j := fun h => e (by rw [h])
    have e1 : (l.set (j / 8) (l.getD (j / 8) 0#8 ^^^ 1#8 <<< (j % 8))).getD (k / 8) 0#8 = l.getD (k / 8) 0#8 := by
      simp only [List.getD]
      rw [List.getElem?_set_ne (fun h => e h.symm)]
    rw [e1]; simp [ek]
/-- Some bits turned, out of so many from a place on. -/
def turned (l : List (BitVec 8)) (at_ fin : Nat) (x : BitVec 32) : Nat → List (BitVec 8)
  | 0 => l
  | i + 1 => if x.getLsbD i && decide (at_ + i < fin) then flip1 (turned l at_ fin x i) (at_ + i) else turned l at_ fin x i
theorem turned_length (l : List (BitVec 8)) (at_ fin : Nat) (x : BitVec 32) : ∀ i, (turned l at_ fin x i).length = l.length
  | 0 => rfl
  | i + 1 => by
    unfold turned
    split
    · rw [flip1_length, turned_length l at_ fin x i]
    · exact turned_length l at_ fin x i
theorem bitOf_turned (l : List (BitVec 8)) (at_ fin : Nat) (x : BitVec 32) (hf : fin ≤ 8 * l.length) (k : Nat) : ∀ i, bitOf (turned l at_ fin x i) k = (bitOf l k ^^ (decide (at_ ≤ k ∧ k < at_ + i ∧ k < fin) && x.getLsbD (k - at_)))
  | 0 => by
    have : ¬ (at_ ≤ k ∧ k < at_ + 0 ∧ k < fin) := by omega
    rw [decide_eq_false this]
    simp [turned]
  | i + 1 => by
    have ih := bitOf_turned l at_ fin x hf k i
    unfold turned
    split
    · rename_i h
      rw [Bool.and_eq_true, decide_eq_true_eq] at h
      rw [bitOf_flip _ _ _ (by rw [turned_length]; omega), ih]
      by_cases e : k = at_ + i
      · subst e
        have a : ¬ (at_ ≤ at_ + i ∧ at_ + i < at_ + i ∧ at_ + i < fin) := by omega
        have b : (at_ ≤ at_ + i ∧ at_ + i < at_ + (i + 1) ∧ at_ + i < fin) := by omega
        rw [decide_eq_false a, decide_eq_true b, Nat.add_sub_cancel_left, h.1]
        simp
      · have : (at_ ≤ k ∧ k < at_ + i ∧ k < fin) ↔ (at_ ≤ k ∧ k < at_ + (i + 1) ∧ k < fin) := by omega
        simp [e, this]
    · rename_i h
      rw [ih]
      by_cases e : k = at_ + i
      · subst e
        have a : ¬ (at_ ≤ at_ + i ∧ at_ + i < at_ + i ∧ at_ + i < fin) := by omega
        rw [decide_eq_false a, Nat.add_sub_cancel_left]
        by_cases hfin : at_ + i < fin
        · have hx : x.getLsbD i = false := by
            cases hx : x.getLsbD i with
            | false => rfl
            | true => exact absurd (by simp [hx, hfin]) h
          rw [hx]; simp
        · simp [hfin]
      · have : (at_ ≤ k ∧ k < at_ + i ∧ k < fin) ↔ (at_ ≤ k ∧ k < at_ + (i + 1) ∧ k < fin) := by omega
        rw [decide_eq_decide.2 this]
/-- Lists of a length whose bits are the same are the same. -/
theorem bits_ext {a b : List (BitVec 8)} (hl : a.length = b.length) (h : ∀ k, k < 8 * a.length → bitOf a k = bitOf b k) : a = b := by
  apply List.ext_getElem hl
  intro i h1 h2
  apply BitVec.eq_of_getLsbD_eq
  intro j hj
  have := h (8 * i + j) (by omega)
  unfold bitOf at this
  rw [show (8 * i + j) / 8 = i by omega, show (8 * i + j) % 8 = j by omega] at this
  simpa [List.getD, h1, h2] using this
theorem bitOf_xorL {a b : List (BitVec 8)} (hl : a.length = b.length) (k : Nat) : bitOf (xorL a b) k = (bitOf a k ^^ bitOf b k) := by
  unfold bitOf xorL
  by_cases h : k / 8 < a.length
  · simp [List.getD, List.getElem?_zipWith, h, show k / 8 < b.length by omega]
  · simp [List.getD, List.getElem?_zipWith, h, show ¬ k / 8 < b.length by omega]
theorem bitOf_take {l : List (BitVec 8)} {n k : Nat} (h : k < 8 * n) : bitOf (l.take n) k = bitOf l k := by
  unfold bitOf
  simp only [List.getD]
  rw [List.getElem?_take, if_pos (by omega)]
end Go.Proofs.YtdkoomcmkfnfkaaDoor

/-
  Frames as lists of bytes: what is put, what is got, what is scanned; that what is got is what was put, and in one form alone; that bits that are turned side by side are found.
-/
namespace Go.Proofs.YtdkoomcmkfnfkaaDoor
open Go.Proofs.ShaWords

def be4 (x : BitVec 32) : List (BitVec 8) := [lo8 (x >>> 24), lo8 (x >>> 16), lo8 (x >>> 8), lo8 x]
def w4 (l : List (BitVec 8)) : BitVec 32 := ext (l.getD 0 0#8) <<< 24 ||| ext (l.getD 1 0#8) <<< 16 ||| ext (l.getD 2 0#8) <<< 8 ||| ext (l.getD 3 0#8)
theorem be4_length (x : BitVec 32) : (be4 x).length = 4 := rfl
theorem ext_bit (b : BitVec 8) (i : Nat) : (ext b).getLsbD i = b.getLsbD i := by
  unfold ext
  rw [BitVec.getLsbD_setWidth]
  by_cases h : i < 32
  · simp [h]
  · rw [BitVec.getLsbD_of_ge b i (by omega)]; simp
theorem lo8_bit (x : BitVec 32) (i : Nat) : (lo8 x).getLsbD i = (decide (i < 8) && x.getLsbD i) := by unfold lo8; rw [BitVec.getLsbD_setWidth]
theorem w4_be4 (x : BitVec 32) (r : List (BitVec 8)) : w4 (be4 x ++ r) = x := by
  show ext (lo8 (x >>> 24)) <<< 24 ||| ext (lo8 (x >>> 16)) <<< 16 ||| ext (lo8 (x >>> 8)) <<< 8 ||| ext (lo8 x) = x
  apply BitVec.eq_of_getLsbD_eq
  intro i hi
  simp only [BitVec.getLsbD_or, BitVec.getLsbD_shiftLeft, ext_bit, lo8_bit, BitVec.getLsbD_ushiftRight, hi, decide_true, Bool.true_and]
  by_cases h1 : i < 8
  · have a : i < 24 := by omega
    have b : i < 16 := by omega
    simp [h1, a, b]
  · by_cases h2 : i < 16
    · have a : i < 24 := by omega
      have c : i - 8 < 8 := by omega
      have e : 8 + (i - 8) = i := by omega
      simp [h1, h2, a, c, e]
    · by_cases h3 : i < 24
      · have c : i - 16 < 8 := by omega
        have d : ¬ i - 8 < 8 := by omega
        have e : 16 + (i - 16) = i := by omega
        simp [h1, h2, h3, c, d, e]
      · have c : ¬ i - 16 < 8 := by omega
        have d : ¬ i - 8 < 8 := by omega
        have f : i - 24 < 8 := by omega
        have e : 24 + (i - 24) = i := by omega
        simp [h1, h2, h3, c, d, f, e]
theorem lo8_w4 (a b c d : BitVec 8) : be4 (w4 [a, b, c, d]) = [a, b, c, d] := by
  unfold be4
  have hb : ∀ (k j : Nat), j < 8 → (w4 [a, b, c, d]).getLsbD (8 * k + j) = if k = 0 then d.getLsbD j else if k = 1 then c.getLsbD j else if k = 2 then b.getLsbD j else if k = 3 then a.getLsbD j else false := fun k j hj => by
    show (ext a <<< 24 ||| ext b <<< 16 ||| ext c <<< 8 ||| ext d).getLsbD _ = _
    simp only [BitVec.getLsbD_or, BitVec.getLsbD_shiftLeft, ext_bit]
    match k with
    | 0 =>
      have h1 : 8 * 0 + j < 24 := by omega
      have h2 : 8 * 0 + j < 16 := by omega
      have h3 : 8 * 0 + j < 8 := by omega
      rw [decide_eq_true h1, decide_eq_true h2, decide_eq_true h3]
      simp
    | 1 =>
      have h1 : 8 * 1 + j < 24 := by omega
      have h2 : 8 * 1 + j < 16 := by omega
      have h3 : ¬ 8 * 1 + j < 8 := by omega
      have h4 : 8 * 1 + j < 32 := by omega
      rw [decide_eq_true h1, decide_eq_true h2, decide_eq_false h3, decide_eq_true h4, BitVec.getLsbD_of_ge d _ (by omega), show 8 * 1 + j - 8 = j by omega]
      simp
    | 2 =>
      have h1 : 8 * 2 + j < 24 := by omega
      have h2 : ¬ 8 * 2 + j < 16 := by omega
      have h3 : ¬ 8 * 2 + j < 8 := by omega
      have h4 : 8 * 2 + j < 32 := by omega
      rw [decide_eq_true h1, decide_eq_false h2, decide_eq_false h3, decide_eq_true h4, BitVec.getLsbD_of_ge d _ (by omega), BitVec.getLsbD_of_ge c _ (by omega), show 8 * 2 + j - 16 = j by omega]
      simp
    | 3 =>
      have h1 : ¬ 8 * 3 + j < 24 := by omega
      have h2 : ¬ 8 * 3 + j < 16 := by omega
      have h3 : ¬ 8 * 3 + j < 8 := by omega
      have h4 : 8 * 3 + j < 32 := by omega
      rw [decide_eq_false h1, decide_eq_false h2, decide_eq_false h3, decide_eq_true h4, BitVec.getLsbD_of_ge d _ (by omega), BitVec.getLsbD_of_ge c _ (by omega), BitVec.getLsbD_of_ge b _ (by omega), show 8 * 3 + j - 24 = j by omega]
      simp
    | k + 4 =>
      have h4 : ¬ 8 * (k + 4) + j < 32 := by omega
      rw [decide_eq_false h4, BitVec.getLsbD_of_ge d _ (by omega)]
      simp
  have e3 : lo8 (w4 [a, b, c, d] >>> 24) = a := by
    apply BitVec.eq_of_getLsbD_eq; intro j hj
    rw [lo8_bit, BitVec.getLsbD_ushiftRight, hb 3 j hj]; simp [hj]
  have e2 : lo8 (w4 [a, b, c, d] >>> 16) = b := by
    apply BitVec.eq_of_getLsbD_eq; intro j hj
    rw [lo8_bit, BitVec.getLsbD_ushiftRight, hb 2 j hj]; simp [hj]
  have e1 : lo8 (w4 [a, b, c, d] >>> 8) = c := by
    apply BitVec.eq_of_getLsbD_eq; intro j hj
    rw [lo8_bit, BitVec.getLsbD_ushiftRight, hb 1 j hj]; simp [hj]
  have e0 : lo8 (w4 [a, b, c, d]) = d := by
    apply BitVec.eq_of_getLsbD_eq; intro j hj
    have := hb 0 j hj
    rw [Nat.mul_zero, Nat.zero_add] at this
    rw [lo8_bit, this]; simp [hj]
  rw [e3, e2, e1, e0]
theorem four_list {l : List (BitVec 8)} (h : l.length = 4) : l = [l.getD 0 0#8, l.getD 1 0#8, l.getD 2 0#8, l.getD 3 0#8] := by
  match l, h with
  | [a, b, c, d], _ => rfl
theorem be4_w4 {l : List (BitVec 8)} (h : l.length = 4) : be4 (w4 l) = l := by
  rw [four_list h]
  exact lo8_w4 _ _ _ _
theorem w4_take (l : List (BitVec 8)) : w4 (l.take 4) = w4 l := by
  unfold w4
  simp [List.getD]
theorem w4_inj {l m : List (BitVec 8)} (h : l.length = 4) (k : m.length = 4) (e : w4 l = w4 m) : l = m := by
  rw [← be4_w4 h, ← be4_w4 k, e]

/-- A frame's bytes ahead of the sum, and all of them. -/
def headF (k : BitVec 8) (l : List (BitVec 8)) : List (BitVec 8) := k :: (be4 (BitVec.ofNat 32 l.length) ++ l)
def frameB (k : BitVec 8) (l : List (BitVec 8)) : List (BitVec 8) := headF k l ++ be4 (crcOf (headF k l))
theorem headF_length (k : BitVec 8) (l : List (BitVec 8)) : (headF k l).length = l.length + 5 := by
  unfold headF
  rw [List.length_cons, List.length_append, be4_length]; omega
theorem frameB_length (k : BitVec 8) (l : List (BitVec 8)) : (frameB k l).length = l.length + 9 := by
  unfold frameB
  rw [List.length_append, headF_length, be4_length]
/-- What is got: the length that is told, the error, the frame. -/
def len4 (b : List (BitVec 8)) : Nat := (w4 (b.drop 1)).toNat
def getE (b : List (BitVec 8)) : Nat :=
  if b.length < 5 then 4 else if b.getD 0 0#8 = 0#8 then 2 else if 2039 < len4 b then 5 else if b.length < len4 b + 9 then 4
  else if w4 (b.drop (len4 b + 5)) = crcOf (b.take (len4 b + 5)) then 0 else 6
def getB (b : List (BitVec 8)) : List (BitVec 8) := (b.drop 5).take (len4 b)
theorem getE_zero {b : List (BitVec 8)} (h : getE b = 0) : 5 ≤ b.length ∧ b.getD 0 0#8 ≠ 0#8 ∧ len4 b ≤ 2039 ∧ len4 b + 9 ≤ b.length ∧ w4 (b.drop (len4 b + 5)) = crcOf (b.take (len4 b + 5)) := by
  unfold getE at h
  by_cases h1 : b.length < 5
  · rw [if_pos h1] at h; cases h
  rw [if_neg h1] at h
  by_cases h2 : b.getD 0 0#8 = 0#8
  · rw [if_pos h2] at h; cases h
  rw [if_neg h2] at h
  by_cases h3 : 2039 < len4 b
  · rw [if_pos h3] at h; cases h
  rw [if_neg h3] at h
  by_cases h4 : b.length < len4 b + 9
  · rw [if_pos h4] at h; cases h
  rw [if_neg h4] at h
  by_cases h5 : w4 (b.drop (len4 b + 5)) = crcOf (b.take (len4 b + 5))
  · exact ⟨by omega, h2, by omega, by omega, h5⟩
  · rw [if_neg h5] at h; cases h
theorem len4_head (k : BitVec 8) (l r : List (BitVec 8)) (hl : l.length < 4294967296) : len4 (headF k l ++ r) = l.length := by
  unfold len4 headF
  rw [List.cons_append, List.drop_succ_cons, List.drop_zero, List.append_assoc, w4_be4, BitVec.toNat_ofNat]
  omega
theorem getB_head (k : BitVec 8) (l r : List (BitVec 8)) (hl : l.length < 4294967296) : getB (headF k l ++ r) = l := by
  unfold getB
  rw [len4_head k l r hl]
  unfold headF
  rw [List.cons_append, List.drop_succ_cons, List.append_assoc, List.drop_append_of_le_length (by rw [be4_length]; omega), show (be4 (BitVec.ofNat 32 l.length)).drop 4 = [] from rfl, List.nil_append, List.take_append_of_le_length (Nat.le_refl _), List.take_length]
/-- What was put is got again, whatever stands behind it. -/
theorem getE_frame (k : BitVec 8) (l r : List (BitVec 8)) (hk : k ≠ 0#8) (hl : l.length ≤ 2039) : getE (frameB k l ++ r) = 0 := by
  have e : frameB k l ++ r = headF k l ++ (be4 (crcOf (headF k l)) ++ r) := by unfold frameB; rw [List.append_assoc]
  have e1 : len4 (frameB k l ++ r) = l.length := by rw [e]; exact len4_head _ _ _ (by omega)
  have e2 : (frameB k l ++ r).length = l.length + 9 + r.length := by rw [List.length_append, frameB_length]
  have e3 : (frameB k l ++ r).getD 0 0#8 = k := by rw [e]; rfl
  unfold getE
  rw [e1, e2, e3, if_neg (by omega), if_neg hk, if_neg (by omega), if_neg (by omega), if_pos ?_]
  rw [e, ← headF_length k l, List.drop_append_of_le_length (Nat.le_refl _), List.drop_length, List.nil_append, w4_be4, List.take_append_of_le_length (Nat.le_refl _), List.take_length]
theorem getB_frame (k : BitVec 8) (l r : List (BitVec 8)) (hl : l.length ≤ 2039) : getB (frameB k l ++ r) = l ∧ len4 (frameB k l ++ r) = l.length ∧ (frameB k l ++ r).getD 0 0#8 = k := by
  have e : frameB k l ++ r = headF k l ++ (be4 (crcOf (headF k l)) ++ r) := by unfold frameB; rw [List.append_assoc]
  rw [e]
  exact ⟨getB_head _ _ _ (by omega), len4_head _ _ _ (by omega), rfl⟩
theorem head_take {b : List (BitVec 8)} (h : 0 < b.length) (n : Nat) : b.getD 0 0#8 :: (b.drop 1).take n = b.take (n + 1) := by
  cases b with
  | nil => simp at h
  | cons x r => simp [List.getD]
theorem len4_of {b c : List (BitVec 8)} (h : w4 (b.drop 1) = w4 (c.drop 1)) : len4 b = len4 c := congrArg BitVec.toNat h
/-- What is got was put. -/
theorem getE_form {b : List (BitVec 8)} (h : getE b = 0) : b = frameB (b.getD 0 0#8) (getB b) ++ b.drop (len4 b + 9) ∧ b.getD 0 0#8 ≠ 0#8 ∧ (getB b).length = len4 b ∧ len4 b ≤ 2039 := by
  obtain ⟨h1, h2, h3, h4, h5⟩ := getE_zero h
  have hl : (getB b).length = len4 b := by unfold getB; rw [List.length_take, List.length_drop]; omega
  refine ⟨?_, h2, hl, h3⟩
  have hh : headF (b.getD 0 0#8) (getB b) = b.take (len4 b + 5) := by
    unfold headF
    rw [hl]
    have e0 : be4 (BitVec.ofNat 32 (len4 b)) = (b.drop 1).take 4 := by
      unfold len4
      rw [BitVec.ofNat_toNat, BitVec.setWidth_eq, ← w4_take, be4_w4 (by rw [List.length_take, List.length_drop]; omega)]
    rw [e0]
    unfold getB
    have e1 : (b.drop 1).take 4 ++ (b.drop 5).take (len4 b) = (b.drop 1).take (4 + len4 b) := by
      rw [List.take_add, List.drop_drop]
    rw [e1, head_take (by omega), show 4 + len4 b + 1 = len4 b + 5 by omega]
  unfold frameB
  rw [hh, ← h5, ← w4_take, be4_w4 (by rw [List.length_take, List.length_drop]; omega)]
  have e2 : b.take (len4 b + 5) ++ (b.drop (len4 b + 5)).take 4 = b.take (len4 b + 5 + 4) := List.take_add.symm
  rw [e2, show len4 b + 5 + 4 = len4 b + 9 by omega, List.take_append_drop]
/-- Cut short it is too short. -/
theorem getE_cut (k : BitVec 8) (l : List (BitVec 8)) (n : Nat) (hk : k ≠ 0#8) (hl : l.length ≤ 2039) (hn : n < l.length + 9) : getE ((frameB k l).take n) = 4 := by
  have hlen : ((frameB k l).take n).length = n := by rw [List.length_take, frameB_length]; omega
  unfold getE
  rw [hlen]
  by_cases h5 : n < 5
  · rw [if_pos h5]
  have e0 : ((frameB k l).take n).getD 0 0#8 = k := by
    simp only [List.getD]
    rw [List.getElem?_take, if_pos (by omega)]
    rfl
  have e1 : len4 ((frameB k l).take n) = l.length := by
    have h := (getB_frame k l [] hl).2.1
    rw [List.append_nil] at h
    rw [← h]
    refine len4_of ?_
    unfold w4
    simp only [List.getD, List.getElem?_drop, List.getElem?_take]
    rw [if_pos (by omega), if_pos (by omega), if_pos (by omega), if_pos (by omega)]
  rw [if_neg h5, e0, if_neg hk, e1, if_neg (by omega), if_pos hn]

/-- Frames one behind the other. -/
def framesB (fs : List (BitVec 8 × List (BitVec 8))) : List (BitVec 8) := fs.flatMap fun f => frameB f.1 f.2
/-- What is scanned of bytes: these frames, and then what is none. -/
structure ScanOf (b : List (BitVec 8)) (fs : List (BitVec 8 × List (BitVec 8))) (r : List (BitVec 8)) : Prop where
  eq : b = framesB fs ++ r
  ok : ∀ f ∈ fs, f.1 ≠ 0#8 ∧ f.2.length ≤ 2039
  last : getE r ≠ 0
theorem framesB_cons (f : BitVec 8 × List (BitVec 8)) (fs : List (BitVec 8 × List (BitVec 8))) : framesB (f :: fs) = frameB f.1 f.2 ++ framesB fs := by
  unfold framesB; rw [List.flatMap_cons]
theorem framesB_append (a b : List (BitVec 8 × List (BitVec 8))) : framesB (a ++ b) = framesB a ++ framesB b := by
  unfold framesB; rw [List.flatMap_append]
theorem scan_ex : ∀ (n : Nat) (b : List (BitVec 8)), b.length ≤ n → ∃ fs r, ScanOf b fs r
  | 0, b, h => by
    have : b = [] := List.length_eq_zero_iff.1 (by omega)
    exact ⟨[], b, by simp [framesB], by simp, by rw [this]; decide⟩
  | n + 1, b, h => by
    by_cases e : getE b = 0
    · obtain ⟨h1, h2, h3, h4⟩ := getE_form e
      obtain ⟨fs, r, hs⟩ := scan_ex n (b.drop (len4 b + 9)) (by rw [List.length_drop]; omega)
      refine ⟨(b.getD 0 0#8, getB b) :: fs, r, ?_, ?_, hs.last⟩
      · rw [framesB_cons, List.append_assoc, ← hs.eq]; exact h1
      · intro f hf
        rcases List.mem_cons.1 hf with rfl | hf
        · exact ⟨h2, by rw [h3]; exact h4⟩
        · exact hs.ok f hf
    · exact ⟨[], b, by simp [framesB], by simp, e⟩
theorem ScanOf.uncons {f : BitVec 8 × List (BitVec 8)} {b : List (BitVec 8)} {fs : List (BitVec 8 × List (BitVec 8))} {r : List (BitVec 8)} (h : ScanOf (frameB f.1 f.2 ++ b) fs r) (hk : f.1 ≠ 0#8) (hl : f.2.length ≤ 2039) : ∃ gs, fs = f :: gs ∧ ScanOf b gs r := by
  cases fs with
  | nil =>
    exfalso
    have h0 := h.eq
    rw [show framesB [] = [] from rfl, List.nil_append] at h0
    exact h.last (h0 ▸ getE_frame f.1 f.2 b hk hl)
  | cons g gs =>
    have hg := h.ok g List.mem_cons_self
    have h0 := h.eq
    rw [framesB_cons, List.append_assoc] at h0
    have a := getB_frame f.1 f.2 b hl
    rw [h0] at a
    have c := getB_frame g.1 g.2 (framesB gs ++ r) hg.2
    have e1 : g.1 = f.1 := c.2.2.symm.trans a.2.2
    have e2 : g.2 = f.2 := c.1.symm.trans a.1
    refine ⟨gs, by rw [show g = f from Prod.ext e1 e2], ?_, fun x hx => h.ok x (List.mem_cons_of_mem _ hx), h.last⟩
    rw [e1, e2] at h0
    exact List.append_cancel_left h0
/-- Of frames those that are laid ahead are scanned first. -/
theorem ScanOf.prefix_ : ∀ (l : List (BitVec 8 × List (BitVec 8))) {b : List (BitVec 8)} {fs : List (BitVec 8 × List (BitVec 8))} {r : List (BitVec 8)}, ScanOf (framesB l ++ b) fs r → (∀ f ∈ l, f.1 ≠ 0#8 ∧ f.2.length ≤ 2039) → ∃ gs, fs = l ++ gs ∧ ScanOf b gs r
  | [], _, fs, _, h, _ => ⟨fs, rfl, by simpa [framesB] using h⟩
  | f :: l, b, fs, r, h, ho => by
    rw [framesB_cons, List.append_assoc] at h
    obtain ⟨gs, rfl, h1⟩ := h.uncons (ho f List.mem_cons_self).1 (ho f List.mem_cons_self).2
    obtain ⟨hs, rfl, h2⟩ := ScanOf.prefix_ l h1 (fun x hx => ho x (List.mem_cons_of_mem _ hx))
    exact ⟨hs, rfl, h2⟩
theorem ScanOf.none {b : List (BitVec 8)} {fs : List (BitVec 8 × List (BitVec 8))} {r : List (BitVec 8)} (h : ScanOf b fs r) (he : getE b ≠ 0) : fs = [] ∧ r = b := by
  cases fs with
  | nil => exact ⟨rfl, by have := h.eq; rw [this]; simp [framesB]⟩
  | cons g gs =>
    exfalso
    have hg := h.ok g List.mem_cons_self
    rw [h.eq, framesB_cons, List.append_assoc] at he
    exact he (getE_frame g.1 g.2 _ hg.1 hg.2)
theorem ScanOf.unique {b : List (BitVec 8)} {fs gs : List (BitVec 8 × List (BitVec 8))} {r s : List (BitVec 8)} (h : ScanOf b fs r) (k : ScanOf b gs s) : fs = gs ∧ r = s := by
  have h1 := h
  rw [k.eq] at h1
  obtain ⟨xs, e, h2⟩ := ScanOf.prefix_ gs h1 k.ok
  obtain ⟨rfl, rfl⟩ := h2.none k.last
  exact ⟨by rw [e, List.append_nil], rfl⟩
/-- Frames that are cut short: those that are whole. -/
theorem scan_cut (fs gs : List (BitVec 8 × List (BitVec 8))) (f : BitVec 8 × List (BitVec 8)) (n : Nat) (ho : ∀ x ∈ fs, x.1 ≠ 0#8 ∧ x.2.length ≤ 2039) (hf : f.1 ≠ 0#8 ∧ f.2.length ≤ 2039) (h1 : (framesB fs).length ≤ n) (h2 : n < (framesB fs).length + (frameB f.1 f.2).length) :
    ScanOf ((framesB (fs ++ f :: gs)).take n) fs ((frameB f.1 f.2).take (n - (framesB fs).length)) := by
  refine ⟨?_, ho, ?_⟩
  · rw [framesB_append, framesB_cons, List.take_append, List.take_of_length_le h1, List.take_append_of_le_length (by omega)]
  · rw [getE_cut f.1 f.2 _ hf.1 hf.2 (by rw [frameB_length] at h2; omega)]
    decide
theorem scan_all (fs : List (BitVec 8 × List (BitVec 8))) (ho : ∀ x ∈ fs, x.1 ≠ 0#8 ∧ x.2.length ≤ 2039) : ScanOf (framesB fs) fs [] := ⟨by rw [List.append_nil], ho, by decide⟩

/-- P9.6: bits turned in the kind, within 32 side by side in the body, or in the sum. -/
theorem turned_not (k : BitVec 8) (l : List (BitVec 8)) (at_ fin : Nat) (x : BitVec 32) (hl : l.length ≤ 2039) (hx : x.getLsbD 0 = true) (h : (at_ < 8 ∧ fin = 8) ∨ (40 ≤ at_ ∧ at_ < 8 * (5 + l.length) ∧ fin = 8 * (5 + l.length)) ∨ (8 * (5 + l.length) ≤ at_ ∧ at_ < 8 * (l.length + 9) ∧ fin = 8 * (l.length + 9))) :
    getE (turned (frameB k l) at_ fin x 32) ≠ 0 := by
  intro h0
  have hfl := frameB_length k l
  have hff : fin ≤ 8 * (frameB k l).length := by rw [hfl]; omega
  have hcl : (turned (frameB k l) at_ fin x 32).length = l.length + 9 := by rw [turned_length, hfl]
  have hbit : ∀ j, bitOf (turned (frameB k l) at_ fin x 32) j = (bitOf (frameB k l) j ^^ (decide (at_ ≤ j ∧ j < at_ + 32 ∧ j < fin) && x.getLsbD (j - at_))) := fun j => bitOf_turned (frameB k l) at_ fin x hff j 32
  generalize turned (frameB k l) at_ fin x 32 = c at h0 hcl hbit
  obtain ⟨h1, h2, h3, h4, h5⟩ := getE_zero h0
  have e1 : len4 c = l.length := by
    have h9 := (getB_frame k l [] hl).2.1
    rw [List.append_nil] at h9
    rw [← h9]
    refine len4_of ?_
    have hd : (c.drop 1).take 4 = ((frameB k l).drop 1).take 4 := by
      apply bits_ext
      · rw [List.length_take, List.length_take, List.length_drop, List.length_drop, hcl, hfl]
      · intro j hj
        have hj2 : j < 32 := by rw [List.length_take] at hj; omega
        have s : ∀ m : List (BitVec 8), bitOf ((m.drop 1).take 4) j = bitOf m (8 + j) := fun m => by
          unfold bitOf
          simp only [List.getD, List.getElem?_take, List.getElem?_drop]
          rw [if_pos (by omega), show (8 + j) / 8 = 1 + j / 8 by omega, show (8 + j) % 8 = j % 8 by omega]
        rw [s, s, hbit]
        have hn : ¬ (at_ ≤ 8 + j ∧ 8 + j < at_ + 32 ∧ 8 + j < fin) := by omega
        rw [decide_eq_false hn]; simp
    rw [← w4_take, hd, w4_take]
  rw [e1] at h5
  have hh : (frameB k l).take (l.length + 5) = headF k l := by
    unfold frameB
    rw [← headF_length k l, List.take_append_of_le_length (Nat.le_refl _), List.take_length]
  have hs : (frameB k l).drop (l.length + 5) = be4 (crcOf (headF k l)) := by
    unfold frameB
    rw [← headF_length k l, List.drop_append_of_le_length (Nat.le_refl _), List.drop_length, List.nil_append]
  have sd : ∀ (m : List (BitVec 8)) (j : Nat), bitOf (m.drop (l.length + 5)) j = bitOf m (8 * (l.length + 5) + j) := fun m j => by
    unfold bitOf
    simp only [List.getD, List.getElem?_drop]
    rw [show (8 * (l.length + 5) + j) / 8 = l.length + 5 + j / 8 by omega, show (8 * (l.length + 5) + j) % 8 = j % 8 by omega]
  rcases Nat.lt_or_ge at_ (8 * (5 + l.length)) with ha | ha
  · -- ahead of the sum
    have hd : c.drop (l.length + 5) = be4 (crcOf (headF k l)) := by
      rw [← hs]
      apply bits_ext (by rw [List.length_drop, List.length_drop, hcl, hfl])
      intro j _
      rw [sd, sd, hbit]
      have hn : ¬ (at_ ≤ 8 * (l.length + 5) + j ∧ 8 * (l.length + 5) + j < at_ + 32 ∧ 8 * (l.length + 5) + j < fin) := by omega
      rw [decide_eq_false hn]; simp
    have hw := w4_be4 (crcOf (headF k l)) []
    rw [List.append_nil] at hw
    rw [hd, hw] at h5
    have hlen : (headF k l).length = (c.take (l.length + 5)).length := by rw [headF_length, List.length_take, hcl]; omega
    have hdiff := crcOf_diff hlen
    rw [← h5, BitVec.xor_self, regF_crc] at hdiff
    have hn : (xorL (headF k l) (c.take (l.length + 5))).length = l.length + 5 := by
      unfold xorL
      rw [List.length_zipWith, ← hlen, headF_length, Nat.min_self]
    rw [hn] at hdiff
    have hf : ∀ j, bitOf (xorL (headF k l) (c.take (l.length + 5))) j = (decide (at_ ≤ j ∧ j < at_ + 32 ∧ j < fin) && x.getLsbD (j - at_)) := fun j => by
      rw [bitOf_xorL hlen]
      by_cases hj : j < 8 * (l.length + 5)
      · rw [bitOf_take hj, hbit, ← hh, bitOf_take hj]
        generalize bitOf (frameB k l) j = y
        generalize (decide (at_ ≤ j ∧ j < at_ + 32 ∧ j < fin) && x.getLsbD (j - at_)) = z
        cases y <;> cases z <;> rfl
      · have z : ∀ m : List (BitVec 8), m.length = l.length + 5 → bitOf m j = false := fun m hm => by
          unfold bitOf
          simp only [List.getD]
          rw [List.getElem?_eq_none (by omega)]
          simp
        rw [z _ (headF_length k l), z _ (by rw [← hlen, headF_length])]
        have hn : ¬ (at_ ≤ j ∧ j < at_ + 32 ∧ j < fin) := by omega
        rw [decide_eq_false hn]; simp
    refine burst (bitOf (xorL (headF k l) (c.take (l.length + 5)))) at_ (min 32 (fin - at_)) (8 * (l.length + 5)) x (by omega) (by omega) (fun i hi => ?_) (fun i hi => ?_) (fun i hi => ?_) hx (by omega) hdiff.symm
    · rw [hf, decide_eq_false (by omega)]; simp
    · rw [hf, decide_eq_true (by omega), Nat.add_sub_cancel_left]; simp
    · rw [hf, decide_eq_false (by omega)]; simp
  · -- in the sum
    have hd : c.take (l.length + 5) = headF k l := by
      rw [← hh]
      apply bits_ext (by rw [List.length_take, List.length_take, hcl, hfl])
      intro j hj
      rw [List.length_take, hcl] at hj
      rw [bitOf_take (by omega), bitOf_take (by omega), hbit]
      have hn : ¬ (at_ ≤ j ∧ j < at_ + 32 ∧ j < fin) := by omega
      rw [decide_eq_false hn]; simp
    rw [hd] at h5
    have hw := w4_be4 (crcOf (headF k l)) []
    rw [List.append_nil, ← hs] at hw
    have he : c.drop (l.length + 5) = (frameB k l).drop (l.length + 5) := w4_inj (by rw [List.length_drop, hcl]; omega) (by rw [List.length_drop, hfl]; omega) (by rw [h5, hw])
    have hb := congrArg (fun m => bitOf m (at_ - 8 * (l.length + 5))) he
    simp only [sd] at hb
    rw [hbit, show 8 * (l.length + 5) + (at_ - 8 * (l.length + 5)) = at_ by omega, decide_eq_true (by omega), Nat.sub_self, hx] at hb
    revert hb
    generalize bitOf (frameB k l) at_ = y
    cases y <;> simp
end Go.Proofs.YtdkoomcmkfnfkaaDoor

/-
  The program's checksum: over any bytes that lie anywhere.
-/
namespace Go.Proofs.YtdkoomcmkfnfkaaDoor
open Go.RowKit Go.Proofs.ShaWords
/-- The table of half bytes lies in its variable. -/
def Rem (w : World) : Prop := w.rangeAt 0 0 (wordsV remT)
theorem Rem.size {w : World} (h : Rem w) : 0 < w.heap.size := World.block_lt_of_cell? w _ (h 0 (.int .u32 0) rfl)
theorem Rem.below {w w' : World} {B : Nat} (h : Rem w) (hb : Below B w w') (hB : 0 < B) : Rem w' := fun j v hv => (hb.cell (p := ⟨0, 0 + j, none⟩) hB).trans (h j v hv)
theorem Rem.on {w w' : World} (h : Rem w) (hb : Below w.heap.size w w') : Rem w' := h.below hb h.size
theorem Rem.grown {w w' : World} {g : Nat} (h : Rem w) (hb : w.grownBy w' (some g)) (hg : g ≠ 0) : Rem w' := Reads.grown h hb (fun e => hg e.symm)
/-- The lowest half byte, as a place of the table. -/
def low4 (x : BitVec 32) : Nat := (x &&& 15#32).toNat
theorem low4_lt (x : BitVec 32) : low4 x < 16 := low_lt x
theorem nib_low (x : BitVec 32) : nib x = (x >>> 4) ^^^ remT.getD (low4 x) 0#32 := rfl
theorem Rem.at {w : World} (h : Rem w) (m : Nat) (hl : m < 16) : w.cell? ⟨0, m, none⟩ = some (.int .u32 (n32 (remT.getD m 0#32))) := by
  have := h m (.int .u32 (n32 (remT.getD m 0#32))) (by
    have h16 : m < remT.length := hl
    simp only [wordsV, List.getElem?_map, List.getElem?_eq_getElem h16, List.getD, Option.map_some, Option.getD_some])
  rwa [Nat.zero_add] at this
theorem and15 (x : BitVec 32) : bits .and .u32 (n32 x) 15 = (low4 x : Int) := by
  have h := and32 x 15#32
  exact h
theorem shr32_4 (x : BitVec 32) : n32 x / (16 : Int) = n32 (x >>> 4) := shr32 x 4
theorem not32 (x : BitVec 32) : bits .xor .u32 IntKind.u32.max (n32 x) = n32 (~~~ x) := by
  have h := xor32 4294967295#32 x
  rw [show ~~~ x = 4294967295#32 ^^^ x by
    rw [show (4294967295#32 : BitVec 32) = BitVec.allOnes 32 by decide, BitVec.allOnes_xor]]
  exact h
theorem crcR_take {l : List (BitVec 8)} {k : Nat} (h : k < l.length) (r : BitVec 32) : crcR r (l.take (k + 1)) = nib (nib (crcR r (l.take k) ^^^ ext l[k])) := by
  rw [List.take_succ_eq_append_getElem h, crcR_append, ← eat_nib]
  rfl
attribute [local go_sem] xor32 wrap32_n8 shr32_4 and15 not32
set_option maxHeartbeats 400000 in
theorem sum_any (l : List (BitVec 8)) (n : Nat) (p : Option Addr) (c : Nat) (w : World) (hn : l.length = n) (hl : n < 140737488355328) (hL : Lies w p l) (hR : Rem w) :
    Calls Tryd.prog 76 #[.slice p n c] w fun e w' => e = .returned (.int .u32 (n32 (crcOf l))) ∧ w' = w := by
  have HL := Lib.hid hL; clear hL
  have HN := Lib.hid hn; clear hn
  have HR := Lib.hid hR; clear hR
  go_enter Tryd.func76, Tryd.ntmps76
  go_wp2_with fail
  go_loopw [3, 8] (fun r i wr => ∃ k : Nat, k ≤ n ∧ i = .int .i64 k ∧ r = .int .u32 (n32 (crcR (~~~ 0#32) (l.take k))) ∧ wr = w) (fun _ i _ => n - (intOf i).toNat)
  case atStart => exact ⟨0, Nat.zero_le _, rfl, rfl, rfl⟩
  case round =>
    obtain ⟨k, hk, rfl, rfl, rfl⟩ := hrel
    by_cases hlt : k < n
    · have hlt' : k < l.length := by rw [HN.out]; exact hlt
      have hv : (bytesV l)[k]? = some (.int .u8 (n8 l[k])) := by simp [bytesV, hlt']
      rcases HL.out with h0 | ⟨b, off, rfl, hr⟩
      · exfalso; rw [h0] at hlt'; simp at hlt'
      have hc := hr k _ hv
      have HT := Lib.hid (crcR_take hlt' (~~~ 0#32))
      generalize l[k] = x at hc HT
      generalize crcR (~~~ 0#32) (l.take k) = r at HT ⊢
      have HT2 := Lib.hid (nib_low (r ^^^ ext x))
      have hl1 := low4_lt (r ^^^ ext x)
      have hc1 := HR.out.at _ hl1
      generalize remT.getD (low4 (r ^^^ ext x)) 0#32 = y1 at hc1 HT2
      have HT3 := Lib.hid (nib_low (((r ^^^ ext x) >>> 4) ^^^ y1))
      have hl2 := low4_lt (((r ^^^ ext x) >>> 4) ^^^ y1)
      have hc2 := HR.out.at _ hl2
      generalize remT.getD (low4 (((r ^^^ ext x) >>> 4) ^^^ y1)) 0#32 = y2 at hc2 HT3
      clear hr hv hlt'
      have q0 : (k : Int) < (n : Int) := by omega
      go_wp2_with fail
      go_roundw
      case rel =>
        refine ⟨k + 1, by omega, by go_num, ?_, by trivial⟩
        rw [HT.out, HT2.out, HT3.out]
      case measure => simp [intOf]; omega
    · have e : k = n := by omega
      subst e
      go_wp2_with fail
      go_ret
      refine ⟨?_, rfl⟩
      unfold crcOf
      rw [List.take_of_length_le (by rw [HN.out]; exact Nat.le_refl _)]
      rfl
end Go.Proofs.YtdkoomcmkfnfkaaDoor

/-
  Four bytes behind others, the highest first; the number of the first four bytes.
-/
namespace Go.Proofs.YtdkoomcmkfnfkaaDoor
open Go.RowKit Go.Proofs.ShaWords
attribute [local go_sem] or32 wrap32_n8 wrap8_n32 shr32_8 shr32_16 shr32_24 shl32_8 shl32_16 shl32_24
theorem lies_at {w : World} {p : Option Addr} {l : List (BitVec 8)} (h : Lies w p l) (hne : 0 < l.length) : ∃ b off, p = some ⟨b, off, none⟩ ∧ ∀ k, k < l.length → w.cell? ⟨b, off + k, none⟩ = some (.int .u8 (n8 (l.getD k 0#8))) := by
  rcases h with h0 | ⟨b, off, rfl, hr⟩
  · rw [h0] at hne; simp at hne
  · exact ⟨b, off, rfl, fun k hk => hr k _ (by simp [bytesV, List.getD, hk])⟩
end Go.Proofs.YtdkoomcmkfnfkaaDoor

/-
  What is put: a frame's bytes, in new memory, or the error.
-/
namespace Go.Proofs.YtdkoomcmkfnfkaaDoor
open Go.RowKit Go.Proofs.ShaWords
/-- A number as a byte. -/
def kb (z : Int) : BitVec 8 := BitVec.ofInt 8 z
theorem wrap8_kb (z : Int) : IntKind.u8.wrap z = n8 (kb z) := by
  unfold n8 kb
  rw [IntKind.wrap_u8', BitVec.toNat_ofInt]; omega
theorem n8_kb {z : Int} (h0 : 0 ≤ z) (h1 : z < 256) : n8 (kb z) = z := by
  rw [← wrap8_kb, IntKind.wrap_u8']; omega
theorem kb_ne {z : Int} (h0 : 1 ≤ z) (h1 : z ≤ 255) : kb z ≠ 0#8 := fun h => by
  have := n8_kb (show 0 ≤ z by omega) (show z < 256 by omega)
  rw [h] at this
  have h2 : n8 0#8 = 0 := by decide
  omega
theorem wrap32_len (n : Nat) : IntKind.u32.wrap (n : Int) = n32 (BitVec.ofNat 32 n) := by
  unfold n32
  rw [IntKind.wrap_u32', BitVec.toNat_ofNat]; omega
/-- What Put says, and what it lays. -/
def putE (z : Int) (l : List (BitVec 8)) : Int := if z < 1 ∨ 255 < z then 2 else if 2039 < l.length then 5 else 0
def putV (z : Int) (l : List (BitVec 8)) : List (BitVec 8) := if z < 1 ∨ 255 < z then [] else if 2039 < l.length then [] else frameB (kb z) l
theorem putE_kind {z : Int} {l : List (BitVec 8)} (h : z < 1 ∨ 255 < z) : putE z l = 2 ∧ putV z l = [] := by unfold putE putV; rw [if_pos h, if_pos h]; exact ⟨rfl, rfl⟩
theorem putE_long {z : Int} {l : List (BitVec 8)} (h1 : 1 ≤ z) (h2 : z ≤ 255) (h : 2039 < l.length) : putE z l = 5 ∧ putV z l = [] := by
  unfold putE putV; rw [if_neg (show ¬ (z < 1 ∨ 255 < z) by omega), if_neg (show ¬ (z < 1 ∨ 255 < z) by omega), if_pos h, if_pos h]; exact ⟨rfl, rfl⟩
theorem putE_ok {z : Int} {l : List (BitVec 8)} (h1 : 1 ≤ z) (h2 : z ≤ 255) (h : l.length ≤ 2039) : putE z l = 0 ∧ putV z l = frameB (kb z) l := by
  unfold putE putV; rw [if_neg (show ¬ (z < 1 ∨ 255 < z) by omega), if_neg (show ¬ (z < 1 ∨ 255 < z) by omega), if_neg (show ¬ 2039 < l.length by omega), if_neg (show ¬ 2039 < l.length by omega)]; exact ⟨rfl, rfl⟩
theorem made_own (w w' : World) (cn : Nat) (hc : cn ≤ 140737488355327) (h : w'.heap[w.heap.size]? = some (.cells (bytesV (List.replicate cn 0#8)).toArray 5 (0, 0))) : Own w.heap.size w' [] (.slice (some ⟨w.heap.size, 0, none⟩) 0 cn) :=
  ⟨rfl, .inr ⟨w.heap.size, cn, _, rfl, Nat.le_refl _, h, Nat.zero_le _, by unfold maxLen; omega, by simp [bytesV], rfl⟩⟩
theorem wpList_make_cap {ops : Array Oper} {rest : List Oper} {o : Oper} {a : Act} {w : World} {Q : Exit → Act → World → Prop} (hg : o.guard = none) (c : Operand) (hop : o.op = Op.makeSlice 37 (.const (.int .i64 0)) c) (cn : Nat) (L : Int) (hc : a.eval c = .int .i64 L) (hL : L = (cn : Int)) (hle : cn ≤ 140737488355327)
    (h : ∀ w', Own w.heap.size w' [] (.slice (some ⟨w.heap.size, 0, none⟩) 0 cn) → Below w.heap.size w w' → wpList Tryd.prog ops Q rest (a.put o.dst (.slice (some ⟨w.heap.size, 0, none⟩) 0 cn)) w') : wpList Tryd.prog ops Q (o :: rest) a w := by
  obtain ⟨i, hi, hz, hsz, hby⟩ := info5'
  refine wpList_make_any hg _ c 37 hop 5 i (.int .u8 0) Tryd.underlying37 hi hz hsz hby .i64 .i64 0 L 0 cn rfl hc rfl hL (Nat.zero_le _) (by omega) _ (made_noughts cn) (fun w' h1 h2 => h w' (made_own w w' cn hle h1) h2)
end Go.Proofs.YtdkoomcmkfnfkaaDoor

/-
  Single operations about frames: a byte as a number, two words compared, a slice from a place on; a frame as a struct in memory; a function that returns a frame and two numbers.
-/
namespace Go.Proofs.YtdkoomcmkfnfkaaDoor
open Go.RowKit Go.Proofs.ShaWords
section
variable {ρ : Operand → Value} {o : Oper} {x y : Operand}
theorem r_conv8 {b : BitVec 8} (ho : o.op = .convert 5 3 x) (hx : ρ x = .int .u8 (n8 b)) (w : World) : (execOp ρ o).run Tryd.prog w = .ok (.value (.int .i64 (n8 b))) w := by
  obtain ⟨dst, op, ty', pos, after, guard⟩ := o
  simp only at ho
  subst ho
  have h0 := n8_nonneg b
  have h1 := n8_lt b
  have h2 : IntKind.i64.wrap (n8 b) = n8 b := by rw [IntKind.wrap_i64]; omega
  go_simp
theorem r_neq32 {a b : BitVec 32} {ty : TypeId} (ho : o.op = .binOp .neq 109 x y ty) (hx : ρ x = .int .u32 (n32 a)) (hy : ρ y = .int .u32 (n32 b)) (w : World) : (execOp ρ o).run Tryd.prog w = .ok (.value (.bool (!decide (a = b)))) w := by
  obtain ⟨dst, op, ty', pos, after, guard⟩ := o
  simp only at ho
  subst ho
  by_cases h : a = b
  · subst h; go_simp
  · have q : ¬ n32 a = n32 b := fun e => h (n32_inj e)
    go_simp
theorem run_ixSliceK {b off n c : Nat} (ho : o.op = .indexAddr 37 x y) (hx : ρ x = .slice (some ⟨b, off, none⟩) n c) (hy : ρ y = .int .i64 0) (hk : 0 < n) (w : World) :
    (execOp ρ o).run Tryd.prog w = .ok (.value (.pointer (some ⟨b, off, none⟩))) w := run_ixSlice (k := 0) ho hx hy hk w
end
theorem lies_takeF {w : World} {p : Option Addr} {l : List (BitVec 8)} (h : Lies w p l) (k : Nat) : Lies w p (l.take k) := by
  rcases h with h0 | ⟨b, off, rfl, hr⟩
  · exact Or.inl (by rw [h0]; simp)
  · exact Or.inr ⟨b, off, rfl, fun j v hv => hr j v (by
      rw [bytesV_take, List.getElem?_take] at hv
      split at hv
      · exact hv
      · cases hv)⟩
theorem results_cell_tmp2 {fn : Func} {p u v : Tmp} {ty : TypeId} (h : fn.results = #[.cell p ty, .tmp u, .tmp v]) (tmps : Array Value) (P : Program) (w : World) :
    (results fn tmps).run P w =
      ((asAddr (tmps.getD p undef)).run P w).andThen fun a w₁ => ((loadVar ty a).run P w₁).andThen fun x w₂ => .ok (.tuple #[x, tmps.getD u undef, tmps.getD v undef]) w₂ := by
  simp only [results, h]
  simp [Sem.run_bind, Result.andThen]
/-- A slice from a place on, and what lies there. -/
theorem from_lies {w : World} {p : Option Addr} {l : List (BitVec 8)} {n c : Nat} (h : Lies w p l) (hn : l.length = n) (k : Nat) (hk : k < n) (hc : n ≤ c) :
    ∃ p2, ((p = none ∧ p2 = none ∧ c = 0) ∨ ∃ g off, p = some ⟨g, off, none⟩ ∧ (if c = k then some (⟨g, off, none⟩ : Addr) else some ⟨g, off + k, none⟩) = p2) ∧ Lies w p2 (l.drop k) := by
  rcases h with h0 | ⟨b, off, rfl, hr⟩
  · rw [h0] at hn; simp at hn; omega
  · exact ⟨some ⟨b, off + k, none⟩, Or.inr ⟨b, off, rfl, by rw [if_neg (by omega)]⟩, Or.inr ⟨b, off + k, rfl, range_drop hr⟩⟩
/-- What Get tells. -/
def getN (b : List (BitVec 8)) : Nat := if getE b = 0 then len4 b + 9 else 0
def getK (b : List (BitVec 8)) : Int := if getE b = 0 then n8 (b.getD 0 0#8) else 0
def getV (b : List (BitVec 8)) : List (BitVec 8) := if getE b = 0 then getB b else []
theorem get_err {b : List (BitVec 8)} {e : Nat} (h : getE b = e) (he : e ≠ 0) : getN b = 0 ∧ getK b = 0 ∧ getV b = [] := by
  unfold getN getK getV
  rw [h, if_neg he, if_neg he, if_neg he]
  exact ⟨rfl, rfl, rfl⟩
theorem get_ok {b : List (BitVec 8)} (h : getE b = 0) : getN b = len4 b + 9 ∧ getK b = n8 (b.getD 0 0#8) ∧ getV b = getB b := by
  unfold getN getK getV
  rw [if_pos h, if_pos h, if_pos h]
  exact ⟨rfl, rfl, rfl⟩
theorem getE_short {b : List (BitVec 8)} (h : b.length < 5) : getE b = 4 := by unfold getE; rw [if_pos h]
theorem getE_kind {b : List (BitVec 8)} (h : ¬ b.length < 5) (h2 : b.getD 0 0#8 = 0#8) : getE b = 2 := by unfold getE; rw [if_neg h, if_pos h2]
theorem getE_long {b : List (BitVec 8)} (h : ¬ b.length < 5) (h2 : ¬ b.getD 0 0#8 = 0#8) (h3 : 2039 < len4 b) : getE b = 5 := by unfold getE; rw [if_neg h, if_neg h2, if_pos h3]
theorem getE_short2 {b : List (BitVec 8)} (h : ¬ b.length < 5) (h2 : ¬ b.getD 0 0#8 = 0#8) (h3 : ¬ 2039 < len4 b) (h4 : b.length < len4 b + 9) : getE b = 4 := by unfold getE; rw [if_neg h, if_neg h2, if_neg h3, if_pos h4]
theorem getE_sum {b : List (BitVec 8)} (h : ¬ b.length < 5) (h2 : ¬ b.getD 0 0#8 = 0#8) (h3 : ¬ 2039 < len4 b) (h4 : ¬ b.length < len4 b + 9) (h5 : ¬ w4 (b.drop (len4 b + 5)) = crcOf (b.take (len4 b + 5))) : getE b = 6 := by
  unfold getE; rw [if_neg h, if_neg h2, if_neg h3, if_neg h4, if_neg h5]
theorem getE_ok {b : List (BitVec 8)} (h : ¬ b.length < 5) (h2 : ¬ b.getD 0 0#8 = 0#8) (h3 : ¬ 2039 < len4 b) (h4 : ¬ b.length < len4 b + 9) (h5 : w4 (b.drop (len4 b + 5)) = crcOf (b.take (len4 b + 5))) : getE b = 0 := by
  unfold getE; rw [if_neg h, if_neg h2, if_neg h3, if_neg h4, if_pos h5]
end Go.Proofs.YtdkoomcmkfnfkaaDoor

/-
  What is got: the frame in front of bytes, and how many it has, or the error.
-/
namespace Go.Proofs.YtdkoomcmkfnfkaaDoor
open Go.RowKit Go.Proofs.ShaWords
theorem below_set2 {w w3 : World} (h : Below w.heap.size w w3) (x y : Value) : Below w.heap.size w ((w3.setCell ⟨w.heap.size, 0, none⟩ x).setCell ⟨w.heap.size, 1, none⟩ y) :=
  (h.grown (grown_setCell w3 w.heap.size 0 x) h.size (fun k e => by cases e; exact Nat.le_refl _)).grown (grown_setCell _ w.heap.size 1 y) (by simpa [World.setCell] using h.size) (fun k e => by cases e; exact Nat.le_refl _)
theorem Own.setOther {B : Nat} {w : World} {l : List (BitVec 8)} {v : Value} (h : Own B w l v) (T : Nat) (cs : Array Value) (hT : T < B) : Own B (w.setRow T cs) l v := by
  refine ⟨h.1, ?_⟩
  rcases h.2 with h0 | ⟨g, cap, cur, he, hg, hh, r⟩
  · exact Or.inl h0
  · exact Or.inr ⟨g, cap, cur, he, hg, (setRow_other w T g cs (by omega)).trans hh, r⟩
theorem Own.set2 {B : Nat} {w : World} {l : List (BitVec 8)} {v : Value} (h : Own B w l v) (T : Nat) (x y : Value) (hT : T < B) : Own B ((w.setCell ⟨T, 0, none⟩ x).setCell ⟨T, 1, none⟩ y) l v := by
  refine ⟨h.1, ?_⟩
  rcases h.2 with h0 | ⟨g, cap, cur, he, hg, hh, r⟩
  · exact Or.inl h0
  · exact Or.inr ⟨g, cap, cur, he, hg, ((heap_setCell_other _ _ _ _ (show g ≠ T by omega)).trans (heap_setCell_other _ _ _ _ (show g ≠ T by omega))).trans hh, r⟩
theorem Own.lowerF {B B' : Nat} {w : World} {l : List (BitVec 8)} {v : Value} (h : Own B w l v) (hb : B' ≤ B) : Own B' w l v := by
  refine ⟨h.1, ?_⟩
  rcases h.2 with h0 | ⟨g, cap, cur, he, hg, r⟩
  · exact Or.inl h0
  · exact Or.inr ⟨g, cap, cur, he, by omega, r⟩
theorem drop_w4 (l : List (BitVec 8)) (k : Nat) (h : k + 4 ≤ l.length) : 4 ≤ (l.drop k).length := by rw [List.length_drop]; omega
end Go.Proofs.YtdkoomcmkfnfkaaDoor

/-
  Frames one behind the other in memory of one's own: a slice of structs whose second part is a slice of bytes of its own.
-/
namespace Go.Proofs.YtdkoomcmkfnfkaaDoor
open Go.RowKit Go.Proofs.ShaWords
abbrev Fr9 : Type := BitVec 8 × List (BitVec 8)
/-- The cells of such a list. -/
def frCells : List Fr9 → List Value → List Value
  | f :: fs, v :: vs => .int .i64 (n8 f.1) :: v :: frCells fs vs
  | _, _ => []
theorem frCells_length : ∀ (fs : List Fr9) (vs : List Value), vs.length = fs.length → (frCells fs vs).length = fs.length * 2
  | [], _, _ => rfl
  | f :: fs, [], h => by simp at h
  | f :: fs, v :: vs, h => by
    have ih := frCells_length fs vs (by simpa using h)
    show (frCells fs vs).length + 1 + 1 = (fs.length + 1) * 2
    omega
theorem frCells_snoc : ∀ (fs : List Fr9) (vs : List Value) (f : Fr9) (v : Value), vs.length = fs.length → frCells (fs ++ [f]) (vs ++ [v]) = frCells fs vs ++ [.int .i64 (n8 f.1), v]
  | [], [], _, _, _ => rfl
  | [], _ :: _, _, _, h => by simp at h
  | g :: fs, [], _, _, h => by simp at h
  | g :: fs, u :: vs, f, v, h => by
    show .int .i64 (n8 g.1) :: u :: frCells (fs ++ [f]) (vs ++ [v]) = _
    rw [frCells_snoc fs vs f v (by simpa using h)]
    rfl
theorem frCells_get : ∀ (fs : List Fr9) (vs : List Value) (i : Nat) (f : Fr9) (v : Value), fs[i]? = some f → vs[i]? = some v → (frCells fs vs)[i * 2]? = some (.int .i64 (n8 f.1)) ∧ (frCells fs vs)[i * 2 + 1]? = some v
  | [], _, i, _, _, h, _ => by simp at h
  | _ :: _, [], i, _, _, _, h => by simp at h
  | g :: fs, u :: vs, 0, f, v, h1, h2 => by
    simp only [List.getElem?_cons_zero, Option.some.injEq] at h1 h2
    subst h1 h2
    exact ⟨rfl, rfl⟩
  | g :: fs, u :: vs, i + 1, f, v, h1, h2 => by
    have ih := frCells_get fs vs i f v (by simpa using h1) (by simpa using h2)
    rw [show (i + 1) * 2 = i * 2 + 1 + 1 by omega]
    exact ih
theorem ownsRow_lower {B B' n size : Nat} {w : World} {e : TypeId} {v : Value} {xs : List Value} (h : w.ownsRow B e size v n xs) (hb : B' ≤ B) : w.ownsRow B' e size v n xs := by
  refine ⟨h.1, ?_⟩
  rcases h.2 with h0 | ⟨g, cap, cur, he, hg, r⟩
  · exact Or.inl h0
  · exact Or.inr ⟨g, cap, cur, he, by omega, r⟩
end Go.Proofs.YtdkoomcmkfnfkaaDoor

/-
  A frame of a list in memory read: its place, its two parts; bytes from a place on, whatever place they have.
-/
namespace Go.Proofs.YtdkoomcmkfnfkaaDoor
open Go.RowKit Go.Proofs.ShaWords
theorem kb_n8 (b : BitVec 8) : kb (n8 b) = b := n8_inj (n8_kb (n8_nonneg b) (n8_lt b))
theorem n8_kind {b : BitVec 8} (h : b ≠ 0#8) : 1 ≤ n8 b ∧ n8 b ≤ 255 := by
  have h1 := n8_lt b
  have h0 := n8_nonneg b
  refine ⟨?_, by omega⟩
  rcases Int.lt_or_le (n8 b) 1 with hl | hl
  · exact absurd (n8_inj (show n8 b = n8 0#8 by have : n8 0#8 = 0 := by decide
                                                omega)) h
  · exact hl
section
variable {ρ : Operand → Value} {o : Oper} {x y : Operand}
theorem run_loadKind {a : Addr} {z : Int} (ho : o.op = .load 3 x) {w : World} (hx : ρ x = .pointer (some a)) (hc : w.cell? a = some (.int .i64 z)) : (execOp ρ o).run Tryd.prog w = .ok (.value (.int .i64 z)) w := by
  obtain ⟨dst, op, ty', pos, after, guard⟩ := o
  simp only at ho
  subst ho
  go_simp
/-- Bytes from a place on. -/
theorem run_fromP {p : Option Addr} {n c k : Nat} (hp : 0 < c → ∃ b off, p = some ⟨b, off, none⟩) (hk : k ≤ n) (hn : n ≤ c) :
    ∃ p2, (∀ {ρ : Operand → Value} {o : Oper} {x y : Operand}, o.op = .slice 37 x (some y) none none → ρ x = .slice p n c → ρ y = .int .i64 (k : Int) → ∀ w, (execOp ρ o).run Tryd.prog w = .ok (.value (.slice p2 (n - k) (c - k))) w) ∧
      ∀ (w : World) (l : List (BitVec 8)), l.length = n → Lies w p l → Lies w p2 (l.drop k) := by
  by_cases h0 : c = 0
  · obtain rfl : n = 0 := by omega
    obtain rfl : k = 0 := by omega
    subst h0
    refine ⟨p, fun ho hx hy w => ?_, fun w l _ h => by simpa using h⟩
    cases p with
    | none => exact r_from ho (Nat.le_refl _) (Nat.le_refl _) (Or.inl ⟨rfl, rfl, rfl⟩) hx hy w
    | some a =>
      rename_i ρ o x y
      obtain ⟨dst, op, ty', pos, after, guard⟩ := o
      simp only at ho
      subst ho
      go_simp
  · obtain ⟨b, off, rfl⟩ := hp (by omega)
    by_cases hck : c = k
    · refine ⟨some ⟨b, off, none⟩, fun ho hx hy w => r_from ho hk hn (Or.inr ⟨b, off, rfl, by rw [if_pos hck]⟩) hx hy w, fun w l hl h => Or.inl ?_⟩
      rw [show k = l.length by omega, List.drop_length]
    · refine ⟨some ⟨b, off + k, none⟩, fun ho hx hy w => r_from ho hk hn (Or.inr ⟨b, off, rfl, by rw [if_neg hck]⟩) hx hy w, fun w l hl h => ?_⟩
      rcases h with h1 | ⟨b', off', e, hr⟩
      · exact Or.inl (by rw [h1]; simp)
      · cases e
        exact Or.inr ⟨b, off + k, rfl, range_drop hr⟩
end
theorem lies_below_all {w w' : World} {p : Option Addr} {l : List (BitVec 8)} (h : Lies w p l) (hb : Below w.heap.size w w') : Lies w' p l := h.below hb
end Go.Proofs.YtdkoomcmkfnfkaaDoor

/-
  What each statement of layer 9 asks: the published sum; a frame, and back.
-/
namespace Go.Proofs.YtdkoomcmkfnfkaaDoor
open Go.RowKit Go.Proofs.ShaWords
theorem Own.slN {B n : Nat} {w : World} {l : List (BitVec 8)} {v : Value} (h : Own B w l v) (hn : l.length = n) : ∃ q c, v = .slice q n c ∧ n ≤ c ∧ c ≤ maxLen ∧ Lies w q l := by
  subst hn
  exact h.lies
theorem copy_bigN (l : List (BitVec 8)) (n : Nat) (p : Option Addr) (cap : Nat) (w : World) (hn : l.length = n) (hl : n < 140737488355328) (hL : Lies w p l) :
    Calls Tryd.prog 33 #[.slice p n cap] w fun e w' => ∃ v, e = .returned v ∧ Own w.heap.size w' l v ∧ Below w.heap.size w w' := by
  subst hn
  exact copy_big l p cap w hl hL
theorem nine_sum : n32 (crcOf [49#8, 50#8, 51#8, 52#8, 53#8, 54#8, 55#8, 56#8, 57#8]) = 3421780262 := by decide +kernel
/-- A frame that was put, with bytes behind it, is got. -/
theorem got_frame (k : BitVec 8) (l r : List (BitVec 8)) (hk : k ≠ 0#8) (hl : l.length ≤ 2039) : getE (frameB k l ++ r) = 0 ∧ getN (frameB k l ++ r) = l.length + 9 ∧ getK (frameB k l ++ r) = n8 k ∧ getV (frameB k l ++ r) = l := by
  have h := getE_frame k l r hk hl
  obtain ⟨h1, h2, h3⟩ := getB_frame k l r hl
  obtain ⟨a, b, c⟩ := get_ok h
  exact ⟨h, by rw [a, h2], by rw [b, h3], by rw [c, h1]⟩
end Go.Proofs.YtdkoomcmkfnfkaaDoor

/-
  The program's iterator over frames: to every caller it gives the frames that are scanned, each with how many bytes it has.
-/
namespace Go.Proofs.YtdkoomcmkfnfkaaDoor
open Go.RowKit Go.Proofs.ShaWords
attribute [local go_sem] Oper.semAt_some
/-- What is left behind so many frames. -/
def restF (fs : List Fr9) (r : List (BitVec 8)) (k : Nat) : List (BitVec 8) := framesB (fs.drop k) ++ r
theorem restF_zero (fs : List Fr9) (r : List (BitVec 8)) : restF fs r 0 = framesB fs ++ r := rfl
theorem restF_next {fs : List Fr9} {r : List (BitVec 8)} {k : Nat} {f : Fr9} (h : fs[k]? = some f) : restF fs r k = frameB f.1 f.2 ++ restF fs r (k + 1) := by
  unfold restF
  obtain ⟨hk, e⟩ := List.getElem?_eq_some_iff.1 h
  rw [List.drop_eq_getElem_cons hk, framesB_cons, List.append_assoc, e]
theorem restF_drop {fs : List Fr9} {r : List (BitVec 8)} {k : Nat} {f : Fr9} (h : fs[k]? = some f) : (restF fs r k).drop (f.2.length + 9) = restF fs r (k + 1) := by
  rw [restF_next h, ← frameB_length f.1 f.2, List.drop_left]
theorem restF_got {fs : List Fr9} {r : List (BitVec 8)} {k : Nat} {f : Fr9} (h : fs[k]? = some f) (hf : f.1 ≠ 0#8 ∧ f.2.length ≤ 2039) : getE (restF fs r k) = 0 ∧ getN (restF fs r k) = f.2.length + 9 ∧ getK (restF fs r k) = n8 f.1 ∧ getV (restF fs r k) = f.2 := by
  rw [restF_next h]
  exact got_frame f.1 f.2 _ hf.1 hf.2
theorem restF_end (fs : List Fr9) (r : List (BitVec 8)) : restF fs r fs.length = r := by unfold restF; rw [List.drop_length]; rfl
theorem restF_shrinks {fs : List Fr9} {r : List (BitVec 8)} {k : Nat} {f : Fr9} (h : fs[k]? = some f) : (restF fs r k).length = (restF fs r (k + 1)).length + f.2.length + 9 := by
  rw [restF_next h, List.length_append, frameB_length]; omega
def frEnc (fs : List Fr9) (k : Nat) (A0 A : World) (vs : Array Value) : Prop := ∃ f v, fs[k]? = some f ∧ vs = #[.agg #[.int .i64 (n8 f.1), v], .int .i64 ((f.2.length + 9 : Nat) : Int)] ∧ Own A0.heap.size A f.2 v
/-- A slice from a place on, up to its end. -/
theorem from_lies2 {w : World} {p : Option Addr} {l : List (BitVec 8)} {n c : Nat} (h : Lies w p l) (hn : l.length = n) (k : Nat) (hk : k ≤ n) (h0 : 0 < n) (hc : n ≤ c) :
    ∃ p2, ((p = none ∧ p2 = none ∧ c = 0) ∨ ∃ g off, p = some ⟨g, off, none⟩ ∧ (if c = k then some (⟨g, off, none⟩ : Addr) else some ⟨g, off + k, none⟩) = p2) ∧ Lies w p2 (l.drop k) := by
  rcases h with h1 | ⟨b, off, rfl, hr⟩
  · rw [h1] at hn; simp at hn; omega
  · by_cases hck : c = k
    · exact ⟨some ⟨b, off, none⟩, Or.inr ⟨b, off, rfl, by rw [if_pos hck]⟩, Or.inl (by rw [show k = l.length by omega, List.drop_length])⟩
    · exact ⟨some ⟨b, off + k, none⟩, Or.inr ⟨b, off, rfl, by rw [if_neg hck]⟩, Or.inr ⟨b, off + k, rfl, range_drop hr⟩⟩
theorem one_cellF {w : World} {b : Nat} {v : Value} {t : TypeId} (h : w.heap[b]? = some (.cells #[v] t (0, 0))) : w.cell? ⟨b, 0, none⟩ = some v := by rw [cell_of_row w b 0 _ _ _ h]; rfl
/-- The iterator between two rounds: its place. -/
structure FrW (U : Nat → Prop) (J : Nat → World → Prop) (fs : List Fr9) (r : List (BitVec 8)) (X : World) (g : Nat) (W : World) (k : Nat) (wr : World) : Prop where
  inv : J k wr
  spares : Spares U W wr
  below : Below X.heap.size X wr
  box : ∃ p n c, wr.heap[g]? = some (.cells #[.slice p n c] 37 (0, 0)) ∧ (restF fs r k).length = n ∧ n ≤ c ∧ n < 140737488355000 ∧ Lies X p (restF fs r k)
/-- How many bytes are left, as the cell has it. -/
def leftF (g : Nat) (w : World) : Nat := match w.cell? ⟨g, 0, none⟩ with | some (.slice _ n _) => n | _ => 0
theorem leftF_eq {g : Nat} {w : World} {p : Option Addr} {n c : Nat} (h : w.cell? ⟨g, 0, none⟩ = some (.slice p n c)) : leftF g w = n := by unfold leftF; rw [h]
end Go.Proofs.YtdkoomcmkfnfkaaDoor

/-
  Steps within a round about frames: a frame loaded, a slice of one frame, one more frame behind a slice.
-/
namespace Go.Proofs.YtdkoomcmkfnfkaaDoor
open Go.RowKit Go.Proofs.ShaWords
section
variable {F : Fence} {n : Nat} {ops : Array Oper} {rest : List Oper} {o : Oper} {a : Act} {w w' : World} {Q : Exit → Act → World → Prop}
theorem wpListIn_value {P : Program} {v : Value} (hg : o.guard = none) (hab : ∀ f, o.about P w a.eval = some f → False) (hd : ∀ c, o.op ≠ .defer c) (hr : (execOp a.eval o).run P w = .ok (.value v) w') (h : wpListIn F n P ops Q rest (a.put o.dst v) w') : wpListIn F n P ops Q (o :: rest) a w := by
  refine wpListIn_plain hg fun K hK' => ?_
  unfold Oper.wpIn
  refine ⟨fun f e => (hab f e).elim, ?_⟩
  rw [Oper.semAt_plain F _ _ hd, hr]
  exact hK' _ _ h
end
end Go.Proofs.YtdkoomcmkfnfkaaDoor

/-
  The program's Scan: the frames in front of bytes, in new memory, and how many bytes they have.
-/
namespace Go.Proofs.YtdkoomcmkfnfkaaDoor
open Go.RowKit Go.Proofs.ShaWords
attribute [local go_sem] Oper.semAt_some
theorem Spares.stays {T : Nat → Prop} {a b : World} (h : Spares T a b) : Stays T a b := ⟨h.os, h.tape, h.output, h.size, h.block⟩
theorem enters_ofF {P : Program} {f : FuncId} {fn : Func} (hfn : P.funcs[f]? = some fn) (hb : (fn.name == "runtime.NumGoroutine" || fn.body.isNone) = false) : ∀ args w, (callFunc f args).run P w = .ok (.enter f args) w := fun args w => callFunc_body hfn hb args w
theorem framesB_take {fs : List Fr9} {k : Nat} {f : Fr9} (h : fs[k]? = some f) : framesB (fs.take (k + 1)) = framesB (fs.take k) ++ frameB f.1 f.2 := by
  obtain ⟨hk, e⟩ := List.getElem?_eq_some_iff.1 h
  rw [List.take_succ_eq_append_getElem hk, framesB_append, e, framesB_cons]
  rw [show framesB [] = [] from rfl, List.append_nil]
theorem framesB_many : ∀ fs : List Fr9, fs.length ≤ (framesB fs).length
  | [] => Nat.zero_le _
  | f :: fs => by
    have := framesB_many fs
    rw [framesB_cons, List.length_append, frameB_length, List.length_cons]
    omega
end Go.Proofs.YtdkoomcmkfnfkaaDoor

/-
  Frames that came in, opened; the kit's Pick as a function.
-/
namespace Go.Proofs.YtdkoomcmkfnfkaaDoor
open Go.ChangeShapes Go.WideShapes Go.ChangeAt Go.RowKit Go.Proofs.ShaWords Go.Deep
/-- A frame that came in. -/
structure In9 where
  z : Int
  p : Option Addr
  c : Nat
  b : List (BitVec 8)
instance : Inhabited In9 := ⟨⟨0, none, 0, []⟩⟩
def In9.cells (x : In9) : List Value := [.int .i64 x.z, .slice x.p x.b.length x.c]
structure In9.Ok (W : World) (x : In9) : Prop where
  cap : x.b.length ≤ x.c
  lies : Lies W x.p x.b
/-- The kit's Pick. -/
def pickZ (v n : Int) : Nat := (if v.tmod n < 0 then v.tmod n + n else v.tmod n).toNat
theorem pickZ_lt (v n : Int) (h : 1 ≤ n) : (pickZ v n : Int) < n := by
  have := tmod_bounds v n h
  unfold pickZ
  split <;> omega
set_option maxHeartbeats 400000 in
theorem pickZ_any (v n : Int) (w : World) (h1 : 1 ≤ n) (h2 : n ≤ 1000000) : Calls Tryd.prog 26 #[.int .i64 v, .int .i64 n] w fun e w' => e = .returned (.int .i64 (pickZ v n : Int)) ∧ w' = w := by
  have hb := tmod_bounds v n h1
  obtain ⟨hb1, hb2⟩ := hb
  have hn0 : ¬ n = 0 := by omega
  by_cases hneg : v.tmod n < 0
  · have HE : Hid ((pickZ v n : Int) = v.tmod n + n) := show _ = _ by unfold pickZ; rw [if_pos hneg]; omega
    go_enter Tryd.func26, Tryd.ntmps26
    go_wp2_with fail
    go_ret
    exact ⟨by rw [HE.out]; rfl, rfl⟩
  · have HE : Hid ((pickZ v n : Int) = v.tmod n) := show _ = _ by unfold pickZ; rw [if_neg hneg]; omega
    go_enter Tryd.func26, Tryd.ntmps26
    go_wp2_with fail
    go_ret
    exact ⟨by rw [HE.out]; rfl, rfl⟩
end Go.Proofs.YtdkoomcmkfnfkaaDoor
