/-
  What other texts lean on: PkModel, PkRd, PkNum, PkNext, PkMore, PkLay, PkRefLay, PkRefLay2, PkRefRd, PkRefRd2, PkRefRd3, PkRefSum, PkWorks.
-/
import Derived.Test.YtdkoomcmkfnfkaaDoorPkA
import Derived.Test.YtdkoomcmkfnfkaaDoorPkP
import Derived.Deep.Cut
import Derived.Deep.CutRange
import Derived.Lib.AppendStr
import Derived.Deep.QuietTactic
import Derived.BigQuiet
import Derived.StillTailTactics
import Derived.Laws.ResultCell
import Derived.Great.BuildSlice
/-
  What layer 7 asks, as plain functions: a number in eight bytes, the highest first, there and back; a reader.
-/
namespace Go.Proofs.YtdkoomcmkfnfkaaDoor
open Go.Proofs.ShaWords
/-- The first k of a number's bytes, the highest first. -/
def beTo (v : Int) (k : Nat) : List (BitVec 8) := (List.range k).map fun i => BitVec.ofInt 8 (v / 2 ^ (8 * (7 - i)))
def be8 (v : Int) : List (BitVec 8) := beTo v 8
theorem beTo_zero (v : Int) : beTo v 0 = [] := rfl
theorem beTo_succ (v : Int) (k : Nat) : beTo v (k + 1) = beTo v k ++ [BitVec.ofInt 8 (v / 2 ^ (8 * (7 - k)))] := by simp [beTo, List.range_succ]
theorem beTo_length (v : Int) (k : Nat) : (beTo v k).length = k := by simp [beTo]
theorem be8_length (v : Int) : (be8 v).length = 8 := beTo_length v 8
/-- The number that bytes tell, the highest first. -/
def num8 (l : List (BitVec 8)) : Nat := l.foldl (fun u b => u * 256 + b.toNat) 0
theorem num8_nil : num8 [] = 0 := rfl
theorem num8_snoc (l : List (BitVec 8)) (b : BitVec 8) : num8 (l ++ [b]) = num8 l * 256 + b.toNat := by simp [num8]
theorem num8_lt : ∀ (k : Nat) (l : List (BitVec 8)), l.length = k → num8 l < 256 ^ k
  | 0, l, h => by rw [List.length_eq_zero_iff.1 h]; decide
  | k + 1, l, h => by
    have hne : l ≠ [] := fun e => by rw [e] at h; simp at h
    rw [← List.dropLast_concat_getLast hne, num8_snoc]
    have h1 := num8_lt k l.dropLast (by rw [List.length_dropLast]; omega)
    have h2 := (l.getLast hne).isLt
    rw [Nat.pow_succ]
    omega
/-- The number as an int. -/
def int8 (l : List (BitVec 8)) : Int := IntKind.i64.wrap (num8 l : Int)
theorem int8_nil : int8 [] = 0 := by decide
theorem or_byte (u b : Nat) (hb : b < 256) : u * 256 ||| b = u * 256 + b := by
  rw [Nat.mul_comm u 256]
  exact (Nat.two_pow_add_eq_or_of_lt (i := 8) hb u).symm
theorem shl_or8 (u : Nat) (b : BitVec 8) (h : u * 256 + 255 < 18446744073709551616) : bits .or .u64 (IntKind.u64.wrap ((u : Int) * 256)) (n8 b) = ((u * 256 + b.toNat : Nat) : Int) := by
  have e1 : IntKind.u64.wrap ((u : Int) * 256) = ((u * 256 : Nat) : Int) := by rw [IntKind.wrap_u64]; omega
  have hb := b.isLt
  rw [e1]
  unfold n8
  rw [u64_or_nat (u * 256) b.toNat (Nat.lt_of_le_of_lt (Nat.le_add_right _ 255) h) (Nat.lt_of_lt_of_le hb (by decide)), or_byte u b.toNat hb]
theorem mul_add8 (u : Nat) (b : BitVec 8) (h : u * 256 + 255 < 18446744073709551616) : IntKind.u64.wrap (IntKind.u64.wrap ((u : Int) * 256) + n8 b) = ((u * 256 + b.toNat : Nat) : Int) := by
  have hb := b.isLt
  unfold n8
  simp only [IntKind.wrap_u64]
  omega
theorem num_bound (k : Nat) (l : List (BitVec 8)) (h : l.length = k) (hk : k < 8) : num8 l * 256 + 255 < 18446744073709551616 := by
  have h1 := num8_lt k l h
  have h2 : (256 : Nat) ^ k ≤ 256 ^ 7 := Nat.pow_le_pow_right (by omega) (by omega)
  have h3 : (256 : Nat) ^ 7 = 72057594037927936 := by decide
  rw [h3] at h2
  generalize (256 : Nat) ^ k = P at h1 h2
  omega
theorem ofInt8_toNat (x : Int) : (BitVec.ofInt 8 x).toNat = (x % 256).toNat := by rw [BitVec.toNat_ofInt]; rfl
/-- A reader: the bytes that are left (none once an error has stuck), the error. -/
structure RS where
  bs : List (BitVec 8)
  e : Nat
def RS.fail (s : RS) (k : Nat) : RS := ⟨[], if s.e = 0 then k else s.e⟩
def RS.next (s : RS) (n : Nat) : RS := if s.bs.length < n then s.fail 4 else ⟨s.bs.drop n, s.e⟩
def RS.got (s : RS) (n : Nat) : List (BitVec 8) := if s.bs.length < n then [] else s.bs.take n
def RS.intV (s : RS) : Int := int8 (s.got 8)
def RS.sumV (s : RS) : List (BitVec 8) := if s.bs.length < 32 then List.replicate 32 0#8 else s.bs.take 32
def RS.over (s : RS) (most : Int) : Bool := decide (s.intV < 0) || decide (most < s.intV)
def RS.countS (s : RS) (most : Int) : RS := if s.over most = true then (s.next 8).fail 3 else s.next 8
def RS.countV (s : RS) (most : Int) : Nat := if s.over most = true then 0 else s.intV.toNat
def RS.blobS (s : RS) (most : Int) : RS := (s.countS most).next (s.countV most)
def RS.blobV (s : RS) (most : Int) : List (BitVec 8) := (s.countS most).got (s.countV most)
def RS.Ok (s : RS) : Prop := s.e ≠ 0 → s.bs = []
theorem RS.fail_ok (s : RS) (k : Nat) : (s.fail k).Ok := fun _ => rfl
theorem RS.next_ok {s : RS} (h : s.Ok) (n : Nat) : (s.next n).Ok := by
  unfold RS.next
  split
  · exact RS.fail_ok s 4
  · intro h1
    have := h h1
    simp [this]
theorem RS.countS_ok {s : RS} (h : s.Ok) (most : Int) : (s.countS most).Ok := by
  unfold RS.countS
  split
  · exact RS.fail_ok _ 3
  · exact RS.next_ok h 8
theorem RS.blobS_ok {s : RS} (h : s.Ok) (most : Int) : (s.blobS most).Ok := RS.next_ok (RS.countS_ok h most) _
theorem RS.got_length {s : RS} {n : Nat} : (s.got n).length ≤ n := by
  unfold RS.got; split
  · simp
  · rw [List.length_take]; omega
theorem RS.got_le {s : RS} {n : Nat} : (s.got n).length ≤ s.bs.length := by
  unfold RS.got; split
  · simp
  · rw [List.length_take]; omega
end Go.Proofs.YtdkoomcmkfnfkaaDoor

/-
  The program's reader in memory: Read, Left, Bad, End, fail, next, Int.
-/
namespace Go.Proofs.YtdkoomcmkfnfkaaDoor
open Go.RowKit Go.Proofs.ShaWords
theorem SliceIn.nil (D : Nat → Prop) (w : World) : SliceIn D w (.slice none 0 0) [] := ⟨none, 0, rfl, Nat.le_refl _, Nat.zero_le _, Or.inl rfl⟩
/-- What End tells. -/
def RS.endV (s : RS) : Nat := if s.e = 0 ∧ 0 < s.bs.length then 5 else s.e
end Go.Proofs.YtdkoomcmkfnfkaaDoor

/-
  A number's eight bytes tell it; eight bytes are their number's.
-/
namespace Go.Proofs.YtdkoomcmkfnfkaaDoor
open Go.Proofs.ShaWords
theorem eight (l : List (BitVec 8)) (h : l.length = 8) : ∃ a b c d e f g i, l = [a, b, c, d, e, f, g, i] := by
  match l, h with
  | [a, b, c, d, e, f, g, i], _ => exact ⟨a, b, c, d, e, f, g, i, rfl⟩
theorem num8_eight (a b c d e f g i : BitVec 8) : num8 [a, b, c, d, e, f, g, i] = ((((((a.toNat * 256 + b.toNat) * 256 + c.toNat) * 256 + d.toNat) * 256 + e.toNat) * 256 + f.toNat) * 256 + g.toNat) * 256 + i.toNat := by
  simp only [num8, List.foldl, Nat.zero_mul, Nat.zero_add]
theorem be8_eight (v : Int) : be8 v = [BitVec.ofInt 8 (v / 72057594037927936), BitVec.ofInt 8 (v / 281474976710656), BitVec.ofInt 8 (v / 1099511627776), BitVec.ofInt 8 (v / 4294967296), BitVec.ofInt 8 (v / 16777216), BitVec.ofInt 8 (v / 65536), BitVec.ofInt 8 (v / 256), BitVec.ofInt 8 (v / 1)] := by
  simp only [be8, beTo, List.range, List.range.loop, List.map, Nat.sub_zero, Nat.reduceSub, Nat.reduceMul, Nat.mul_zero]
  rfl
theorem byteN (x : Int) : ((BitVec.ofInt 8 x).toNat : Int) = x % 256 := by
  rw [ofInt8_toNat]; omega
theorem int8_be8 (v : Int) (h : -9223372036854775808 ≤ v ∧ v < 9223372036854775808) : int8 (be8 v) = v := by
  unfold int8
  rw [be8_eight, num8_eight]
  simp only [Int.natCast_add, Int.natCast_mul, byteN, Int.ediv_one]
  show IntKind.i64.wrap (((((((_ * 256 + _) * 256 + _) * 256 + _) * 256 + _) * 256 + _) * 256 + _) * 256 + _) = _
  have h7 : v / 281474976710656 / 256 = v / 72057594037927936 := Int.ediv_ediv_of_nonneg (by decide)
  have h6 : v / 1099511627776 / 256 = v / 281474976710656 := Int.ediv_ediv_of_nonneg (by decide)
  have h5 : v / 4294967296 / 256 = v / 1099511627776 := Int.ediv_ediv_of_nonneg (by decide)
  have h4 : v / 16777216 / 256 = v / 4294967296 := Int.ediv_ediv_of_nonneg (by decide)
  have h3 : v / 65536 / 256 = v / 16777216 := Int.ediv_ediv_of_nonneg (by decide)
  have h2 : v / 256 / 256 = v / 65536 := Int.ediv_ediv_of_nonneg (by decide)
  generalize v / 72057594037927936 = x7 at *
  generalize v / 281474976710656 = x6 at *
  generalize v / 1099511627776 = x5 at *
  generalize v / 4294967296 = x4 at *
  generalize v / 16777216 = x3 at *
  generalize v / 65536 = x2 at *
  generalize h1 : v / 256 = x1 at *
  have s6 : x7 % 256 * 256 + x6 % 256 = x6 % 65536 := by omega
  rw [s6]; clear s6
  have s5 : x6 % 65536 * 256 + x5 % 256 = x5 % 16777216 := by omega
  rw [s5]; clear s5
  have s4 : x5 % 16777216 * 256 + x4 % 256 = x4 % 4294967296 := by omega
  rw [s4]; clear s4
  have s3 : x4 % 4294967296 * 256 + x3 % 256 = x3 % 1099511627776 := by omega
  rw [s3]; clear s3
  have s2 : x3 % 1099511627776 * 256 + x2 % 256 = x2 % 281474976710656 := by omega
  rw [s2]; clear s2
  have s1 : x2 % 281474976710656 * 256 + x1 % 256 = x1 % 72057594037927936 := by omega
  rw [s1]; clear s1
  have s0 : x1 % 72057594037927936 * 256 + v % 256 = v % 18446744073709551616 := by omega
  rw [s0, IntKind.wrap_i64]
  clear s0
  omega
theorem be8_int8 (l : List (BitVec 8)) (h : l.length = 8) : be8 (int8 l) = l := by
  obtain ⟨a, b, c, d, e, f, g, i, rfl⟩ := eight l h
  have la := a.isLt; have lb := b.isLt; have lc := c.isLt; have ld := d.isLt; have le := e.isLt; have lf := f.isLt; have lg := g.isLt; have li := i.isLt
  rw [be8_eight]
  unfold int8
  rw [num8_eight]
  generalize ha : a.toNat = A at *
  generalize hb : b.toNat = B at *
  generalize hc : c.toNat = C at *
  generalize hd : d.toNat = D at *
  generalize he : e.toNat = E at *
  generalize hf : f.toNat = F at *
  generalize hg : g.toNat = G at *
  generalize hi : i.toNat = I at *
  obtain ⟨U1, hU1⟩ : ∃ U, U = A := ⟨_, rfl⟩
  rw [← hU1]
  obtain ⟨U2, hU2⟩ : ∃ U, U = U1 * 256 + B := ⟨_, rfl⟩
  rw [← hU2]
  obtain ⟨U3, hU3⟩ : ∃ U, U = U2 * 256 + C := ⟨_, rfl⟩
  rw [← hU3]
  obtain ⟨U4, hU4⟩ : ∃ U, U = U3 * 256 + D := ⟨_, rfl⟩
  rw [← hU4]
  obtain ⟨U5, hU5⟩ : ∃ U, U = U4 * 256 + E := ⟨_, rfl⟩
  rw [← hU5]
  obtain ⟨U6, hU6⟩ : ∃ U, U = U5 * 256 + F := ⟨_, rfl⟩
  rw [← hU6]
  obtain ⟨U7, hU7⟩ : ∃ U, U = U6 * 256 + G := ⟨_, rfl⟩
  rw [← hU7]
  obtain ⟨U8, hU8⟩ : ∃ U, U = U7 * 256 + I := ⟨_, rfl⟩
  rw [← hU8]
  have b1 : U1 < 256 := by omega
  have b2 : U2 < 65536 := by omega
  have b3 : U3 < 16777216 := by omega
  have b4 : U4 < 4294967296 := by omega
  have b5 : U5 < 1099511627776 := by omega
  have b6 : U6 < 281474976710656 := by omega
  have b7 : U7 < 72057594037927936 := by omega
  have b8 : U8 < 18446744073709551616 := by omega
  obtain ⟨m, hm, hv⟩ : ∃ m : Int, (m = 0 ∨ m = 1) ∧ IntKind.i64.wrap (U8 : Int) = U8 - m * 18446744073709551616 := by
    rw [IntKind.wrap_i64]
    by_cases hs : U8 < 9223372036854775808
    · exact ⟨0, .inl rfl, by omega⟩
    · exact ⟨1, .inr rfl, by omega⟩
  rw [hv]
  generalize hV : (U8 : Int) - m * 18446744073709551616 = V
  have h2 : V / 256 / 256 = V / 65536 := Int.ediv_ediv_of_nonneg (by decide)
  have h3 : V / 65536 / 256 = V / 16777216 := Int.ediv_ediv_of_nonneg (by decide)
  have h4 : V / 16777216 / 256 = V / 4294967296 := Int.ediv_ediv_of_nonneg (by decide)
  have h5 : V / 4294967296 / 256 = V / 1099511627776 := Int.ediv_ediv_of_nonneg (by decide)
  have h6 : V / 1099511627776 / 256 = V / 281474976710656 := Int.ediv_ediv_of_nonneg (by decide)
  have h7 : V / 281474976710656 / 256 = V / 72057594037927936 := Int.ediv_ediv_of_nonneg (by decide)
  have e0 : V = (U7 : Int) * 256 + I - m * 18446744073709551616 := by omega
  have e1 : V / 256 = (U7 : Int) - m * 72057594037927936 := by omega
  have e2 : V / 65536 = (U6 : Int) - m * 281474976710656 := by rw [← h2, e1]; clear h2; omega
  have e3 : V / 16777216 = (U5 : Int) - m * 1099511627776 := by rw [← h3, e2]; clear h3; omega
  have e4 : V / 4294967296 = (U4 : Int) - m * 4294967296 := by rw [← h4, e3]; clear h4; omega
  have e5 : V / 1099511627776 = (U3 : Int) - m * 16777216 := by rw [← h5, e4]; clear h5; omega
  have e6 : V / 281474976710656 = (U2 : Int) - m * 65536 := by rw [← h6, e5]; clear h6; omega
  have e7 : V / 72057594037927936 = (U1 : Int) - m * 256 := by rw [← h7, e6]; clear h7; omega
  rw [e7, e6, e5, e4, e3, e2, e1, Int.ediv_one]
  simp only [List.cons.injEq, and_true]
  refine ⟨?_, ?_, ?_, ?_, ?_, ?_, ?_, ?_⟩ <;> apply BitVec.eq_of_toNat_eq <;> rw [ofInt8_toNat]
  · rw [ha]; clear e0 e1 e2 e3 e4 e5 e6 e7; omega
  · rw [hb]; clear e0 e1 e2 e3 e4 e5 e6 e7; omega
  · rw [hc]; clear e0 e1 e2 e3 e4 e5 e6 e7; omega
  · rw [hd]; clear e0 e1 e2 e3 e4 e5 e6 e7; omega
  · rw [he]; clear e0 e1 e2 e3 e4 e5 e6 e7; omega
  · rw [hf]; clear e0 e1 e2 e3 e4 e5 e6 e7; omega
  · rw [hg]; clear e0 e1 e2 e3 e4 e5 e6 e7; omega
  · rw [hi]; omega
end Go.Proofs.YtdkoomcmkfnfkaaDoor

/-
  The program's reader: next, Int.
-/
namespace Go.Proofs.YtdkoomcmkfnfkaaDoor
open Go.RowKit Go.Proofs.ShaWords
theorem liesIn_take {D : Nat → Prop} {w : World} {p : Option Addr} {l : List (BitVec 8)} (h : LiesIn D w p l) (k : Nat) : LiesIn D w p (l.take k) := by
  rcases h with h0 | ⟨b, off, rfl, hd, hb, hr⟩
  · exact Or.inl (by rw [h0]; simp)
  · refine Or.inr ⟨b, off, rfl, hd, hb, fun j v hv => hr j v ?_⟩
    simp only [bytesV, List.map_take] at hv
    rw [List.getElem?_take] at hv
    split at hv
    · exact hv
    · cases hv
theorem liesIn_drop {D : Nat → Prop} {w : World} {p : Option Addr} {l : List (BitVec 8)} (h : LiesIn D w p l) (k : Nat) : LiesIn D w (p.map (·.add k)) (l.drop k) := by
  rcases h with h0 | ⟨b, off, rfl, hd, hb, hr⟩
  · exact Or.inl (by rw [h0]; simp)
  · exact Or.inr ⟨b, off + k, by simp [Addr.add_mid], hd, hb, range_drop hr⟩
theorem sliceIn_take {D : Nat → Prop} {w : World} {p : Option Addr} {l : List (BitVec 8)} {c k : Nat} (h : LiesIn D w p l) (h1 : l.length ≤ c) (h2 : c ≤ maxLen) (hk : k ≤ l.length) : SliceIn D w (.slice p k c) (l.take k) :=
  ⟨p, c, by rw [List.length_take, Nat.min_eq_left hk], by rw [List.length_take]; omega, h2, liesIn_take h k⟩
theorem sliceIn_drop {D : Nat → Prop} {w : World} {p : Option Addr} {l : List (BitVec 8)} {n m c k : Nat} (h : LiesIn D w p l) (h1 : l.length ≤ c) (h2 : c ≤ maxLen) (hn : n = l.length - k) (hm : m = c - k) : SliceIn D w (.slice (p.map (·.add k)) n m) (l.drop k) :=
  ⟨p.map (·.add k), m, by rw [List.length_drop, hn], by rw [List.length_drop]; omega, by omega, liesIn_drop h k⟩
theorem sliceIn_end {D : Nat → Prop} {w : World} {p : Option Addr} {l : List (BitVec 8)} {n m k : Nat} (hn : n = 0) (hm : m ≤ maxLen) (hk : l.length ≤ k) : SliceIn D w (.slice p n m) (l.drop k) := by
  have e : l.drop k = [] := List.drop_of_length_le hk
  rw [e, hn]
  exact ⟨p, m, rfl, Nat.zero_le _, hm, Or.inl rfl⟩
theorem set_stays (w : World) (g j : Nat) (u : Value) : Stays (fun k => k = g) w (w.setCell ⟨g, j, none⟩ u) := grown_stays (grown_setCell w g j u) (fun _ e => (Option.some.inj e).symm)
theorem wrapEq7 (x : Int) : wrap64 x = IntKind.i64.wrap x := (IntWalk.i64_left x).symm
theorem RS.got_take_succ {s : RS} {k : Nat} (h : k < (s.got 8).length) : (s.got 8).take (k + 1) = (s.got 8).take k ++ [(s.got 8)[k]] := List.take_succ_eq_append_getElem h
end Go.Proofs.YtdkoomcmkfnfkaaDoor

/-
  The program's reader: Sum, Count, Blob, Text.
-/
namespace Go.Proofs.YtdkoomcmkfnfkaaDoor
open Go.RowKit Go.Proofs.ShaWords
theorem sumV_splice (s : RS) : splice (noughts 32) 0 (s.got 32) = s.sumV := by
  unfold RS.got RS.sumV
  by_cases h : s.bs.length < 32
  · rw [if_pos h, if_pos h, splice_nil]; rfl
  · rw [if_neg h, if_neg h]
    have hl : (s.bs.take 32).length = 32 := by rw [List.length_take]; omega
    show splice (List.replicate 32 0#8) 0 _ = _
    rw [splice_noughts, hl]
    simp
theorem sumV_length (s : RS) : s.sumV.length = 32 := by
  unfold RS.sumV
  split
  · simp
  · rw [List.length_take]; omega
theorem BytesAt.stays {F : Nat → Prop} {w w' : World} {g : Nat} {t : TypeId} {l : List (BitVec 8)} (h : BytesAt w g t l) (hk : Stays F w w') (hF : ¬ F g) : BytesAt w' g t l := (hk.block g h.size hF).trans h
theorem Own.lower {B B' : Nat} {w : World} {l : List (BitVec 8)} {v : Value} (h : Own B w l v) (hB : B' ≤ B) : Own B' w l v := by
  refine ⟨h.1, ?_⟩
  rcases h.2 with h0 | ⟨g, cap, cur, he, hg, r⟩
  · exact Or.inl h0
  · exact Or.inr ⟨g, cap, cur, he, Nat.le_trans hB hg, r⟩
theorem Below.drew0 (w : World) : Below w.heap.size w w.drew := (Below.refl _ _).drew
/-- What is left is short: so is what is told. -/
def RS.Short (s : RS) : Prop := s.bs.length < 140737488355328
end Go.Proofs.YtdkoomcmkfnfkaaDoor

/-
  What is laid: slices.Grow of nothing, slices.Concat of two, and the program's Int, Blob, Text and Sum.
-/
namespace Go.Proofs.YtdkoomcmkfnfkaaDoor
open Go.RowKit Go.Proofs.ShaWords
theorem strB_cells (m : List (BitVec 8)) : Lib.strCells (strB m) = bytesV m := by
  unfold Lib.strCells strB bytesV
  rw [strOfNums_data, List.map_map, List.map_map]
  refine List.map_congr_left fun b _ => ?_
  have hb := b.isLt
  simp [n8]
theorem strB_size (m : List (BitVec 8)) : (strB m).size = m.length := by
  unfold strB
  rw [strOfNums_size, List.length_map]
/-- A string's bytes, appended to a slice of the call's own. -/
theorem wpList_append_str {ops : Array Oper} {rest : List Oper} {o : Oper} {a : Act} {w : World} {Q : Exit → Act → World → Prop} (hgd : o.guard = none) (s x : Operand)
    (ho : o.op = .call { callee := .builtin .append, args := #[s, x], argTypes := #[37, 9] }) (B : Nat) (v : Value) (l m : List (BitVec 8)) (hs : a.eval s = v) (hown : Own B w l v) (hx : a.eval x = .string (strB m))
    (hl : l.length + m.length < 140737488355328) (hB : B ≤ w.heap.size)
    (h : ∀ v' w', Own B w' (l ++ m) v' → Below B w w' → wpList Tryd.prog ops Q rest (a.put o.dst v') w') : wpList Tryd.prog ops Q (o :: rest) a w := by
  obtain ⟨i, hi, hz, hsz, hby⟩ := info5'
  refine Lib.wpList_append_own_string w hgd s x 37 9 ho B 5 i Tryd.underlying37 Tryd.underlying9 hi hz hsz hby v l.length (bytesV l) hs hown (strB m) hx (by rw [strB_size]; unfold maxLen; omega) (by rw [strB_size]; omega) hB ?_
  intro v' w' ho' hg _
  refine h v' w' ?_ ((Below.refl B w).grown hg hB (fun k hk => (hown.lt k hk).1))
  unfold Own
  rw [List.length_append, bytesV_append]
  rw [strB_size, strB_cells] at ho'
  exact ho'
/-- The front of a slice of the call's own. -/
theorem Own.front {B : Nat} {w : World} {l : List (BitVec 8)} {q : Option Addr} {n c k : Nat} (h : Own B w l (.slice q n c)) (hk : k ≤ l.length) : Own B w (l.take k) (.slice q k c) := by
  rcases h.2 with ⟨h0, h1⟩ | ⟨g, cap, cur, he, hg, hh, hc, hm, hs, ht⟩
  · cases h0
    have hk0 : k = 0 := by omega
    subst hk0
    exact World.ownsRow_nil w B 5 1
  · cases he
    refine ⟨by rw [bytesV_length, Nat.mul_one], .inr ⟨g, c, cur, by rw [List.length_take, Nat.min_eq_left hk], hg, hh, by rw [List.length_take]; omega, hm, hs, ?_⟩⟩
    rw [Nat.mul_one] at ht ⊢
    rw [List.length_take, Nat.min_eq_left hk, bytesV_take, ← ht, List.take_take, Nat.min_eq_left hk]
theorem n8_byte (x : Int) : x % 256 = n8 (BitVec.ofInt 8 x) := by
  unfold n8
  rw [ofInt8_toNat]
  omega
theorem beTo_set (v : Int) (k : Nat) (h : k < 8) : (beTo v k ++ noughts (8 - k)).set k (BitVec.ofInt 8 (v / 2 ^ (8 * (7 - k)))) = beTo v (k + 1) ++ noughts (8 - (k + 1)) := by
  rw [List.set_append_right _ _ (by rw [beTo_length]; exact Nat.le_refl _), beTo_length, Nat.sub_self, beTo_succ, List.append_assoc]
  obtain ⟨j, hj⟩ : ∃ j, 8 - k = j + 1 := ⟨8 - k - 1, by omega⟩
  rw [hj, show 8 - (k + 1) = j by omega]
  rfl
end Go.Proofs.YtdkoomcmkfnfkaaDoor

/-
  The document's Int, Blob, Text and Sum of layer 7.
-/
namespace Go.Proofs.YtdkoomcmkfnfkaaDoor
open Go.RowKit Go.Proofs.ShaWords
theorem refByte (v : Int) (i : Nat) (h : i < 8) : (((v % 18446744073709551616).toNat / 256 ^ i : Nat) : Int) % 256 = n8 (BitVec.ofInt 8 (v / 2 ^ (8 * i))) := by
  rw [← n8_byte]
  have hU : (((v % 18446744073709551616).toNat : Nat) : Int) = v % 18446744073709551616 := by omega
  rw [Int.natCast_ediv, hU]
  clear hU
  obtain rfl | rfl | rfl | rfl | rfl | rfl | rfl | rfl : i = 0 ∨ i = 1 ∨ i = 2 ∨ i = 3 ∨ i = 4 ∨ i = 5 ∨ i = 6 ∨ i = 7 := by omega
  · show v % 18446744073709551616 / 1 % 256 = v / 1 % 256; omega
  · show v % 18446744073709551616 / 256 % 256 = v / 256 % 256; omega
  · show v % 18446744073709551616 / 65536 % 256 = v / 65536 % 256; omega
  · show v % 18446744073709551616 / 16777216 % 256 = v / 16777216 % 256; omega
  · show v % 18446744073709551616 / 4294967296 % 256 = v / 4294967296 % 256; omega
  · show v % 18446744073709551616 / 1099511627776 % 256 = v / 1099511627776 % 256; omega
  · show v % 18446744073709551616 / 281474976710656 % 256 = v / 281474976710656 % 256; omega
  · show v % 18446744073709551616 / 72057594037927936 % 256 = v / 72057594037927936 % 256; omega
theorem wrapU (v : Int) : IntKind.u64.wrap v = (((v % 18446744073709551616).toNat : Nat) : Int) := by
  rw [IntKind.wrap_u64]; omega
set_option maxHeartbeats 1000000 in
theorem intR_any (v : Int) (l : List (BitVec 8)) (n : Nat) (p : Option Addr) (c : Nat) (w : World) (hn : l.length = n) (hl : n < 140737488355000) (hp : Lies w p l) :
    Calls Tryd.prog 83 #[.slice p n c, .int .i64 v] w fun e w' => ∃ r, e = .returned r ∧ Own w.heap.size w' (l ++ be8 v) r ∧ Below w.heap.size w w' := by
  have HC := Lib.hid (copy_bigL l n p c w hn (by omega) hp)
  clear hp
  have hwu := wrapU v
  have hrb := fun i h => refByte v i h
  have hUlt : (v % 18446744073709551616).toNat < 18446744073709551616 := by omega
  generalize (v % 18446744073709551616).toNat = U at *
  have HRB := Lib.hid hrb; clear hrb
  go_enter Tryd.func83, Tryd.ntmps83
  go_wp2_with (go_at_call 33; refine HC.out.mono ?_; rintro e w1 ⟨r, rfl, ho, hb⟩; have HO := Lib.hid ho; have HB := Lib.hid hb; clear ho hb)
  clear hwu HC
  rename World => w1
  go_loopw [5, 7] (fun r i wr => ∃ j : Nat, j ≤ 8 ∧ i = .int .i64 (7 - (j : Int)) ∧ Own w.heap.size wr (l ++ beTo v j) r ∧ Below w.heap.size w wr) (fun _ i _ => (intOf i + 1).toNat)
  case atStart => exact ⟨0, by omega, rfl, by rw [beTo_zero, List.append_nil]; exact HO.out, HB.out⟩
  case round =>
    clear HO HB
    obtain ⟨j, hj, rfl, ho, hb⟩ := hrel
    have HO := Lib.hid ho; clear ho
    have HB := Lib.hid hb; clear hb
    have sz := HB.out.size
    by_cases hlt : j < 8
    · have q0 : 7 - (j : Int) ≥ 0 := by omega
      go_wp2_with fail
      go_loopw [8, 9] (fun x k w2 => wr = w2 ∧ ∃ i : Nat, (i : Int) ≤ 7 - (j : Int) ∧ k = .int .i64 (i : Int) ∧ x = .int .u64 ((U / 256 ^ i : Nat) : Int)) (fun _ k _ => (7 - (j : Int) - intOf k).toNat)
      case atStart => exact ⟨rfl, 0, by omega, rfl, by simp⟩
      case round =>
        obtain ⟨rfl, i, hi, rfl, rfl⟩ := hrel
        have hdiv : U / 256 ^ i / 256 = U / 256 ^ (i + 1) := by rw [Nat.div_div_eq_div_mul, Nat.pow_succ]
        have hle : U / 256 ^ i ≤ U := Nat.div_le_self _ _
        by_cases hil : (i : Int) < 7 - (j : Int)
        · generalize U / 256 ^ i = X at *
          go_wp2_with fail
          go_roundw
          case rel => exact ⟨trivial, i + 1, by omega, by go_num, by rw [← hdiv]; rfl⟩
          case measure => simp [intOf]; omega
        · obtain rfl : i = 7 - j := by omega
          have m1 := HRB.out (7 - j) (by omega)
          have HBT : Hid (l ++ beTo v (j + 1) = (l ++ beTo v j) ++ [BitVec.ofInt 8 (v / 2 ^ (8 * (7 - j)))]) := show _ = _ by rw [beTo_succ, List.append_assoc]
          have HLE : Hid ((l ++ beTo v j).length < 140737488355328) := show _ < _ by rw [List.length_append, beTo_length]; omega
          generalize BitVec.ofInt 8 (v / 2 ^ (8 * (7 - j))) = b at *
          generalize U / 256 ^ (7 - j) = X at *
          go_wp2_with (at_builtin; refine wpList_append_byte_big rfl (.tmp 26) (.tmp 30) rfl w.heap.size _ (l ++ beTo v j) b rfl HO.out rfl HLE.out HB.out.size ?_; intro v' w' ho' hb'; rw [← HBT.out] at ho'; have HO' := Lib.hid ho'; have HB' := Lib.hid (HB.out.trans hb'); clear ho' hb')
          go_roundw
          case rel => exact ⟨j + 1, by omega, by go_num, HO'.out, HB'.out⟩
          case measure => simp [intOf]; omega
    · obtain rfl : j = 8 := by omega
      go_wp2_with fail
      go_ret
      exact ⟨_, rfl, HO.out, HB.out⟩
end Go.Proofs.YtdkoomcmkfnfkaaDoor

/-
  The document's Blob, Text and Sum of layer 7.
-/
namespace Go.Proofs.YtdkoomcmkfnfkaaDoor
open Go.RowKit Go.Proofs.ShaWords
theorem strB_byte (m : List (BitVec 8)) (k : Nat) (h : k < m.length) (w : World) : (Instr.index 9 (.string (strB m)) (.int .i64 (k : Int))).run Tryd.prog w = .ok (.int .u8 (n8 m[k])) w := by
  have hsz := strB_size m
  rw [run_index_string (P := Tryd.prog) w 9 (strB m) .i64 (k : Int) Tryd.underlying9, dif_pos ⟨by omega, by rw [hsz]; omega⟩]
  have e : ((strB m)[(k : Int).toNat]'(by rw [hsz]; omega)).toNat = m[k].toNat := by
    have h1 := m[k].isLt
    simp [strB, strOfNums, ByteArray.getElem_eq_getElem_data, n8]
  unfold n8
  rw [e]
end Go.Proofs.YtdkoomcmkfnfkaaDoor

/-
  The document's reader of layer 7: Read, Left, Bad, End, next.
-/
namespace Go.Proofs.YtdkoomcmkfnfkaaDoor
open Go.RowKit Go.Proofs.ShaWords
end Go.Proofs.YtdkoomcmkfnfkaaDoor

/-
  The document's reader of layer 7: next, Int, Sum, Count, Blob, Text.
-/
namespace Go.Proofs.YtdkoomcmkfnfkaaDoor
open Go.RowKit Go.Proofs.ShaWords
theorem RS.next_bad {s : RS} (h : s.Ok) (he : s.e ≠ 0) (n : Nat) : s.next n = s ∧ s.got n = [] := by
  have hb := h he
  obtain ⟨bs, e⟩ := s
  simp only at hb he
  subst hb
  unfold RS.next RS.got RS.fail
  simp [he]
end Go.Proofs.YtdkoomcmkfnfkaaDoor

/-
  The document's reader of layer 7: Int, Sum, Count, Blob, Text.
-/
namespace Go.Proofs.YtdkoomcmkfnfkaaDoor
open Go.RowKit Go.Proofs.ShaWords
theorem wrap_n8 (x : BitVec 8) : IntKind.u64.wrap (n8 x) = n8 x := by
  unfold n8
  rw [IntKind.wrap_u64]
  have := x.isLt
  omega
theorem RS.next_short {s : RS} (h : s.Short) (n : Nat) : (s.next n).Short := by
  unfold RS.Short RS.next RS.fail at *
  split <;> simp <;> omega
theorem RS.countS_short {s : RS} (h : s.Short) (most : Int) : (s.countS most).Short := by
  unfold RS.countS
  split
  · unfold RS.Short RS.fail; simp
  · exact RS.next_short h 8
theorem RS.blobS_short {s : RS} (h : s.Short) (most : Int) : (s.blobS most).Short := RS.next_short (RS.countS_short h most) _
theorem RS.countS_of {s : RS} (h : s.Ok) (most : Int) : s.countS most = if (s.next 8).e = 0 ∧ s.over most = true then ⟨[], 3⟩ else s.next 8 := by
  unfold RS.countS
  by_cases ho : s.over most = true
  · rw [if_pos ho]
    by_cases he : (s.next 8).e = 0
    · rw [if_pos ⟨he, ho⟩]; unfold RS.fail; rw [if_pos he]
    · rw [if_neg (fun h => he h.1)]
      have hb := RS.next_ok h 8 he
      generalize s.next 8 = t at *
      obtain ⟨bs, e⟩ := t
      simp only at hb he
      subst hb
      unfold RS.fail
      simp [he]
  · rw [if_neg ho, if_neg (fun h => ho h.2)]
theorem RS.countV_of {s : RS} (h : s.Ok) (most : Int) : (s.countV most : Int) = if (s.countS most).e = 0 then s.intV else 0 := by
  have hc := RS.countS_of h most
  by_cases ho : s.over most = true
  · have hv : s.countV most = 0 := if_pos ho
    by_cases he : (s.next 8).e = 0
    · rw [if_pos ⟨he, ho⟩] at hc
      rw [hv, hc]; rfl
    · rw [if_neg (fun h => he h.1)] at hc
      rw [hv, hc, if_neg he]; rfl
  · have hv : s.countV most = s.intV.toNat := if_neg ho
    rw [if_neg (fun h => ho h.2)] at hc
    have h0 : 0 ≤ s.intV := by
      unfold RS.over at ho
      simp at ho
      omega
    rw [hv, hc]
    by_cases he : (s.next 8).e = 0
    · rw [if_pos he]; omega
    · rw [if_neg he]
      have hg : s.got 8 = [] := by
        unfold RS.got
        unfold RS.next at he
        split at he
        · rename_i hl; rw [if_pos hl]
        · rename_i hl; have := h he; rw [this] at hl; simp at hl
      unfold RS.intV
      rw [hg, int8_nil]
      rfl
end Go.Proofs.YtdkoomcmkfnfkaaDoor

/-
  The document's reader of layer 7: Sum.
-/
namespace Go.Proofs.YtdkoomcmkfnfkaaDoor
open Go.RowKit Go.Proofs.ShaWords
theorem sumV_got (s : RS) : s.got 32 ++ noughts (32 - (s.got 32).length) = s.sumV := by
  unfold RS.got RS.sumV
  by_cases h : s.bs.length < 32
  · rw [if_pos h, if_pos h]; rfl
  · rw [if_neg h, if_neg h]
    have hl : (s.bs.take 32).length = 32 := by rw [List.length_take]; omega
    rw [hl]
    simp [noughts]
theorem take_set (l : List (BitVec 8)) (j : Nat) (h : j < l.length) (hl : l.length ≤ 32) : (l.take j ++ noughts (32 - j)).set j l[j] = l.take (j + 1) ++ noughts (32 - (j + 1)) := by
  have hj : (l.take j).length = j := by rw [List.length_take]; omega
  rw [List.set_append_right _ _ (by omega), hj, Nat.sub_self, List.take_succ_eq_append_getElem h, List.append_assoc]
  obtain ⟨i, hi⟩ : ∃ i, 32 - j = i + 1 := ⟨32 - j - 1, by omega⟩
  rw [hi, show 32 - (j + 1) = i by omega]
  rfl
end Go.Proofs.YtdkoomcmkfnfkaaDoor

/-
  The statements' example: two bytes are laid with their length, and read; one more is left.
-/
namespace Go.Proofs.YtdkoomcmkfnfkaaDoor
open Go.RowKit Go.Proofs.ShaWords
/-- A slice of the call's own, with its length by name. -/
theorem Own.sl {B N : Nat} {w : World} {l : List (BitVec 8)} {v : Value} (h : Own B w l v) (hN : l.length = N) : ∃ q c, v = .slice q N c ∧ N ≤ c ∧ c ≤ maxLen ∧ Lies w q l := by
  subst hN
  obtain ⟨q, c, h1, h2, h3, h4⟩ := h.lies
  exact ⟨q, c, h1, h2, h3, h4⟩
def pkLaid : List (BitVec 8) := [0#8, 0#8, 0#8, 0#8, 0#8, 0#8, 0#8, 2#8, 5#8, 6#8]
theorem pkLaid_eq : ([] : List (BitVec 8)) ++ be8 ((2 : Nat) : Int) ++ [5#8, 6#8] = pkLaid := by decide +kernel
theorem pkBlobV : (⟨pkLaid ++ [9#8], 0⟩ : RS).blobV 2 = [5#8, 6#8] := by decide +kernel
theorem pkBlobS_bs : ((⟨pkLaid ++ [9#8], 0⟩ : RS).blobS 2).bs = [9#8] := by decide +kernel
theorem pkBlobS_e : ((⟨pkLaid ++ [9#8], 0⟩ : RS).blobS 2).e = 0 := by decide +kernel
attribute [local irreducible] pkLaid
end Go.Proofs.YtdkoomcmkfnfkaaDoor
