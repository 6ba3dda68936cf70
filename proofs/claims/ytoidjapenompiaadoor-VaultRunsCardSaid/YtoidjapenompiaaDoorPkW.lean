/-
  What other texts lean on: PkModel, PkRd, PkNum, PkNext, PkMore, PkLay, PkRefLay, PkRefLay2, PkRefRd, PkRefRd2, PkRefRd3, PkRefSum, PkWorks.
-/
import Derived.Test.YtoidjapenompiaaDoorPkA
import Derived.Test.YtoidjapenompiaaDoorPkP
import Derived.Deep.Cut
import Derived.Deep.CutRange
import Derived.Lib.AppendStr
import Derived.Deep.QuietTactic
import Derived.BigQuiet
import Derived.StillTailTactics
import Derived.Laws.ResultCell
import Derived.Great.BuildSlice
/-
  What layer 7 asks, as plain functions: a number in eight bytes, the highest first, there and back; a reader.
-/
namespace Go.Proofs.YtoidjapenompiaaDoor
open Go.Proofs.ShaWords
/-- The first k of a number's bytes, the highest first. -/
def beTo (v : Int) (k : Nat) : List (BitVec 8) := (List.range k).map fun i => BitVec.ofInt 8 (v / 2 ^ (8 * (7 - i)))
def be8 (v : Int) : List (BitVec 8) := beTo v 8
theorem beTo_zero (v : Int) : beTo v 0 = [] := rfl
theorem beTo_succ (v : Int) (k : Nat) : beTo v (k + 1) = beTo v k ++ [BitVec.ofInt 8 (v / 2 ^ (8 * (7 - k)))] := by simp [beTo, List.range_succ]
theorem beTo_length (v : Int) (k : Nat) : (beTo v k).length = k := by simp [beTo]
theorem be8_length (v : Int) : (be8 v).length = 8 := beTo_length v 8
/-- The number that bytes tell, the highest first. -/
def num8 (l : List (BitVec 8)) : Nat := l.foldl (fun u b => u * 256 + b.toNat) 0
/-- The number as an int. -/
def int8 (l : List (BitVec 8)) : Int := IntKind.i64.wrap (num8 l : Int)
theorem ofInt8_toNat (x : Int) : (BitVec.ofInt 8 x).toNat = (x % 256).toNat := by rw [BitVec.toNat_ofInt]; rfl
/-- A reader: the bytes that are left (none once an error has stuck), the error. -/
structure RS where
  bs : List (BitVec 8)
  e : Nat
def RS.fail (s : RS) (k : Nat) : RS := ⟨[], if s.e = 0 then k else s.e⟩
def RS.next (s : RS) (n : Nat) : RS := if s.bs.length < n then s.fail 4 else ⟨s.bs.drop n, s.e⟩
def RS.got (s : RS) (n : Nat) : List (BitVec 8) := if s.bs.length < n then [] else s.bs.take n
def RS.intV (s : RS) : Int := int8 (s.got 8)
def RS.over (s : RS) (most : Int) : Bool := decide (s.intV < 0) || decide (most < s.intV)
def RS.countV (s : RS) (most : Int) : Nat := if s.over most = true then 0 else s.intV.toNat
def RS.Ok (s : RS) : Prop := s.e ≠ 0 → s.bs = []
end Go.Proofs.YtoidjapenompiaaDoor

/-
  The program's reader in memory: Read, Left, Bad, End, fail, next, Int.
-/
namespace Go.Proofs.YtoidjapenompiaaDoor
open Go.RowKit Go.Proofs.ShaWords
theorem SliceIn.nil (D : Nat → Prop) (w : World) : SliceIn D w (.slice none 0 0) [] := ⟨none, 0, rfl, Nat.le_refl _, Nat.zero_le _, Or.inl rfl⟩
end Go.Proofs.YtoidjapenompiaaDoor

/-
  A number's eight bytes tell it; eight bytes are their number's.
-/
namespace Go.Proofs.YtoidjapenompiaaDoor
open Go.Proofs.ShaWords
end Go.Proofs.YtoidjapenompiaaDoor

/-
  The program's reader: next, Int.
-/
namespace Go.Proofs.YtoidjapenompiaaDoor
open Go.RowKit Go.Proofs.ShaWords
end Go.Proofs.YtoidjapenompiaaDoor

/-
  The program's reader: Sum, Count, Blob, Text.
-/
namespace Go.Proofs.YtoidjapenompiaaDoor
open Go.RowKit Go.Proofs.ShaWords
theorem BytesAt.stays {F : Nat → Prop} {w w' : World} {g : Nat} {t : TypeId} {l : List (BitVec 8)} (h : BytesAt w g t l) (hk : Stays F w w') (hF : ¬ F g) : BytesAt w' g t l := (hk.block g h.size hF).trans h
theorem Own.lower {B B' : Nat} {w : World} {l : List (BitVec 8)} {v : Value} (h : Own B w l v) (hB : B' ≤ B) : Own B' w l v := by
  refine ⟨h.1, ?_⟩
  rcases h.2 with h0 | ⟨g, cap, cur, he, hg, r⟩
  · exact Or.inl h0
  · exact Or.inr ⟨g, cap, cur, he, Nat.le_trans hB hg, r⟩
end Go.Proofs.YtoidjapenompiaaDoor

/-
  What is laid: slices.Grow of nothing, slices.Concat of two, and the program's Int, Blob, Text and Sum.
-/
namespace Go.Proofs.YtoidjapenompiaaDoor
open Go.RowKit Go.Proofs.ShaWords
theorem n8_byte (x : Int) : x % 256 = n8 (BitVec.ofInt 8 x) := by
  unfold n8
  rw [ofInt8_toNat]
  omega
end Go.Proofs.YtoidjapenompiaaDoor

/-
  The document's Int, Blob, Text and Sum of layer 7.
-/
namespace Go.Proofs.YtoidjapenompiaaDoor
open Go.RowKit Go.Proofs.ShaWords
theorem refByte (v : Int) (i : Nat) (h : i < 8) : (((v % 18446744073709551616).toNat / 256 ^ i : Nat) : Int) % 256 = n8 (BitVec.ofInt 8 (v / 2 ^ (8 * i))) := by
  rw [← n8_byte]
  have hU : (((v % 18446744073709551616).toNat : Nat) : Int) = v % 18446744073709551616 := by omega
  rw [Int.natCast_ediv, hU]
  clear hU
  obtain rfl | rfl | rfl | rfl | rfl | rfl | rfl | rfl : i = 0 ∨ i = 1 ∨ i = 2 ∨ i = 3 ∨ i = 4 ∨ i = 5 ∨ i = 6 ∨ i = 7 := by omega
  · show v % 18446744073709551616 / 1 % 256 = v / 1 % 256; omega
  · show v % 18446744073709551616 / 256 % 256 = v / 256 % 256; omega
  · show v % 18446744073709551616 / 65536 % 256 = v / 65536 % 256; omega
  · show v % 18446744073709551616 / 16777216 % 256 = v / 16777216 % 256; omega
  · show v % 18446744073709551616 / 4294967296 % 256 = v / 4294967296 % 256; omega
  · show v % 18446744073709551616 / 1099511627776 % 256 = v / 1099511627776 % 256; omega
  · show v % 18446744073709551616 / 281474976710656 % 256 = v / 281474976710656 % 256; omega
  · show v % 18446744073709551616 / 72057594037927936 % 256 = v / 72057594037927936 % 256; omega
theorem wrapU (v : Int) : IntKind.u64.wrap v = (((v % 18446744073709551616).toNat : Nat) : Int) := by
  rw [IntKind.wrap_u64]; omega
set_option maxHeartbeats 1000000 in
theorem intR_any (v : Int) (l : List (BitVec 8)) (n : Nat) (p : Option Addr) (c : Nat) (w : World) (hn : l.length = n) (hl : n < 140737488355000) (hp : Lies w p l) :
    Calls Tryd.prog 83 #[.slice p n c, .int .i64 v] w fun e w' => ∃ r, e = .returned r ∧ Own w.heap.size w' (l ++ be8 v) r ∧ Below w.heap.size w w' := by
  have HC := Lib.hid (copy_bigL l n p c w hn (by omega) hp)
  clear hp
  have hwu := wrapU v
  have hrb := fun i h => refByte v i h
  have hUlt : (v % 18446744073709551616).toNat < 18446744073709551616 := by omega
  generalize (v % 18446744073709551616).toNat = U at *
  have HRB := Lib.hid hrb; clear hrb
  go_enter Tryd.func83, Tryd.ntmps83
  go_wp2_with (go_at_call 33; refine HC.out.mono ?_; rintro e w1 ⟨r, rfl, ho, hb⟩; have HO := Lib.hid ho; have HB := Lib.hid hb; clear ho hb)
  clear hwu HC
  rename World => w1
  go_loopw [5, 7] (fun r i wr => ∃ j : Nat, j ≤ 8 ∧ i = .int .i64 (7 - (j : Int)) ∧ Own w.heap.size wr (l ++ beTo v j) r ∧ Below w.heap.size w wr) (fun _ i _ => (intOf i + 1).toNat)
  case atStart => exact ⟨0, by omega, rfl, by rw [beTo_zero, List.append_nil]; exact HO.out, HB.out⟩
  case round =>
    clear HO HB
    obtain ⟨j, hj, rfl, ho, hb⟩ := hrel
    have HO := Lib.hid ho; clear ho
    have HB := Lib.hid hb; clear hb
    have sz := HB.out.size
    by_cases hlt : j < 8
    · have q0 : 7 - (j : Int) ≥ 0 := by omega
      go_wp2_with fail
      go_loopw [8, 9] (fun x k w2 => wr = w2 ∧ ∃ i : Nat, (i : Int) ≤ 7 - (j : Int) ∧ k = .int .i64 (i : Int) ∧ x = .int .u64 ((U / 256 ^ i : Nat) : Int)) (fun _ k _ => (7 - (j : Int) - intOf k).toNat)
      case atStart => exact ⟨rfl, 0, by omega, rfl, by simp⟩
      case round =>
        obtain ⟨rfl, i, hi, rfl, rfl⟩ := hrel
        have hdiv : U / 256 ^ i / 256 = U / 256 ^ (i + 1) := by rw [Nat.div_div_eq_div_mul, Nat.pow_succ]
        have hle : U / 256 ^ i ≤ U := Nat.div_le_self _ _
        by_cases hil : (i : Int) < 7 - (j : Int)
        · generalize U / 256 ^ i = X at *
          go_wp2_with fail
          go_roundw
          case rel => exact ⟨trivial, i + 1, by omega, by go_num, by rw [← hdiv]; rfl⟩
          case measure => simp [intOf]; omega
        · obtain rfl : i = 7 - j := by omega
          have m1 := HRB.out (7 - j) (by omega)
          have HBT : Hid (l ++ beTo v (j + 1) = (l ++ beTo v j) ++ [BitVec.ofInt 8 (v / 2 ^ (8 * (7 - j)))]) := show _ = _ by rw [beTo_succ, List.append_assoc]
          have HLE : Hid ((l ++ beTo v j).length < 140737488355328) := show _ < _ by rw [List.length_append, beTo_length]; omega
          generalize BitVec.ofInt 8 (v / 2 ^ (8 * (7 - j))) = b at *
          generalize U / 256 ^ (7 - j) = X at *
          go_wp2_with (at_builtin; refine wpList_append_byte_big rfl (.tmp 26) (.tmp 30) rfl w.heap.size _ (l ++ beTo v j) b rfl HO.out rfl HLE.out HB.out.size ?_; intro v' w' ho' hb'; rw [← HBT.out] at ho'; have HO' := Lib.hid ho'; have HB' := Lib.hid (HB.out.trans hb'); clear ho' hb')
          go_roundw
          case rel => exact ⟨j + 1, by omega, by go_num, HO'.out, HB'.out⟩
          case measure => simp [intOf]; omega
    · obtain rfl : j = 8 := by omega
      go_wp2_with fail
      go_ret
      exact ⟨_, rfl, HO.out, HB.out⟩
end Go.Proofs.YtoidjapenompiaaDoor

/-
  The document's Blob, Text and Sum of layer 7.
-/
namespace Go.Proofs.YtoidjapenompiaaDoor
open Go.RowKit Go.Proofs.ShaWords
end Go.Proofs.YtoidjapenompiaaDoor

/-
  The document's reader of layer 7: Read, Left, Bad, End, next.
-/
namespace Go.Proofs.YtoidjapenompiaaDoor
open Go.RowKit Go.Proofs.ShaWords
end Go.Proofs.YtoidjapenompiaaDoor

/-
  The document's reader of layer 7: next, Int, Sum, Count, Blob, Text.
-/
namespace Go.Proofs.YtoidjapenompiaaDoor
open Go.RowKit Go.Proofs.ShaWords
end Go.Proofs.YtoidjapenompiaaDoor

/-
  The document's reader of layer 7: Int, Sum, Count, Blob, Text.
-/
namespace Go.Proofs.YtoidjapenompiaaDoor
open Go.RowKit Go.Proofs.ShaWords
end Go.Proofs.YtoidjapenompiaaDoor

/-
  The document's reader of layer 7: Sum.
-/
namespace Go.Proofs.YtoidjapenompiaaDoor
open Go.RowKit Go.Proofs.ShaWords
theorem take_set (l : List (BitVec 8)) (j : Nat) (h : j < l.length) (hl : l.length ≤ 32) : (l.take j ++ noughts (32 - j)).set j l[j] = l.take (j + 1) ++ noughts (32 - (j + 1)) := by
  have hj : (l.take j).length = j := by rw [List.length_take]; omega
  rw [List.set_append_right _ _ (by omega), hj, Nat.sub_self, List.take_succ_eq_append_getElem h, List.append_assoc]
  obtain ⟨i, hi⟩ : ∃ i, 32 - j = i + 1 := ⟨32 - j - 1, by omega⟩
  rw [hi, show 32 - (j + 1) = i by omega]
  rfl
end Go.Proofs.YtoidjapenompiaaDoor

/-
  The statements' example: two bytes are laid with their length, and read; one more is left.
-/
namespace Go.Proofs.YtoidjapenompiaaDoor
open Go.RowKit Go.Proofs.ShaWords
/-- A slice of the call's own, with its length by name. -/
theorem Own.sl {B N : Nat} {w : World} {l : List (BitVec 8)} {v : Value} (h : Own B w l v) (hN : l.length = N) : ∃ q c, v = .slice q N c ∧ N ≤ c ∧ c ≤ maxLen ∧ Lies w q l := by
  subst hN
  obtain ⟨q, c, h1, h2, h3, h4⟩ := h.lies
  exact ⟨q, c, h1, h2, h3, h4⟩
def pkLaid : List (BitVec 8) := [0#8, 0#8, 0#8, 0#8, 0#8, 0#8, 0#8, 2#8, 5#8, 6#8]
attribute [local irreducible] pkLaid
end Go.Proofs.YtoidjapenompiaaDoor
