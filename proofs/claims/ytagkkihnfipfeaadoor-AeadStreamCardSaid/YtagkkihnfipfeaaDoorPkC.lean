/-
  What other texts lean on: CcQuarter, CcCells, CcFill, CcMatrix, CcMix, CcBase, CcBlock, CcStream, CcXor.
-/
import Derived.Test.YtagkkihnfipfeaaDoorPkA
import Derived.Deep.CutRange
import Derived.Shelf.Abstract
import Derived.Shelf.RegionOpen
/-
  The contracts of math/bits.RotateLeft32 at turns from 1 to 31, of the document's left, and of chacha.quarter: for every words.
-/
namespace Go.Proofs.YtagkkihnfipfeaaDoor
open Go.RowKit Go.Proofs.ShaWords
attribute [local go_sem] and32 or32 xor32 add32 shl32 shr32

/-- A word turned left by k. -/
def rl (x : BitVec 32) (k : Nat) : BitVec 32 := x <<< k ||| x >>> (32 - k)
theorem turnl_by (n : Int) (h1 : 1 ≤ n) (h2 : n ≤ 31) : bits .and .u64 n 31 = n := by
  obtain ⟨k, rfl⟩ := Int.eq_ofNat_of_zero_le (show 0 ≤ n by omega)
  have hk : k < 32 := by omega
  have H : ∀ k : Fin 32, bits .and .u64 (k.val : Int) 31 = (k.val : Int) := by decide
  exact H ⟨k, hk⟩

set_option maxHeartbeats 400000 in
theorem rotl_any (x : BitVec 32) (n : Int) (w : World) (h1 : 1 ≤ n) (h2 : n ≤ 31) :
    Calls Tryd.prog 66 #[.int .u32 (n32 x), .int .i64 n] w fun e w' => e = .returned (.int .u32 (n32 (rl x n.toNat))) ∧ w = w' := by
  have hb := turnl_by n h1 h2
  go_enter Tryd.func66, Tryd.ntmps66
  go_wp2
  go_ret
  refine ⟨?_, rfl⟩
  show Ending.returned (.int .u32 (n32 (x <<< n.toNat ||| x >>> (32 - n).toNat))) = _
  unfold rl
  rw [show (32 - n).toNat = 32 - n.toNat by omega]

set_option maxHeartbeats 400000 in
theorem left_any (x : BitVec 32) (n : Int) (w : World) (h1 : 1 ≤ n) (h2 : n ≤ 31) :
    Calls Tryd.prog 59 #[.int .u32 (n32 x), .int .u64 n] w fun e w' => e = .returned (.int .u32 (n32 (rl x n.toNat))) ∧ w = w' := by
  go_enter Tryd.func59, Tryd.ntmps59
  go_wp2
  go_ret
  refine ⟨?_, rfl⟩
  show Ending.returned (.int .u32 (n32 (x <<< n.toNat ||| x >>> (32 - n).toNat))) = _
  unfold rl
  rw [show (32 - n).toNat = 32 - n.toNat by omega]

/-- Four words. -/
structure W4 where
  a : BitVec 32
  b : BitVec 32
  c : BitVec 32
  d : BitVec 32
/-- What a quarter round makes of four words. -/
def qA1 (q : W4) : BitVec 32 := q.a + q.b
def qD1 (q : W4) : BitVec 32 := rl (q.d ^^^ qA1 q) 16
def qC1 (q : W4) : BitVec 32 := q.c + qD1 q
def qB1 (q : W4) : BitVec 32 := rl (q.b ^^^ qC1 q) 12
def qA2 (q : W4) : BitVec 32 := qA1 q + qB1 q
def qD2 (q : W4) : BitVec 32 := rl (qD1 q ^^^ qA2 q) 8
def qC2 (q : W4) : BitVec 32 := qC1 q + qD2 q
def qB2 (q : W4) : BitVec 32 := rl (qB1 q ^^^ qC2 q) 7

attribute [local irreducible] rl
set_option maxRecDepth 100000 in
set_option maxHeartbeats 1000000 in
theorem quarter_any (q : W4) (w : World) :
    Calls Tryd.prog 64 #[.int .u32 (n32 q.a), .int .u32 (n32 q.b), .int .u32 (n32 q.c), .int .u32 (n32 q.d)] w
      fun e w' => e = .returned (.tuple #[.int .u32 (n32 (qA2 q)), .int .u32 (n32 (qB2 q)), .int .u32 (n32 (qC2 q)), .int .u32 (n32 (qD2 q))]) ∧ w = w' := by
  go_enter Tryd.func64, Tryd.ntmps64
  go_wp2_with fail
  refine (rotl_any _ _ _ (by omega) (by omega)).mono ?_
  rintro e w' ⟨rfl, rfl⟩
  go_wp2_with fail
  refine (rotl_any _ _ _ (by omega) (by omega)).mono ?_
  rintro e w' ⟨rfl, rfl⟩
  go_wp2_with fail
  refine (rotl_any _ _ _ (by omega) (by omega)).mono ?_
  rintro e w' ⟨rfl, rfl⟩
  go_wp2_with fail
  refine (rotl_any _ _ _ (by omega) (by omega)).mono ?_
  rintro e w' ⟨rfl, rfl⟩
  go_wp2_with fail
  exact bodyPost_ret (v := .tuple #[.int .u32 (n32 (qA2 q)), .int .u32 (n32 (qB2 q)), .int .u32 (n32 (qC2 q)), .int .u32 (n32 (qD2 q))]) (by simp [results, Tryd.results64, go_sem]; exact ⟨rfl, rfl, rfl, rfl⟩) rfl ⟨rfl, rfl⟩
end Go.Proofs.YtagkkihnfipfeaaDoor

/-
  Single operations on the rows of chacha.mix: an element's address, a cell loaded, a cell stored, a part of a result of several values.
-/
namespace Go.Proofs.YtagkkihnfipfeaaDoor
open Go.RowKit Go.Proofs.ShaWords

section
variable {ρ : Operand → Value} {o : Oper} {x y : Operand} {w : World}
theorem run_ix16 {g j : Nat} (ho : o.op = .indexAddr 88 x y) (hx : ρ x = .pointer (some ⟨g, 0, none⟩)) (hy : ρ y = .int .i64 (j : Int)) (hj : j < 16) (w : World) :
    (execOp ρ o).run Tryd.prog w = .ok (.value (.pointer (some ⟨g, j, none⟩))) w := by
  obtain ⟨dst, op, ty', pos, after, guard⟩ := o
  simp only at ho
  subst ho
  have q : (j : Int) < 16 := by omega
  go_simp
theorem run_ix4 {g j : Nat} (ho : o.op = .indexAddr 97 x y) (hx : ρ x = .pointer (some ⟨g, 0, none⟩)) (hy : ρ y = .int .i64 (j : Int)) (hj : j < 4) (w : World) :
    (execOp ρ o).run Tryd.prog w = .ok (.value (.pointer (some ⟨g, j, none⟩))) w := by
  obtain ⟨dst, op, ty', pos, after, guard⟩ := o
  simp only at ho
  subst ho
  have q : (j : Int) < 4 := by omega
  go_simp
theorem run_loadInt {a : Addr} {n : Int} (ho : o.op = .load 3 x) (hx : ρ x = .pointer (some a)) (hc : w.cell? a = some (.int .i64 n)) : (execOp ρ o).run Tryd.prog w = .ok (.value (.int .i64 n)) w := by
  obtain ⟨dst, op, ty', pos, after, guard⟩ := o
  simp only at ho
  subst ho
  go_simp
theorem run_load32 {a : Addr} {v : Int} (ho : o.op = .load 49 x) (hx : ρ x = .pointer (some a)) (hc : w.cell? a = some (.int .u32 v)) : (execOp ρ o).run Tryd.prog w = .ok (.value (.int .u32 v)) w := by
  obtain ⟨dst, op, ty', pos, after, guard⟩ := o
  simp only at ho
  subst ho
  go_simp
theorem run_store32 {a : Addr} {v : Int} {u : Value} (ho : o.op = .store 49 x y) (hx : ρ x = .pointer (some a)) (hy : ρ y = .int .u32 v) (hc : w.cell? a = some u) (hf : w.frozen? a = false) :
    (execOp ρ o).run Tryd.prog w = .ok .skip (w.setCell a (.int .u32 v)) := by
  obtain ⟨dst, op, ty', pos, after, guard⟩ := o
  simp only at ho
  subst ho
  go_simp
theorem run_extract {vs : Array Value} {k : Nat} {v : Value} {P : Program} (ho : o.op = .extract x k) (hx : ρ x = .tuple vs) (hv : vs[k]? = some v) (w : World) : (execOp ρ o).run P w = .ok (.value v) w := by
  obtain ⟨dst, op, ty', pos, after, guard⟩ := o
  simp only at ho
  subst ho
  go_simp
end
end Go.Proofs.YtagkkihnfipfeaaDoor

/-
  The contract of chacha.fill: so many words of a row are written over by those that the bytes form.
-/
namespace Go.Proofs.YtagkkihnfipfeaaDoor
open Go.RowKit Go.Proofs.ShaWords
attribute [local go_sem] and32 or32 xor32 add32 shl32 shr32 wrap32_n8 wrap8_n32 shl32_8 shl32_16 shl32_24

/-- The word that four bytes form, the lowest first. -/
def leWord (bs : List (BitVec 8)) (t : Nat) : BitVec 32 :=
  ext (bs.getD (4 * t) 0#8) ||| ext (bs.getD (4 * t + 1) 0#8) <<< 8 ||| ext (bs.getD (4 * t + 2) 0#8) <<< 16 ||| ext (bs.getD (4 * t + 3) 0#8) <<< 24
def leWords (bs : List (BitVec 8)) (n : Nat) : List (BitVec 32) := (List.range n).map (leWord bs)
theorem leWords_length (bs : List (BitVec 8)) (n : Nat) : (leWords bs n).length = n := by simp [leWords]
theorem leWords_succ (bs : List (BitVec 8)) (n : Nat) : leWords bs (n + 1) = leWords bs n ++ [leWord bs n] := by simp [leWords, List.range_succ]
theorem leWord_eq (bs : List (BitVec 8)) (t : Nat) : leWord bs t = ext (bs.getD (4 * t) 0#8) ||| ext (bs.getD (4 * t + 1) 0#8) <<< 8 ||| ext (bs.getD (4 * t + 2) 0#8) <<< 16 ||| ext (bs.getD (4 * t + 3) 0#8) <<< 24 := rfl
def FillW (w : World) (g : Nat) (t : TypeId) (W : List (BitVec 32)) (o : Nat) (L : List (BitVec 32)) (wr : World) : Prop := WordsAt wr g t (splice W o L) ∧ w.grownBy wr (some g)
theorem FillW.next {w wr : World} {g : Nat} {t : TypeId} {W : List (BitVec 32)} {o : Nat} {L : List (BitVec 32)} (h : FillW w g t W o L wr) (ho : o + L.length < W.length) (x : BitVec 32) (k : Nat) (hk : k = L.length) :
    FillW w g t W o (L ++ [x]) (wr.setCell ⟨g, o + k, none⟩ (.int .u32 (n32 x))) := by
  subst hk
  exact ⟨by rw [← splice_snoc _ _ _ _ ho]; exact h.1.set _ _, grown_trans h.2 (grown_setCell _ _ _ _)⟩
theorem FillW.drew {w wr : World} {g : Nat} {t : TypeId} {W : List (BitVec 32)} {o : Nat} {L : List (BitVec 32)} (h : FillW w g t W o L wr) : FillW w g t W o L wr.drew := ⟨h.1.drew, grown_trans h.2 (grown_drew _ _)⟩

attribute [local irreducible] leWord leWords
set_option maxRecDepth 100000 in
set_option maxHeartbeats 1000000 in
theorem fill_any (W : List (BitVec 32)) (bs : List (BitVec 8)) (g o n cw b off m cb : Nat) (t : TypeId) (w : World) (hW : WordsAt w g t W) (hr : w.rangeAt b off (bytesV bs)) (hne : b ≠ g)
    (hl : bs.length = m) (hm : m = 4 * n) (hon : o + n ≤ W.length) (hn : n ≤ 100000) :
    Calls Tryd.prog 63 #[.slice (some ⟨g, o, none⟩) n cw, .slice (some ⟨b, off, none⟩) m cb] w fun e w' => e = .returned (.tuple #[]) ∧ WordsAt w' g t (splice W o (leWords bs n)) ∧ w.grownBy w' (some g) := by
  have HW := Lib.hid hW; clear hW
  have HR := Lib.hid hr; clear hr
  have HL := Lib.hid hl; clear hl
  have HM := Lib.hid hm; clear hm
  have HON := Lib.hid hon; clear hon
  have HNE := Lib.hid hne; clear hne
  have HZ : Hid (leWords bs 0 = []) := show _ = _ by unfold leWords; rfl
  go_enter Tryd.func63, Tryd.ntmps63
  go_wp2_with fail
  go_loopw [4, 7] (fun _ i wr => ∃ k : Nat, k ≤ n ∧ i = .int .i64 k ∧ FillW w g t W o (leWords bs k) wr) (fun _ i _ => n - (intOf i).toNat)
  case atStart => exact ⟨0, Nat.zero_le _, rfl, by rw [HZ.out]; exact ⟨by rw [splice_nil]; exact HW.out, World.grownBy.refl _ _⟩⟩
  case round =>
    clear HW
    obtain ⟨k, hk, rfl, hf⟩ := hrel
    by_cases hlt : k < n
    · have hm := HM.out
      have hr2 := Reads.grown HR.out hf.2 HNE.out
      have c0 := range_cell hr2 (4 * k) (by rw [HL.out]; omega)
      have c1 := range_cell hr2 (4 * k + 1) (by rw [HL.out]; omega)
      have c2 := range_cell hr2 (4 * k + 2) (by rw [HL.out]; omega)
      have c3 := range_cell hr2 (4 * k + 3) (by rw [HL.out]; omega)
      have hsl : (splice W o (leWords bs k)).length = W.length := length_splice _ _ _ (by rw [leWords_length]; have := HON.out; omega)
      obtain ⟨v, cv⟩ : ∃ v, wr.cell? ⟨g, o + k, none⟩ = some v := ⟨_, hf.1.cell (o + k) (by rw [hsl]; have := HON.out; omega)⟩
      have cf := hf.1.frozen (o + k)
      have HS := Lib.hid (leWords_succ bs k)
      have HE := Lib.hid (leWord_eq bs k)
      have HF := Lib.hid hf; clear hf hr2 hsl
      generalize bs.getD (4 * k) 0#8 = b0 at c0 HE
      generalize bs.getD (4 * k + 1) 0#8 = b1 at c1 HE
      generalize bs.getD (4 * k + 2) 0#8 = b2 at c2 HE
      generalize bs.getD (4 * k + 3) 0#8 = b3 at c3 HE
      have m0 : IntKind.i64.wrap (4 * (k : Int)) = 4 * (k : Int) := IntWalk.i64_in _ (by omega)
      have m1 : IntKind.i64.wrap (4 * (k : Int) + 1) = 4 * (k : Int) + 1 := IntWalk.i64_in _ (by omega)
      have m2 : IntKind.i64.wrap (4 * (k : Int) + 2) = 4 * (k : Int) + 2 := IntWalk.i64_in _ (by omega)
      have m3 : IntKind.i64.wrap (4 * (k : Int) + 3) = 4 * (k : Int) + 3 := IntWalk.i64_in _ (by omega)
      have n0 : (4 * (k : Int)).toNat = 4 * k := by omega
      have n1 : (4 * (k : Int) + 1).toNat = 4 * k + 1 := by omega
      have n2 : (4 * (k : Int) + 2).toNat = 4 * k + 2 := by omega
      have n3 : (4 * (k : Int) + 3).toNat = 4 * k + 3 := by omega
      have l0 : 4 * (k : Int) < (m : Int) := by omega
      have l1 : 4 * (k : Int) + 1 < (m : Int) := by omega
      have l2 : 4 * (k : Int) + 2 < (m : Int) := by omega
      have l3 : 4 * (k : Int) + 3 < (m : Int) := by omega
      have p0 : 0 ≤ 4 * (k : Int) := by omega
      have p1 : 0 ≤ 4 * (k : Int) + 1 := by omega
      have p2 : 0 ≤ 4 * (k : Int) + 2 := by omega
      have p3 : 0 ≤ 4 * (k : Int) + 3 := by omega
      have q0 : (k : Int) < (n : Int) := by omega
      clear hm
      go_wp2_with fail
      go_still_tail 36, (by kernel_rfl)
      clear m0 m1 m2 m3 n0 n1 n2 n3 l0 l1 l2 l3 p0 p1 p2 p3
      change wpList _ _ _ _ _ wr.drew
      go_wp2_with fail
      go_roundw
      case rel =>
        refine ⟨k + 1, by omega, by go_num, ?_⟩
        rw [HS.out, HE.out]
        exact (HF.out.next (by rw [leWords_length]; have := HON.out; omega) _ k (leWords_length _ _).symm).drew
      case measure => simp [intOf]; omega
    · have HK : Hid (k = n) := show k = n by omega
      have HF := Lib.hid hf; clear hf
      go_wp2_with fail
      go_end0
      exact ⟨rfl, by rw [← HK.out]; exact HF.out.1, HF.out.2⟩
end Go.Proofs.YtagkkihnfipfeaaDoor

/-
  The contract of chacha.matrix: the sixteen words of a key, a counter and a nonce; nothing that was there changes.
-/
namespace Go.Proofs.YtagkkihnfipfeaaDoor
open Go.RowKit Go.Proofs.ShaWords

/-- The text "expand 32-byte k". -/
def labelB : List (BitVec 8) := [101#8, 120#8, 112#8, 97#8, 110#8, 100#8, 32#8, 51#8, 50#8, 45#8, 98#8, 121#8, 116#8, 101#8, 32#8, 107#8]
def squareOf (key : List (BitVec 8)) (c : BitVec 32) (nonce : List (BitVec 8)) : List (BitVec 32) := leWords labelB 4 ++ (leWords key 8 ++ (c :: leWords nonce 3))
theorem squareOf_length (key : List (BitVec 8)) (c : BitVec 32) (nonce : List (BitVec 8)) : (squareOf key c nonce).length = 16 := by simp [squareOf, leWords_length]
theorem square_laid (A B C : List (BitVec 32)) (c : BitVec 32) (hA : A.length = 4) (hB : B.length = 8) (hC : C.length = 3) :
    splice ((splice (splice (List.replicate 16 0#32) 0 A) 4 B).set 12 c) 13 C = A ++ (B ++ (c :: C)) := by
  obtain ⟨a0, a1, a2, a3, rfl⟩ : ∃ a0 a1 a2 a3, A = [a0, a1, a2, a3] := by
    match A, hA with
    | [a0, a1, a2, a3], _ => exact ⟨_, _, _, _, rfl⟩
  obtain ⟨b0, b1, b2, b3, b4, b5, b6, b7, rfl⟩ : ∃ b0 b1 b2 b3 b4 b5 b6 b7, B = [b0, b1, b2, b3, b4, b5, b6, b7] := by
    match B, hB with
    | [b0, b1, b2, b3, b4, b5, b6, b7], _ => exact ⟨_, _, _, _, _, _, _, _, rfl⟩
  obtain ⟨c0, c1, c2, rfl⟩ : ∃ c0 c1 c2, C = [c0, c1, c2] := by
    match C, hC with
    | [c0, c1, c2], _ => exact ⟨_, _, _, rfl⟩
  rfl
theorem zero16 : (wordsV (List.replicate 16 0#32)).toArray = #[Value.int IntKind.u32 0, Value.int IntKind.u32 0, Value.int IntKind.u32 0, Value.int IntKind.u32 0, Value.int IntKind.u32 0, Value.int IntKind.u32 0, Value.int IntKind.u32 0, Value.int IntKind.u32 0, Value.int IntKind.u32 0, Value.int IntKind.u32 0, Value.int IntKind.u32 0, Value.int IntKind.u32 0, Value.int IntKind.u32 0, Value.int IntKind.u32 0, Value.int IntKind.u32 0, Value.int IntKind.u32 0] := by rfl
theorem info16 (l : List (BitVec 32)) (h : l.length = 16) : (Tryd.prog.info? 88).map (·.size) = some (wordsV l).toArray.size :=
  (show (Tryd.prog.info? 88).map (·.size) = some 16 by kernel_rfl).trans (congrArg some (wordsV_size _ 16 h).symm)
/-- What chacha.matrix has in memory: the key, the nonce, the result's row, the row. -/
structure MatW (w : World) (key nonce : List (BitVec 8)) (L : List (BitVec 32)) (wr : World) : Prop where
  key : BytesAt wr w.heap.size 23 key
  nonce : BytesAt wr (w.heap.size + 1) 25 nonce
  res : WordsAt wr (w.heap.size + 1 + 1) 88 (List.replicate 16 0#32)
  row : WordsAt wr (w.heap.size + 1 + 1 + 1) 88 L
  below : Below w.heap.size w wr
theorem MatW.past {w wr w' : World} {key nonce : List (BitVec 8)} {L L' : List (BitVec 32)} (h : MatW w key nonce L wr) (hg : wr.grownBy w' (some (w.heap.size + 1 + 1 + 1))) (hr : WordsAt w' (w.heap.size + 1 + 1 + 1) 88 L') : MatW w key nonce L' w' :=
  ⟨h.key.past hg (by omega), h.nonce.past hg (by omega), h.res.past hg (by omega), hr, h.below.grown hg (by have := h.row.size; omega) (fun k hk => by have := Option.some.inj hk; omega)⟩
theorem MatW.on {w wr w' : World} {key nonce : List (BitVec 8)} {L : List (BitVec 32)} (h : MatW w key nonce L wr) (hb : Below wr.heap.size wr w') : MatW w key nonce L w' :=
  ⟨h.key.keep hb, h.nonce.keep hb, h.res.keep hb, h.row.keep hb, h.below.trans (hb.mono h.below.size)⟩

attribute [local irreducible] leWords labelB
set_option maxRecDepth 100000 in
set_option maxHeartbeats 1000000 in
theorem matrix_any (key nonce : List (BitVec 8)) (c : BitVec 32) (w : World) (hk : key.length = 32) (hn : nonce.length = 12) :
    Calls Tryd.prog 55 #[.agg (bytesV key).toArray, .int .u32 (n32 c), .agg (bytesV nonce).toArray] w
      fun e w' => e = .returned (.agg (wordsV (squareOf key c nonce)).toArray) ∧ Below w.heap.size w w' := by
  have HKL := Lib.hid hk; clear hk
  have HNL := Lib.hid hn; clear hn
  have HSQ := Lib.hid (square_laid (leWords labelB 4) (leWords key 8) (leWords nonce 3) c (leWords_length _ _) (leWords_length _ _) (leWords_length _ _))
  have HSE : Hid (squareOf key c nonce = leWords labelB 4 ++ (leWords key 8 ++ (c :: leWords nonce 3))) := show _ = _ from rfl
  have kc := fun (w : World) (C : Array Value) (n c : Nat) => Lib.run_convert_bytes_const (P := Tryd.prog) w 26 5 C n c Tryd.underlying26 Tryd.underlying5
  have HLB : Hid (labelB.length = 16 ∧ (bytesV labelB).toArray = #[.int .u8 101, .int .u8 120, .int .u8 112, .int .u8 97, .int .u8 110, .int .u8 100, .int .u8 32, .int .u8 51, .int .u8 50, .int .u8 45, .int .u8 98, .int .u8 121, .int .u8 116, .int .u8 101, .int .u8 32, .int .u8 107]) := show _ ∧ _ by unfold labelB; exact ⟨rfl, rfl⟩
  go_enter Tryd.func55, Tryd.ntmps55
  go_upto_region 2 with (fail)
  refine wp_gen (MatW w key nonce (List.replicate 16 0#32)) ?_ ?_
  · refine ⟨?_, ?_, ?_, ?_, ?_⟩
    · exact BytesAt.keep (w := w.alloc _) (heap_alloc_new w _) ((((Below.refl _ _).alloc (Nat.le_refl _) _).alloc (by simp) _).alloc (by simp) _)
    · exact BytesAt.keep (w := (w.alloc _).alloc _) (heap_new_at (size_alloc _ _)) (((Below.refl _ _).alloc (Nat.le_refl _) _).alloc (by simp) _)
    · exact WordsAt.keep (w := ((w.alloc _).alloc _).alloc _) (by show _ = some (Obj.cells (wordsV (List.replicate 16 0#32)).toArray _ _); rw [zero16]; exact heap_new_at (by simp)) ((Below.refl _ _).alloc (Nat.le_refl _) _)
    · show _ = some (Obj.cells (wordsV (List.replicate 16 0#32)).toArray _ _)
      rw [zero16]; exact heap_new_at (by simp)
    · exact ((((Below.refl _ _).alloc (Nat.le_refl _) _).alloc (by simp) _).alloc (by simp; omega) _).alloc (by simp; omega) _
  intro w0 hw0
  have sz0 := hw0.row.size
  have HW0 := Lib.hid hw0; clear hw0
  go_wp2_with fail
  refine calls_gen (fun w1 => MatW w key nonce (List.replicate 16 0#32) w1 ∧ w1.rangeAt w0.heap.size 0 (bytesV labelB)) ⟨HW0.out.on ((Below.refl _ _).alloc (Nat.le_refl _) _), fun j v hv => by
    rw [Nat.zero_add, cell_of_row _ _ j _ _ _ (heap_new_at rfl), ← HLB.out.2]; simpa using hv⟩ ?_
  rintro w1 ⟨hw1, hr1⟩
  refine (fill_any (List.replicate 16 0#32) labelB _ 0 4 _ _ 0 16 _ _ w1 hw1.row hr1 (by omega) HLB.out.1 rfl (by simp) (by omega)).mono ?_
  rintro e w2 ⟨rfl, hr2, hg2⟩
  have HW2 := Lib.hid (hw1.past hg2 hr2)
  clear hw1 hr1 hr2 hg2 HW0
  go_wp2_with fail
  go_still_tail 2, (by kernel_rfl)
  change wpList _ _ _ _ _ w2.drew
  go_wp2_with fail
  have hw2 := HW2.out.on ((Below.refl _ _).drew)
  refine (fill_any _ key _ 4 8 _ _ 0 32 _ _ w2.drew hw2.row hw2.key.range (by omega) HKL.out rfl (by rw [length_splice _ _ _ (by rw [leWords_length]; simp)]; simp) (by omega)).mono ?_
  rintro e w3 ⟨rfl, hr3, hg3⟩
  have hw3 := hw2.past hg3 hr3
  have hl3 : (splice (splice (List.replicate 16 0#32) 0 (leWords labelB 4)) 4 (leWords key 8)).length = 16 := by
    rw [length_splice _ _ _ (by rw [length_splice _ _ _ (by rw [leWords_length]; simp), leWords_length]; simp), length_splice _ _ _ (by rw [leWords_length]; simp)]; simp
  obtain ⟨v, cv⟩ : ∃ v, w3.cell? ⟨w.heap.size + 1 + 1 + 1, 12, none⟩ = some v := ⟨_, hw3.row.cell 12 (by rw [hl3]; omega)⟩
  have cf := hw3.row.frozen 12
  have HW3 := Lib.hid hw3; clear hw3 hw2 hr3 hg3 HW2 hl3
  go_upto_region 5 with (fail)
  refine wp_gen (MatW w key nonce ((splice (splice (List.replicate 16 0#32) 0 (leWords labelB 4)) 4 (leWords key 8)).set 12 c)) (HW3.out.past (grown_setCell _ _ _ _) (HW3.out.row.set _ _)) ?_
  clear cv cf
  intro w4 hw4
  have HW4 := Lib.hid hw4; clear hw4 HW3
  go_still_tail 2, (by kernel_rfl)
  change wpList _ _ _ _ _ w4.drew
  go_wp2_with fail
  have hw4 := HW4.out.on ((Below.refl _ _).drew)
  refine (fill_any _ nonce _ 13 3 _ _ 0 12 _ _ w4.drew hw4.row hw4.nonce.range (by omega) HNL.out rfl (by rw [List.length_set, length_splice _ _ _ (by rw [length_splice _ _ _ (by rw [leWords_length]; simp), leWords_length]; simp), length_splice _ _ _ (by rw [leWords_length]; simp)]; simp) (by omega)).mono ?_
  rintro e w5 ⟨rfl, hr5, hg5⟩
  rw [HSQ.out, ← HSE.out] at hr5
  have hw5 := hw4.past hg5 hr5
  have HI := Lib.hid (info16 _ (squareOf_length key c nonce))
  have HOLD := Lib.hid (show (wordsV (List.replicate 16 0#32)).toArray.size = (wordsV (squareOf key c nonce)).toArray.size by rw [wordsV_size _ 16 (squareOf_length key c nonce)]; rfl)
  have HONE := Lib.hid (wordsV_one (squareOf key c nonce))
  have HROW := Lib.hid hw5.row
  have HRES := Lib.hid hw5.res
  have HB5 := Lib.hid hw5.below
  clear hw5 hw4 hr5 hg5 HW4 HSQ HSE
  generalize hfe : (wordsV (squareOf key c nonce)).toArray = full at HI HOLD HONE ⊢
  have HFE := Lib.hid hfe; clear hfe
  have HROW2 : Hid (w5.heap[w.heap.size + 1 + 1 + 1]? = some (.cells full 88 (0, 0))) := show _ = _ by rw [← HFE.out]; exact HROW.out
  go_wp2_with (first
    | (refine wpList_load_row rfl 88 (.tmp 7) rfl (w.heap.size + 1 + 1 + 1) rfl 88 full (0, 0) _ HROW2.out Tryd.underlying88 rfl HI.out ?_)
    | (refine wpList_store_row rfl 88 (.tmp 6) (.tmp 20) rfl (w.heap.size + 1 + 1) full rfl rfl 88 _ HRES.out HI.out HOLD.out HONE.out ?_))
  have hrow := setRow_heap w5 (w.heap.size + 1 + 1) _ full 88 _ HRES.out
  have hbel := below_setRow HB5.out (show w.heap.size ≤ w.heap.size + 1 + 1 by omega) full
  generalize w5.setRow (w.heap.size + 1 + 1) full = wz at hrow hbel ⊢
  have hres : ∀ tmps : Array Value, tmps.getD 6 undef = .pointer (some ⟨w.heap.size + 1 + 1, 0, none⟩) → Sem.run Tryd.prog (results Tryd.f55 tmps) wz = .ok (.agg full) wz := fun tmps h =>
    results_cell_row (P := Tryd.prog) (p := 6) (ty := 88) Tryd.results55 tmps wz (w.heap.size + 1 + 1) 88 full (0, 0) (TypeDesc.array 16 49) h hrow Tryd.underlying88 rfl HI.out
  exact bodyPost_ret (v := .agg full) (hres _ rfl) rfl ⟨by rw [HFE.out], hbel⟩
end Go.Proofs.YtagkkihnfipfeaaDoor

/-
  The contract of chacha.mix: where the package's table holds its numbers, it returns what ten double rounds make of sixteen words; nothing that was there changes.
-/
namespace Go.Proofs.YtagkkihnfipfeaaDoor
open Go.RowKit Go.Proofs.ShaWords

/-- The indices that the quarter rounds of a double round take. -/
def quartersL : List Nat := [0, 4, 8, 12, 1, 5, 9, 13, 2, 6, 10, 14, 3, 7, 11, 15, 0, 5, 10, 15, 1, 6, 11, 12, 2, 7, 8, 13, 3, 4, 9, 14]
def intsV (l : List Nat) : List Value := l.map fun (n : Nat) => Value.int .i64 (n : Int)
/-- The table, as the package's variable holds it. -/
def Quads (w : World) : Prop := w.rangeAt 0 0 (intsV quartersL)
def qi (k j : Nat) : Nat := quartersL.getD (4 * k + j) 0
def fourAt (m : List (BitVec 32)) (i0 i1 i2 i3 : Nat) : W4 := ⟨m.getD i0 0#32, m.getD i1 0#32, m.getD i2 0#32, m.getD i3 0#32⟩
/-- A quarter round of the words with four indices. -/
def stepQ (m : List (BitVec 32)) (i0 i1 i2 i3 : Nat) : List (BitVec 32) :=
  (((m.set i0 (qA2 (fourAt m i0 i1 i2 i3))).set i1 (qB2 (fourAt m i0 i1 i2 i3))).set i2 (qC2 (fourAt m i0 i1 i2 i3))).set i3 (qD2 (fourAt m i0 i1 i2 i3))
/-- The first k quarter rounds of a double round. -/
def quartersOf (m : List (BitVec 32)) : Nat → List (BitVec 32)
  | 0 => m
  | k + 1 => stepQ (quartersOf m k) (qi k 0) (qi k 1) (qi k 2) (qi k 3)
/-- n double rounds. -/
def doubles (m : List (BitVec 32)) : Nat → List (BitVec 32)
  | 0 => m
  | n + 1 => quartersOf (doubles m n) 8
theorem stepQ_eq (m : List (BitVec 32)) (i0 i1 i2 i3 : Nat) : stepQ m i0 i1 i2 i3 = (((m.set i0 (qA2 (fourAt m i0 i1 i2 i3))).set i1 (qB2 (fourAt m i0 i1 i2 i3))).set i2 (qC2 (fourAt m i0 i1 i2 i3))).set i3 (qD2 (fourAt m i0 i1 i2 i3)) := rfl
theorem stepQ_length (m : List (BitVec 32)) (i0 i1 i2 i3 : Nat) : (stepQ m i0 i1 i2 i3).length = m.length := by simp [stepQ]
theorem quartersOf_length (m : List (BitVec 32)) (k : Nat) : (quartersOf m k).length = m.length := by
  induction k with
  | zero => rfl
  | succ k ih => rw [quartersOf, stepQ_length, ih]
theorem doubles_length (m : List (BitVec 32)) (n : Nat) : (doubles m n).length = m.length := by
  induction n with
  | zero => rfl
  | succ n ih => rw [doubles, quartersOf_length, ih]
theorem quartersOf_zero (m : List (BitVec 32)) : quartersOf m 0 = m := rfl
theorem quartersOf_succ (m : List (BitVec 32)) (k : Nat) : quartersOf m (k + 1) = stepQ (quartersOf m k) (qi k 0) (qi k 1) (qi k 2) (qi k 3) := rfl
theorem doubles_zero (m : List (BitVec 32)) : doubles m 0 = m := rfl
theorem doubles_succ (m : List (BitVec 32)) (n : Nat) : doubles m (n + 1) = quartersOf (doubles m n) 8 := rfl
theorem qi_lt (k j : Nat) : qi k j < 16 := by
  unfold qi
  have h : ∀ n ∈ quartersL, n < 16 := by decide
  rcases Nat.lt_or_ge (4 * k + j) quartersL.length with h1 | h1
  · rw [List.getD, List.getElem?_eq_getElem h1]; exact h _ (List.getElem_mem h1)
  · simp [List.getD, List.getElem?_eq_none h1]
theorem index83 (k : Nat) (hk : k < 8) (w : World) : (Instr.index 98 (.agg (intsV quartersL).toArray) (.int .i64 (k : Int))).run Tryd.prog w = .ok (.agg #[.int .i64 (qi k 0 : Nat), .int .i64 (qi k 1 : Nat), .int .i64 (qi k 2 : Nat), .int .i64 (qi k 3 : Nat)]) w := by
  rcases k with _ | _ | _ | _ | _ | _ | _ | _ | k
  · kernel_rfl
  · kernel_rfl
  · kernel_rfl
  · kernel_rfl
  · kernel_rfl
  · kernel_rfl
  · kernel_rfl
  · kernel_rfl
  · omega
theorem Quads.size {w : World} (h : Quads w) : 0 < w.heap.size := World.block_lt_of_cell? w _ (h 0 (.int .i64 0) rfl)
theorem Quads.below {w w' : World} {B : Nat} (h : Quads w) (hb : Below B w w') (hB : 0 < B) : Quads w' := fun j v hv => (hb.cell (p := ⟨0, 0 + j, none⟩) hB).trans (h j v hv)
theorem Quads.grown {w w' : World} {g : Nat} (h : Quads w) (hb : w.grownBy w' (some g)) (hg : g ≠ 0) : Quads w' := Reads.grown h hb (fun e => hg e.symm)
/-- What chacha.mix has in memory. -/
structure MixS (w : World) (L : List (BitVec 32)) (wr : World) : Prop where
  row : WordsAt wr w.heap.size 88 L
  res : WordsAt wr (w.heap.size + 1) 88 (List.replicate 16 0#32)
  below : Below w.heap.size w wr
theorem MixS.on {w wr w' : World} {L : List (BitVec 32)} (h : MixS w L wr) (hb : Below wr.heap.size wr w') : MixS w L w' := ⟨h.row.keep hb, h.res.keep hb, h.below.trans (hb.mono h.below.size)⟩
theorem MixS.set {w wr : World} {L : List (BitVec 32)} (h : MixS w L wr) (k : Nat) (x : BitVec 32) : MixS w (L.set k x) (wr.setCell ⟨w.heap.size, k, none⟩ (.int .u32 (n32 x))) :=
  ⟨h.row.set k x, h.res.setOther (by omega) _ _, h.below.setCell (Nat.le_refl _) _⟩
def QuadAt (G i0 i1 i2 i3 : Nat) (w : World) : Prop := w.heap[G]? = some (.cells #[.int .i64 (i0 : Int), .int .i64 (i1 : Int), .int .i64 (i2 : Int), .int .i64 (i3 : Int)] 97 (0, 0))
theorem QuadAt.c0 {G i0 i1 i2 i3 : Nat} {w : World} (h : QuadAt G i0 i1 i2 i3 w) : w.cell? ⟨G, 0, none⟩ = some (.int .i64 (i0 : Int)) := by rw [cell_of_row w G 0 _ _ _ h]; rfl
theorem QuadAt.c1 {G i0 i1 i2 i3 : Nat} {w : World} (h : QuadAt G i0 i1 i2 i3 w) : w.cell? ⟨G, 1, none⟩ = some (.int .i64 (i1 : Int)) := by rw [cell_of_row w G 1 _ _ _ h]; rfl
theorem QuadAt.c2 {G i0 i1 i2 i3 : Nat} {w : World} (h : QuadAt G i0 i1 i2 i3 w) : w.cell? ⟨G, 2, none⟩ = some (.int .i64 (i2 : Int)) := by rw [cell_of_row w G 2 _ _ _ h]; rfl
theorem QuadAt.c3 {G i0 i1 i2 i3 : Nat} {w : World} (h : QuadAt G i0 i1 i2 i3 w) : w.cell? ⟨G, 3, none⟩ = some (.int .i64 (i3 : Int)) := by rw [cell_of_row w G 3 _ _ _ h]; rfl
theorem QuadAt.set {G i0 i1 i2 i3 : Nat} {w : World} (h : QuadAt G i0 i1 i2 i3 w) {g : Nat} (hne : G ≠ g) (k : Nat) (v : Value) : QuadAt G i0 i1 i2 i3 (w.setCell ⟨g, k, none⟩ v) := by
  show _ = _
  rw [heap_setCell_other _ _ _ _ hne]; exact h

attribute [local irreducible] quartersOf doubles stepQ quartersL qA2 qB2 qC2 qD2
set_option maxRecDepth 100000 in
set_option maxHeartbeats 2000000 in
theorem mix16_any (m : List (BitVec 32)) (w : World) (hm : m.length = 16) (hq : Quads w) :
    Calls Tryd.prog 56 #[.agg (wordsV m).toArray] w fun e w' => e = .returned (.agg (wordsV (doubles m 10)).toArray) ∧ Below w.heap.size w w' := by
  have hqs := hq.size
  have hr : w.rangeAt 0 0 (intsV quartersL) := hq
  have HQ := Lib.hid hr; clear hq hr
  have HM := Lib.hid hm; clear hm
  have HD0 := Lib.hid (doubles_zero m)
  have HDS := Lib.hid (doubles_succ m)
  have HDL := Lib.hid (fun n => (doubles_length m n).trans HM.out)
  have HIX := Lib.hid index83
  have HI83 := Lib.hid (show (Tryd.prog.info? 98).map (·.size) = some (intsV quartersL).length by unfold quartersL; kernel_rfl)
  generalize (intsV quartersL) = qv at HIX HI83 HQ
  go_enter Tryd.func56, Tryd.ntmps56
  go_wp2_with fail
  refine wp_gen (MixS w (doubles m 0)) ⟨?_, ?_, ?_⟩ ?_
  · rw [HD0.out]; exact WordsAt.keep (w := w.alloc _) (heap_alloc_new w _) ((Below.refl _ _).alloc (Nat.le_refl _) _)
  · show _ = some (Obj.cells (wordsV (List.replicate 16 0#32)).toArray _ _)
    rw [zero16]; exact heap_new_at (size_alloc _ _)
  · exact ((Below.refl _ _).alloc (Nat.le_refl _) _).alloc (by rw [size_alloc]; omega) _
  intro w0 hw0
  have HW0 := Lib.hid hw0; clear hw0
  go_loopw [4, 5, 7, 8] (fun _ i _ _ wr => ∃ n : Nat, n ≤ 10 ∧ i = .int .i64 (n : Int) ∧ MixS w (doubles m n) wr) (fun _ i _ _ _ => 10 - (intOf i).toNat)
  case atStart => exact ⟨0, by omega, rfl, HW0.out⟩
  case round =>
    clear HW0
    obtain ⟨n, hn, rfl, hw⟩ := hrel
    have HW := Lib.hid hw; clear hw
    by_cases hlt : n < 10
    · go_wp2_with (refine wpList_load_mid rfl 98 (.global 0) rfl 0 0 rfl qv (.array 8 97) (range_keep HQ.out HW.out.below) Tryd.underlying98 rfl HI83.out ?_)
      have HDN := Lib.hid (HDS.out n)
      have HLN := Lib.hid (HDL.out n)
      generalize hL0 : doubles m n = L0 at HW HDN HLN
      clear hL0
      have HQ0 := Lib.hid (quartersOf_zero L0)
      obtain ⟨wo, rfl⟩ : ∃ wo : World, wo = wr := ⟨_, rfl⟩
      go_loopw [4, 8] (fun _ j wi => ∃ k : Nat, k ≤ 8 ∧ j = .int .i64 (k : Int) ∧ MixS w (quartersOf L0 k) wi) (fun _ j _ => 8 - (intOf j).toNat)
      case atStart => exact ⟨0, by omega, rfl, by rw [HQ0.out]; exact HW.out⟩
      case round =>
        clear HW HQ0
        obtain ⟨k, hk, rfl, hwi⟩ := hrel
        have HWI := Lib.hid hwi; clear hwi
        by_cases hlk : k < 8
        · have HQS := Lib.hid (quartersOf_succ L0 k)
          have HQL := Lib.hid ((quartersOf_length L0 k).trans HLN.out)
          have hix := HIX.out k hlk
          have HI0 := Lib.hid (qi_lt k 0)
          have HI1 := Lib.hid (qi_lt k 1)
          have HI2 := Lib.hid (qi_lt k 2)
          have HI3 := Lib.hid (qi_lt k 3)
          generalize quartersOf L0 k = L at HWI HQS HQL
          generalize qi k 0 = i0 at hix HI0 HQS
          generalize qi k 1 = i1 at hix HI1 HQS
          generalize qi k 2 = i2 at hix HI2 HQS
          generalize qi k 3 = i3 at hix HI3 HQS
          go_wp2_with fail
          refine wp_gen (fun w6 => QuadAt wr.heap.size i0 i1 i2 i3 w6 ∧ MixS w L w6 ∧ w.heap.size < wr.heap.size) ⟨heap_new_at rfl, HWI.out.on ((Below.refl _ _).alloc (Nat.le_refl _) _), HWI.out.row.size⟩ ?_
          rintro w6 ⟨hq6, hm6, hlt6⟩
          clear HWI hix
          generalize wr.heap.size = G at hq6 hlt6 ⊢
          have HQ6 := Lib.hid (show QuadAt G i0 i1 i2 i3 w6.drew from hq6)
          have HM6 := Lib.hid (hm6.on ((Below.refl _ _).drew))
          have HNE : Hid (G ≠ w.heap.size) := show G ≠ w.heap.size by omega
          clear hq6 hm6 hlt6
          refine region_phase (QuadAt G i0 i1 i2 i3) (fun w1 => WordsAt w1 w.heap.size 88 L) 31 HQ6.out HM6.out.row [(0, .free), (1, .free), (2, .free), (3, .free), (4, .free), (5, .free), (6, .free), (7, .free), (8, .free), (9, .free), (10, .free), (11, .early), (12, .free), (13, .free), (14, .free), (15, .early), (16, .free), (17, .free), (18, .free), (19, .early), (20, .free), (21, .free), (22, .free), (23, .early), (24, .before), (25, .free), (26, .free), (27, .free), (28, .free), (29, .free), (30, .free), (31, .behind), (32, .free), (33, .behind), (34, .free), (35, .behind), (36, .free), (37, .behind)] (by kernel_rfl) (by kernel_rfl) (by kernel_rfl) (by kernel_rfl) (fun ops hops A hA => ?_)
          have hsz : A.tmps.size = 48 := by rw [hA]; rfl
          have base1 : A.eval (.tmp 1) = .pointer (some ⟨w.heap.size, 0, none⟩) := by rw [hA]; rfl
          have base4 : A.eval (.tmp 4) = .pointer (some ⟨G, 0, none⟩) := by rw [hA]; rfl
          have HAA := Lib.hid hA; clear hA
          obtain ⟨o0, po0, q0, d0, gd0⟩ : ∃ o, ops[0]? = some o ∧ o.op = .indexAddr 97 (.tmp 4) (.const (.int .i64 0)) ∧ o.dst = some 12 ∧ o.guard = none := ⟨_, by rw [hops]; rfl, rfl, rfl, rfl⟩
          obtain ⟨o1, po1, q1, d1, gd1⟩ : ∃ o, ops[1]? = some o ∧ o.op = .load 3 (.tmp 12) ∧ o.dst = some 13 ∧ o.guard = none := ⟨_, by rw [hops]; rfl, rfl, rfl, rfl⟩
          obtain ⟨o2, po2, q2, d2, gd2⟩ : ∃ o, ops[2]? = some o ∧ o.op = .indexAddr 97 (.tmp 4) (.const (.int .i64 1)) ∧ o.dst = some 14 ∧ o.guard = none := ⟨_, by rw [hops]; rfl, rfl, rfl, rfl⟩
          obtain ⟨o3, po3, q3, d3, gd3⟩ : ∃ o, ops[3]? = some o ∧ o.op = .load 3 (.tmp 14) ∧ o.dst = some 15 ∧ o.guard = none := ⟨_, by rw [hops]; rfl, rfl, rfl, rfl⟩
          obtain ⟨o4, po4, q4, d4, gd4⟩ : ∃ o, ops[4]? = some o ∧ o.op = .indexAddr 97 (.tmp 4) (.const (.int .i64 2)) ∧ o.dst = some 16 ∧ o.guard = none := ⟨_, by rw [hops]; rfl, rfl, rfl, rfl⟩
          obtain ⟨o5, po5, q5, d5, gd5⟩ : ∃ o, ops[5]? = some o ∧ o.op = .load 3 (.tmp 16) ∧ o.dst = some 17 ∧ o.guard = none := ⟨_, by rw [hops]; rfl, rfl, rfl, rfl⟩
          obtain ⟨o6, po6, q6, d6, gd6⟩ : ∃ o, ops[6]? = some o ∧ o.op = .indexAddr 97 (.tmp 4) (.const (.int .i64 3)) ∧ o.dst = some 18 ∧ o.guard = none := ⟨_, by rw [hops]; rfl, rfl, rfl, rfl⟩
          obtain ⟨o7, po7, q7, d7, gd7⟩ : ∃ o, ops[7]? = some o ∧ o.op = .load 3 (.tmp 18) ∧ o.dst = some 19 ∧ o.guard = none := ⟨_, by rw [hops]; rfl, rfl, rfl, rfl⟩
          obtain ⟨o8, po8, q8, d8, gd8⟩ : ∃ o, ops[8]? = some o ∧ o.op = .indexAddr 97 (.tmp 4) (.const (.int .i64 0)) ∧ o.dst = some 20 ∧ o.guard = none := ⟨_, by rw [hops]; rfl, rfl, rfl, rfl⟩
          obtain ⟨o9, po9, q9, d9, gd9⟩ : ∃ o, ops[9]? = some o ∧ o.op = .load 3 (.tmp 20) ∧ o.dst = some 21 ∧ o.guard = none := ⟨_, by rw [hops]; rfl, rfl, rfl, rfl⟩
          obtain ⟨o10, po10, q10, d10, gd10⟩ : ∃ o, ops[10]? = some o ∧ o.op = .indexAddr 88 (.tmp 1) (.tmp 21) ∧ o.dst = some 22 ∧ o.guard = none := ⟨_, by rw [hops]; rfl, rfl, rfl, rfl⟩
          obtain ⟨o11, po11, q11, d11, gd11⟩ : ∃ o, ops[11]? = some o ∧ o.op = .load 49 (.tmp 22) ∧ o.dst = some 23 ∧ o.guard = none := ⟨_, by rw [hops]; rfl, rfl, rfl, rfl⟩
          obtain ⟨o12, po12, q12, d12, gd12⟩ : ∃ o, ops[12]? = some o ∧ o.op = .indexAddr 97 (.tmp 4) (.const (.int .i64 1)) ∧ o.dst = some 24 ∧ o.guard = none := ⟨_, by rw [hops]; rfl, rfl, rfl, rfl⟩
          obtain ⟨o13, po13, q13, d13, gd13⟩ : ∃ o, ops[13]? = some o ∧ o.op = .load 3 (.tmp 24) ∧ o.dst = some 25 ∧ o.guard = none := ⟨_, by rw [hops]; rfl, rfl, rfl, rfl⟩
          obtain ⟨o14, po14, q14, d14, gd14⟩ : ∃ o, ops[14]? = some o ∧ o.op = .indexAddr 88 (.tmp 1) (.tmp 25) ∧ o.dst = some 26 ∧ o.guard = none := ⟨_, by rw [hops]; rfl, rfl, rfl, rfl⟩
          obtain ⟨o15, po15, q15, d15, gd15⟩ : ∃ o, ops[15]? = some o ∧ o.op = .load 49 (.tmp 26) ∧ o.dst = some 27 ∧ o.guard = none := ⟨_, by rw [hops]; rfl, rfl, rfl, rfl⟩
          obtain ⟨o16, po16, q16, d16, gd16⟩ : ∃ o, ops[16]? = some o ∧ o.op = .indexAddr 97 (.tmp 4) (.const (.int .i64 2)) ∧ o.dst = some 28 ∧ o.guard = none := ⟨_, by rw [hops]; rfl, rfl, rfl, rfl⟩
          obtain ⟨o17, po17, q17, d17, gd17⟩ : ∃ o, ops[17]? = some o ∧ o.op = .load 3 (.tmp 28) ∧ o.dst = some 29 ∧ o.guard = none := ⟨_, by rw [hops]; rfl, rfl, rfl, rfl⟩
          obtain ⟨o18, po18, q18, d18, gd18⟩ : ∃ o, ops[18]? = some o ∧ o.op = .indexAddr 88 (.tmp 1) (.tmp 29) ∧ o.dst = some 30 ∧ o.guard = none := ⟨_, by rw [hops]; rfl, rfl, rfl, rfl⟩
          obtain ⟨o19, po19, q19, d19, gd19⟩ : ∃ o, ops[19]? = some o ∧ o.op = .load 49 (.tmp 30) ∧ o.dst = some 31 ∧ o.guard = none := ⟨_, by rw [hops]; rfl, rfl, rfl, rfl⟩
          obtain ⟨o20, po20, q20, d20, gd20⟩ : ∃ o, ops[20]? = some o ∧ o.op = .indexAddr 97 (.tmp 4) (.const (.int .i64 3)) ∧ o.dst = some 32 ∧ o.guard = none := ⟨_, by rw [hops]; rfl, rfl, rfl, rfl⟩
          obtain ⟨o21, po21, q21, d21, gd21⟩ : ∃ o, ops[21]? = some o ∧ o.op = .load 3 (.tmp 32) ∧ o.dst = some 33 ∧ o.guard = none := ⟨_, by rw [hops]; rfl, rfl, rfl, rfl⟩
          obtain ⟨o22, po22, q22, d22, gd22⟩ : ∃ o, ops[22]? = some o ∧ o.op = .indexAddr 88 (.tmp 1) (.tmp 33) ∧ o.dst = some 34 ∧ o.guard = none := ⟨_, by rw [hops]; rfl, rfl, rfl, rfl⟩
          obtain ⟨o23, po23, q23, d23, gd23⟩ : ∃ o, ops[23]? = some o ∧ o.op = .load 49 (.tmp 34) ∧ o.dst = some 35 ∧ o.guard = none := ⟨_, by rw [hops]; rfl, rfl, rfl, rfl⟩
          obtain ⟨o24, po24, q24, d24, gd24⟩ : ∃ o, ops[24]? = some o ∧ o.op = .call { callee := .value (.func 64), args := #[.tmp 23, .tmp 27, .tmp 31, .tmp 35], argTypes := #[49, 49, 49, 49] } ∧ o.dst = some 36 ∧ o.guard = none := ⟨_, by rw [hops]; rfl, rfl, rfl, rfl⟩
          obtain ⟨o25, po25, q25, d25, gd25⟩ : ∃ o, ops[25]? = some o ∧ o.op = .move (.tmp 36) ∧ o.dst = some 11 ∧ o.guard = none := ⟨_, by rw [hops]; rfl, rfl, rfl, rfl⟩
          obtain ⟨o26, po26, q26, d26, gd26⟩ : ∃ o, ops[26]? = some o ∧ o.op = .extract (.tmp 11) 0 ∧ o.dst = some 37 ∧ o.guard = none := ⟨_, by rw [hops]; rfl, rfl, rfl, rfl⟩
          obtain ⟨o27, po27, q27, d27, gd27⟩ : ∃ o, ops[27]? = some o ∧ o.op = .extract (.tmp 11) 1 ∧ o.dst = some 38 ∧ o.guard = none := ⟨_, by rw [hops]; rfl, rfl, rfl, rfl⟩
          obtain ⟨o28, po28, q28, d28, gd28⟩ : ∃ o, ops[28]? = some o ∧ o.op = .extract (.tmp 11) 2 ∧ o.dst = some 39 ∧ o.guard = none := ⟨_, by rw [hops]; rfl, rfl, rfl, rfl⟩
          obtain ⟨o29, po29, q29, d29, gd29⟩ : ∃ o, ops[29]? = some o ∧ o.op = .extract (.tmp 11) 3 ∧ o.dst = some 40 ∧ o.guard = none := ⟨_, by rw [hops]; rfl, rfl, rfl, rfl⟩
          obtain ⟨o30, po30, q30, d30, gd30⟩ : ∃ o, ops[30]? = some o ∧ o.op = .indexAddr 88 (.tmp 1) (.tmp 13) ∧ o.dst = some 41 ∧ o.guard = none := ⟨_, by rw [hops]; rfl, rfl, rfl, rfl⟩
          obtain ⟨o31, po31, q31, d31, gd31⟩ : ∃ o, ops[31]? = some o ∧ o.op = .store 49 (.tmp 41) (.tmp 37) ∧ o.dst = none ∧ o.guard = none := ⟨_, by rw [hops]; rfl, rfl, rfl, rfl⟩
          obtain ⟨o32, po32, q32, d32, gd32⟩ : ∃ o, ops[32]? = some o ∧ o.op = .indexAddr 88 (.tmp 1) (.tmp 15) ∧ o.dst = some 42 ∧ o.guard = none := ⟨_, by rw [hops]; rfl, rfl, rfl, rfl⟩
          obtain ⟨o33, po33, q33, d33, gd33⟩ : ∃ o, ops[33]? = some o ∧ o.op = .store 49 (.tmp 42) (.tmp 38) ∧ o.dst = none ∧ o.guard = none := ⟨_, by rw [hops]; rfl, rfl, rfl, rfl⟩
          obtain ⟨o34, po34, q34, d34, gd34⟩ : ∃ o, ops[34]? = some o ∧ o.op = .indexAddr 88 (.tmp 1) (.tmp 17) ∧ o.dst = some 43 ∧ o.guard = none := ⟨_, by rw [hops]; rfl, rfl, rfl, rfl⟩
          obtain ⟨o35, po35, q35, d35, gd35⟩ : ∃ o, ops[35]? = some o ∧ o.op = .store 49 (.tmp 43) (.tmp 39) ∧ o.dst = none ∧ o.guard = none := ⟨_, by rw [hops]; rfl, rfl, rfl, rfl⟩
          obtain ⟨o36, po36, q36, d36, gd36⟩ : ∃ o, ops[36]? = some o ∧ o.op = .indexAddr 88 (.tmp 1) (.tmp 19) ∧ o.dst = some 44 ∧ o.guard = none := ⟨_, by rw [hops]; rfl, rfl, rfl, rfl⟩
          obtain ⟨o37, po37, q37, d37, gd37⟩ : ∃ o, ops[37]? = some o ∧ o.op = .store 49 (.tmp 44) (.tmp 40) ∧ o.dst = none ∧ o.guard = none := ⟨_, by rw [hops]; rfl, rfl, rfl, rfl⟩
          clear hops
          refine met_free po0 d0 (wanted_of gd0) (fun w' _ => run_ix4 q0 base4 (show _ = Value.int .i64 ((0 : Nat) : Int) from rfl) (by decide) w') ?_
          refine met_free po1 d1 (wanted_of gd1) (fun w' h' => run_loadInt q1 (eval_same _ _ _ (by rw [hsz]; decide)) h'.c0) ?_
          refine met_free po2 d2 (wanted_of gd2) (fun w' _ => run_ix4 q2 ((eval_other _ 13 4 _ (by decide)).trans ((eval_other _ 12 4 _ (by decide)).trans base4)) (show _ = Value.int .i64 ((1 : Nat) : Int) from rfl) (by decide) w') ?_
          refine met_free po3 d3 (wanted_of gd3) (fun w' h' => run_loadInt q3 (eval_same _ _ _ (by simp only [put_size, hsz]; decide)) h'.c1) ?_
          refine met_free po4 d4 (wanted_of gd4) (fun w' _ => run_ix4 q4 ((eval_other _ 15 4 _ (by decide)).trans ((eval_other _ 14 4 _ (by decide)).trans ((eval_other _ 13 4 _ (by decide)).trans ((eval_other _ 12 4 _ (by decide)).trans base4)))) (show _ = Value.int .i64 ((2 : Nat) : Int) from rfl) (by decide) w') ?_
          refine met_free po5 d5 (wanted_of gd5) (fun w' h' => run_loadInt q5 (eval_same _ _ _ (by simp only [put_size, hsz]; decide)) h'.c2) ?_
          refine met_free po6 d6 (wanted_of gd6) (fun w' _ => run_ix4 q6 ((eval_other _ 17 4 _ (by decide)).trans ((eval_other _ 16 4 _ (by decide)).trans ((eval_other _ 15 4 _ (by decide)).trans ((eval_other _ 14 4 _ (by decide)).trans ((eval_other _ 13 4 _ (by decide)).trans ((eval_other _ 12 4 _ (by decide)).trans base4)))))) (show _ = Value.int .i64 ((3 : Nat) : Int) from rfl) (by decide) w') ?_
          refine met_free po7 d7 (wanted_of gd7) (fun w' h' => run_loadInt q7 (eval_same _ _ _ (by simp only [put_size, hsz]; decide)) h'.c3) ?_
          refine met_free po8 d8 (wanted_of gd8) (fun w' _ => run_ix4 q8 ((eval_other _ 19 4 _ (by decide)).trans ((eval_other _ 18 4 _ (by decide)).trans ((eval_other _ 17 4 _ (by decide)).trans ((eval_other _ 16 4 _ (by decide)).trans ((eval_other _ 15 4 _ (by decide)).trans ((eval_other _ 14 4 _ (by decide)).trans ((eval_other _ 13 4 _ (by decide)).trans ((eval_other _ 12 4 _ (by decide)).trans base4)))))))) (show _ = Value.int .i64 ((0 : Nat) : Int) from rfl) (by decide) w') ?_
          refine met_free po9 d9 (wanted_of gd9) (fun w' h' => run_loadInt q9 (eval_same _ _ _ (by simp only [put_size, hsz]; decide)) h'.c0) ?_
          refine met_free po10 d10 (wanted_of gd10) (fun w' _ => run_ix16 q10 ((eval_other _ 21 1 _ (by decide)).trans ((eval_other _ 20 1 _ (by decide)).trans ((eval_other _ 19 1 _ (by decide)).trans ((eval_other _ 18 1 _ (by decide)).trans ((eval_other _ 17 1 _ (by decide)).trans ((eval_other _ 16 1 _ (by decide)).trans ((eval_other _ 15 1 _ (by decide)).trans ((eval_other _ 14 1 _ (by decide)).trans ((eval_other _ 13 1 _ (by decide)).trans ((eval_other _ 12 1 _ (by decide)).trans base1)))))))))) (eval_same _ _ _ (by simp only [put_size, hsz]; decide)) HI0.out w') ?_
          refine met_early po11 d11 (wanted_of gd11) (fun w' _ h' => run_load32 q11 (eval_same _ _ _ (by simp only [put_size, hsz]; decide)) (h'.cell i0 (by rw [HQL.out]; exact HI0.out))) ?_
          refine met_free po12 d12 (wanted_of gd12) (fun w' _ => run_ix4 q12 ((eval_other _ 23 4 _ (by decide)).trans ((eval_other _ 22 4 _ (by decide)).trans ((eval_other _ 21 4 _ (by decide)).trans ((eval_other _ 20 4 _ (by decide)).trans ((eval_other _ 19 4 _ (by decide)).trans ((eval_other _ 18 4 _ (by decide)).trans ((eval_other _ 17 4 _ (by decide)).trans ((eval_other _ 16 4 _ (by decide)).trans ((eval_other _ 15 4 _ (by decide)).trans ((eval_other _ 14 4 _ (by decide)).trans ((eval_other _ 13 4 _ (by decide)).trans ((eval_other _ 12 4 _ (by decide)).trans base4)))))))))))) (show _ = Value.int .i64 ((1 : Nat) : Int) from rfl) (by decide) w') ?_
          refine met_free po13 d13 (wanted_of gd13) (fun w' h' => run_loadInt q13 (eval_same _ _ _ (by simp only [put_size, hsz]; decide)) h'.c1) ?_
          refine met_free po14 d14 (wanted_of gd14) (fun w' _ => run_ix16 q14 ((eval_other _ 25 1 _ (by decide)).trans ((eval_other _ 24 1 _ (by decide)).trans ((eval_other _ 23 1 _ (by decide)).trans ((eval_other _ 22 1 _ (by decide)).trans ((eval_other _ 21 1 _ (by decide)).trans ((eval_other _ 20 1 _ (by decide)).trans ((eval_other _ 19 1 _ (by decide)).trans ((eval_other _ 18 1 _ (by decide)).trans ((eval_other _ 17 1 _ (by decide)).trans ((eval_other _ 16 1 _ (by decide)).trans ((eval_other _ 15 1 _ (by decide)).trans ((eval_other _ 14 1 _ (by decide)).trans ((eval_other _ 13 1 _ (by decide)).trans ((eval_other _ 12 1 _ (by decide)).trans base1)))))))))))))) (eval_same _ _ _ (by simp only [put_size, hsz]; decide)) HI1.out w') ?_
          refine met_early po15 d15 (wanted_of gd15) (fun w' _ h' => run_load32 q15 (eval_same _ _ _ (by simp only [put_size, hsz]; decide)) (h'.cell i1 (by rw [HQL.out]; exact HI1.out))) ?_
          refine met_free po16 d16 (wanted_of gd16) (fun w' _ => run_ix4 q16 ((eval_other _ 27 4 _ (by decide)).trans ((eval_other _ 26 4 _ (by decide)).trans ((eval_other _ 25 4 _ (by decide)).trans ((eval_other _ 24 4 _ (by decide)).trans ((eval_other _ 23 4 _ (by decide)).trans ((eval_other _ 22 4 _ (by decide)).trans ((eval_other _ 21 4 _ (by decide)).trans ((eval_other _ 20 4 _ (by decide)).trans ((eval_other _ 19 4 _ (by decide)).trans ((eval_other _ 18 4 _ (by decide)).trans ((eval_other _ 17 4 _ (by decide)).trans ((eval_other _ 16 4 _ (by decide)).trans ((eval_other _ 15 4 _ (by decide)).trans ((eval_other _ 14 4 _ (by decide)).trans ((eval_other _ 13 4 _ (by decide)).trans ((eval_other _ 12 4 _ (by decide)).trans base4)))))))))))))))) (show _ = Value.int .i64 ((2 : Nat) : Int) from rfl) (by decide) w') ?_
          refine met_free po17 d17 (wanted_of gd17) (fun w' h' => run_loadInt q17 (eval_same _ _ _ (by simp only [put_size, hsz]; decide)) h'.c2) ?_
          refine met_free po18 d18 (wanted_of gd18) (fun w' _ => run_ix16 q18 ((eval_other _ 29 1 _ (by decide)).trans ((eval_other _ 28 1 _ (by decide)).trans ((eval_other _ 27 1 _ (by decide)).trans ((eval_other _ 26 1 _ (by decide)).trans ((eval_other _ 25 1 _ (by decide)).trans ((eval_other _ 24 1 _ (by decide)).trans ((eval_other _ 23 1 _ (by decide)).trans ((eval_other _ 22 1 _ (by decide)).trans ((eval_other _ 21 1 _ (by decide)).trans ((eval_other _ 20 1 _ (by decide)).trans ((eval_other _ 19 1 _ (by decide)).trans ((eval_other _ 18 1 _ (by decide)).trans ((eval_other _ 17 1 _ (by decide)).trans ((eval_other _ 16 1 _ (by decide)).trans ((eval_other _ 15 1 _ (by decide)).trans ((eval_other _ 14 1 _ (by decide)).trans ((eval_other _ 13 1 _ (by decide)).trans ((eval_other _ 12 1 _ (by decide)).trans base1)))))))))))))))))) (eval_same _ _ _ (by simp only [put_size, hsz]; decide)) HI2.out w') ?_
          refine met_early po19 d19 (wanted_of gd19) (fun w' _ h' => run_load32 q19 (eval_same _ _ _ (by simp only [put_size, hsz]; decide)) (h'.cell i2 (by rw [HQL.out]; exact HI2.out))) ?_
          refine met_free po20 d20 (wanted_of gd20) (fun w' _ => run_ix4 q20 ((eval_other _ 31 4 _ (by decide)).trans ((eval_other _ 30 4 _ (by decide)).trans ((eval_other _ 29 4 _ (by decide)).trans ((eval_other _ 28 4 _ (by decide)).trans ((eval_other _ 27 4 _ (by decide)).trans ((eval_other _ 26 4 _ (by decide)).trans ((eval_other _ 25 4 _ (by decide)).trans ((eval_other _ 24 4 _ (by decide)).trans ((eval_other _ 23 4 _ (by decide)).trans ((eval_other _ 22 4 _ (by decide)).trans ((eval_other _ 21 4 _ (by decide)).trans ((eval_other _ 20 4 _ (by decide)).trans ((eval_other _ 19 4 _ (by decide)).trans ((eval_other _ 18 4 _ (by decide)).trans ((eval_other _ 17 4 _ (by decide)).trans ((eval_other _ 16 4 _ (by decide)).trans ((eval_other _ 15 4 _ (by decide)).trans ((eval_other _ 14 4 _ (by decide)).trans ((eval_other _ 13 4 _ (by decide)).trans ((eval_other _ 12 4 _ (by decide)).trans base4)))))))))))))))))))) (show _ = Value.int .i64 ((3 : Nat) : Int) from rfl) (by decide) w') ?_
          refine met_free po21 d21 (wanted_of gd21) (fun w' h' => run_loadInt q21 (eval_same _ _ _ (by simp only [put_size, hsz]; decide)) h'.c3) ?_
          refine met_free po22 d22 (wanted_of gd22) (fun w' _ => run_ix16 q22 ((eval_other _ 33 1 _ (by decide)).trans ((eval_other _ 32 1 _ (by decide)).trans ((eval_other _ 31 1 _ (by decide)).trans ((eval_other _ 30 1 _ (by decide)).trans ((eval_other _ 29 1 _ (by decide)).trans ((eval_other _ 28 1 _ (by decide)).trans ((eval_other _ 27 1 _ (by decide)).trans ((eval_other _ 26 1 _ (by decide)).trans ((eval_other _ 25 1 _ (by decide)).trans ((eval_other _ 24 1 _ (by decide)).trans ((eval_other _ 23 1 _ (by decide)).trans ((eval_other _ 22 1 _ (by decide)).trans ((eval_other _ 21 1 _ (by decide)).trans ((eval_other _ 20 1 _ (by decide)).trans ((eval_other _ 19 1 _ (by decide)).trans ((eval_other _ 18 1 _ (by decide)).trans ((eval_other _ 17 1 _ (by decide)).trans ((eval_other _ 16 1 _ (by decide)).trans ((eval_other _ 15 1 _ (by decide)).trans ((eval_other _ 14 1 _ (by decide)).trans ((eval_other _ 13 1 _ (by decide)).trans ((eval_other _ 12 1 _ (by decide)).trans base1)))))))))))))))))))))) (eval_same _ _ _ (by simp only [put_size, hsz]; decide)) HI3.out w') ?_
          refine met_early po23 d23 (wanted_of gd23) (fun w' _ h' => run_load32 q23 (eval_same _ _ _ (by simp only [put_size, hsz]; decide)) (h'.cell i3 (by rw [HQL.out]; exact HI3.out))) ?_
          refine met_quiet po24 d24 (wanted_of gd24) (run_callf4 q24 rfl ((eval_other _ 35 23 _ (by decide)).trans ((eval_other _ 34 23 _ (by decide)).trans ((eval_other _ 33 23 _ (by decide)).trans ((eval_other _ 32 23 _ (by decide)).trans ((eval_other _ 31 23 _ (by decide)).trans ((eval_other _ 30 23 _ (by decide)).trans ((eval_other _ 29 23 _ (by decide)).trans ((eval_other _ 28 23 _ (by decide)).trans ((eval_other _ 27 23 _ (by decide)).trans ((eval_other _ 26 23 _ (by decide)).trans ((eval_other _ 25 23 _ (by decide)).trans ((eval_other _ 24 23 _ (by decide)).trans (eval_same _ _ _ (by simp only [put_size, hsz]; decide)))))))))))))) ((eval_other _ 35 27 _ (by decide)).trans ((eval_other _ 34 27 _ (by decide)).trans ((eval_other _ 33 27 _ (by decide)).trans ((eval_other _ 32 27 _ (by decide)).trans ((eval_other _ 31 27 _ (by decide)).trans ((eval_other _ 30 27 _ (by decide)).trans ((eval_other _ 29 27 _ (by decide)).trans ((eval_other _ 28 27 _ (by decide)).trans (eval_same _ _ _ (by simp only [put_size, hsz]; decide)))))))))) ((eval_other _ 35 31 _ (by decide)).trans ((eval_other _ 34 31 _ (by decide)).trans ((eval_other _ 33 31 _ (by decide)).trans ((eval_other _ 32 31 _ (by decide)).trans (eval_same _ _ _ (by simp only [put_size, hsz]; decide)))))) (eval_same _ _ _ (by simp only [put_size, hsz]; decide)) Tryd.func64 (by kernel_rfl) _) (quarter_any (fourAt L i0 i1 i2 i3) _) HQ6.out HM6.out.row ?_
          refine met_free po25 d25 (wanted_of gd25) (fun w' _ => run_move q25 (eval_same _ _ _ (by simp only [put_size, hsz]; decide)) w') ?_
          refine met_free po26 d26 (wanted_of gd26) (fun w' _ => run_extract q26 (eval_same _ _ _ (by simp only [put_size, hsz]; decide)) rfl w') ?_
          refine met_free po27 d27 (wanted_of gd27) (fun w' _ => run_extract q27 ((eval_other _ 37 11 _ (by decide)).trans (eval_same _ _ _ (by simp only [put_size, hsz]; decide))) rfl w') ?_
          refine met_free po28 d28 (wanted_of gd28) (fun w' _ => run_extract q28 ((eval_other _ 38 11 _ (by decide)).trans ((eval_other _ 37 11 _ (by decide)).trans (eval_same _ _ _ (by simp only [put_size, hsz]; decide)))) rfl w') ?_
          refine met_free po29 d29 (wanted_of gd29) (fun w' _ => run_extract q29 ((eval_other _ 39 11 _ (by decide)).trans ((eval_other _ 38 11 _ (by decide)).trans ((eval_other _ 37 11 _ (by decide)).trans (eval_same _ _ _ (by simp only [put_size, hsz]; decide))))) rfl w') ?_
          refine met_free po30 d30 (wanted_of gd30) (fun w' _ => run_ix16 q30 ((eval_other _ 40 1 _ (by decide)).trans ((eval_other _ 39 1 _ (by decide)).trans ((eval_other _ 38 1 _ (by decide)).trans ((eval_other _ 37 1 _ (by decide)).trans ((eval_other _ 11 1 _ (by decide)).trans ((eval_other _ 36 1 _ (by decide)).trans ((eval_other _ 35 1 _ (by decide)).trans ((eval_other _ 34 1 _ (by decide)).trans ((eval_other _ 33 1 _ (by decide)).trans ((eval_other _ 32 1 _ (by decide)).trans ((eval_other _ 31 1 _ (by decide)).trans ((eval_other _ 30 1 _ (by decide)).trans ((eval_other _ 29 1 _ (by decide)).trans ((eval_other _ 28 1 _ (by decide)).trans ((eval_other _ 27 1 _ (by decide)).trans ((eval_other _ 26 1 _ (by decide)).trans ((eval_other _ 25 1 _ (by decide)).trans ((eval_other _ 24 1 _ (by decide)).trans ((eval_other _ 23 1 _ (by decide)).trans ((eval_other _ 22 1 _ (by decide)).trans ((eval_other _ 21 1 _ (by decide)).trans ((eval_other _ 20 1 _ (by decide)).trans ((eval_other _ 19 1 _ (by decide)).trans ((eval_other _ 18 1 _ (by decide)).trans ((eval_other _ 17 1 _ (by decide)).trans ((eval_other _ 16 1 _ (by decide)).trans ((eval_other _ 15 1 _ (by decide)).trans ((eval_other _ 14 1 _ (by decide)).trans ((eval_other _ 13 1 _ (by decide)).trans ((eval_other _ 12 1 _ (by decide)).trans base1)))))))))))))))))))))))))))))) ((eval_other _ 40 13 _ (by decide)).trans ((eval_other _ 39 13 _ (by decide)).trans ((eval_other _ 38 13 _ (by decide)).trans ((eval_other _ 37 13 _ (by decide)).trans ((eval_other _ 11 13 _ (by decide)).trans ((eval_other _ 36 13 _ (by decide)).trans ((eval_other _ 35 13 _ (by decide)).trans ((eval_other _ 34 13 _ (by decide)).trans ((eval_other _ 33 13 _ (by decide)).trans ((eval_other _ 32 13 _ (by decide)).trans ((eval_other _ 31 13 _ (by decide)).trans ((eval_other _ 30 13 _ (by decide)).trans ((eval_other _ 29 13 _ (by decide)).trans ((eval_other _ 28 13 _ (by decide)).trans ((eval_other _ 27 13 _ (by decide)).trans ((eval_other _ 26 13 _ (by decide)).trans ((eval_other _ 25 13 _ (by decide)).trans ((eval_other _ 24 13 _ (by decide)).trans ((eval_other _ 23 13 _ (by decide)).trans ((eval_other _ 22 13 _ (by decide)).trans ((eval_other _ 21 13 _ (by decide)).trans ((eval_other _ 20 13 _ (by decide)).trans ((eval_other _ 19 13 _ (by decide)).trans ((eval_other _ 18 13 _ (by decide)).trans ((eval_other _ 17 13 _ (by decide)).trans ((eval_other _ 16 13 _ (by decide)).trans ((eval_other _ 15 13 _ (by decide)).trans ((eval_other _ 14 13 _ (by decide)).trans (eval_same _ _ _ (by simp only [put_size, hsz]; decide)))))))))))))))))))))))))))))) HI0.out w') ?_
          have cu0 := HM6.out.row.cell i0 (by simp only [HQL.out]; exact HI0.out)
          have HM1 := Lib.hid (HM6.out.set i0 (qA2 (fourAt L i0 i1 i2 i3)))
          refine met_skip po31 d31 (wanted_of gd31) (run_store32 q31 (eval_same _ _ _ (by simp only [put_size, hsz]; decide)) ((eval_other _ 41 37 _ (by decide)).trans ((eval_other _ 40 37 _ (by decide)).trans ((eval_other _ 39 37 _ (by decide)).trans ((eval_other _ 38 37 _ (by decide)).trans (eval_same _ _ _ (by simp only [put_size, hsz]; decide)))))) cu0 (HM6.out.row.frozen i0)) (QuadAt.set HQ6.out HNE.out _ _) ?_
          refine met_free po32 d32 (wanted_of gd32) (fun w' _ => run_ix16 q32 ((eval_none _ _ 1).trans ((eval_other _ 41 1 _ (by decide)).trans ((eval_other _ 40 1 _ (by decide)).trans ((eval_other _ 39 1 _ (by decide)).trans ((eval_other _ 38 1 _ (by decide)).trans ((eval_other _ 37 1 _ (by decide)).trans ((eval_other _ 11 1 _ (by decide)).trans ((eval_other _ 36 1 _ (by decide)).trans ((eval_other _ 35 1 _ (by decide)).trans ((eval_other _ 34 1 _ (by decide)).trans ((eval_other _ 33 1 _ (by decide)).trans ((eval_other _ 32 1 _ (by decide)).trans ((eval_other _ 31 1 _ (by decide)).trans ((eval_other _ 30 1 _ (by decide)).trans ((eval_other _ 29 1 _ (by decide)).trans ((eval_other _ 28 1 _ (by decide)).trans ((eval_other _ 27 1 _ (by decide)).trans ((eval_other _ 26 1 _ (by decide)).trans ((eval_other _ 25 1 _ (by decide)).trans ((eval_other _ 24 1 _ (by decide)).trans ((eval_other _ 23 1 _ (by decide)).trans ((eval_other _ 22 1 _ (by decide)).trans ((eval_other _ 21 1 _ (by decide)).trans ((eval_other _ 20 1 _ (by decide)).trans ((eval_other _ 19 1 _ (by decide)).trans ((eval_other _ 18 1 _ (by decide)).trans ((eval_other _ 17 1 _ (by decide)).trans ((eval_other _ 16 1 _ (by decide)).trans ((eval_other _ 15 1 _ (by decide)).trans ((eval_other _ 14 1 _ (by decide)).trans ((eval_other _ 13 1 _ (by decide)).trans ((eval_other _ 12 1 _ (by decide)).trans base1)))))))))))))))))))))))))))))))) ((eval_none _ _ 15).trans ((eval_other _ 41 15 _ (by decide)).trans ((eval_other _ 40 15 _ (by decide)).trans ((eval_other _ 39 15 _ (by decide)).trans ((eval_other _ 38 15 _ (by decide)).trans ((eval_other _ 37 15 _ (by decide)).trans ((eval_other _ 11 15 _ (by decide)).trans ((eval_other _ 36 15 _ (by decide)).trans ((eval_other _ 35 15 _ (by decide)).trans ((eval_other _ 34 15 _ (by decide)).trans ((eval_other _ 33 15 _ (by decide)).trans ((eval_other _ 32 15 _ (by decide)).trans ((eval_other _ 31 15 _ (by decide)).trans ((eval_other _ 30 15 _ (by decide)).trans ((eval_other _ 29 15 _ (by decide)).trans ((eval_other _ 28 15 _ (by decide)).trans ((eval_other _ 27 15 _ (by decide)).trans ((eval_other _ 26 15 _ (by decide)).trans ((eval_other _ 25 15 _ (by decide)).trans ((eval_other _ 24 15 _ (by decide)).trans ((eval_other _ 23 15 _ (by decide)).trans ((eval_other _ 22 15 _ (by decide)).trans ((eval_other _ 21 15 _ (by decide)).trans ((eval_other _ 20 15 _ (by decide)).trans ((eval_other _ 19 15 _ (by decide)).trans ((eval_other _ 18 15 _ (by decide)).trans ((eval_other _ 17 15 _ (by decide)).trans ((eval_other _ 16 15 _ (by decide)).trans (eval_same _ _ _ (by simp only [put_size, hsz]; decide)))))))))))))))))))))))))))))) HI1.out w') ?_
          have cu1 := HM1.out.row.cell i1 (by simp only [List.length_set, HQL.out]; exact HI1.out)
          have HM2 := Lib.hid (HM1.out.set i1 (qB2 (fourAt L i0 i1 i2 i3)))
          refine met_skip po33 d33 (wanted_of gd33) (run_store32 q33 (eval_same _ _ _ (by simp only [put_none, put_size, hsz]; decide)) ((eval_other _ 42 38 _ (by decide)).trans ((eval_none _ _ 38).trans ((eval_other _ 41 38 _ (by decide)).trans ((eval_other _ 40 38 _ (by decide)).trans ((eval_other _ 39 38 _ (by decide)).trans (eval_same _ _ _ (by simp only [put_size, hsz]; decide))))))) cu1 (HM1.out.row.frozen i1)) (QuadAt.set (QuadAt.set HQ6.out HNE.out _ _) HNE.out _ _) ?_
          refine met_free po34 d34 (wanted_of gd34) (fun w' _ => run_ix16 q34 ((eval_none _ _ 1).trans ((eval_other _ 42 1 _ (by decide)).trans ((eval_none _ _ 1).trans ((eval_other _ 41 1 _ (by decide)).trans ((eval_other _ 40 1 _ (by decide)).trans ((eval_other _ 39 1 _ (by decide)).trans ((eval_other _ 38 1 _ (by decide)).trans ((eval_other _ 37 1 _ (by decide)).trans ((eval_other _ 11 1 _ (by decide)).trans ((eval_other _ 36 1 _ (by decide)).trans ((eval_other _ 35 1 _ (by decide)).trans ((eval_other _ 34 1 _ (by decide)).trans ((eval_other _ 33 1 _ (by decide)).trans ((eval_other _ 32 1 _ (by decide)).trans ((eval_other _ 31 1 _ (by decide)).trans ((eval_other _ 30 1 _ (by decide)).trans ((eval_other _ 29 1 _ (by decide)).trans ((eval_other _ 28 1 _ (by decide)).trans ((eval_other _ 27 1 _ (by decide)).trans ((eval_other _ 26 1 _ (by decide)).trans ((eval_other _ 25 1 _ (by decide)).trans ((eval_other _ 24 1 _ (by decide)).trans ((eval_other _ 23 1 _ (by decide)).trans ((eval_other _ 22 1 _ (by decide)).trans ((eval_other _ 21 1 _ (by decide)).trans ((eval_other _ 20 1 _ (by decide)).trans ((eval_other _ 19 1 _ (by decide)).trans ((eval_other _ 18 1 _ (by decide)).trans ((eval_other _ 17 1 _ (by decide)).trans ((eval_other _ 16 1 _ (by decide)).trans ((eval_other _ 15 1 _ (by decide)).trans ((eval_other _ 14 1 _ (by decide)).trans ((eval_other _ 13 1 _ (by decide)).trans ((eval_other _ 12 1 _ (by decide)).trans base1)))))))))))))))))))))))))))))))))) ((eval_none _ _ 17).trans ((eval_other _ 42 17 _ (by decide)).trans ((eval_none _ _ 17).trans ((eval_other _ 41 17 _ (by decide)).trans ((eval_other _ 40 17 _ (by decide)).trans ((eval_other _ 39 17 _ (by decide)).trans ((eval_other _ 38 17 _ (by decide)).trans ((eval_other _ 37 17 _ (by decide)).trans ((eval_other _ 11 17 _ (by decide)).trans ((eval_other _ 36 17 _ (by decide)).trans ((eval_other _ 35 17 _ (by decide)).trans ((eval_other _ 34 17 _ (by decide)).trans ((eval_other _ 33 17 _ (by decide)).trans ((eval_other _ 32 17 _ (by decide)).trans ((eval_other _ 31 17 _ (by decide)).trans ((eval_other _ 30 17 _ (by decide)).trans ((eval_other _ 29 17 _ (by decide)).trans ((eval_other _ 28 17 _ (by decide)).trans ((eval_other _ 27 17 _ (by decide)).trans ((eval_other _ 26 17 _ (by decide)).trans ((eval_other _ 25 17 _ (by decide)).trans ((eval_other _ 24 17 _ (by decide)).trans ((eval_other _ 23 17 _ (by decide)).trans ((eval_other _ 22 17 _ (by decide)).trans ((eval_other _ 21 17 _ (by decide)).trans ((eval_other _ 20 17 _ (by decide)).trans ((eval_other _ 19 17 _ (by decide)).trans ((eval_other _ 18 17 _ (by decide)).trans (eval_same _ _ _ (by simp only [put_size, hsz]; decide)))))))))))))))))))))))))))))) HI2.out w') ?_
          have cu2 := HM2.out.row.cell i2 (by simp only [List.length_set, HQL.out]; exact HI2.out)
          have HM3 := Lib.hid (HM2.out.set i2 (qC2 (fourAt L i0 i1 i2 i3)))
          refine met_skip po35 d35 (wanted_of gd35) (run_store32 q35 (eval_same _ _ _ (by simp only [put_none, put_size, hsz]; decide)) ((eval_other _ 43 39 _ (by decide)).trans ((eval_none _ _ 39).trans ((eval_other _ 42 39 _ (by decide)).trans ((eval_none _ _ 39).trans ((eval_other _ 41 39 _ (by decide)).trans ((eval_other _ 40 39 _ (by decide)).trans (eval_same _ _ _ (by simp only [put_size, hsz]; decide)))))))) cu2 (HM2.out.row.frozen i2)) (QuadAt.set (QuadAt.set (QuadAt.set HQ6.out HNE.out _ _) HNE.out _ _) HNE.out _ _) ?_
          refine met_free po36 d36 (wanted_of gd36) (fun w' _ => run_ix16 q36 ((eval_none _ _ 1).trans ((eval_other _ 43 1 _ (by decide)).trans ((eval_none _ _ 1).trans ((eval_other _ 42 1 _ (by decide)).trans ((eval_none _ _ 1).trans ((eval_other _ 41 1 _ (by decide)).trans ((eval_other _ 40 1 _ (by decide)).trans ((eval_other _ 39 1 _ (by decide)).trans ((eval_other _ 38 1 _ (by decide)).trans ((eval_other _ 37 1 _ (by decide)).trans ((eval_other _ 11 1 _ (by decide)).trans ((eval_other _ 36 1 _ (by decide)).trans ((eval_other _ 35 1 _ (by decide)).trans ((eval_other _ 34 1 _ (by decide)).trans ((eval_other _ 33 1 _ (by decide)).trans ((eval_other _ 32 1 _ (by decide)).trans ((eval_other _ 31 1 _ (by decide)).trans ((eval_other _ 30 1 _ (by decide)).trans ((eval_other _ 29 1 _ (by decide)).trans ((eval_other _ 28 1 _ (by decide)).trans ((eval_other _ 27 1 _ (by decide)).trans ((eval_other _ 26 1 _ (by decide)).trans ((eval_other _ 25 1 _ (by decide)).trans ((eval_other _ 24 1 _ (by decide)).trans ((eval_other _ 23 1 _ (by decide)).trans ((eval_other _ 22 1 _ (by decide)).trans ((eval_other _ 21 1 _ (by decide)).trans ((eval_other _ 20 1 _ (by decide)).trans ((eval_other _ 19 1 _ (by decide)).trans ((eval_other _ 18 1 _ (by decide)).trans ((eval_other _ 17 1 _ (by decide)).trans ((eval_other _ 16 1 _ (by decide)).trans ((eval_other _ 15 1 _ (by decide)).trans ((eval_other _ 14 1 _ (by decide)).trans ((eval_other _ 13 1 _ (by decide)).trans ((eval_other _ 12 1 _ (by decide)).trans base1)))))))))))))))))))))))))))))))))))) ((eval_none _ _ 19).trans ((eval_other _ 43 19 _ (by decide)).trans ((eval_none _ _ 19).trans ((eval_other _ 42 19 _ (by decide)).trans ((eval_none _ _ 19).trans ((eval_other _ 41 19 _ (by decide)).trans ((eval_other _ 40 19 _ (by decide)).trans ((eval_other _ 39 19 _ (by decide)).trans ((eval_other _ 38 19 _ (by decide)).trans ((eval_other _ 37 19 _ (by decide)).trans ((eval_other _ 11 19 _ (by decide)).trans ((eval_other _ 36 19 _ (by decide)).trans ((eval_other _ 35 19 _ (by decide)).trans ((eval_other _ 34 19 _ (by decide)).trans ((eval_other _ 33 19 _ (by decide)).trans ((eval_other _ 32 19 _ (by decide)).trans ((eval_other _ 31 19 _ (by decide)).trans ((eval_other _ 30 19 _ (by decide)).trans ((eval_other _ 29 19 _ (by decide)).trans ((eval_other _ 28 19 _ (by decide)).trans ((eval_other _ 27 19 _ (by decide)).trans ((eval_other _ 26 19 _ (by decide)).trans ((eval_other _ 25 19 _ (by decide)).trans ((eval_other _ 24 19 _ (by decide)).trans ((eval_other _ 23 19 _ (by decide)).trans ((eval_other _ 22 19 _ (by decide)).trans ((eval_other _ 21 19 _ (by decide)).trans ((eval_other _ 20 19 _ (by decide)).trans (eval_same _ _ _ (by simp only [put_size, hsz]; decide)))))))))))))))))))))))))))))) HI3.out w') ?_
          have cu3 := HM3.out.row.cell i3 (by simp only [List.length_set, HQL.out]; exact HI3.out)
          have HM4 := Lib.hid (HM3.out.set i3 (qD2 (fourAt L i0 i1 i2 i3)))
          refine met_skip po37 d37 (wanted_of gd37) (run_store32 q37 (eval_same _ _ _ (by simp only [put_none, put_size, hsz]; decide)) ((eval_other _ 44 40 _ (by decide)).trans ((eval_none _ _ 40).trans ((eval_other _ 43 40 _ (by decide)).trans ((eval_none _ _ 40).trans ((eval_other _ 42 40 _ (by decide)).trans ((eval_none _ _ 40).trans ((eval_other _ 41 40 _ (by decide)).trans (eval_same _ _ _ (by simp only [put_size, hsz]; decide))))))))) cu3 (HM3.out.row.frozen i3)) (QuadAt.set (QuadAt.set (QuadAt.set (QuadAt.set HQ6.out HNE.out _ _) HNE.out _ _) HNE.out _ _) HNE.out _ _) ?_

          show NoPanic _ .normal _ _
          refine NoPanic.normal ?_
          rw [HAA.out]
          have HEND := HM4
          rw [← stepQ_eq, ← HQS.out] at HEND
          clear HQ6 HM6 HM1 HM2 HM3 HM4
          generalize (((w6.drew.setCell _ _).setCell _ _).setCell _ _).setCell _ _ = w7 at HEND ⊢
          go_frame
          go_wp2_with fail
          go_roundw
          case rel => exact ⟨k + 1, by omega, by go_num, HEND.out⟩
          case measure => simp [intOf]; omega
        · have HK8 : Hid (k = 8) := show k = 8 by omega
          have HWI2 : Hid (MixS w (doubles m (n + 1)) wr) := show _ by rw [HDN.out, ← HK8.out]; exact HWI.out
          clear HWI
          go_wp2_with fail
          go_roundw
          case rel => exact ⟨n + 1, by omega, by go_num, HWI2.out⟩
          case measure => simp [intOf]; omega
    · have HN : Hid (n = 10) := show n = 10 by omega
      rw [HN.out] at HW
      have HLN := Lib.hid (HDL.out 10)
      generalize hLm : doubles m 10 = L at HW HLN
      have HLM := Lib.hid hLm; clear hLm
      have HI := Lib.hid (info16 L HLN.out)
      have HOLD := Lib.hid (show (wordsV (List.replicate 16 0#32)).toArray.size = (wordsV L).toArray.size by rw [wordsV_size _ 16 HLN.out]; rfl)
      have HONE := Lib.hid (wordsV_one L)
      have HROW := Lib.hid HW.out.row
      have HRES := Lib.hid HW.out.res
      have HB5 := Lib.hid HW.out.below
      clear HW
      generalize hfe : (wordsV L).toArray = full at HI HOLD HONE ⊢
      have HFE := Lib.hid hfe; clear hfe
      have HROW2 : Hid (wr.heap[w.heap.size]? = some (.cells full 88 (0, 0))) := show _ = _ by rw [← HFE.out]; exact HROW.out
      go_wp2_with (first
        | (refine wpList_load_row rfl 88 (.tmp 1) rfl w.heap.size rfl 88 full (0, 0) _ HROW2.out Tryd.underlying88 rfl HI.out ?_)
        | (refine wpList_store_row rfl 88 (.tmp 2) (.tmp 47) rfl (w.heap.size + 1) full rfl rfl 88 _ HRES.out HI.out HOLD.out HONE.out ?_))
      have hrow := setRow_heap wr (w.heap.size + 1) _ full 88 _ HRES.out
      have hbel := below_setRow HB5.out (show w.heap.size ≤ w.heap.size + 1 by omega) full
      generalize wr.setRow (w.heap.size + 1) full = wz at hrow hbel ⊢
      have hres : ∀ tmps : Array Value, tmps.getD 2 undef = .pointer (some ⟨w.heap.size + 1, 0, none⟩) → Sem.run Tryd.prog (results Tryd.f56 tmps) wz = .ok (.agg full) wz := fun tmps h =>
        results_cell_row (P := Tryd.prog) (p := 2) (ty := 88) Tryd.results56 tmps wz (w.heap.size + 1) 88 full (0, 0) (TypeDesc.array 16 49) h hrow Tryd.underlying88 rfl HI.out
      exact bodyPost_ret (v := .agg full) (hres _ rfl) rfl ⟨by rw [HLM.out, HFE.out], hbel⟩
end Go.Proofs.YtagkkihnfipfeaaDoor

/-
  What the rows of layer 3 share: the table out of the row's condition; a key and a nonce that came in.
-/
namespace Go.Proofs.YtagkkihnfipfeaaDoor
open Go.ChangeShapes Go.WideShapes Go.ChangeAt Go.RowKit Go.Proofs.ShaWords Go.Deep

abbrev laid3 : List (String × DataW Unit) := Rows.aeadKnownRow.laid
def quadZ (i : Nat) : List Int := [(qi i 0 : Nat), (qi i 1 : Nat), (qi i 2 : Nat), (qi i 3 : Nat)]
theorem quarters_data {H : Type} : (Rows.laid_sealery_chacha_quarters : DataW H) = .agg ((List.range 8).map fun i => Lib.tabData .i64 (quadZ i)) := by kernel_rfl
/-- The door's own heap meets the condition: closed facts. -/
theorem door_met3 (os : Os) (args : Array Value) : laidMetH Tryd.prog laid3 ((World.doorLaid Tryd.prog 400 os).forCall (fun _ _ => 0) ⟨#[], args, []⟩).memory :=
  laidMetH_of_parts3 (fuel := 8) (laidMet_of_run' 8 (by kernel_rfl) (by kernel_rfl)) (by kernel_rfl) (by kernel_rfl)
theorem quads_list : (List.range 8).flatMap (fun i => (quadZ i).map fun z => Value.int .i64 z) = intsV quartersL := by kernel_rfl
theorem flat4 {α : Type} (f : Nat → List α) (cs : List α) (hl : cs.length = 32) (h : ∀ i, i < 8 → (cs.drop (i * 4)).take 4 = f i) : cs = (List.range 8).flatMap f := by
  have e : ∀ n, n ≤ 8 → cs.take (n * 4) = (List.range n).flatMap f := by
    intro n
    induction n with
    | zero => intro _; simp
    | succ n ih =>
      intro hn
      rw [List.range_succ, List.flatMap_append, ← ih (by omega), List.flatMap_singleton, ← h n (by omega), Nat.add_mul, Nat.one_mul, List.take_add]
  have := e 8 (by omega)
  rwa [List.take_of_length_le (by omega)] at this
set_option maxRecDepth 100000 in
theorem of_laid3 {W : World} (h : laidMetH Tryd.prog laid3 W) : Quads W := by
  rw [MakeChecks.laidMetH_plain _ _ _ (by kernel_rfl)] at h
  obtain ⟨ps, ⟨g0, t0, cs0, f0, p0, q0, hg0, ht0, hv0, hd0, _⟩, _, _⟩ := h
  obtain rfl := Option.some.inj (hg0.symm.trans (show _ = some 0 by kernel_rfl))
  obtain rfl := Option.some.inj (ht0.symm.trans (show _ = some 98 by kernel_rfl))
  rw [quarters_data] at hd0
  obtain ⟨xs, m, rfl, hx, hl, hxl, hf⟩ := DataW.trod_array Tryd.underlying98 hd0
  have hc4 : Tryd.prog.cellsOf 97 = 4 := by kernel_rfl
  have hc32 : Tryd.prog.cellsOf 98 = 32 := by kernel_rfl
  rw [hc32] at hl
  have hmap : xs.map (·.1) = (List.range 8).map fun i => Lib.tabData .i64 (quadZ i) := by
    have := congrArg Prod.fst hx
    injection this with this
    exact this.symm
  have each : ∀ i, i < 8 → (cs0.toList.drop (i * 4)).take 4 = (quadZ i).map fun z => Value.int .i64 z := fun i hi => by
    have h1 := hf i hi
    rw [hc4] at h1
    obtain ⟨x, hxe⟩ : ∃ x, xs[i]? = some x := ⟨xs[i]'(by omega), List.getElem?_eq_getElem (by omega)⟩
    rw [hxe] at h1
    have hx1 : x.1 = Lib.tabData .i64 (quadZ i) := by
      have := congrArg (·[i]?) hmap
      simp only [List.getElem?_map, hxe, Option.map_some, List.getElem?_range hi] at this
      exact Option.some.inj this
    exact Lib.cells_of_tab (p := x.2) Tryd.underlying97 Tryd.underlying3 (by kernel_rfl) (by kernel_rfl) (by rw [h1, ← hx1])
  have hall : cs0.toList = intsV quartersL := (flat4 _ cs0.toList hl each).trans quads_list
  intro j v hv
  have := World.var?_cell hg0 hv0 j
  rw [Nat.zero_add, this, ← Array.getElem?_toList, hall]; exact hv
/-- A key that came in. -/
theorem open_key {H : Type} {enc : TypeId × Value → H} {W : World} {fuel : Nat} {cs : List Value} {x : DataW H × List MemPlace}
    (h : DataW.trod enc Tryd.prog W 0 (fun _ => true) true fuel 23 cs = some x) : ∃ bs : List (BitVec 8), bs.length = 32 ∧ cs = bytesV bs := by
  obtain ⟨xs, m, rfl, rfl, hl, hxl, hf⟩ := DataW.trod_array Tryd.underlying23 h
  have hc5 : Tryd.prog.cellsOf 5 = 1 := by kernel_rfl
  have hcs : Tryd.prog.cellsOf 23 = 32 := by kernel_rfl
  rw [hcs] at hl
  have each : ∀ i, i < 32 → ∃ z : Int, cs[i]? = some (.int .u8 z) ∧ (Lit.int .u8 z).wf = true := fun i hi => by
    have h1 := hf i hi
    obtain ⟨b, hb⟩ : ∃ b, xs[i]? = some b := ⟨xs[i]'(by omega), List.getElem?_eq_getElem (by omega)⟩
    rw [hc5, Nat.mul_one, hb] at h1
    obtain ⟨z, hz, _, hw⟩ := DataW.trod_int Tryd.underlying5 h1
    refine ⟨z, ?_, hw⟩
    have := congrArg (·[0]?) hz
    simpa [List.getElem?_take, List.getElem?_drop] using this
  obtain ⟨Z, hZ⟩ := choose_lt (α := Int) each
  refine ⟨(List.range 32).map fun i => BitVec.ofInt 8 (Z i), by simp, ?_⟩
  apply List.ext_getElem?
  intro i
  by_cases hi : i < 32
  · rw [(hZ i hi).1]
    simp [bytesV, hi, n8_ofInt _ (hZ i hi).2]
  · rw [List.getElem?_eq_none (by omega), List.getElem?_eq_none (by simp [bytesV]; omega)]
theorem okWide_key {W : World} {base : Nat} {v : Value} (h : Value.okWide Tryd.prog W .any base 23 v) : ∃ cs : Array Value, v = .agg cs := by
  simp only [Value.okWide, Tryd.underlying23] at h
  obtain ⟨cs, h, _⟩ := h
  exact ⟨cs, h⟩
/-- A nonce that came in. -/
theorem open_nonce {H : Type} {enc : TypeId × Value → H} {W : World} {fuel : Nat} {cs : List Value} {x : DataW H × List MemPlace}
    (h : DataW.trod enc Tryd.prog W 0 (fun _ => true) true fuel 25 cs = some x) : ∃ bs : List (BitVec 8), bs.length = 12 ∧ cs = bytesV bs := by
  obtain ⟨xs, m, rfl, rfl, hl, hxl, hf⟩ := DataW.trod_array Tryd.underlying25 h
  have hc5 : Tryd.prog.cellsOf 5 = 1 := by kernel_rfl
  have hcs : Tryd.prog.cellsOf 25 = 12 := by kernel_rfl
  rw [hcs] at hl
  have each : ∀ i, i < 12 → ∃ z : Int, cs[i]? = some (.int .u8 z) ∧ (Lit.int .u8 z).wf = true := fun i hi => by
    have h1 := hf i hi
    obtain ⟨b, hb⟩ : ∃ b, xs[i]? = some b := ⟨xs[i]'(by omega), List.getElem?_eq_getElem (by omega)⟩
    rw [hc5, Nat.mul_one, hb] at h1
    obtain ⟨z, hz, _, hw⟩ := DataW.trod_int Tryd.underlying5 h1
    refine ⟨z, ?_, hw⟩
    have := congrArg (·[0]?) hz
    simpa [List.getElem?_take, List.getElem?_drop] using this
  obtain ⟨Z, hZ⟩ := choose_lt (α := Int) each
  refine ⟨(List.range 12).map fun i => BitVec.ofInt 8 (Z i), by simp, ?_⟩
  apply List.ext_getElem?
  intro i
  by_cases hi : i < 12
  · rw [(hZ i hi).1]
    simp [bytesV, hi, n8_ofInt _ (hZ i hi).2]
  · rw [List.getElem?_eq_none (by omega), List.getElem?_eq_none (by simp [bytesV]; omega)]
theorem okWide_nonce {W : World} {base : Nat} {v : Value} (h : Value.okWide Tryd.prog W .any base 25 v) : ∃ cs : Array Value, v = .agg cs := by
  simp only [Value.okWide, Tryd.underlying25] at h
  obtain ⟨cs, h, _⟩ := h
  exact ⟨cs, h⟩
end Go.Proofs.YtagkkihnfipfeaaDoor

/-
  The contract of chacha.Block: where the package's table holds its numbers, it returns the block of a key, a counter and a nonce; nothing that was there changes.
-/
namespace Go.Proofs.YtagkkihnfipfeaaDoor
open Go.RowKit Go.Proofs.ShaWords
attribute [local go_sem] and32 or32 xor32 add32 shl32 shr32 wrap32_n8 wrap8_n32 shl32_8 shl32_16 shl32_24 shr32_8 shr32_16 shr32_24

/-- A word's four bytes, the lowest first. -/
def leBytes (x : BitVec 32) : List (BitVec 8) := [lo8 x, lo8 (x >>> 8), lo8 (x >>> 16), lo8 (x >>> 24)]
def flatTo (X : List (BitVec 32)) (k : Nat) : List (BitVec 8) := (X.take k).flatMap leBytes
theorem flat_length (l : List (BitVec 32)) : (l.flatMap leBytes).length = 4 * l.length := by
  induction l with
  | nil => rfl
  | cons a r ih => rw [List.flatMap_cons, List.length_append, ih]; simp [leBytes]; omega
theorem flatTo_length (X : List (BitVec 32)) (k : Nat) (hk : k ≤ X.length) : (flatTo X k).length = 4 * k := by
  rw [flatTo, flat_length, List.length_take]; omega
theorem flatTo_zero (X : List (BitVec 32)) : flatTo X 0 ++ noughts (64 - 4 * 0) = noughts 64 := rfl
theorem flatTo_succ (X : List (BitVec 32)) (k : Nat) (hk : k < X.length) : flatTo X (k + 1) = flatTo X k ++ leBytes (X.getD k 0#32) := by
  rw [flatTo, List.take_succ_eq_append_getElem hk, List.flatMap_append, flatTo]
  simp [List.getD, hk]
theorem flatTo_set (X : List (BitVec 32)) (k n : Nat) (hk : k < X.length) (hn : 4 * X.length = n) : ((((flatTo X k ++ noughts (n - 4 * k)).set (4 * k) (lo8 (X.getD k 0#32))).set (4 * k + 1) (lo8 (X.getD k 0#32 >>> 8))).set (4 * k + 2) (lo8 (X.getD k 0#32 >>> 16))).set (4 * k + 3) (lo8 (X.getD k 0#32 >>> 24))
    = flatTo X (k + 1) ++ noughts (n - 4 * (k + 1)) := by
  have hl := flatTo_length X k (by omega)
  obtain ⟨m, hm⟩ : ∃ m, n - 4 * k = m + 4 := ⟨n - 4 * k - 4, by omega⟩
  rw [flatTo_succ X k hk, hm, show n - 4 * (k + 1) = m by omega]
  generalize X.getD k 0#32 = x
  generalize flatTo X k = D at hl
  unfold noughts
  rw [List.set_append_right _ _ (by omega), List.set_append_right _ _ (by omega), List.set_append_right _ _ (by omega), List.set_append_right _ _ (by omega), hl]
  rw [show 4 * k - 4 * k = 0 by omega, show 4 * k + 1 - 4 * k = 1 by omega, show 4 * k + 2 - 4 * k = 2 by omega, show 4 * k + 3 - 4 * k = 3 by omega]
  simp [List.replicate_succ, leBytes]
/-- The words of a block. -/
def blockWords (key : List (BitVec 8)) (c : BitVec 32) (nonce : List (BitVec 8)) : List (BitVec 32) := (List.range 16).map fun i => (doubles (squareOf key c nonce) 10).getD i 0#32 + (squareOf key c nonce).getD i 0#32
/-- The block. -/
def ccBlock (key : List (BitVec 8)) (c : BitVec 32) (nonce : List (BitVec 8)) : List (BitVec 8) := flatTo (blockWords key c nonce) 16
theorem blockWords_length (key : List (BitVec 8)) (c : BitVec 32) (nonce : List (BitVec 8)) : (blockWords key c nonce).length = 16 := by simp [blockWords]
theorem blockWords_get (key : List (BitVec 8)) (c : BitVec 32) (nonce : List (BitVec 8)) (k : Nat) (hk : k < 16) : (blockWords key c nonce).getD k 0#32 = (doubles (squareOf key c nonce) 10).getD k 0#32 + (squareOf key c nonce).getD k 0#32 := by
  simp [blockWords, List.getD, hk]
theorem ccBlock_length (key : List (BitVec 8)) (c : BitVec 32) (nonce : List (BitVec 8)) : (ccBlock key c nonce).length = 64 := flatTo_length _ 16 (by rw [blockWords_length]; omega)
theorem list16 (l : List (BitVec 32)) (hl : l.length = 16) : ∃ x0 x1 x2 x3 x4 x5 x6 x7 x8 x9 x10 x11 x12 x13 x14 x15, l = [x0, x1, x2, x3, x4, x5, x6, x7, x8, x9, x10, x11, x12, x13, x14, x15] := by
  match l, hl with
  | [x0, x1, x2, x3, x4, x5, x6, x7, x8, x9, x10, x11, x12, x13, x14, x15], _ => exact ⟨_, _, _, _, _, _, _, _, _, _, _, _, _, _, _, _, rfl⟩
theorem index66c (x0 x1 x2 x3 x4 x5 x6 x7 x8 x9 x10 x11 x12 x13 x14 x15 : BitVec 32) (k : Nat) (hk : k < 16) (w : World) : (Instr.index 88 (.agg (wordsV [x0, x1, x2, x3, x4, x5, x6, x7, x8, x9, x10, x11, x12, x13, x14, x15]).toArray) (.int .i64 (k : Int))).run Tryd.prog w = .ok (.int .u32 (n32 ([x0, x1, x2, x3, x4, x5, x6, x7, x8, x9, x10, x11, x12, x13, x14, x15].getD k 0#32))) w := by
  rcases k with _ | _ | _ | _ | _ | _ | _ | _ | _ | _ | _ | _ | _ | _ | _ | _ | k
  · kernel_rfl
  · kernel_rfl
  · kernel_rfl
  · kernel_rfl
  · kernel_rfl
  · kernel_rfl
  · kernel_rfl
  · kernel_rfl
  · kernel_rfl
  · kernel_rfl
  · kernel_rfl
  · kernel_rfl
  · kernel_rfl
  · kernel_rfl
  · kernel_rfl
  · kernel_rfl
  · omega
theorem index66 (l : List (BitVec 32)) (hl : l.length = 16) (k : Nat) (hk : k < 16) (w : World) : (Instr.index 88 (.agg (wordsV l).toArray) (.int .i64 (k : Int))).run Tryd.prog w = .ok (.int .u32 (n32 (l.getD k 0#32))) w := by
  obtain ⟨x0, x1, x2, x3, x4, x5, x6, x7, x8, x9, x10, x11, x12, x13, x14, x15, rfl⟩ := list16 l hl
  exact index66c x0 x1 x2 x3 x4 x5 x6 x7 x8 x9 x10 x11 x12 x13 x14 x15 k hk w
theorem infoKey (l : List (BitVec 8)) (h : l.length = 32) : (Tryd.prog.info? 23).map (·.size) = some (bytesV l).toArray.size :=
  (show (Tryd.prog.info? 23).map (·.size) = some 32 by kernel_rfl).trans (congrArg some (bytesV_size _ 32 h).symm)
theorem infoNonce (l : List (BitVec 8)) (h : l.length = 12) : (Tryd.prog.info? 25).map (·.size) = some (bytesV l).toArray.size :=
  (show (Tryd.prog.info? 25).map (·.size) = some 12 by kernel_rfl).trans (congrArg some (bytesV_size _ 12 h).symm)
theorem infoBlk (l : List (BitVec 8)) (h : l.length = 64) : (Tryd.prog.info? 66).map (·.size) = some (bytesV l).toArray.size :=
  (show (Tryd.prog.info? 66).map (·.size) = some 64 by kernel_rfl).trans (congrArg some (bytesV_size _ 64 h).symm)
/-- The key, the nonce and a block of noughts, laid first. -/
structure KnW (w : World) (key nonce : List (BitVec 8)) (wr : World) : Prop where
  key : BytesAt wr w.heap.size 23 key
  nonce : BytesAt wr (w.heap.size + 1) 25 nonce
  res : BytesAt wr (w.heap.size + 1 + 1) 66 (noughts 64)
  below : Below w.heap.size w wr
theorem KnW.on {w wr w' : World} {key nonce : List (BitVec 8)} (h : KnW w key nonce wr) (hb : Below wr.heap.size wr w') : KnW w key nonce w' := ⟨h.key.keep hb, h.nonce.keep hb, h.res.keep hb, h.below.trans (hb.mono h.below.size)⟩
theorem knw_start (w : World) (key nonce : List (BitVec 8)) (A : Array Value) (hA : A = (bytesV (noughts 64)).toArray) :
    KnW w key nonce (((w.alloc (.cells (bytesV key).toArray 23)).alloc (.cells (bytesV nonce).toArray 25)).alloc (.cells A 66)) := by
  subst hA
  exact ⟨alloc3_1 _ _ _ _, alloc3_2 _ _ _ _, alloc3_3 _ _ _ _, alloc3_below _ _ _ _⟩
structure BlkW (w : World) (G1 G3 : Nat) (sq : List (BitVec 32)) (l : List (BitVec 8)) (wr : World) : Prop where
  row : WordsAt wr G1 88 sq
  blk : BytesAt wr G3 66 l
  res : BytesAt wr (w.heap.size + 1 + 1) 66 (noughts 64)
  below : Below w.heap.size w wr
theorem BlkW.put {w wr : World} {G1 G3 : Nat} {sq : List (BitVec 32)} {l : List (BitVec 8)} (h : BlkW w G1 G3 sq l wr) (h1 : G1 ≠ G3) (h2 : w.heap.size + 1 + 1 < G3) (k : Nat) (x : BitVec 8) : BlkW w G1 G3 sq (l.set k x) (wr.setCell ⟨G3, k, none⟩ (.int .u8 (n8 x))) :=
  ⟨h.row.setOther h1 _ _, h.blk.put k x, h.res.putOther (by omega) _ _, h.below.setCell (by show w.heap.size ≤ G3; omega) _⟩

attribute [local irreducible] flatTo squareOf doubles blockWords
set_option maxRecDepth 100000 in
set_option maxHeartbeats 2000000 in
theorem ccBlock_any (key nonce : List (BitVec 8)) (c : BitVec 32) (w : World) (hk : key.length = 32) (hn : nonce.length = 12) (hq : Quads w) :
    Calls Tryd.prog 39 #[.agg (bytesV key).toArray, .int .u32 (n32 c), .agg (bytesV nonce).toArray] w
      fun e w' => e = .returned (.agg (bytesV (ccBlock key c nonce)).toArray) ∧ Below w.heap.size w w' := by
  have hqs := hq.size
  have HQ := Lib.hid hq; clear hq
  have HKL := Lib.hid hk; clear hk
  have HNL := Lib.hid hn; clear hn
  have HIK := Lib.hid (infoKey key HKL.out)
  have HIN := Lib.hid (infoNonce nonce HNL.out)
  go_enter Tryd.func39, Tryd.ntmps39
  go_upto_region 1 with (fail)
  refine wp_gen (KnW w key nonce) (knw_start w key nonce _ (by rfl)) ?_
  intro w0 hw0
  have HW0 := Lib.hid hw0; clear hw0
  go_wp2_with (first
    | (refine wpList_load_row rfl 23 (.tmp 3) rfl w.heap.size rfl 23 (bytesV key).toArray (0, 0) _ HW0.out.key Tryd.underlying23 rfl HIK.out ?_)
    | (refine wpList_load_row rfl 25 (.tmp 5) rfl (w.heap.size + 1) rfl 25 (bytesV nonce).toArray (0, 0) _ HW0.out.nonce Tryd.underlying25 rfl HIN.out ?_))
  refine (matrix_any key nonce c w0 HKL.out HNL.out).mono ?_
  rintro e w1 ⟨rfl, hb1⟩
  have HW1 := Lib.hid (HW0.out.on hb1); clear hb1 HW0
  have HSL := Lib.hid (squareOf_length key c nonce)
  have HBW := Lib.hid (blockWords_length key c nonce)
  have HBG := Lib.hid (blockWords_get key c nonce)
  have HCB : Hid (ccBlock key c nonce = flatTo (blockWords key c nonce) 16) := show _ = _ from rfl
  generalize squareOf key c nonce = sq at HSL HBG ⊢
  have HI66 := Lib.hid (info16 sq HSL.out)
  have HDL := Lib.hid ((doubles_length sq 10).trans HSL.out)
  have HI67 := Lib.hid (info16 (doubles sq 10) HDL.out)
  have HO66 := Lib.hid (show (wordsV (List.replicate 16 0#32)).toArray.size = (wordsV sq).toArray.size by rw [wordsV_size _ 16 HSL.out]; rfl)
  have HO67 := Lib.hid (show (wordsV (List.replicate 16 0#32)).toArray.size = (wordsV (doubles sq 10)).toArray.size by rw [wordsV_size _ 16 HDL.out]; rfl)
  have H66 := Lib.hid (wordsV_one sq)
  have H67 := Lib.hid (wordsV_one (doubles sq 10))
  go_wp2_with (first
    | (refine wpList_store_new rfl 88 (.tmp 7) (.tmp 15) rfl w1.heap.size rfl (wordsV sq).toArray rfl rfl HI66.out (by rw [← zero16]; exact HO66.out) H66.out ?_; intro w2 h2 b2; have HR2 := Lib.hid (show WordsAt w2 w1.heap.size 88 sq from h2); have HW2 := Lib.hid (HW1.out.on b2); clear h2 b2)
    | (refine wpList_load_row rfl 88 (.tmp 7) rfl w1.heap.size rfl 88 (wordsV sq).toArray (0, 0) _ HR2.out Tryd.underlying88 rfl HI66.out ?_))
  have hlt1 : w.heap.size + 1 + 1 < w1.heap.size := HW1.out.res.size
  clear HW1
  generalize w1.heap.size = G1 at HR2 hlt1 ⊢
  refine (mix16_any sq w2 HSL.out (HQ.out.below HW2.out.below hqs)).mono ?_
  rintro e w3 ⟨rfl, hb3⟩
  have HR3 := Lib.hid (HR2.out.keep hb3)
  have HW3 := Lib.hid (HW2.out.on hb3); clear hb3 HR2 HW2
  have HIX := Lib.hid (index66 (doubles sq 10) HDL.out)
  generalize doubles sq 10 = mx at HBG HI67 HO67 H67 HIX HDL ⊢
  go_wp2_with (first
    | (refine wpList_store_new rfl 88 (.tmp 8) (.tmp 17) rfl w3.heap.size rfl (wordsV mx).toArray rfl rfl HI67.out (by rw [← zero16]; exact HO67.out) H67.out ?_; intro w4 h4 b4; have HX4 := Lib.hid (show WordsAt w4 w3.heap.size 88 mx from h4); have HR4 := Lib.hid (HR3.out.keep b4); have HW4 := Lib.hid (HW3.out.on b4); clear h4 b4)
    | (refine wpList_load_row rfl 88 (.tmp 8) rfl w3.heap.size rfl 88 (wordsV mx).toArray (0, 0) _ (HX4.out.keep ((Below.refl _ _).alloc (Nat.le_refl _) _)) Tryd.underlying88 rfl HI67.out ?_))
  have HGB : Hid (BlkW w G1 w4.heap.size sq (flatTo (blockWords key c nonce) 0 ++ noughts (64 - 4 * 0)) (w4.alloc (.cells (bytesV (noughts 64)).toArray 66))) :=
    ⟨HR4.out.keep ((Below.refl _ _).alloc (Nat.le_refl _) _), by rw [flatTo_zero]; exact heap_new_at rfl, (HW4.out.on ((Below.refl _ _).alloc (Nat.le_refl _) _)).res, (HW4.out.on ((Below.refl _ _).alloc (Nat.le_refl _) _)).below⟩
  have hlt4 : w.heap.size + 1 + 1 < w4.heap.size := HW4.out.res.size
  have hg13 : G1 < w4.heap.size := HR4.out.size
  have HFS := Lib.hid (fun k (hk : k < 16) => flatTo_set (blockWords key c nonce) k 64 (by rw [HBW.out]; exact hk) (by rw [HBW.out]))
  have HFL := Lib.hid (fun k (hk : k ≤ 16) => flatTo_length (blockWords key c nonce) k (by rw [HBW.out]; exact hk))
  clear HX4 HW4 HR4 HR3 HW3 HI66 HO66 H66 HI67 HO67 H67
  refine wp_gen (BlkW w G1 w4.heap.size sq (flatTo (blockWords key c nonce) 0 ++ noughts (64 - 4 * 0))) (by exact HGB.out) ?_
  clear HGB
  intro w5 hw5
  have HW5 := Lib.hid hw5; clear hw5
  generalize w4.heap.size = G3 at HW5 hlt4 hg13 ⊢
  have HG3 := Lib.hid hlt4; clear hlt4
  have HG13 : Hid (G1 ≠ G3) := show G1 ≠ G3 by omega
  clear hg13 hlt1
  generalize hX : blockWords key c nonce = X at HBW HBG HCB HFS HFL HW5
  clear hX
  go_loopw [10, 11, 19] (fun _ _ i wr => ∃ k : Nat, k ≤ 16 ∧ i = .int .i64 (k : Int) ∧ BlkW w G1 G3 sq (flatTo X k ++ noughts (64 - 4 * k)) wr) (fun _ _ i _ => 16 - (intOf i).toNat)
  case atStart => exact ⟨0, by omega, rfl, HW5.out⟩
  case round =>
    clear HW5
    obtain ⟨k, hk, rfl, hw⟩ := hrel
    by_cases hlt : k < 16
    · have hlen : (flatTo X k ++ noughts (64 - 4 * k)).length = 64 := by rw [List.length_append, HFL.out k hk, noughts_length]; omega
      have HF := Lib.hid (HFS.out k hlt)
      have HG := Lib.hid (HBG.out k hlt)
      have hix := HIX.out k hlt
      have cs := hw.row.cell k (by rw [HSL.out]; exact hlt)
      have e0 := hw.blk.cell (4 * k) (by omega)
      have e1 := hw.blk.cell (4 * k + 1) (by omega)
      have e2 := hw.blk.cell (4 * k + 2) (by omega)
      have e3 := hw.blk.cell (4 * k + 3) (by omega)
      have f0 := hw.blk.frozenAt (4 * k)
      have f1 := hw.blk.frozenAt (4 * k + 1)
      have f2 := hw.blk.frozenAt (4 * k + 2)
      have f3 := hw.blk.frozenAt (4 * k + 3)
      generalize mx.getD k 0#32 = x at hix HG
      generalize sq.getD k 0#32 = y at cs HG
      rw [HG.out] at HF
      have HW := Lib.hid hw; clear hw hlen
      go_wp2_with fail
      go_roundw
      case rel =>
        refine ⟨k + 1, by omega, by go_num, ?_⟩
        rw [← HF.out]
        exact (((HW.out.put HG13.out HG3.out _ _).put HG13.out HG3.out _ _).put HG13.out HG3.out _ _).put HG13.out HG3.out _ _
      case measure => simp [intOf]; omega
    · have HK : Hid (k = 16) := show k = 16 by omega
      have hfull : BytesAt wr G3 66 (ccBlock key c nonce) := by
        have h1 := hw.blk
        rw [HK.out] at h1
        rw [HCB.out]
        simpa [noughts] using h1
      have HLEN := Lib.hid (ccBlock_length key c nonce)
      have HI := Lib.hid (infoBlk _ HLEN.out)
      have HOLD := Lib.hid (show (bytesV (noughts 64)).toArray.size = (bytesV (ccBlock key c nonce)).toArray.size by rw [bytesV_size _ 64 HLEN.out, bytesV_size _ 64 (noughts_length 64)])
      have HONE := Lib.hid (bytesV_one (ccBlock key c nonce))
      have HZ := Lib.hid hw.res
      have HB := Lib.hid hw.below
      have HFULL : Hid (wr.heap[G3]? = some (.cells (bytesV (ccBlock key c nonce)).toArray 66 (0, 0))) := hfull
      clear hw hfull
      generalize hfe : (bytesV (ccBlock key c nonce)).toArray = full at HFULL HI HOLD HONE
      have HFE := Lib.hid hfe; clear hfe
      go_wp2_with (first
        | (refine wpList_load_row rfl 66 (.tmp 9) rfl G3 rfl 66 full (0, 0) _ HFULL.out Tryd.underlying66 rfl HI.out ?_)
        | (refine wpList_store_row rfl 66 (.tmp 6) (.tmp 55) rfl (w.heap.size + 1 + 1) full rfl rfl 66 _ HZ.out HI.out HOLD.out HONE.out ?_))
      have hrow := setRow_heap wr (w.heap.size + 1 + 1) _ full 66 _ HZ.out
      have hbel := below_setRow HB.out (show w.heap.size ≤ w.heap.size + 1 + 1 by omega) full
      generalize wr.setRow (w.heap.size + 1 + 1) full = wz at hrow hbel ⊢
      have hres : ∀ tmps : Array Value, tmps.getD 6 undef = .pointer (some ⟨w.heap.size + 1 + 1, 0, none⟩) → Sem.run Tryd.prog (results Tryd.f39 tmps) wz = .ok (.agg full) wz := fun tmps h =>
        results_cell_row (P := Tryd.prog) (p := 6) (ty := 66) Tryd.results39 tmps wz (w.heap.size + 1 + 1) 66 full (0, 0) (TypeDesc.array 64 5) h hrow Tryd.underlying66 rfl HI.out
      exact bodyPost_ret (v := .agg full) (hres _ rfl) rfl ⟨by rw [HFE.out], hbel⟩
end Go.Proofs.YtagkkihnfipfeaaDoor

/-
  The contract of the closure that chacha.keystream makes: to every caller it gives the first n bytes of the keystream, each with its index.
-/
namespace Go.Proofs.YtagkkihnfipfeaaDoor
open Go.RowKit Go.Proofs.ShaWords
attribute [local go_sem] and32 or32 xor32 add32 shl32 shr32 wrap32_n8 wrap8_n32 Oper.semAt_some

/-- The keystream's j-th block; its k-th byte. -/
def blkAt (key : List (BitVec 8)) (c : BitVec 32) (nonce : List (BitVec 8)) (j : Nat) : List (BitVec 8) := ccBlock key (c + BitVec.ofNat 32 j) nonce
def ksAt (key : List (BitVec 8)) (c : BitVec 32) (nonce : List (BitVec 8)) (k : Nat) : BitVec 8 := (blkAt key c nonce (k / 64)).getD (k % 64) 0#8
theorem blkAt_length (key : List (BitVec 8)) (c : BitVec 32) (nonce : List (BitVec 8)) (j : Nat) : (blkAt key c nonce j).length = 64 := ccBlock_length _ _ _
def ksEncs (key : List (BitVec 8)) (c : BitVec 32) (nonce : List (BitVec 8)) (k : Nat) : Array Value := #[.int .i64 (k : Int), .int .u8 (n8 (ksAt key c nonce k))]
theorem wrap32_nat (m : Nat) : IntKind.u32.wrap (m : Int) = n32 (BitVec.ofNat 32 m) := by
  unfold n32; rw [IntKind.wrap_u32', BitVec.toNat_ofNat]; omega
/-- The boxes that the closure has captured. -/
structure KsBoxes (key : List (BitVec 8)) (c : BitVec 32) (nonce : List (BitVec 8)) (n bn bk bc bo : Nat) (w : World) : Prop where
  n : w.heap[bn]? = some (.cells #[.int .i64 (n : Int)] 3 (0, 0))
  key : BytesAt w bk 23 key
  c : w.heap[bc]? = some (.cells #[.int .u32 (n32 c)] 49 (0, 0))
  nonce : BytesAt w bo 25 nonce
  quads : Quads w
theorem one_cell {w : World} {b : Nat} {v : Value} {t : TypeId} (h : w.heap[b]? = some (.cells #[v] t (0, 0))) : w.cell? ⟨b, 0, none⟩ = some v := by rw [cell_of_row w b 0 _ _ _ h]; rfl
theorem KsBoxes.spared {key nonce : List (BitVec 8)} {c : BitVec 32} {n bn bk bc bo : Nat} {w w' : World} {T : Nat → Prop} (h : KsBoxes key c nonce n bn bk bc bo w) (hs : Spares T w w') (h1 : ¬ T bn) (h2 : ¬ T bk) (h3 : ¬ T bc) (h4 : ¬ T bo) (h5 : ¬ T 0) : KsBoxes key c nonce n bn bk bc bo w' :=
  ⟨(hs.block _ (Array.getElem?_eq_some_iff.1 h.n).1 h1).trans h.n, (hs.block _ h.key.size h2).trans h.key, (hs.block _ (Array.getElem?_eq_some_iff.1 h.c).1 h3).trans h.c, (hs.block _ h.nonce.size h4).trans h.nonce,
   fun j v hv => (World.cell?_of_block (a := ⟨0, 0 + j, none⟩) (hs.block _ h.quads.size h5)).trans (h.quads j v hv)⟩
theorem KsBoxes.below {key nonce : List (BitVec 8)} {c : BitVec 32} {n bn bk bc bo : Nat} {w w' : World} (h : KsBoxes key c nonce n bn bk bc bo w) (hb : Below w.heap.size w w') : KsBoxes key c nonce n bn bk bc bo w' :=
  h.spared (T := fun _ => False) (Spares.all hb) id id id id id

/-- Between two rounds. -/
structure KsW (T : Nat → Prop) (J : Nat → World → Prop) (key : List (BitVec 8)) (c : BitVec 32) (nonce : List (BitVec 8)) (W : World) (k : Nat) (wr : World) : Prop where
  inv : J k wr
  spares : Spares T W wr
  blk : ∃ b, BytesAt wr W.heap.size 66 b ∧ b.length = 64 ∧ (k % 64 ≠ 0 → b = blkAt key c nonce (k / 64))
def KsMid (T : Nat → Prop) (J : Nat → World → Prop) (b : List (BitVec 8)) (W : World) (k : Nat) (wr : World) : Prop := J k wr ∧ Spares T W wr ∧ BytesAt wr W.heap.size 66 b

theorem Spares.then_below {T : Nat → Prop} {W a b : World} (h : Spares T W a) (hb : Below W.heap.size a b) : Spares T W b :=
  ⟨hb.os.trans h.os, hb.tape.trans h.tape, hb.output.trans h.output, Nat.le_trans h.size hb.size, fun i hi hn => (hb.block i hi).trans (h.block i hi hn)⟩
attribute [local irreducible] ccBlock
set_option maxRecDepth 100000 in
set_option maxHeartbeats 4000000 in
theorem stream_gives (key nonce : List (BitVec 8)) (c : BitVec 32) (n bn bk bc bo m : Nat) (T : Nat → Prop) (w : World) (hkl : key.length = 32) (hnl : nonce.length = 12) (hn : n ≤ 1099511627776) (hT : ∀ b, T b → b < w.heap.size)
    (hB : KsBoxes key c nonce n bn bk bc bo w) (t1 : ¬ T bn) (t2 : ¬ T bk) (t3 : ¬ T bc) (t4 : ¬ T bo) (t5 : ¬ T 0) :
    Gives Tryd.prog 38 #[.pointer (some ⟨bn, 0, none⟩), .pointer (some ⟨bk, 0, none⟩), .pointer (some ⟨bc, 0, none⟩), .pointer (some ⟨bo, 0, none⟩)] (ksEncs key c nonce) n T m w := by
  intro l J W hb hl1 hl2 hJ hY h0
  have s1 := (Array.getElem?_eq_some_iff.1 hB.n).1
  have s2 := hB.key.size
  have s3 := (Array.getElem?_eq_some_iff.1 hB.c).1
  have s4 := hB.nonce.size
  have s5 := hB.quads.size
  have HBX : Hid (∀ wr, Spares (fun b => T b ∨ b = l) W wr → KsBoxes key c nonce n bn bk bc bo wr) := fun wr hs => (hB.below hb).spared hs (fun h => h.elim t1 (by omega)) (fun h => h.elim t2 (by omega)) (fun h => h.elim t3 (by omega)) (fun h => h.elim t4 (by omega)) (fun h => h.elim t5 (by omega))
  have HTW : Hid (∀ b, (fun b => T b ∨ b = l) b → b < W.heap.size) := fun b (h : T b ∨ b = l) => h.elim (fun h => Nat.lt_of_lt_of_le (hT b h) hb.size) (fun h => by rw [h]; exact hl2)
  have HY := Lib.hid hY; clear hY
  have HJ := Lib.hid hJ; clear hJ
  have HJ0 := Lib.hid h0; clear h0
  have HKL := Lib.hid hkl; clear hkl
  have HNL := Lib.hid hnl; clear hnl
  have HIK := Lib.hid (infoKey key HKL.out)
  have HIN := Lib.hid (infoNonce nonce HNL.out)
  have hN := one_cell (hB.below hb).n
  clear hB t1 t2 t3 t4 t5 s1 s2 s3 s4 s5 hT hb
  show Calls Tryd.prog 38 #[.func (.yield l) #[] #[], .pointer (some ⟨bn, 0, none⟩), .pointer (some ⟨bk, 0, none⟩), .pointer (some ⟨bc, 0, none⟩), .pointer (some ⟨bo, 0, none⟩)] W _
  generalize (fun b => T b ∨ b = l) = U at HBX HTW HY ⊢
  have hnb : bn < W.heap.size := (World.block_lt_of_cell? W _ hN)
  go_enter Tryd.func38, Tryd.ntmps38
  go_wp2_with fail
  have HK0 : Hid (KsW U J key c nonce W 0 (W.alloc (.cells (bytesV (noughts 64)).toArray 66))) :=
    ⟨HJ.out 0 _ _ HJ0.out ((Below.refl _ _).alloc (Nat.le_refl _) _), Spares.all ((Below.refl _ _).alloc (Nat.le_refl _) _), _, heap_new_at rfl, noughts_length 64, fun h => absurd rfl h⟩
  refine wp_gen (KsW U J key c nonce W 0) (by exact HK0.out) ?_
  clear HK0 HJ0 hN hl1 hl2 hnb
  intro w5 hw5
  have HW5 := Lib.hid hw5; clear hw5
  go_loopw [7, 9] (fun _ i wr => ∃ k : Nat, k ≤ n ∧ i = .int .i64 (k : Int) ∧ KsW U J key c nonce W k wr) (fun _ i _ => n - (intOf i).toNat)
  case atStart => exact ⟨0, Nat.zero_le _, rfl, HW5.out⟩
  case round =>
    clear HW5
    obtain ⟨k, hk, rfl, hw⟩ := hrel
    by_cases hlt : k < n
    · have hbx := HBX.out wr hw.spares
      obtain ⟨b, hb, hbl, hbe⟩ := hw.blk
      have HBE := Lib.hid hbe; clear hbe
      have HBL := Lib.hid hbl; clear hbl
      have HBA := Lib.hid hb; clear hb
      have HJK := Lib.hid hw.inv
      have HSP := Lib.hid hw.spares
      clear hw
      have HBK := Lib.hid hbx.key
      have HBO := Lib.hid hbx.nonce
      have HQ := Lib.hid hbx.quads
      have hc := one_cell hbx.c
      clear hbx
      have hwr : IntKind.u32.wrap ((k : Int) / 64) = n32 (BitVec.ofNat 32 (k / 64)) := wrap32_nat (k / 64)
      have q0 : (k : Int) < (n : Int) := by omega
      by_cases hm : k % 64 = 0
      · have hm1 : ((k : Int) % 64 == 0) = true := by have : (k : Int) % 64 = 0 := by omega
                                                      simp [this]
        have HM := Lib.hid hm; clear hm
        have HLX := Lib.hid (ccBlock_length key (c + BitVec.ofNat 32 (k / 64)) nonce)
        have HIB := Lib.hid (infoBlk _ HLX.out)
        have HOLD := Lib.hid (show (bytesV b).toArray.size = (bytesV (ccBlock key (c + BitVec.ofNat 32 (k / 64)) nonce)).toArray.size by rw [bytesV_size _ 64 HLX.out, bytesV_size _ 64 HBL.out])
        have HONE := Lib.hid (bytesV_one (ccBlock key (c + BitVec.ofNat 32 (k / 64)) nonce))
        go_upto_region 6 with (first
          | (refine wpList_load_row rfl 23 (.tmp 2) rfl bk rfl 23 (bytesV key).toArray (0, 0) _ HBK.out Tryd.underlying23 rfl HIK.out ?_)
          | (refine wpList_load_row rfl 25 (.tmp 4) rfl bo rfl 25 (bytesV nonce).toArray (0, 0) _ HBO.out Tryd.underlying25 rfl HIN.out ?_)
          | (go_at_call 39; refine (ccBlock_any key nonce _ _ HKL.out HNL.out HQ.out).mono ?_; rintro e w6 ⟨rfl, hb6⟩; have HB6 := Lib.hid hb6; clear hb6)
          | (refine wpList_store_row rfl 66 (.tmp 6) (.tmp 22) rfl W.heap.size (bytesV (ccBlock key (c + BitVec.ofNat 32 (k / 64)) nonce)).toArray rfl rfl 66 _ (HBA.out.keep HB6.out) HIB.out HOLD.out HONE.out ?_))
        have HBL6 := Lib.hid (below_setRow (HB6.out.mono HSP.out.size) (Nat.le_refl W.heap.size) (bytesV (ccBlock key (c + BitVec.ofNat 32 (k / 64)) nonce)).toArray)
        have HRW6 := Lib.hid (setRow_heap w6 W.heap.size _ (bytesV (ccBlock key (c + BitVec.ofNat 32 (k / 64)) nonce)).toArray 66 _ (HBA.out.keep HB6.out))
        refine wp_gen (KsMid U J (blkAt key c nonce (k / 64)) W k) ⟨HJ.out _ _ _ HJK.out HBL6.out, HSP.out.then_below HBL6.out, HRW6.out⟩ ?_
        clear HBL6 HRW6 HB6 HBA HOLD HBL HIB HLX HONE
        intro w7 hw7
        have HS7 := Lib.hid hw7.2.1
        have HB7 := Lib.hid hw7.2.2
        have hcell := hw7.2.2.cell (k % 64) (by rw [blkAt_length]; omega)
        obtain ⟨fn, tm, asg, bdy, hy0, hR⟩ := HY.out k w7 hlt hw7.1
        have hy : (Instr.yield l #[.int .i64 (k : Int), .int .u8 (n8 ((blkAt key c nonce (k / 64)).getD (k % 64) 0#8))]).run Tryd.prog w7 = .ok (.round l fn tm asg bdy) w7 := hy0
        have HR := Lib.hid hR
        clear hw7 hy0 hR
        generalize (blkAt key c nonce (k / 64)).getD (k % 64) 0#8 = kb at hy hcell
        have n0 : ((k : Int) % 64).toNat = k % 64 := by omega
        have l0 : (k : Int) % 64 < 64 := by omega
        have p0 : 0 ≤ (k : Int) % 64 := by omega
        refine (wpIn_wide (n := m + 1)).1 ?_
        gi_wp2
        refine HR.out.mono ?_
        rintro e w8 ⟨rfl, hj8, hs8⟩
        have HK8 : Hid (KsW U J key c nonce W (k + 1) w8) := ⟨hj8, ⟨hs8.os.trans HS7.out.os, hs8.tape.trans HS7.out.tape, hs8.output.trans HS7.out.output, Nat.le_trans HS7.out.size hs8.size, fun i hi hn => (hs8.block i (Nat.lt_of_lt_of_le hi HS7.out.size) hn).trans (HS7.out.block i hi hn)⟩, _, (hs8.block _ HB7.out.size (fun h => by have := HTW.out _ h; omega)).trans HB7.out, blkAt_length _ _ _ _, fun h => by rw [show (k + 1) / 64 = k / 64 by omega]⟩
        gi_wp2
        go_wp2_with fail
        go_roundw
        case rel => exact ⟨k + 1, by omega, by go_num, HK8.out⟩
        case measure => simp [intOf]; omega
      · have hm1 : ((k : Int) % 64 == 0) = false := by
          have : ¬ (k : Int) % 64 = 0 := by omega
          simp [this]
        have hbe := HBE.out hm
        have HB2 := Lib.hid (show BytesAt wr W.heap.size 66 (blkAt key c nonce (k / 64)) by rw [← hbe]; exact HBA.out)
        have HM := Lib.hid hm; clear hm hbe HBE HBA HBL
        go_upto_region 6 with (fail)
        refine wp_gen (KsMid U J (blkAt key c nonce (k / 64)) W k) ⟨HJK.out, HSP.out, HB2.out⟩ ?_
        clear HB2
        intro w7 hw7
        have HS7 := Lib.hid hw7.2.1
        have HB7 := Lib.hid hw7.2.2
        have hcell := hw7.2.2.cell (k % 64) (by rw [blkAt_length]; omega)
        obtain ⟨fn, tm, asg, bdy, hy0, hR⟩ := HY.out k w7 hlt hw7.1
        have hy : (Instr.yield l #[.int .i64 (k : Int), .int .u8 (n8 ((blkAt key c nonce (k / 64)).getD (k % 64) 0#8))]).run Tryd.prog w7 = .ok (.round l fn tm asg bdy) w7 := hy0
        have HR := Lib.hid hR
        clear hw7 hy0 hR
        generalize (blkAt key c nonce (k / 64)).getD (k % 64) 0#8 = kb at hy hcell
        have n0 : ((k : Int) % 64).toNat = k % 64 := by omega
        have l0 : (k : Int) % 64 < 64 := by omega
        have p0 : 0 ≤ (k : Int) % 64 := by omega
        refine (wpIn_wide (n := m + 1)).1 ?_
        gi_wp2
        refine HR.out.mono ?_
        rintro e w8 ⟨rfl, hj8, hs8⟩
        have HK8 : Hid (KsW U J key c nonce W (k + 1) w8) := ⟨hj8, ⟨hs8.os.trans HS7.out.os, hs8.tape.trans HS7.out.tape, hs8.output.trans HS7.out.output, Nat.le_trans HS7.out.size hs8.size, fun i hi hn => (hs8.block i (Nat.lt_of_lt_of_le hi HS7.out.size) hn).trans (HS7.out.block i hi hn)⟩, _, (hs8.block _ HB7.out.size (fun h => by have := HTW.out _ h; omega)).trans HB7.out, blkAt_length _ _ _ _, fun h => by rw [show (k + 1) / 64 = k / 64 by omega]⟩
        gi_wp2
        go_wp2_with fail
        go_roundw
        case rel => exact ⟨k + 1, by omega, by go_num, HK8.out⟩
        case measure => simp [intOf]; omega
    · have HK : Hid (k = n) := show k = n by omega
      have HWW := Lib.hid hw; clear hw
      go_wp2_with fail
      go_end0
      exact ⟨⟨_, rfl⟩, by rw [← HK.out]; exact HWW.out.inv, HWW.out.spares⟩
end Go.Proofs.YtagkkihnfipfeaaDoor

/-
  The contract of chacha.Xor: where the package's table holds its numbers, it returns each byte combined with the keystream's at its index, in new memory; nothing that was there changes.
-/
namespace Go.Proofs.YtagkkihnfipfeaaDoor
open Go.RowKit Go.Shelf Go.Proofs.ShaWords

attribute [local go_sem] xor8 Oper.semAt_some
/-- The bytes combined with the keystream. -/
def xorKs (key : List (BitVec 8)) (c : BitVec 32) (nonce bs : List (BitVec 8)) : List (BitVec 8) := (List.range bs.length).map fun k => bs.getD k 0#8 ^^^ ksAt key c nonce k
theorem xorKs_length (key : List (BitVec 8)) (c : BitVec 32) (nonce bs : List (BitVec 8)) : (xorKs key c nonce bs).length = bs.length := by simp [xorKs]
theorem xorKs_get (key : List (BitVec 8)) (c : BitVec 32) (nonce bs : List (BitVec 8)) (k : Nat) (hk : k < bs.length) : (xorKs key c nonce bs).getD k 0#8 = bs.getD k 0#8 ^^^ ksAt key c nonce k := by
  simp [xorKs, List.getD, hk]
set_option maxRecDepth 100000 in
set_option maxHeartbeats 1000000 in
theorem keystream_any (key nonce : List (BitVec 8)) (c : BitVec 32) (n : Nat) (w : World) (hq : Quads w) :
    Calls Tryd.prog 29 #[.agg (bytesV key).toArray, .int .u32 (n32 c), .agg (bytesV nonce).toArray, .int .i64 (n : Int)] w fun e w' =>
      e = .returned (.func (.func 38) #[] #[.pointer (some ⟨w.heap.size + 1 + 1 + 1, 0, none⟩), .pointer (some ⟨w.heap.size, 0, none⟩), .pointer (some ⟨w.heap.size + 1, 0, none⟩), .pointer (some ⟨w.heap.size + 1 + 1, 0, none⟩)]) ∧
      KsBoxes key c nonce n (w.heap.size + 1 + 1 + 1) w.heap.size (w.heap.size + 1) (w.heap.size + 1 + 1) w' ∧ Below w.heap.size w w' := by
  have hqs := hq.size
  have HQ := Lib.hid hq; clear hq
  go_enter Tryd.func29, Tryd.ntmps29
  go_wp2_with fail
  go_ret
  have b0 : Below w.heap.size w ((((w.alloc (.cells (bytesV key).toArray 23)).alloc (.cells #[.int .u32 (n32 c)] 49)).alloc (.cells (bytesV nonce).toArray 25)).alloc (.cells #[.int .i64 (n : Int)] 3)) :=
    ((((Below.refl _ _).alloc (Nat.le_refl _) _).alloc (by simp) _).alloc (by simp; omega) _).alloc (by simp; omega) _
  refine ⟨rfl, ⟨heap_new_at (by simp), ?_, ?_, ?_, HQ.out.below b0 hqs⟩, b0⟩
  · exact BytesAt.keep (w := w.alloc _) (heap_alloc_new w _) ((((Below.refl _ _).alloc (Nat.le_refl _) _).alloc (by simp) _).alloc (by simp) _)
  · exact (((((Below.refl _ _).alloc (Nat.le_refl _) _).alloc (by simp) _).block _ (by simp)).trans (heap_new_at (by simp)))
  · exact BytesAt.keep (w := ((w.alloc _).alloc _).alloc _) (heap_new_at (by simp)) ((Below.refl _ _).alloc (Nat.le_refl _) _)

/-- What chacha.Xor has boxed. -/
structure BoxW (w : World) (key nonce : List (BitVec 8)) (v : Value) (wr : World) : Prop where
  key : BytesAt wr w.heap.size 23 key
  nonce : BytesAt wr (w.heap.size + 1) 25 nonce
  src : wr.heap[w.heap.size + 1 + 1]? = some (.cells #[v] 26 (0, 0))
  below : Below w.heap.size w wr
theorem BoxW.on {w wr w' : World} {key nonce : List (BitVec 8)} {v : Value} (h : BoxW w key nonce v wr) (hb : Below wr.heap.size wr w') : BoxW w key nonce v w' :=
  ⟨h.key.keep hb, h.nonce.keep hb, (hb.block _ (Array.getElem?_eq_some_iff.1 h.src).1).trans h.src, h.below.trans (hb.mono h.below.size)⟩
/-- What chacha.Xor has in memory in its loop: the bytes' slice and the new slice in boxes, the new bytes. -/
structure XorW (w : World) (p : Option Addr) (n cap X D : Nat) (l : List (BitVec 8)) (wr : World) : Prop where
  src : wr.heap[w.heap.size + 1 + 1]? = some (.cells #[.slice p n cap] 26 (0, 0))
  dst : wr.heap[D]? = some (.cells #[.slice (some ⟨X, 0, none⟩) n n] 26 (0, 0))
  row : BytesAt wr X 5 l
  below : Below w.heap.size w wr
theorem XorW.on {w wr w' : World} {p : Option Addr} {n cap X D B : Nat} {l : List (BitVec 8)} (h : XorW w p n cap X D l wr) (hb : Below B wr w') (h1 : w.heap.size + 1 + 1 < B) (h2 : D < B) (h3 : X < B) : XorW w p n cap X D l w' :=
  ⟨(hb.block _ h1).trans h.src, (hb.block _ h2).trans h.dst, (hb.block _ h3).trans h.row, h.below.trans (hb.mono (by omega))⟩
theorem XorW.put {w wr : World} {p : Option Addr} {n cap X D : Nat} {l : List (BitVec 8)} (h : XorW w p n cap X D l wr) (h1 : w.heap.size + 1 + 1 < X) (h2 : D ≠ X) (k : Nat) (x : BitVec 8) : XorW w p n cap X D (l.set k x) (wr.setCell ⟨X, k, none⟩ (.int .u8 (n8 x))) :=
  ⟨by rw [heap_setCell_other _ _ _ _ (by show w.heap.size + 1 + 1 ≠ X; omega)]; exact h.src, by rw [heap_setCell_other _ _ _ _ h2]; exact h.dst, h.row.put k x, h.below.setCell (by show w.heap.size ≤ X; omega) _⟩
theorem XorW.drew {w wr : World} {p : Option Addr} {n cap X D : Nat} {l : List (BitVec 8)} (h : XorW w p n cap X D l wr) : XorW w p n cap X D l wr.drew := ⟨h.src, h.dst, h.row, h.below.drew⟩
/-- The first k bytes combined, noughts behind them. -/
def xorTo' (Z : List (BitVec 8)) (k : Nat) : List (BitVec 8) := Z.take k ++ noughts (Z.length - k)
theorem xorTo'_length (Z : List (BitVec 8)) (k : Nat) (hk : k ≤ Z.length) : (xorTo' Z k).length = Z.length := by simp [xorTo', noughts]; omega
theorem xorTo'_zero (Z : List (BitVec 8)) : xorTo' Z 0 = noughts Z.length := by simp [xorTo']
theorem xorTo'_full (Z : List (BitVec 8)) : xorTo' Z Z.length = Z := by simp [xorTo', noughts]
theorem xorTo'_set (Z : List (BitVec 8)) (k : Nat) (hk : k < Z.length) : (xorTo' Z k).set k (Z.getD k 0#8) = xorTo' Z (k + 1) := by
  unfold xorTo' noughts
  exact take_set_fill Z Z.length k rfl hk
theorem own_of_block {w : World} {B X : Nat} {l : List (BitVec 8)} (h : BytesAt w X 5 l) (hB : B ≤ X) (hl : l.length ≤ maxLen) : Own B w l (.slice (some ⟨X, 0, none⟩) l.length l.length) := by
  refine ⟨by rw [bytesV_length, Nat.mul_one], .inr ⟨X, l.length, _, rfl, hB, h, Nat.le_refl _, hl, by rw [bytesV_size _ _ rfl, Nat.mul_one], ?_⟩⟩
  rw [Nat.mul_one, List.toList_toArray, List.take_of_length_le (by rw [bytesV_length]; exact Nat.le_refl _)]
attribute [local irreducible] ksAt
set_option maxRecDepth 100000 in
set_option maxHeartbeats 4000000 in
theorem ccXor_any (key nonce bs : List (BitVec 8)) (c : BitVec 32) (p : Option Addr) (cap : Nat) (w : World) (hk : key.length = 32) (hn : nonce.length = 12) (hl : bs.length ≤ 1000000) (hL : Lies w p bs) (hq : Quads w) :
    Calls Tryd.prog 21 #[.agg (bytesV key).toArray, .int .u32 (n32 c), .agg (bytesV nonce).toArray, .slice p bs.length cap] w
      fun e w' => ∃ v, e = .returned v ∧ Own w.heap.size w' (xorKs key c nonce bs) v ∧ Below w.heap.size w w' := by
  have hqs := hq.size
  have HQ := Lib.hid hq; clear hq
  have HKL := Lib.hid hk; clear hk
  have HNL := Lib.hid hn; clear hn
  have HL := Lib.hid hL; clear hL
  have HIK := Lib.hid (infoKey key HKL.out)
  have HIN := Lib.hid (infoNonce nonce HNL.out)
  obtain ⟨i5, hi5, hz5, hs5, hb5⟩ := info_parts info5
  have HI5 := Lib.hid hi5; have HZ5 := Lib.hid hz5; have HS5 := Lib.hid hs5; have HB5 := Lib.hid hb5
  clear hi5 hz5 hs5 hb5
  refine callsIn_wide.1 (callsIn_of_wp_marks (n := 3) Tryd.func21 rfl trivial (wpIn_wide.2 ?_))
  simp only [Tryd.ntmps21, List.size_toArray, List.length_cons, List.length_nil, Nat.reduceAdd, Nat.reduceSub, Array.replicate_succ, Array.replicate_zero, List.push_toArray, List.append_toArray, List.nil_append, List.cons_append]
  go_upto_region 1 with (fail)
  refine wp_gen (BoxW w key nonce (.slice p bs.length cap)) ⟨alloc3_1 _ _ _ _, alloc3_2 _ _ _ _, alloc3_3 _ _ _ _, alloc3_below _ _ _ _⟩ ?_
  intro w0 hw0
  have HW0 := Lib.hid hw0
  have hsrc := one_cell hw0.src
  clear hw0
  go_upto_region 2 with (refine wpList_make_any rfl (.tmp 13) (.tmp 13) 26 rfl 5 i5 (.int .u8 0) Tryd.underlying26 HI5.out HZ5.out HS5.out HB5.out .i64 .i64 (bs.length : Int) (bs.length : Int) bs.length bs.length rfl rfl rfl rfl (Nat.le_refl _) (by omega) _ (made_noughts bs.length) ?_; intro w1 h1 b1; have HR1 := Lib.hid (show BytesAt w1 w0.heap.size 5 (noughts bs.length) from h1); have HW1 := Lib.hid (HW0.out.on b1); clear h1 b1)
  have hx0 : w.heap.size + 1 + 1 < w0.heap.size := (Array.getElem?_eq_some_iff.1 HW0.out.src).1
  clear hsrc HW0
  have hd1 : w0.heap.size < w1.heap.size := HR1.out.size
  refine wp_gen (fun w2 => XorW w p bs.length cap w0.heap.size w1.heap.size (noughts bs.length) w2 ∧ BoxW w key nonce (.slice p bs.length cap) w2 ∧ w1.heap.size < w2.heap.size) ⟨⟨(HW1.out.on ((Below.refl _ _).alloc (Nat.le_refl _) _)).src, heap_new_at rfl, HR1.out.keep ((Below.refl _ _).alloc (Nat.le_refl _) _), (HW1.out.on ((Below.refl _ _).alloc (Nat.le_refl _) _)).below⟩, HW1.out.on ((Below.refl _ _).alloc (Nat.le_refl _) _), by rw [size_alloc]; omega⟩ ?_
  rintro w2 ⟨hx2, hw2, hd2⟩
  clear HR1 HW1
  generalize w0.heap.size = X at hx2 hx0 hd1 ⊢
  generalize w1.heap.size = D at hx2 hd1 hd2 ⊢
  have HX2 := Lib.hid hx2
  have HW2 := Lib.hid hw2
  have hsrc := one_cell hw2.src
  clear hx2 hw2
  go_wp2_with (first
    | (refine wpList_load_row rfl 23 (.tmp 4) rfl w.heap.size rfl 23 (bytesV key).toArray (0, 0) _ HW2.out.key Tryd.underlying23 rfl HIK.out ?_)
    | (refine wpList_load_row rfl 25 (.tmp 6) rfl (w.heap.size + 1) rfl 25 (bytesV nonce).toArray (0, 0) _ HW2.out.nonce Tryd.underlying25 rfl HIN.out ?_)
    | (go_at_call 29; refine (keystream_any key nonce c bs.length _ (HQ.out.below HW2.out.below hqs)).mono ?_; rintro e w3 ⟨rfl, hk3, hb3⟩; have HK3 := Lib.hid hk3; have HX3 := Lib.hid (HX2.out.on hb3 (by omega) (by omega) (by omega)); have sz3 := hb3.size; clear hk3 hb3))
  have HZL := Lib.hid (xorKs_length key c nonce bs)
  have HZG := Lib.hid (xorKs_get key c nonce bs)
  have hX0 : XorW w p bs.length cap X D (xorTo' (xorKs key c nonce bs) 0) w3 := by rw [xorTo'_zero, HZL.out]; exact HX3.out
  have HX0 := Lib.hid hX0; clear hX0 HX3
  have hd3 : D < w3.heap.size := by omega
  refine (wpIn_wide (n := 3)).1 (wpIn_rangeCells (m := 3) (gf := 38) (N := bs.length) (T := fun b => b = X) rfl (enters_of Tryd.func38 (by kernel_rfl) rfl) (fun b h => by omega)
    (stream_gives key nonce c bs.length _ _ _ _ 3 _ w3 HKL.out HNL.out (by omega) (fun b h => by omega) HK3.out (by omega) (by omega) (by omega) (by omega) (by omega)) (fun _ => rfl)
    (fun k W => XorW w p bs.length cap X D (xorTo' (xorKs key c nonce bs) k) W) (fun k A A' h hb => h.on hb (by omega) hd3 (by omega)) HX0.out
    (fun k => { tmps := #[.agg (bytesV key).toArray, .int .u32 (n32 c), .agg (bytesV nonce).toArray, .slice p bs.length cap, .pointer (some ⟨w.heap.size, 0, none⟩), undef, .pointer (some ⟨w.heap.size + 1, 0, none⟩), .pointer (some ⟨w.heap.size + 1 + 1, 0, none⟩), .slice none 0 0,
      .pointer (some ⟨D, 0, none⟩), .int .i64 (k : Int), .int .u8 (n8 (ksAt key c nonce k)), .slice p bs.length cap, .int .i64 (bs.length : Int), .slice (some ⟨X, 0, none⟩) bs.length bs.length, .agg (bytesV key).toArray, .int .u32 (n32 c), .agg (bytesV nonce).toArray, .slice p bs.length cap, .int .i64 (bs.length : Int),
      .func (.func 38) #[] #[.pointer (some ⟨w2.heap.size + 1 + 1 + 1, 0, none⟩), .pointer (some ⟨w2.heap.size, 0, none⟩), .pointer (some ⟨w2.heap.size + 1, 0, none⟩), .pointer (some ⟨w2.heap.size + 1 + 1, 0, none⟩)],
      .int .i64 (k : Int), .int .u8 (n8 (ksAt key c nonce k)), undef, undef, undef, undef, undef, undef, undef, undef, undef, undef], defers := [] }) ?assign ?body ?done)
  case assign =>
    intro l k W K hK
    unfold ksEncs
    gi_wp2
    exact hK
  case body =>
    intro l k W hI hk
    have hdst := one_cell hI.dst
    have hsrc := one_cell hI.src
    have hZ := HZG.out k hk
    have hset := xorTo'_set (xorKs key c nonce bs) k (by rw [HZL.out]; exact hk)
    have hcx := hI.row.cell k (by rw [xorTo'_length _ _ (by rw [HZL.out]; omega), HZL.out]; exact hk)
    have hfx := hI.row.frozenAt k
    obtain ⟨b, off, rfl, hbw, hcb⟩ : ∃ b off, p = some ⟨b, off, none⟩ ∧ b < w.heap.size ∧ W.cell? ⟨b, off + k, none⟩ = some (.int .u8 (n8 (bs.getD k 0#8))) := by
      rcases HL.out with h0 | ⟨b, off, rfl, hr⟩
      · rw [h0] at hk; simp at hk
      · have hb := World.block_lt_of_cell? w _ (range_cell hr k hk)
        exact ⟨b, off, rfl, hb, (hI.below.cell (p := ⟨b, off + k, none⟩) hb).trans (range_cell hr k hk)⟩
    have HLB := Lib.hid hbw; clear hbw
    rw [hZ] at hset
    have HI := Lib.hid hI; clear hI
    have HSET := Lib.hid hset; clear hset hZ
    have q0 : (k : Int) < (bs.length : Int) := by omega
    have HN := Lib.hid (show XorW w _ bs.length cap X D _ _ from (HI.out.drew.put hx0 (by omega) k (bs.getD k 0#8 ^^^ ksAt key c nonce k)))
    rw [HSET.out] at HN
    have hbw : b < w.heap.size := HLB.out
    refine wpIn_block ?_
    refine region_round (fun w1 => w1.cell? ⟨D, 0, none⟩ = some (.slice (some ⟨X, 0, none⟩) bs.length bs.length) ∧ w1.cell? ⟨w.heap.size + 1 + 1, 0, none⟩ = some (.slice (some ⟨b, off, none⟩) bs.length cap) ∧ w1.cell? ⟨b, off + k, none⟩ = some (.int .u8 (n8 (bs.getD k 0#8)))) (fun _ => True) 9 ⟨hdst, hsrc, hcb⟩ trivial [(0, .free), (1, .free), (2, .free), (3, .free), (4, .free), (5, .free), (6, .free), (7, .free), (8, .free), (9, .behind)] (by kernel_rfl) (by kernel_rfl) (by kernel_rfl) (by kernel_rfl) (by kernel_rfl) (fun ⟨_, _, h, _⟩ => by cases h) (fun _ _ _ h => by cases h.1) (fun ops hops A hA => ?_)
    have hsz : A.tmps.size = 33 := by rw [hA]; rfl
    have base7 : A.eval (.tmp 7) = .pointer (some ⟨w.heap.size + 1 + 1, 0, none⟩) := by rw [hA]; rfl
    have base9 : A.eval (.tmp 9) = .pointer (some ⟨D, 0, none⟩) := by rw [hA]; rfl
    have base10 : A.eval (.tmp 10) = .int .i64 (k : Int) := by rw [hA]; rfl
    have base11 : A.eval (.tmp 11) = .int .u8 (n8 (ksAt key c nonce k)) := by rw [hA]; rfl
    have HAA := Lib.hid hA; clear hA
    obtain ⟨o0, po0, q0, d0, gd0⟩ : ∃ o, ops[0]? = some o ∧ o.op = .load 26 (.tmp 9) ∧ o.dst = some 23 ∧ o.guard = none := ⟨_, by rw [hops]; rfl, rfl, rfl, rfl⟩
    obtain ⟨o1, po1, q1, d1, gd1⟩ : ∃ o, ops[1]? = some o ∧ o.op = .move (.tmp 10) ∧ o.dst = some 24 ∧ o.guard = none := ⟨_, by rw [hops]; rfl, rfl, rfl, rfl⟩
    obtain ⟨o2, po2, q2, d2, gd2⟩ : ∃ o, ops[2]? = some o ∧ o.op = .load 26 (.tmp 7) ∧ o.dst = some 25 ∧ o.guard = none := ⟨_, by rw [hops]; rfl, rfl, rfl, rfl⟩
    obtain ⟨o3, po3, q3, d3, gd3⟩ : ∃ o, ops[3]? = some o ∧ o.op = .move (.tmp 10) ∧ o.dst = some 26 ∧ o.guard = none := ⟨_, by rw [hops]; rfl, rfl, rfl, rfl⟩
    obtain ⟨o4, po4, q4, d4, gd4⟩ : ∃ o, ops[4]? = some o ∧ o.op = .indexAddr 26 (.tmp 25) (.tmp 26) ∧ o.dst = some 27 ∧ o.guard = none := ⟨_, by rw [hops]; rfl, rfl, rfl, rfl⟩
    obtain ⟨o5, po5, q5, d5, gd5⟩ : ∃ o, ops[5]? = some o ∧ o.op = .load 5 (.tmp 27) ∧ o.dst = some 28 ∧ o.guard = none := ⟨_, by rw [hops]; rfl, rfl, rfl, rfl⟩
    obtain ⟨o6, po6, q6, d6, gd6⟩ : ∃ o, ops[6]? = some o ∧ o.op = .move (.tmp 11) ∧ o.dst = some 29 ∧ o.guard = none := ⟨_, by rw [hops]; rfl, rfl, rfl, rfl⟩
    obtain ⟨o7, po7, q7, d7, gd7⟩ : ∃ o, ops[7]? = some o ∧ o.op = .binOp .xor 5 (.tmp 28) (.tmp 29) 5 ∧ o.dst = some 30 ∧ o.guard = none := ⟨_, by rw [hops]; rfl, rfl, rfl, rfl⟩
    obtain ⟨o8, po8, q8, d8, gd8⟩ : ∃ o, ops[8]? = some o ∧ o.op = .indexAddr 26 (.tmp 23) (.tmp 24) ∧ o.dst = some 31 ∧ o.guard = none := ⟨_, by rw [hops]; rfl, rfl, rfl, rfl⟩
    obtain ⟨o9, po9, q9, d9, gd9⟩ : ∃ o, ops[9]? = some o ∧ o.op = .store 5 (.tmp 31) (.tmp 30) ∧ o.dst = none ∧ o.guard = none := ⟨_, by rw [hops]; rfl, rfl, rfl, rfl⟩
    clear hops
    refine met_free po0 d0 (wanted_of gd0) (fun w' h' => run_loadSlice q0 base9 h'.1) ?_
    refine met_free po1 d1 (wanted_of gd1) (fun w' _ => run_move q1 ((eval_other _ 23 10 _ (by decide)).trans base10) w') ?_
    refine met_free po2 d2 (wanted_of gd2) (fun w' h' => run_loadSlice q2 ((eval_other _ 24 7 _ (by decide)).trans ((eval_other _ 23 7 _ (by decide)).trans base7)) h'.2.1) ?_
    refine met_free po3 d3 (wanted_of gd3) (fun w' _ => run_move q3 ((eval_other _ 25 10 _ (by decide)).trans ((eval_other _ 24 10 _ (by decide)).trans ((eval_other _ 23 10 _ (by decide)).trans base10))) w') ?_
    refine met_free po4 d4 (wanted_of gd4) (fun w' _ => run_ixSlice q4 ((eval_other _ 26 25 _ (by decide)).trans (eval_same _ _ _ (by simp only [put_size, hsz]; decide))) (eval_same _ _ _ (by simp only [put_size, hsz]; decide)) hk w') ?_
    refine met_free po5 d5 (wanted_of gd5) (fun w' h' => run_load8 q5 (eval_same _ _ _ (by simp only [put_size, hsz]; decide)) h'.2.2) ?_
    refine met_free po6 d6 (wanted_of gd6) (fun w' _ => run_move q6 ((eval_other _ 28 11 _ (by decide)).trans ((eval_other _ 27 11 _ (by decide)).trans ((eval_other _ 26 11 _ (by decide)).trans ((eval_other _ 25 11 _ (by decide)).trans ((eval_other _ 24 11 _ (by decide)).trans ((eval_other _ 23 11 _ (by decide)).trans base11)))))) w') ?_
    refine met_free po7 d7 (wanted_of gd7) (fun w' _ => run_xor8 q7 ((eval_other _ 29 28 _ (by decide)).trans (eval_same _ _ _ (by simp only [put_size, hsz]; decide))) (eval_same _ _ _ (by simp only [put_size, hsz]; decide)) w') ?_
    refine met_free po8 d8 (wanted_of gd8) (fun w' _ => run_ixSlice0 q8 ((eval_other _ 30 23 _ (by decide)).trans ((eval_other _ 29 23 _ (by decide)).trans ((eval_other _ 28 23 _ (by decide)).trans ((eval_other _ 27 23 _ (by decide)).trans ((eval_other _ 26 23 _ (by decide)).trans ((eval_other _ 25 23 _ (by decide)).trans ((eval_other _ 24 23 _ (by decide)).trans (eval_same _ _ _ (by rw [hsz]; decide))))))))) ((eval_other _ 30 24 _ (by decide)).trans ((eval_other _ 29 24 _ (by decide)).trans ((eval_other _ 28 24 _ (by decide)).trans ((eval_other _ 27 24 _ (by decide)).trans ((eval_other _ 26 24 _ (by decide)).trans ((eval_other _ 25 24 _ (by decide)).trans (eval_same _ _ _ (by simp only [put_size, hsz]; decide)))))))) hk w') ?_
    refine met_skip po9 d9 (wanted_of gd9) (run_store8 q9 (eval_same _ _ _ (by simp only [put_size, hsz]; decide)) ((eval_other _ 31 30 _ (by decide)).trans (eval_same _ _ _ (by simp only [put_size, hsz]; decide))) hcx hfx) ⟨?_, ?_, ?_⟩ ?_
    · rw [World.cell?_setCell_far _ _ _ _ (by show X ≠ D; omega)]; exact hdst
    · rw [World.cell?_setCell_far _ _ _ _ (by show X ≠ w.heap.size + 1 + 1; omega)]; exact hsrc
    · rw [World.cell?_setCell_far _ _ _ _ (by show X ≠ b; omega)]; exact hcb
    · exact ⟨rfl, HN.out, Spares.grown (grown_trans (grown_drew W (some X)) (grown_setCell W.drew X k _)) rfl⟩
  case done =>
    intro Dd W hDd hI hsp hdef
    have HI := Lib.hid (hI.on (below_putObj W Dd (.deferred none) (Nat.le_refl Dd)) (by omega) (by omega) (by omega)); 
    have hdst := one_cell hI.dst
    clear hI hsp
    rw [← HZL.out, xorTo'_full] at HI
    go_frame
    go_wp2_with fail
    refine ⟨by simp, .inl ⟨_, _, rfl, run_takeDeferred hdef, ?_⟩⟩
    exact ⟨_, results_tmp rfl _ _ _, _, rfl, by rw [← HZL.out]; exact own_of_block HI.out.row (by omega) (by rw [HZL.out]; unfold maxLen; omega), HI.out.below⟩
end Go.Proofs.YtagkkihnfipfeaaDoor
