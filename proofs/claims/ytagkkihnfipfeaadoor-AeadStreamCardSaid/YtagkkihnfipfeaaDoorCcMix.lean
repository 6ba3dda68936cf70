/-
  The contract of chacha.mix: where the package's table holds its numbers, it returns what ten double rounds make of sixteen words; nothing that was there changes.
-/
import Derived.Test.YtagkkihnfipfeaaDoorCcQuarter
import Derived.Test.YtagkkihnfipfeaaDoorCcCells
import Derived.Test.YtagkkihnfipfeaaDoorCcMatrix
import Derived.Test.YtagkkihnfipfeaaDoorByteOps
namespace Go.Proofs.YtagkkihnfipfeaaDoor
open Go.RowKit Go.Proofs.ShaWords

/-- The indices that the quarter rounds of a double round take. -/
def quartersL : List Nat := [0, 4, 8, 12, 1, 5, 9, 13, 2, 6, 10, 14, 3, 7, 11, 15, 0, 5, 10, 15, 1, 6, 11, 12, 2, 7, 8, 13, 3, 4, 9, 14]
def intsV (l : List Nat) : List Value := l.map fun (n : Nat) => Value.int .i64 (n : Int)
/-- The table, as the package's variable holds it. -/
def Quads (w : World) : Prop := w.rangeAt 0 0 (intsV quartersL)
def qi (k j : Nat) : Nat := quartersL.getD (4 * k + j) 0
def fourAt (m : List (BitVec 32)) (i0 i1 i2 i3 : Nat) : W4 := ⟨m.getD i0 0#32, m.getD i1 0#32, m.getD i2 0#32, m.getD i3 0#32⟩
/-- A quarter round of the words with four indices. -/
def stepQ (m : List (BitVec 32)) (i0 i1 i2 i3 : Nat) : List (BitVec 32) :=
  (((m.set i0 (qA2 (fourAt m i0 i1 i2 i3))).set i1 (qB2 (fourAt m i0 i1 i2 i3))).set i2 (qC2 (fourAt m i0 i1 i2 i3))).set i3 (qD2 (fourAt m i0 i1 i2 i3))
/-- The first k quarter rounds of a double round. -/
def quartersOf (m : List (BitVec 32)) : Nat → List (BitVec 32)
  | 0 => m
  | k + 1 => stepQ (quartersOf m k) (qi k 0) (qi k 1) (qi k 2) (qi k 3)
/-- n double rounds. -/
def doubles (m : List (BitVec 32)) : Nat → List (BitVec 32)
  | 0 => m
  | n + 1 => quartersOf (doubles m n) 8
theorem stepQ_eq (m : List (BitVec 32)) (i0 i1 i2 i3 : Nat) : stepQ m i0 i1 i2 i3 = (((m.set i0 (qA2 (fourAt m i0 i1 i2 i3))).set i1 (qB2 (fourAt m i0 i1 i2 i3))).set i2 (qC2 (fourAt m i0 i1 i2 i3))).set i3 (qD2 (fourAt m i0 i1 i2 i3)) := rfl
theorem stepQ_length (m : List (BitVec 32)) (i0 i1 i2 i3 : Nat) : (stepQ m i0 i1 i2 i3).length = m.length := by simp [stepQ]
theorem quartersOf_length (m : List (BitVec 32)) (k : Nat) : (quartersOf m k).length = m.length := by
  induction k with
  | zero => rfl
  | succ k ih => rw [quartersOf, stepQ_length, ih]
theorem doubles_length (m : List (BitVec 32)) (n : Nat) : (doubles m n).length = m.length := by
  induction n with
  | zero => rfl
  | succ n ih => rw [doubles, quartersOf_length, ih]
theorem quartersOf_zero (m : List (BitVec 32)) : quartersOf m 0 = m := rfl
theorem quartersOf_succ (m : List (BitVec 32)) (k : Nat) : quartersOf m (k + 1) = stepQ (quartersOf m k) (qi k 0) (qi k 1) (qi k 2) (qi k 3) := rfl
theorem doubles_zero (m : List (BitVec 32)) : doubles m 0 = m := rfl
theorem doubles_succ (m : List (BitVec 32)) (n : Nat) : doubles m (n + 1) = quartersOf (doubles m n) 8 := rfl
theorem qi_lt (k j : Nat) : qi k j < 16 := by
  unfold qi
  have h : ∀ n ∈ quartersL, n < 16 := by decide
  rcases Nat.lt_or_ge (4 * k + j) quartersL.length with h1 | h1
  · rw [List.getD, List.getElem?_eq_getElem h1]; exact h _ (List.getElem_mem h1)
  · simp [List.getD, List.getElem?_eq_none h1]
theorem index83 (k : Nat) (hk : k < 8) (w : World) : (Instr.index 98 (.agg (intsV quartersL).toArray) (.int .i64 (k : Int))).run Tryd.prog w = .ok (.agg #[.int .i64 (qi k 0 : Nat), .int .i64 (qi k 1 : Nat), .int .i64 (qi k 2 : Nat), .int .i64 (qi k 3 : Nat)]) w := by
  rcases k with _ | _ | _ | _ | _ | _ | _ | _ | k
  · kernel_rfl
  · kernel_rfl
  · kernel_rfl
  · kernel_rfl
  · kernel_rfl
  · kernel_rfl
  · kernel_rfl
  · kernel_rfl
  · omega
theorem Quads.size {w : World} (h : Quads w) : 0 < w.heap.size := World.block_lt_of_cell? w _ (h 0 (.int .i64 0) rfl)
theorem Quads.below {w w' : World} {B : Nat} (h : Quads w) (hb : Below B w w') (hB : 0 < B) : Quads w' := fun j v hv => (hb.cell (p := ⟨0, 0 + j, none⟩) hB).trans (h j v hv)
theorem Quads.grown {w w' : World} {g : Nat} (h : Quads w) (hb : w.grownBy w' (some g)) (hg : g ≠ 0) : Quads w' := Reads.grown h hb (fun e => hg e.symm)
/-- What chacha.mix has in memory. -/
structure MixS (w : World) (L : List (BitVec 32)) (wr : World) : Prop where
  row : WordsAt wr w.heap.size 88 L
  res : WordsAt wr (w.heap.size + 1) 88 (List.replicate 16 0#32)
  below : Below w.heap.size w wr
theorem MixS.on {w wr w' : World} {L : List (BitVec 32)} (h : MixS w L wr) (hb : Below wr.heap.size wr w') : MixS w L w' := ⟨h.row.keep hb, h.res.keep hb, h.below.trans (hb.mono h.below.size)⟩
theorem MixS.set {w wr : World} {L : List (BitVec 32)} (h : MixS w L wr) (k : Nat) (x : BitVec 32) : MixS w (L.set k x) (wr.setCell ⟨w.heap.size, k, none⟩ (.int .u32 (n32 x))) :=
  ⟨h.row.set k x, h.res.setOther (by omega) _ _, h.below.setCell (Nat.le_refl _) _⟩
def QuadAt (G i0 i1 i2 i3 : Nat) (w : World) : Prop := w.heap[G]? = some (.cells #[.int .i64 (i0 : Int), .int .i64 (i1 : Int), .int .i64 (i2 : Int), .int .i64 (i3 : Int)] 97 (0, 0))
theorem QuadAt.c0 {G i0 i1 i2 i3 : Nat} {w : World} (h : QuadAt G i0 i1 i2 i3 w) : w.cell? ⟨G, 0, none⟩ = some (.int .i64 (i0 : Int)) := by rw [cell_of_row w G 0 _ _ _ h]; rfl
theorem QuadAt.c1 {G i0 i1 i2 i3 : Nat} {w : World} (h : QuadAt G i0 i1 i2 i3 w) : w.cell? ⟨G, 1, none⟩ = some (.int .i64 (i1 : Int)) := by rw [cell_of_row w G 1 _ _ _ h]; rfl
theorem QuadAt.c2 {G i0 i1 i2 i3 : Nat} {w : World} (h : QuadAt G i0 i1 i2 i3 w) : w.cell? ⟨G, 2, none⟩ = some (.int .i64 (i2 : Int)) := by rw [cell_of_row w G 2 _ _ _ h]; rfl
theorem QuadAt.c3 {G i0 i1 i2 i3 : Nat} {w : World} (h : QuadAt G i0 i1 i2 i3 w) : w.cell? ⟨G, 3, none⟩ = some (.int .i64 (i3 : Int)) := by rw [cell_of_row w G 3 _ _ _ h]; rfl
theorem QuadAt.set {G i0 i1 i2 i3 : Nat} {w : World} (h : QuadAt G i0 i1 i2 i3 w) {g : Nat} (hne : G ≠ g) (k : Nat) (v : Value) : QuadAt G i0 i1 i2 i3 (w.setCell ⟨g, k, none⟩ v) := by
  show _ = _
  rw [heap_setCell_other _ _ _ _ hne]; exact h

attribute [local irreducible] quartersOf doubles stepQ quartersL qA2 qB2 qC2 qD2
set_option maxRecDepth 100000 in
set_option maxHeartbeats 2000000 in
theorem mix16_any (m : List (BitVec 32)) (w : World) (hm : m.length = 16) (hq : Quads w) :
    Calls Tryd.prog 56 #[.agg (wordsV m).toArray] w fun e w' => e = .returned (.agg (wordsV (doubles m 10)).toArray) ∧ Below w.heap.size w w' := by
  have hqs := hq.size
  have hr : w.rangeAt 0 0 (intsV quartersL) := hq
  have HQ := Lib.hid hr; clear hq hr
  have HM := Lib.hid hm; clear hm
  have HD0 := Lib.hid (doubles_zero m)
  have HDS := Lib.hid (doubles_succ m)
  have HDL := Lib.hid (fun n => (doubles_length m n).trans HM.out)
  have HIX := Lib.hid index83
  have HI83 := Lib.hid (show (Tryd.prog.info? 98).map (·.size) = some (intsV quartersL).length by unfold quartersL; kernel_rfl)
  generalize (intsV quartersL) = qv at HIX HI83 HQ
  go_enter Tryd.func56, Tryd.ntmps56
  go_wp2_with fail
  refine wp_gen (MixS w (doubles m 0)) ⟨?_, ?_, ?_⟩ ?_
  · rw [HD0.out]; exact WordsAt.keep (w := w.alloc _) (heap_alloc_new w _) ((Below.refl _ _).alloc (Nat.le_refl _) _)
  · show _ = some (Obj.cells (wordsV (List.replicate 16 0#32)).toArray _ _)
    rw [zero16]; exact heap_new_at (size_alloc _ _)
  · exact ((Below.refl _ _).alloc (Nat.le_refl _) _).alloc (by rw [size_alloc]; omega) _
  intro w0 hw0
  have HW0 := Lib.hid hw0; clear hw0
  go_loopw [4, 5, 7, 8] (fun _ i _ _ wr => ∃ n : Nat, n ≤ 10 ∧ i = .int .i64 (n : Int) ∧ MixS w (doubles m n) wr) (fun _ i _ _ _ => 10 - (intOf i).toNat)
  case atStart => exact ⟨0, by omega, rfl, HW0.out⟩
  case round =>
    clear HW0
    obtain ⟨n, hn, rfl, hw⟩ := hrel
    have HW := Lib.hid hw; clear hw
    by_cases hlt : n < 10
    · go_wp2_with (refine wpList_load_mid rfl 98 (.global 0) rfl 0 0 rfl qv (.array 8 97) (range_keep HQ.out HW.out.below) Tryd.underlying98 rfl HI83.out ?_)
      have HDN := Lib.hid (HDS.out n)
      have HLN := Lib.hid (HDL.out n)
      generalize hL0 : doubles m n = L0 at HW HDN HLN
      clear hL0
      have HQ0 := Lib.hid (quartersOf_zero L0)
      obtain ⟨wo, rfl⟩ : ∃ wo : World, wo = wr := ⟨_, rfl⟩
      go_loopw [4, 8] (fun _ j wi => ∃ k : Nat, k ≤ 8 ∧ j = .int .i64 (k : Int) ∧ MixS w (quartersOf L0 k) wi) (fun _ j _ => 8 - (intOf j).toNat)
      case atStart => exact ⟨0, by omega, rfl, by rw [HQ0.out]; exact HW.out⟩
      case round =>
        clear HW HQ0
        obtain ⟨k, hk, rfl, hwi⟩ := hrel
        have HWI := Lib.hid hwi; clear hwi
        by_cases hlk : k < 8
        · have HQS := Lib.hid (quartersOf_succ L0 k)
          have HQL := Lib.hid ((quartersOf_length L0 k).trans HLN.out)
          have hix := HIX.out k hlk
          have HI0 := Lib.hid (qi_lt k 0)
          have HI1 := Lib.hid (qi_lt k 1)
          have HI2 := Lib.hid (qi_lt k 2)
          have HI3 := Lib.hid (qi_lt k 3)
          generalize quartersOf L0 k = L at HWI HQS HQL
          generalize qi k 0 = i0 at hix HI0 HQS
          generalize qi k 1 = i1 at hix HI1 HQS
          generalize qi k 2 = i2 at hix HI2 HQS
          generalize qi k 3 = i3 at hix HI3 HQS
          go_wp2_with fail
          refine wp_gen (fun w6 => QuadAt wr.heap.size i0 i1 i2 i3 w6 ∧ MixS w L w6 ∧ w.heap.size < wr.heap.size) ⟨heap_new_at rfl, HWI.out.on ((Below.refl _ _).alloc (Nat.le_refl _) _), HWI.out.row.size⟩ ?_
          rintro w6 ⟨hq6, hm6, hlt6⟩
          clear HWI hix
          generalize wr.heap.size = G at hq6 hlt6 ⊢
          have HQ6 := Lib.hid (show QuadAt G i0 i1 i2 i3 w6.drew from hq6)
          have HM6 := Lib.hid (hm6.on ((Below.refl _ _).drew))
          have HNE : Hid (G ≠ w.heap.size) := show G ≠ w.heap.size by omega
          clear hq6 hm6 hlt6
          refine region_phase (QuadAt G i0 i1 i2 i3) (fun w1 => WordsAt w1 w.heap.size 88 L) 31 HQ6.out HM6.out.row [(0, .free), (1, .free), (2, .free), (3, .free), (4, .free), (5, .free), (6, .free), (7, .free), (8, .free), (9, .free), (10, .free), (11, .early), (12, .free), (13, .free), (14, .free), (15, .early), (16, .free), (17, .free), (18, .free), (19, .early), (20, .free), (21, .free), (22, .free), (23, .early), (24, .before), (25, .free), (26, .free), (27, .free), (28, .free), (29, .free), (30, .free), (31, .behind), (32, .free), (33, .behind), (34, .free), (35, .behind), (36, .free), (37, .behind)] (by kernel_rfl) (by kernel_rfl) (by kernel_rfl) (by kernel_rfl) (fun ops hops A hA => ?_)
          have hsz : A.tmps.size = 48 := by rw [hA]; rfl
          have base1 : A.eval (.tmp 1) = .pointer (some ⟨w.heap.size, 0, none⟩) := by rw [hA]; rfl
          have base4 : A.eval (.tmp 4) = .pointer (some ⟨G, 0, none⟩) := by rw [hA]; rfl
          have HAA := Lib.hid hA; clear hA
          obtain ⟨o0, po0, q0, d0, gd0⟩ : ∃ o, ops[0]? = some o ∧ o.op = .indexAddr 97 (.tmp 4) (.const (.int .i64 0)) ∧ o.dst = some 12 ∧ o.guard = none := ⟨_, by rw [hops]; rfl, rfl, rfl, rfl⟩
          obtain ⟨o1, po1, q1, d1, gd1⟩ : ∃ o, ops[1]? = some o ∧ o.op = .load 3 (.tmp 12) ∧ o.dst = some 13 ∧ o.guard = none := ⟨_, by rw [hops]; rfl, rfl, rfl, rfl⟩
          obtain ⟨o2, po2, q2, d2, gd2⟩ : ∃ o, ops[2]? = some o ∧ o.op = .indexAddr 97 (.tmp 4) (.const (.int .i64 1)) ∧ o.dst = some 14 ∧ o.guard = none := ⟨_, by rw [hops]; rfl, rfl, rfl, rfl⟩
          obtain ⟨o3, po3, q3, d3, gd3⟩ : ∃ o, ops[3]? = some o ∧ o.op = .load 3 (.tmp 14) ∧ o.dst = some 15 ∧ o.guard = none := ⟨_, by rw [hops]; rfl, rfl, rfl, rfl⟩
          obtain ⟨o4, po4, q4, d4, gd4⟩ : ∃ o, ops[4]? = some o ∧ o.op = .indexAddr 97 (.tmp 4) (.const (.int .i64 2)) ∧ o.dst = some 16 ∧ o.guard = none := ⟨_, by rw [hops]; rfl, rfl, rfl, rfl⟩
          obtain ⟨o5, po5, q5, d5, gd5⟩ : ∃ o, ops[5]? = some o ∧ o.op = .load 3 (.tmp 16) ∧ o.dst = some 17 ∧ o.guard = none := ⟨_, by rw [hops]; rfl, rfl, rfl, rfl⟩
          obtain ⟨o6, po6, q6, d6, gd6⟩ : ∃ o, ops[6]? = some o ∧ o.op = .indexAddr 97 (.tmp 4) (.const (.int .i64 3)) ∧ o.dst = some 18 ∧ o.guard = none := ⟨_, by rw [hops]; rfl, rfl, rfl, rfl⟩
          obtain ⟨o7, po7, q7, d7, gd7⟩ : ∃ o, ops[7]? = some o ∧ o.op = .load 3 (.tmp 18) ∧ o.dst = some 19 ∧ o.guard = none := ⟨_, by rw [hops]; rfl, rfl, rfl, rfl⟩
          obtain ⟨o8, po8, q8, d8, gd8⟩ : ∃ o, ops[8]? = some o ∧ o.op = .indexAddr 97 (.tmp 4) (.const (.int .i64 0)) ∧ o.dst = some 20 ∧ o.guard = none := ⟨_, by rw [hops]; rfl, rfl, rfl, rfl⟩
          obtain ⟨o9, po9, q9, d9, gd9⟩ : ∃ o, ops[9]? = some o ∧ o.op = .load 3 (.tmp 20) ∧ o.dst = some 21 ∧ o.guard = none := ⟨_, by rw [hops]; rfl, rfl, rfl, rfl⟩
          obtain ⟨o10, po10, q10, d10, gd10⟩ : ∃ o, ops[10]? = some o ∧ o.op = .indexAddr 88 (.tmp 1) (.tmp 21) ∧ o.dst = some 22 ∧ o.guard = none := ⟨_, by rw [hops]; rfl, rfl, rfl, rfl⟩
          obtain ⟨o11, po11, q11, d11, gd11⟩ : ∃ o, ops[11]? = some o ∧ o.op = .load 49 (.tmp 22) ∧ o.dst = some 23 ∧ o.guard = none := ⟨_, by rw [hops]; rfl, rfl, rfl, rfl⟩
          obtain ⟨o12, po12, q12, d12, gd12⟩ : ∃ o, ops[12]? = some o ∧ o.op = .indexAddr 97 (.tmp 4) (.const (.int .i64 1)) ∧ o.dst = some 24 ∧ o.guard = none := ⟨_, by rw [hops]; rfl, rfl, rfl, rfl⟩
          obtain ⟨o13, po13, q13, d13, gd13⟩ : ∃ o, ops[13]? = some o ∧ o.op = .load 3 (.tmp 24) ∧ o.dst = some 25 ∧ o.guard = none := ⟨_, by rw [hops]; rfl, rfl, rfl, rfl⟩
          obtain ⟨o14, po14, q14, d14, gd14⟩ : ∃ o, ops[14]? = some o ∧ o.op = .indexAddr 88 (.tmp 1) (.tmp 25) ∧ o.dst = some 26 ∧ o.guard = none := ⟨_, by rw [hops]; rfl, rfl, rfl, rfl⟩
          obtain ⟨o15, po15, q15, d15, gd15⟩ : ∃ o, ops[15]? = some o ∧ o.op = .load 49 (.tmp 26) ∧ o.dst = some 27 ∧ o.guard = none := ⟨_, by rw [hops]; rfl, rfl, rfl, rfl⟩
          obtain ⟨o16, po16, q16, d16, gd16⟩ : ∃ o, ops[16]? = some o ∧ o.op = .indexAddr 97 (.tmp 4) (.const (.int .i64 2)) ∧ o.dst = some 28 ∧ o.guard = none := ⟨_, by rw [hops]; rfl, rfl, rfl, rfl⟩
          obtain ⟨o17, po17, q17, d17, gd17⟩ : ∃ o, ops[17]? = some o ∧ o.op = .load 3 (.tmp 28) ∧ o.dst = some 29 ∧ o.guard = none := ⟨_, by rw [hops]; rfl, rfl, rfl, rfl⟩
          obtain ⟨o18, po18, q18, d18, gd18⟩ : ∃ o, ops[18]? = some o ∧ o.op = .indexAddr 88 (.tmp 1) (.tmp 29) ∧ o.dst = some 30 ∧ o.guard = none := ⟨_, by rw [hops]; rfl, rfl, rfl, rfl⟩
          obtain ⟨o19, po19, q19, d19, gd19⟩ : ∃ o, ops[19]? = some o ∧ o.op = .load 49 (.tmp 30) ∧ o.dst = some 31 ∧ o.guard = none := ⟨_, by rw [hops]; rfl, rfl, rfl, rfl⟩
          obtain ⟨o20, po20, q20, d20, gd20⟩ : ∃ o, ops[20]? = some o ∧ o.op = .indexAddr 97 (.tmp 4) (.const (.int .i64 3)) ∧ o.dst = some 32 ∧ o.guard = none := ⟨_, by rw [hops]; rfl, rfl, rfl, rfl⟩
          obtain ⟨o21, po21, q21, d21, gd21⟩ : ∃ o, ops[21]? = some o ∧ o.op = .load 3 (.tmp 32) ∧ o.dst = some 33 ∧ o.guard = none := ⟨_, by rw [hops]; rfl, rfl, rfl, rfl⟩
          obtain ⟨o22, po22, q22, d22, gd22⟩ : ∃ o, ops[22]? = some o ∧ o.op = .indexAddr 88 (.tmp 1) (.tmp 33) ∧ o.dst = some 34 ∧ o.guard = none := ⟨_, by rw [hops]; rfl, rfl, rfl, rfl⟩
          obtain ⟨o23, po23, q23, d23, gd23⟩ : ∃ o, ops[23]? = some o ∧ o.op = .load 49 (.tmp 34) ∧ o.dst = some 35 ∧ o.guard = none := ⟨_, by rw [hops]; rfl, rfl, rfl, rfl⟩
          obtain ⟨o24, po24, q24, d24, gd24⟩ : ∃ o, ops[24]? = some o ∧ o.op = .call { callee := .value (.func 64), args := #[.tmp 23, .tmp 27, .tmp 31, .tmp 35], argTypes := #[49, 49, 49, 49] } ∧ o.dst = some 36 ∧ o.guard = none := ⟨_, by rw [hops]; rfl, rfl, rfl, rfl⟩
          obtain ⟨o25, po25, q25, d25, gd25⟩ : ∃ o, ops[25]? = some o ∧ o.op = .move (.tmp 36) ∧ o.dst = some 11 ∧ o.guard = none := ⟨_, by rw [hops]; rfl, rfl, rfl, rfl⟩
          obtain ⟨o26, po26, q26, d26, gd26⟩ : ∃ o, ops[26]? = some o ∧ o.op = .extract (.tmp 11) 0 ∧ o.dst = some 37 ∧ o.guard = none := ⟨_, by rw [hops]; rfl, rfl, rfl, rfl⟩
          obtain ⟨o27, po27, q27, d27, gd27⟩ : ∃ o, ops[27]? = some o ∧ o.op = .extract (.tmp 11) 1 ∧ o.dst = some 38 ∧ o.guard = none := ⟨_, by rw [hops]; rfl, rfl, rfl, rfl⟩
          obtain ⟨o28, po28, q28, d28, gd28⟩ : ∃ o, ops[28]? = some o ∧ o.op = .extract (.tmp 11) 2 ∧ o.dst = some 39 ∧ o.guard = none := ⟨_, by rw [hops]; rfl, rfl, rfl, rfl⟩
          obtain ⟨o29, po29, q29, d29, gd29⟩ : ∃ o, ops[29]? = some o ∧ o.op = .extract (.tmp 11) 3 ∧ o.dst = some 40 ∧ o.guard = none := ⟨_, by rw [hops]; rfl, rfl, rfl, rfl⟩
          obtain ⟨o30, po30, q30, d30, gd30⟩ : ∃ o, ops[30]? = some o ∧ o.op = .indexAddr 88 (.tmp 1) (.tmp 13) ∧ o.dst = some 41 ∧ o.guard = none := ⟨_, by rw [hops]; rfl, rfl, rfl, rfl⟩
          obtain ⟨o31, po31, q31, d31, gd31⟩ : ∃ o, ops[31]? = some o ∧ o.op = .store 49 (.tmp 41) (.tmp 37) ∧ o.dst = none ∧ o.guard = none := ⟨_, by rw [hops]; rfl, rfl, rfl, rfl⟩
          obtain ⟨o32, po32, q32, d32, gd32⟩ : ∃ o, ops[32]? = some o ∧ o.op = .indexAddr 88 (.tmp 1) (.tmp 15) ∧ o.dst = some 42 ∧ o.guard = none := ⟨_, by rw [hops]; rfl, rfl, rfl, rfl⟩
          obtain ⟨o33, po33, q33, d33, gd33⟩ : ∃ o, ops[33]? = some o ∧ o.op = .store 49 (.tmp 42) (.tmp 38) ∧ o.dst = none ∧ o.guard = none := ⟨_, by rw [hops]; rfl, rfl, rfl, rfl⟩
          obtain ⟨o34, po34, q34, d34, gd34⟩ : ∃ o, ops[34]? = some o ∧ o.op = .indexAddr 88 (.tmp 1) (.tmp 17) ∧ o.dst = some 43 ∧ o.guard = none := ⟨_, by rw [hops]; rfl, rfl, rfl, rfl⟩
          obtain ⟨o35, po35, q35, d35, gd35⟩ : ∃ o, ops[35]? = some o ∧ o.op = .store 49 (.tmp 43) (.tmp 39) ∧ o.dst = none ∧ o.guard = none := ⟨_, by rw [hops]; rfl, rfl, rfl, rfl⟩
          obtain ⟨o36, po36, q36, d36, gd36⟩ : ∃ o, ops[36]? = some o ∧ o.op = .indexAddr 88 (.tmp 1) (.tmp 19) ∧ o.dst = some 44 ∧ o.guard = none := ⟨_, by rw [hops]; rfl, rfl, rfl, rfl⟩
          obtain ⟨o37, po37, q37, d37, gd37⟩ : ∃ o, ops[37]? = some o ∧ o.op = .store 49 (.tmp 44) (.tmp 40) ∧ o.dst = none ∧ o.guard = none := ⟨_, by rw [hops]; rfl, rfl, rfl, rfl⟩
          clear hops
          refine met_free po0 d0 (wanted_of gd0) (fun w' _ => run_ix4 q0 base4 (show _ = Value.int .i64 ((0 : Nat) : Int) from rfl) (by decide) w') ?_
          refine met_free po1 d1 (wanted_of gd1) (fun w' h' => run_loadInt q1 (eval_same _ _ _ (by rw [hsz]; decide)) h'.c0) ?_
          refine met_free po2 d2 (wanted_of gd2) (fun w' _ => run_ix4 q2 ((eval_other _ 13 4 _ (by decide)).trans ((eval_other _ 12 4 _ (by decide)).trans base4)) (show _ = Value.int .i64 ((1 : Nat) : Int) from rfl) (by decide) w') ?_
          refine met_free po3 d3 (wanted_of gd3) (fun w' h' => run_loadInt q3 (eval_same _ _ _ (by simp only [put_size, hsz]; decide)) h'.c1) ?_
          refine met_free po4 d4 (wanted_of gd4) (fun w' _ => run_ix4 q4 ((eval_other _ 15 4 _ (by decide)).trans ((eval_other _ 14 4 _ (by decide)).trans ((eval_other _ 13 4 _ (by decide)).trans ((eval_other _ 12 4 _ (by decide)).trans base4)))) (show _ = Value.int .i64 ((2 : Nat) : Int) from rfl) (by decide) w') ?_
          refine met_free po5 d5 (wanted_of gd5) (fun w' h' => run_loadInt q5 (eval_same _ _ _ (by simp only [put_size, hsz]; decide)) h'.c2) ?_
          refine met_free po6 d6 (wanted_of gd6) (fun w' _ => run_ix4 q6 ((eval_other _ 17 4 _ (by decide)).trans ((eval_other _ 16 4 _ (by decide)).trans ((eval_other _ 15 4 _ (by decide)).trans ((eval_other _ 14 4 _ (by decide)).trans ((eval_other _ 13 4 _ (by decide)).trans ((eval_other _ 12 4 _ (by decide)).trans base4)))))) (show _ = Value.int .i64 ((3 : Nat) : Int) from rfl) (by decide) w') ?_
          refine met_free po7 d7 (wanted_of gd7) (fun w' h' => run_loadInt q7 (eval_same _ _ _ (by simp only [put_size, hsz]; decide)) h'.c3) ?_
          refine met_free po8 d8 (wanted_of gd8) (fun w' _ => run_ix4 q8 ((eval_other _ 19 4 _ (by decide)).trans ((eval_other _ 18 4 _ (by decide)).trans ((eval_other _ 17 4 _ (by decide)).trans ((eval_other _ 16 4 _ (by decide)).trans ((eval_other _ 15 4 _ (by decide)).trans ((eval_other _ 14 4 _ (by decide)).trans ((eval_other _ 13 4 _ (by decide)).trans ((eval_other _ 12 4 _ (by decide)).trans base4)))))))) (show _ = Value.int .i64 ((0 : Nat) : Int) from rfl) (by decide) w') ?_
          refine met_free po9 d9 (wanted_of gd9) (fun w' h' => run_loadInt q9 (eval_same _ _ _ (by simp only [put_size, hsz]; decide)) h'.c0) ?_
          refine met_free po10 d10 (wanted_of gd10) (fun w' _ => run_ix16 q10 ((eval_other _ 21 1 _ (by decide)).trans ((eval_other _ 20 1 _ (by decide)).trans ((eval_other _ 19 1 _ (by decide)).trans ((eval_other _ 18 1 _ (by decide)).trans ((eval_other _ 17 1 _ (by decide)).trans ((eval_other _ 16 1 _ (by decide)).trans ((eval_other _ 15 1 _ (by decide)).trans ((eval_other _ 14 1 _ (by decide)).trans ((eval_other _ 13 1 _ (by decide)).trans ((eval_other _ 12 1 _ (by decide)).trans base1)))))))))) (eval_same _ _ _ (by simp only [put_size, hsz]; decide)) HI0.out w') ?_
          refine met_early po11 d11 (wanted_of gd11) (fun w' _ h' => run_load32 q11 (eval_same _ _ _ (by simp only [put_size, hsz]; decide)) (h'.cell i0 (by rw [HQL.out]; exact HI0.out))) ?_
          refine met_free po12 d12 (wanted_of gd12) (fun w' _ => run_ix4 q12 ((eval_other _ 23 4 _ (by decide)).trans ((eval_other _ 22 4 _ (by decide)).trans ((eval_other _ 21 4 _ (by decide)).trans ((eval_other _ 20 4 _ (by decide)).trans ((eval_other _ 19 4 _ (by decide)).trans ((eval_other _ 18 4 _ (by decide)).trans ((eval_other _ 17 4 _ (by decide)).trans ((eval_other _ 16 4 _ (by decide)).trans ((eval_other _ 15 4 _ (by decide)).trans ((eval_other _ 14 4 _ (by decide)).trans ((eval_other _ 13 4 _ (by decide)).trans ((eval_other _ 12 4 _ (by decide)).trans base4)))))))))))) (show _ = Value.int .i64 ((1 : Nat) : Int) from rfl) (by decide) w') ?_
          refine met_free po13 d13 (wanted_of gd13) (fun w' h' => run_loadInt q13 (eval_same _ _ _ (by simp only [put_size, hsz]; decide)) h'.c1) ?_
          refine met_free po14 d14 (wanted_of gd14) (fun w' _ => run_ix16 q14 ((eval_other _ 25 1 _ (by decide)).trans ((eval_other _ 24 1 _ (by decide)).trans ((eval_other _ 23 1 _ (by decide)).trans ((eval_other _ 22 1 _ (by decide)).trans ((eval_other _ 21 1 _ (by decide)).trans ((eval_other _ 20 1 _ (by decide)).trans ((eval_other _ 19 1 _ (by decide)).trans ((eval_other _ 18 1 _ (by decide)).trans ((eval_other _ 17 1 _ (by decide)).trans ((eval_other _ 16 1 _ (by decide)).trans ((eval_other _ 15 1 _ (by decide)).trans ((eval_other _ 14 1 _ (by decide)).trans ((eval_other _ 13 1 _ (by decide)).trans ((eval_other _ 12 1 _ (by decide)).trans base1)))))))))))))) (eval_same _ _ _ (by simp only [put_size, hsz]; decide)) HI1.out w') ?_
          refine met_early po15 d15 (wanted_of gd15) (fun w' _ h' => run_load32 q15 (eval_same _ _ _ (by simp only [put_size, hsz]; decide)) (h'.cell i1 (by rw [HQL.out]; exact HI1.out))) ?_
          refine met_free po16 d16 (wanted_of gd16) (fun w' _ => run_ix4 q16 ((eval_other _ 27 4 _ (by decide)).trans ((eval_other _ 26 4 _ (by decide)).trans ((eval_other _ 25 4 _ (by decide)).trans ((eval_other _ 24 4 _ (by decide)).trans ((eval_other _ 23 4 _ (by decide)).trans ((eval_other _ 22 4 _ (by decide)).trans ((eval_other _ 21 4 _ (by decide)).trans ((eval_other _ 20 4 _ (by decide)).trans ((eval_other _ 19 4 _ (by decide)).trans ((eval_other _ 18 4 _ (by decide)).trans ((eval_other _ 17 4 _ (by decide)).trans ((eval_other _ 16 4 _ (by decide)).trans ((eval_other _ 15 4 _ (by decide)).trans ((eval_other _ 14 4 _ (by decide)).trans ((eval_other _ 13 4 _ (by decide)).trans ((eval_other _ 12 4 _ (by decide)).trans base4)))))))))))))))) (show _ = Value.int .i64 ((2 : Nat) : Int) from rfl) (by decide) w') ?_
          refine met_free po17 d17 (wanted_of gd17) (fun w' h' => run_loadInt q17 (eval_same _ _ _ (by simp only [put_size, hsz]; decide)) h'.c2) ?_
          refine met_free po18 d18 (wanted_of gd18) (fun w' _ => run_ix16 q18 ((eval_other _ 29 1 _ (by decide)).trans ((eval_other _ 28 1 _ (by decide)).trans ((eval_other _ 27 1 _ (by decide)).trans ((eval_other _ 26 1 _ (by decide)).trans ((eval_other _ 25 1 _ (by decide)).trans ((eval_other _ 24 1 _ (by decide)).trans ((eval_other _ 23 1 _ (by decide)).trans ((eval_other _ 22 1 _ (by decide)).trans ((eval_other _ 21 1 _ (by decide)).trans ((eval_other _ 20 1 _ (by decide)).trans ((eval_other _ 19 1 _ (by decide)).trans ((eval_other _ 18 1 _ (by decide)).trans ((eval_other _ 17 1 _ (by decide)).trans ((eval_other _ 16 1 _ (by decide)).trans ((eval_other _ 15 1 _ (by decide)).trans ((eval_other _ 14 1 _ (by decide)).trans ((eval_other _ 13 1 _ (by decide)).trans ((eval_other _ 12 1 _ (by decide)).trans base1)))))))))))))))))) (eval_same _ _ _ (by simp only [put_size, hsz]; decide)) HI2.out w') ?_
          refine met_early po19 d19 (wanted_of gd19) (fun w' _ h' => run_load32 q19 (eval_same _ _ _ (by simp only [put_size, hsz]; decide)) (h'.cell i2 (by rw [HQL.out]; exact HI2.out))) ?_
          refine met_free po20 d20 (wanted_of gd20) (fun w' _ => run_ix4 q20 ((eval_other _ 31 4 _ (by decide)).trans ((eval_other _ 30 4 _ (by decide)).trans ((eval_other _ 29 4 _ (by decide)).trans ((eval_other _ 28 4 _ (by decide)).trans ((eval_other _ 27 4 _ (by decide)).trans ((eval_other _ 26 4 _ (by decide)).trans ((eval_other _ 25 4 _ (by decide)).trans ((eval_other _ 24 4 _ (by decide)).trans ((eval_other _ 23 4 _ (by decide)).trans ((eval_other _ 22 4 _ (by decide)).trans ((eval_other _ 21 4 _ (by decide)).trans ((eval_other _ 20 4 _ (by decide)).trans ((eval_other _ 19 4 _ (by decide)).trans ((eval_other _ 18 4 _ (by decide)).trans ((eval_other _ 17 4 _ (by decide)).trans ((eval_other _ 16 4 _ (by decide)).trans ((eval_other _ 15 4 _ (by decide)).trans ((eval_other _ 14 4 _ (by decide)).trans ((eval_other _ 13 4 _ (by decide)).trans ((eval_other _ 12 4 _ (by decide)).trans base4)))))))))))))))))))) (show _ = Value.int .i64 ((3 : Nat) : Int) from rfl) (by decide) w') ?_
          refine met_free po21 d21 (wanted_of gd21) (fun w' h' => run_loadInt q21 (eval_same _ _ _ (by simp only [put_size, hsz]; decide)) h'.c3) ?_
          refine met_free po22 d22 (wanted_of gd22) (fun w' _ => run_ix16 q22 ((eval_other _ 33 1 _ (by decide)).trans ((eval_other _ 32 1 _ (by decide)).trans ((eval_other _ 31 1 _ (by decide)).trans ((eval_other _ 30 1 _ (by decide)).trans ((eval_other _ 29 1 _ (by decide)).trans ((eval_other _ 28 1 _ (by decide)).trans ((eval_other _ 27 1 _ (by decide)).trans ((eval_other _ 26 1 _ (by decide)).trans ((eval_other _ 25 1 _ (by decide)).trans ((eval_other _ 24 1 _ (by decide)).trans ((eval_other _ 23 1 _ (by decide)).trans ((eval_other _ 22 1 _ (by decide)).trans ((eval_other _ 21 1 _ (by decide)).trans ((eval_other _ 20 1 _ (by decide)).trans ((eval_other _ 19 1 _ (by decide)).trans ((eval_other _ 18 1 _ (by decide)).trans ((eval_other _ 17 1 _ (by decide)).trans ((eval_other _ 16 1 _ (by decide)).trans ((eval_other _ 15 1 _ (by decide)).trans ((eval_other _ 14 1 _ (by decide)).trans ((eval_other _ 13 1 _ (by decide)).trans ((eval_other _ 12 1 _ (by decide)).trans base1)))))))))))))))))))))) (eval_same _ _ _ (by simp only [put_size, hsz]; decide)) HI3.out w') ?_
          refine met_early po23 d23 (wanted_of gd23) (fun w' _ h' => run_load32 q23 (eval_same _ _ _ (by simp only [put_size, hsz]; decide)) (h'.cell i3 (by rw [HQL.out]; exact HI3.out))) ?_
          refine met_quiet po24 d24 (wanted_of gd24) (run_callf4 q24 rfl ((eval_other _ 35 23 _ (by decide)).trans ((eval_other _ 34 23 _ (by decide)).trans ((eval_other _ 33 23 _ (by decide)).trans ((eval_other _ 32 23 _ (by decide)).trans ((eval_other _ 31 23 _ (by decide)).trans ((eval_other _ 30 23 _ (by decide)).trans ((eval_other _ 29 23 _ (by decide)).trans ((eval_other _ 28 23 _ (by decide)).trans ((eval_other _ 27 23 _ (by decide)).trans ((eval_other _ 26 23 _ (by decide)).trans ((eval_other _ 25 23 _ (by decide)).trans ((eval_other _ 24 23 _ (by decide)).trans (eval_same _ _ _ (by simp only [put_size, hsz]; decide)))))))))))))) ((eval_other _ 35 27 _ (by decide)).trans ((eval_other _ 34 27 _ (by decide)).trans ((eval_other _ 33 27 _ (by decide)).trans ((eval_other _ 32 27 _ (by decide)).trans ((eval_other _ 31 27 _ (by decide)).trans ((eval_other _ 30 27 _ (by decide)).trans ((eval_other _ 29 27 _ (by decide)).trans ((eval_other _ 28 27 _ (by decide)).trans (eval_same _ _ _ (by simp only [put_size, hsz]; decide)))))))))) ((eval_other _ 35 31 _ (by decide)).trans ((eval_other _ 34 31 _ (by decide)).trans ((eval_other _ 33 31 _ (by decide)).trans ((eval_other _ 32 31 _ (by decide)).trans (eval_same _ _ _ (by simp only [put_size, hsz]; decide)))))) (eval_same _ _ _ (by simp only [put_size, hsz]; decide)) Tryd.func64 (by kernel_rfl) _) (quarter_any (fourAt L i0 i1 i2 i3) _) HQ6.out HM6.out.row ?_
          refine met_free po25 d25 (wanted_of gd25) (fun w' _ => run_move q25 (eval_same _ _ _ (by simp only [put_size, hsz]; decide)) w') ?_
          refine met_free po26 d26 (wanted_of gd26) (fun w' _ => run_extract q26 (eval_same _ _ _ (by simp only [put_size, hsz]; decide)) rfl w') ?_
          refine met_free po27 d27 (wanted_of gd27) (fun w' _ => run_extract q27 ((eval_other _ 37 11 _ (by decide)).trans (eval_same _ _ _ (by simp only [put_size, hsz]; decide))) rfl w') ?_
          refine met_free po28 d28 (wanted_of gd28) (fun w' _ => run_extract q28 ((eval_other _ 38 11 _ (by decide)).trans ((eval_other _ 37 11 _ (by decide)).trans (eval_same _ _ _ (by simp only [put_size, hsz]; decide)))) rfl w') ?_
          refine met_free po29 d29 (wanted_of gd29) (fun w' _ => run_extract q29 ((eval_other _ 39 11 _ (by decide)).trans ((eval_other _ 38 11 _ (by decide)).trans ((eval_other _ 37 11 _ (by decide)).trans (eval_same _ _ _ (by simp only [put_size, hsz]; decide))))) rfl w') ?_
          refine met_free po30 d30 (wanted_of gd30) (fun w' _ => run_ix16 q30 ((eval_other _ 40 1 _ (by decide)).trans ((eval_other _ 39 1 _ (by decide)).trans ((eval_other _ 38 1 _ (by decide)).trans ((eval_other _ 37 1 _ (by decide)).trans ((eval_other _ 11 1 _ (by decide)).trans ((eval_other _ 36 1 _ (by decide)).trans ((eval_other _ 35 1 _ (by decide)).trans ((eval_other _ 34 1 _ (by decide)).trans ((eval_other _ 33 1 _ (by decide)).trans ((eval_other _ 32 1 _ (by decide)).trans ((eval_other _ 31 1 _ (by decide)).trans ((eval_other _ 30 1 _ (by decide)).trans ((eval_other _ 29 1 _ (by decide)).trans ((eval_other _ 28 1 _ (by decide)).trans ((eval_other _ 27 1 _ (by decide)).trans ((eval_other _ 26 1 _ (by decide)).trans ((eval_other _ 25 1 _ (by decide)).trans ((eval_other _ 24 1 _ (by decide)).trans ((eval_other _ 23 1 _ (by decide)).trans ((eval_other _ 22 1 _ (by decide)).trans ((eval_other _ 21 1 _ (by decide)).trans ((eval_other _ 20 1 _ (by decide)).trans ((eval_other _ 19 1 _ (by decide)).trans ((eval_other _ 18 1 _ (by decide)).trans ((eval_other _ 17 1 _ (by decide)).trans ((eval_other _ 16 1 _ (by decide)).trans ((eval_other _ 15 1 _ (by decide)).trans ((eval_other _ 14 1 _ (by decide)).trans ((eval_other _ 13 1 _ (by decide)).trans ((eval_other _ 12 1 _ (by decide)).trans base1)))))))))))))))))))))))))))))) ((eval_other _ 40 13 _ (by decide)).trans ((eval_other _ 39 13 _ (by decide)).trans ((eval_other _ 38 13 _ (by decide)).trans ((eval_other _ 37 13 _ (by decide)).trans ((eval_other _ 11 13 _ (by decide)).trans ((eval_other _ 36 13 _ (by decide)).trans ((eval_other _ 35 13 _ (by decide)).trans ((eval_other _ 34 13 _ (by decide)).trans ((eval_other _ 33 13 _ (by decide)).trans ((eval_other _ 32 13 _ (by decide)).trans ((eval_other _ 31 13 _ (by decide)).trans ((eval_other _ 30 13 _ (by decide)).trans ((eval_other _ 29 13 _ (by decide)).trans ((eval_other _ 28 13 _ (by decide)).trans ((eval_other _ 27 13 _ (by decide)).trans ((eval_other _ 26 13 _ (by decide)).trans ((eval_other _ 25 13 _ (by decide)).trans ((eval_other _ 24 13 _ (by decide)).trans ((eval_other _ 23 13 _ (by decide)).trans ((eval_other _ 22 13 _ (by decide)).trans ((eval_other _ 21 13 _ (by decide)).trans ((eval_other _ 20 13 _ (by decide)).trans ((eval_other _ 19 13 _ (by decide)).trans ((eval_other _ 18 13 _ (by decide)).trans ((eval_other _ 17 13 _ (by decide)).trans ((eval_other _ 16 13 _ (by decide)).trans ((eval_other _ 15 13 _ (by decide)).trans ((eval_other _ 14 13 _ (by decide)).trans (eval_same _ _ _ (by simp only [put_size, hsz]; decide)))))))))))))))))))))))))))))) HI0.out w') ?_
          have cu0 := HM6.out.row.cell i0 (by simp only [HQL.out]; exact HI0.out)
          have HM1 := Lib.hid (HM6.out.set i0 (qA2 (fourAt L i0 i1 i2 i3)))
          refine met_skip po31 d31 (wanted_of gd31) (run_store32 q31 (eval_same _ _ _ (by simp only [put_size, hsz]; decide)) ((eval_other _ 41 37 _ (by decide)).trans ((eval_other _ 40 37 _ (by decide)).trans ((eval_other _ 39 37 _ (by decide)).trans ((eval_other _ 38 37 _ (by decide)).trans (eval_same _ _ _ (by simp only [put_size, hsz]; decide)))))) cu0 (HM6.out.row.frozen i0)) (QuadAt.set HQ6.out HNE.out _ _) ?_
          refine met_free po32 d32 (wanted_of gd32) (fun w' _ => run_ix16 q32 ((eval_none _ _ 1).trans ((eval_other _ 41 1 _ (by decide)).trans ((eval_other _ 40 1 _ (by decide)).trans ((eval_other _ 39 1 _ (by decide)).trans ((eval_other _ 38 1 _ (by decide)).trans ((eval_other _ 37 1 _ (by decide)).trans ((eval_other _ 11 1 _ (by decide)).trans ((eval_other _ 36 1 _ (by decide)).trans ((eval_other _ 35 1 _ (by decide)).trans ((eval_other _ 34 1 _ (by decide)).trans ((eval_other _ 33 1 _ (by decide)).trans ((eval_other _ 32 1 _ (by decide)).trans ((eval_other _ 31 1 _ (by decide)).trans ((eval_other _ 30 1 _ (by decide)).trans ((eval_other _ 29 1 _ (by decide)).trans ((eval_other _ 28 1 _ (by decide)).trans ((eval_other _ 27 1 _ (by decide)).trans ((eval_other _ 26 1 _ (by decide)).trans ((eval_other _ 25 1 _ (by decide)).trans ((eval_other _ 24 1 _ (by decide)).trans ((eval_other _ 23 1 _ (by decide)).trans ((eval_other _ 22 1 _ (by decide)).trans ((eval_other _ 21 1 _ (by decide)).trans ((eval_other _ 20 1 _ (by decide)).trans ((eval_other _ 19 1 _ (by decide)).trans ((eval_other _ 18 1 _ (by decide)).trans ((eval_other _ 17 1 _ (by decide)).trans ((eval_other _ 16 1 _ (by decide)).trans ((eval_other _ 15 1 _ (by decide)).trans ((eval_other _ 14 1 _ (by decide)).trans ((eval_other _ 13 1 _ (by decide)).trans ((eval_other _ 12 1 _ (by decide)).trans base1)))))))))))))))))))))))))))))))) ((eval_none _ _ 15).trans ((eval_other _ 41 15 _ (by decide)).trans ((eval_other _ 40 15 _ (by decide)).trans ((eval_other _ 39 15 _ (by decide)).trans ((eval_other _ 38 15 _ (by decide)).trans ((eval_other _ 37 15 _ (by decide)).trans ((eval_other _ 11 15 _ (by decide)).trans ((eval_other _ 36 15 _ (by decide)).trans ((eval_other _ 35 15 _ (by decide)).trans ((eval_other _ 34 15 _ (by decide)).trans ((eval_other _ 33 15 _ (by decide)).trans ((eval_other _ 32 15 _ (by decide)).trans ((eval_other _ 31 15 _ (by decide)).trans ((eval_other _ 30 15 _ (by decide)).trans ((eval_other _ 29 15 _ (by decide)).trans ((eval_other _ 28 15 _ (by decide)).trans ((eval_other _ 27 15 _ (by decide)).trans ((eval_other _ 26 15 _ (by decide)).trans ((eval_other _ 25 15 _ (by decide)).trans ((eval_other _ 24 15 _ (by decide)).trans ((eval_other _ 23 15 _ (by decide)).trans ((eval_other _ 22 15 _ (by decide)).trans ((eval_other _ 21 15 _ (by decide)).trans ((eval_other _ 20 15 _ (by decide)).trans ((eval_other _ 19 15 _ (by decide)).trans ((eval_other _ 18 15 _ (by decide)).trans ((eval_other _ 17 15 _ (by decide)).trans ((eval_other _ 16 15 _ (by decide)).trans (eval_same _ _ _ (by simp only [put_size, hsz]; decide)))))))))))))))))))))))))))))) HI1.out w') ?_
          have cu1 := HM1.out.row.cell i1 (by simp only [List.length_set, HQL.out]; exact HI1.out)
          have HM2 := Lib.hid (HM1.out.set i1 (qB2 (fourAt L i0 i1 i2 i3)))
          refine met_skip po33 d33 (wanted_of gd33) (run_store32 q33 (eval_same _ _ _ (by simp only [put_none, put_size, hsz]; decide)) ((eval_other _ 42 38 _ (by decide)).trans ((eval_none _ _ 38).trans ((eval_other _ 41 38 _ (by decide)).trans ((eval_other _ 40 38 _ (by decide)).trans ((eval_other _ 39 38 _ (by decide)).trans (eval_same _ _ _ (by simp only [put_size, hsz]; decide))))))) cu1 (HM1.out.row.frozen i1)) (QuadAt.set (QuadAt.set HQ6.out HNE.out _ _) HNE.out _ _) ?_
          refine met_free po34 d34 (wanted_of gd34) (fun w' _ => run_ix16 q34 ((eval_none _ _ 1).trans ((eval_other _ 42 1 _ (by decide)).trans ((eval_none _ _ 1).trans ((eval_other _ 41 1 _ (by decide)).trans ((eval_other _ 40 1 _ (by decide)).trans ((eval_other _ 39 1 _ (by decide)).trans ((eval_other _ 38 1 _ (by decide)).trans ((eval_other _ 37 1 _ (by decide)).trans ((eval_other _ 11 1 _ (by decide)).trans ((eval_other _ 36 1 _ (by decide)).trans ((eval_other _ 35 1 _ (by decide)).trans ((eval_other _ 34 1 _ (by decide)).trans ((eval_other _ 33 1 _ (by decide)).trans ((eval_other _ 32 1 _ (by decide)).trans ((eval_other _ 31 1 _ (by decide)).trans ((eval_other _ 30 1 _ (by decide)).trans ((eval_other _ 29 1 _ (by decide)).trans ((eval_other _ 28 1 _ (by decide)).trans ((eval_other _ 27 1 _ (by decide)).trans ((eval_other _ 26 1 _ (by decide)).trans ((eval_other _ 25 1 _ (by decide)).trans ((eval_other _ 24 1 _ (by decide)).trans ((eval_other _ 23 1 _ (by decide)).trans ((eval_other _ 22 1 _ (by decide)).trans ((eval_other _ 21 1 _ (by decide)).trans ((eval_other _ 20 1 _ (by decide)).trans ((eval_other _ 19 1 _ (by decide)).trans ((eval_other _ 18 1 _ (by decide)).trans ((eval_other _ 17 1 _ (by decide)).trans ((eval_other _ 16 1 _ (by decide)).trans ((eval_other _ 15 1 _ (by decide)).trans ((eval_other _ 14 1 _ (by decide)).trans ((eval_other _ 13 1 _ (by decide)).trans ((eval_other _ 12 1 _ (by decide)).trans base1)))))))))))))))))))))))))))))))))) ((eval_none _ _ 17).trans ((eval_other _ 42 17 _ (by decide)).trans ((eval_none _ _ 17).trans ((eval_other _ 41 17 _ (by decide)).trans ((eval_other _ 40 17 _ (by decide)).trans ((eval_other _ 39 17 _ (by decide)).trans ((eval_other _ 38 17 _ (by decide)).trans ((eval_other _ 37 17 _ (by decide)).trans ((eval_other _ 11 17 _ (by decide)).trans ((eval_other _ 36 17 _ (by decide)).trans ((eval_other _ 35 17 _ (by decide)).trans ((eval_other _ 34 17 _ (by decide)).trans ((eval_other _ 33 17 _ (by decide)).trans ((eval_other _ 32 17 _ (by decide)).trans ((eval_other _ 31 17 _ (by decide)).trans ((eval_other _ 30 17 _ (by decide)).trans ((eval_other _ 29 17 _ (by decide)).trans ((eval_other _ 28 17 _ (by decide)).trans ((eval_other _ 27 17 _ (by decide)).trans ((eval_other _ 26 17 _ (by decide)).trans ((eval_other _ 25 17 _ (by decide)).trans ((eval_other _ 24 17 _ (by decide)).trans ((eval_other _ 23 17 _ (by decide)).trans ((eval_other _ 22 17 _ (by decide)).trans ((eval_other _ 21 17 _ (by decide)).trans ((eval_other _ 20 17 _ (by decide)).trans ((eval_other _ 19 17 _ (by decide)).trans ((eval_other _ 18 17 _ (by decide)).trans (eval_same _ _ _ (by simp only [put_size, hsz]; decide)))))))))))))))))))))))))))))) HI2.out w') ?_
          have cu2 := HM2.out.row.cell i2 (by simp only [List.length_set, HQL.out]; exact HI2.out)
          have HM3 := Lib.hid (HM2.out.set i2 (qC2 (fourAt L i0 i1 i2 i3)))
          refine met_skip po35 d35 (wanted_of gd35) (run_store32 q35 (eval_same _ _ _ (by simp only [put_none, put_size, hsz]; decide)) ((eval_other _ 43 39 _ (by decide)).trans ((eval_none _ _ 39).trans ((eval_other _ 42 39 _ (by decide)).trans ((eval_none _ _ 39).trans ((eval_other _ 41 39 _ (by decide)).trans ((eval_other _ 40 39 _ (by decide)).trans (eval_same _ _ _ (by simp only [put_size, hsz]; decide)))))))) cu2 (HM2.out.row.frozen i2)) (QuadAt.set (QuadAt.set (QuadAt.set HQ6.out HNE.out _ _) HNE.out _ _) HNE.out _ _) ?_
          refine met_free po36 d36 (wanted_of gd36) (fun w' _ => run_ix16 q36 ((eval_none _ _ 1).trans ((eval_other _ 43 1 _ (by decide)).trans ((eval_none _ _ 1).trans ((eval_other _ 42 1 _ (by decide)).trans ((eval_none _ _ 1).trans ((eval_other _ 41 1 _ (by decide)).trans ((eval_other _ 40 1 _ (by decide)).trans ((eval_other _ 39 1 _ (by decide)).trans ((eval_other _ 38 1 _ (by decide)).trans ((eval_other _ 37 1 _ (by decide)).trans ((eval_other _ 11 1 _ (by decide)).trans ((eval_other _ 36 1 _ (by decide)).trans ((eval_other _ 35 1 _ (by decide)).trans ((eval_other _ 34 1 _ (by decide)).trans ((eval_other _ 33 1 _ (by decide)).trans ((eval_other _ 32 1 _ (by decide)).trans ((eval_other _ 31 1 _ (by decide)).trans ((eval_other _ 30 1 _ (by decide)).trans ((eval_other _ 29 1 _ (by decide)).trans ((eval_other _ 28 1 _ (by decide)).trans ((eval_other _ 27 1 _ (by decide)).trans ((eval_other _ 26 1 _ (by decide)).trans ((eval_other _ 25 1 _ (by decide)).trans ((eval_other _ 24 1 _ (by decide)).trans ((eval_other _ 23 1 _ (by decide)).trans ((eval_other _ 22 1 _ (by decide)).trans ((eval_other _ 21 1 _ (by decide)).trans ((eval_other _ 20 1 _ (by decide)).trans ((eval_other _ 19 1 _ (by decide)).trans ((eval_other _ 18 1 _ (by decide)).trans ((eval_other _ 17 1 _ (by decide)).trans ((eval_other _ 16 1 _ (by decide)).trans ((eval_other _ 15 1 _ (by decide)).trans ((eval_other _ 14 1 _ (by decide)).trans ((eval_other _ 13 1 _ (by decide)).trans ((eval_other _ 12 1 _ (by decide)).trans base1)))))))))))))))))))))))))))))))))))) ((eval_none _ _ 19).trans ((eval_other _ 43 19 _ (by decide)).trans ((eval_none _ _ 19).trans ((eval_other _ 42 19 _ (by decide)).trans ((eval_none _ _ 19).trans ((eval_other _ 41 19 _ (by decide)).trans ((eval_other _ 40 19 _ (by decide)).trans ((eval_other _ 39 19 _ (by decide)).trans ((eval_other _ 38 19 _ (by decide)).trans ((eval_other _ 37 19 _ (by decide)).trans ((eval_other _ 11 19 _ (by decide)).trans ((eval_other _ 36 19 _ (by decide)).trans ((eval_other _ 35 19 _ (by decide)).trans ((eval_other _ 34 19 _ (by decide)).trans ((eval_other _ 33 19 _ (by decide)).trans ((eval_other _ 32 19 _ (by decide)).trans ((eval_other _ 31 19 _ (by decide)).trans ((eval_other _ 30 19 _ (by decide)).trans ((eval_other _ 29 19 _ (by decide)).trans ((eval_other _ 28 19 _ (by decide)).trans ((eval_other _ 27 19 _ (by decide)).trans ((eval_other _ 26 19 _ (by decide)).trans ((eval_other _ 25 19 _ (by decide)).trans ((eval_other _ 24 19 _ (by decide)).trans ((eval_other _ 23 19 _ (by decide)).trans ((eval_other _ 22 19 _ (by decide)).trans ((eval_other _ 21 19 _ (by decide)).trans ((eval_other _ 20 19 _ (by decide)).trans (eval_same _ _ _ (by simp only [put_size, hsz]; decide)))))))))))))))))))))))))))))) HI3.out w') ?_
          have cu3 := HM3.out.row.cell i3 (by simp only [List.length_set, HQL.out]; exact HI3.out)
          have HM4 := Lib.hid (HM3.out.set i3 (qD2 (fourAt L i0 i1 i2 i3)))
          refine met_skip po37 d37 (wanted_of gd37) (run_store32 q37 (eval_same _ _ _ (by simp only [put_none, put_size, hsz]; decide)) ((eval_other _ 44 40 _ (by decide)).trans ((eval_none _ _ 40).trans ((eval_other _ 43 40 _ (by decide)).trans ((eval_none _ _ 40).trans ((eval_other _ 42 40 _ (by decide)).trans ((eval_none _ _ 40).trans ((eval_other _ 41 40 _ (by decide)).trans (eval_same _ _ _ (by simp only [put_size, hsz]; decide))))))))) cu3 (HM3.out.row.frozen i3)) (QuadAt.set (QuadAt.set (QuadAt.set (QuadAt.set HQ6.out HNE.out _ _) HNE.out _ _) HNE.out _ _) HNE.out _ _) ?_

          show NoPanic _ .normal _ _
          refine NoPanic.normal ?_
          rw [HAA.out]
          have HEND := HM4
          rw [← stepQ_eq, ← HQS.out] at HEND
          clear HQ6 HM6 HM1 HM2 HM3 HM4
          generalize (((w6.drew.setCell _ _).setCell _ _).setCell _ _).setCell _ _ = w7 at HEND ⊢
          go_frame
          go_wp2_with fail
          go_roundw
          case rel => exact ⟨k + 1, by omega, by go_num, HEND.out⟩
          case measure => simp [intOf]; omega
        · have HK8 : Hid (k = 8) := show k = 8 by omega
          have HWI2 : Hid (MixS w (doubles m (n + 1)) wr) := show _ by rw [HDN.out, ← HK8.out]; exact HWI.out
          clear HWI
          go_wp2_with fail
          go_roundw
          case rel => exact ⟨n + 1, by omega, by go_num, HWI2.out⟩
          case measure => simp [intOf]; omega
    · have HN : Hid (n = 10) := show n = 10 by omega
      rw [HN.out] at HW
      have HLN := Lib.hid (HDL.out 10)
      generalize hLm : doubles m 10 = L at HW HLN
      have HLM := Lib.hid hLm; clear hLm
      have HI := Lib.hid (info16 L HLN.out)
      have HOLD := Lib.hid (show (wordsV (List.replicate 16 0#32)).toArray.size = (wordsV L).toArray.size by rw [wordsV_size _ 16 HLN.out]; rfl)
      have HONE := Lib.hid (wordsV_one L)
      have HROW := Lib.hid HW.out.row
      have HRES := Lib.hid HW.out.res
      have HB5 := Lib.hid HW.out.below
      clear HW
      generalize hfe : (wordsV L).toArray = full at HI HOLD HONE ⊢
      have HFE := Lib.hid hfe; clear hfe
      have HROW2 : Hid (wr.heap[w.heap.size]? = some (.cells full 88 (0, 0))) := show _ = _ by rw [← HFE.out]; exact HROW.out
      go_wp2_with (first
        | (refine wpList_load_row rfl 88 (.tmp 1) rfl w.heap.size rfl 88 full (0, 0) _ HROW2.out Tryd.underlying88 rfl HI.out ?_)
        | (refine wpList_store_row rfl 88 (.tmp 2) (.tmp 47) rfl (w.heap.size + 1) full rfl rfl 88 _ HRES.out HI.out HOLD.out HONE.out ?_))
      have hrow := setRow_heap wr (w.heap.size + 1) _ full 88 _ HRES.out
      have hbel := below_setRow HB5.out (show w.heap.size ≤ w.heap.size + 1 by omega) full
      generalize wr.setRow (w.heap.size + 1) full = wz at hrow hbel ⊢
      have hres : ∀ tmps : Array Value, tmps.getD 2 undef = .pointer (some ⟨w.heap.size + 1, 0, none⟩) → Sem.run Tryd.prog (results Tryd.f56 tmps) wz = .ok (.agg full) wz := fun tmps h =>
        results_cell_row (P := Tryd.prog) (p := 2) (ty := 88) Tryd.results56 tmps wz (w.heap.size + 1) 88 full (0, 0) (TypeDesc.array 16 49) h hrow Tryd.underlying88 rfl HI.out
      exact bodyPost_ret (v := .agg full) (hres _ rfl) rfl ⟨by rw [HLM.out, HFE.out], hbel⟩
end Go.Proofs.YtagkkihnfipfeaaDoor
