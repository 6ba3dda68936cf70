/-
  What other texts lean on: DkModel, DkAt, DkExec, DkCut, DkRun, DkOps, DkCalls.
-/
import Derived.Test.YtgeacocdnenhdaaDoorPkA
import Derived.Lib.SliceRun
import Derived.Deep.DeepCutAuto
/-
  A disk as plain data: its files, each with how many of its bytes last; its room; how many operations were done; whether the power is off; how many operations go well ahead of the one that is struck (below nought: none is). What each call makes of it.
-/
namespace Go.Proofs.YtgeacocdnenhdaaDoor
open Go.Proofs.ShaWords
/-- A file: its bytes, and how many of them last. -/
structure FileM where
  all : List (BitVec 8)
  dur : Nat
structure DiskM where
  files : Nat → FileM
  room : Nat
  count : Nat
  down : Bool
  left : Int
/-- The lengths of the first n files. -/
def sumTo (F : Nat → FileM) : Nat → Nat
  | 0 => 0
  | n + 1 => sumTo F n + (F n).all.length
def DiskM.used (d : DiskM) : Nat := sumTo d.files 33
/-- What holds of every disk. -/
structure DiskM.Ok (d : DiskM) : Prop where
  dur : ∀ f, f < 33 → (d.files f).dur ≤ (d.files f).all.length
  used : d.used ≤ d.room
  room : d.room ≤ 262144
  left : -1 ≤ d.left ∧ d.left < 9223372036854775808
/-- A file is another one. -/
def setF (F : Nat → FileM) (f : Nat) (x : FileM) : Nat → FileM := fun k => if k = f then x else F k
/-- A file's bytes, where its number may be any. -/
def DiskM.read (d : DiskM) (f : Int) : List (BitVec 8) := if 0 ≤ f ∧ f ≤ 32 then (d.files f.toNat).all else []
/-- An operation that is not refused: it is counted, and struck if its turn has come; what it does is done unless it was struck (a write's is done all the same). -/
def DiskM.tick (d : DiskM) : DiskM := { d with down := decide (d.left = 0), left := max (d.left - 1) (-1) }
def DiskM.exec (d : DiskM) (eff : (Nat → FileM) → Nat → FileM) (write : Bool) : DiskM :=
  if (write || !decide (d.left = 0)) = true then { d.tick with files := eff d.files, count := d.count + 1 } else d.tick
def DiskM.execE (d : DiskM) : Int := if d.left = 0 then 9 else 0
/-- Is there such a file, and is the power on? -/
def DiskM.openE (d : DiskM) (f : Int) : Int := if d.down = true then 9 else if 0 ≤ f ∧ f ≤ 32 then 0 else 1
def writeF (f : Nat) (b : List (BitVec 8)) (F : Nat → FileM) : Nat → FileM := setF F f ⟨(F f).all ++ b, (F f).dur⟩
/-- Bytes laid over a list from a place on. -/
def layOver (l : List (BitVec 8)) (at_ : Nat) (b : List (BitVec 8)) : List (BitVec 8) := l.take at_ ++ b ++ l.drop (at_ + b.length)
def overF (f at_ : Nat) (b : List (BitVec 8)) (F : Nat → FileM) : Nat → FileM := setF F f ⟨layOver (F f).all at_ b, (F f).dur⟩
def DiskM.write (d : DiskM) (f : Int) (b : List (BitVec 8)) : DiskM × Int :=
  if d.openE f ≠ 0 then (d, d.openE f) else if d.room < d.used + b.length then (d, 8) else (d.exec (writeF f.toNat b) true, d.execE)
def DiskM.over (d : DiskM) (f at_ : Int) (b : List (BitVec 8)) : DiskM × Int :=
  if d.openE f ≠ 0 then (d, d.openE f) else if at_ < 0 ∨ ((d.files f.toNat).dur : Int) - at_ < (b.length : Int) then (d, 1) else (d.exec (overF f.toNat at_.toNat b) false, d.execE)
def DiskM.new (room : Int) : DiskM := ⟨fun _ => ⟨[], 0⟩, (min (max room 0) 262144).toNat, 0, false, -1⟩
end Go.Proofs.YtgeacocdnenhdaaDoor

/-
  The program's disk in memory: its block, the slices of its files, the calls that only read it, New and Arm.
-/
namespace Go.Proofs.YtgeacocdnenhdaaDoor
open Go.RowKit Go.Proofs.ShaWords
/-- The cells of a disk: for each file its slice and how many bytes last; then room, count, power, what is armed. -/
def dkCell (vs : Nat → Value) (d : DiskM) (j : Nat) : Value :=
  if j < 66 then (if j % 2 = 0 then vs (j / 2) else .int .i64 ((d.files (j / 2)).dur : Int)) else if j = 66 then .int .i64 (d.room : Int) else if j = 67 then .int .i64 (d.count : Int) else if j = 68 then .bool d.down else .int .i64 d.left
/-- A disk lies in block g; its files' bytes lie in blocks of S, each in one of its own. -/
structure DkV (S : Nat → Prop) (w : World) (g : Nat) (vs : Nat → Value) (d : DiskM) : Prop where
  lt : g < w.heap.size
  cell : ∀ j, j < 70 → w.cell? ⟨g, j, none⟩ = some (dkCell vs d j)
  thaw : ∀ j, w.frozen? ⟨g, j, none⟩ = false
  own : ∀ f, f < 33 → Own 0 w (d.files f).all (vs f)
  here : S g
  ins : ∀ f b, f < 33 → (vs f).ownBlock = some b → S b ∧ b ≠ g
  apart : ∀ f k b, f < 33 → k < 33 → (vs f).ownBlock = some b → (vs k).ownBlock = some b → f = k
  dom : ∀ k, S k → k < w.heap.size
  long : ∀ j, 70 ≤ j → w.cell? ⟨g, j, none⟩ = none
def DkAt (S : Nat → Prop) (w : World) (g : Nat) (d : DiskM) : Prop := (∃ vs, DkV S w g vs d) ∧ d.Ok ∧ d.count ≤ 1000000000
theorem DkV.keep {S F : Nat → Prop} {w w' : World} {g : Nat} {vs : Nat → Value} {d : DiskM} (h : DkV S w g vs d) (hk : Stays F w w') (hF : ∀ k, F k → ¬ S k) : DkV S w' g vs d :=
  have hb := hk.block g h.lt (fun f => hF g f h.here)
  ⟨Nat.lt_of_lt_of_le h.lt hk.size, fun j hj => (World.cell?_of_block (a := ⟨g, j, none⟩) hb).trans (h.cell j hj), fun j => (World.frozen?_of_block (a := ⟨g, j, none⟩) hb).trans (h.thaw j),
    fun f hf => ownsRow_stays (h.own f hf) hk (fun k hk' fk => hF k fk (h.ins f k hf hk').1), h.here, h.ins, h.apart, fun k s => Nat.lt_of_lt_of_le (h.dom k s) hk.size, fun j hj => (World.cell?_of_block (a := ⟨g, j, none⟩) hb).trans (h.long j hj)⟩
theorem DkAt.keep {S F : Nat → Prop} {w w' : World} {g : Nat} {d : DiskM} (h : DkAt S w g d) (hk : Stays F w w') (hF : ∀ k, F k → ¬ S k) : DkAt S w' g d := ⟨h.1.imp fun _ h => h.keep hk hF, h.2⟩
theorem DkAt.below {S : Nat → Prop} {w w' : World} {g : Nat} {d : DiskM} (h : DkAt S w g d) (hb : Below w.heap.size w w') : DkAt S w' g d := h.keep (F := fun _ => False) (Below.stays hb) (fun _ f => f.elim)
theorem DkV.all {S : Nat → Prop} {w : World} {g : Nat} {vs : Nat → Value} {d : DiskM} (h : DkV S w g vs d) (f : Nat) (hf : f < 33) : ∃ q c, vs f = .slice q (d.files f).all.length c ∧ (d.files f).all.length ≤ c ∧ c ≤ maxLen ∧ Lies w q (d.files f).all := (h.own f hf).lies
theorem DkV.c0 {S : Nat → Prop} {w : World} {g : Nat} {vs : Nat → Value} {d : DiskM} (h : DkV S w g vs d) (f : Nat) (hf : f < 33) : w.cell? ⟨g, f * 2, none⟩ = some (vs f) := by
  rw [h.cell _ (by omega), dkCell, if_pos (by omega), if_pos (by omega), Nat.mul_div_cancel _ (by omega)]
theorem DkV.c1 {S : Nat → Prop} {w : World} {g : Nat} {vs : Nat → Value} {d : DiskM} (h : DkV S w g vs d) (f : Nat) (hf : f < 33) : w.cell? ⟨g, f * 2 + 1, none⟩ = some (.int .i64 ((d.files f).dur : Int)) := by
  rw [h.cell _ (by omega), dkCell, if_pos (by omega), if_neg (by omega), show (f * 2 + 1) / 2 = f by omega]
theorem DkV.room {S : Nat → Prop} {w : World} {g : Nat} {vs : Nat → Value} {d : DiskM} (h : DkV S w g vs d) : w.cell? ⟨g, 66, none⟩ = some (.int .i64 (d.room : Int)) := h.cell 66 (by omega)
theorem DkV.count {S : Nat → Prop} {w : World} {g : Nat} {vs : Nat → Value} {d : DiskM} (h : DkV S w g vs d) : w.cell? ⟨g, 67, none⟩ = some (.int .i64 (d.count : Int)) := h.cell 67 (by omega)
theorem DkV.down {S : Nat → Prop} {w : World} {g : Nat} {vs : Nat → Value} {d : DiskM} (h : DkV S w g vs d) : w.cell? ⟨g, 68, none⟩ = some (.bool d.down) := h.cell 68 (by omega)
theorem DkV.left {S : Nat → Prop} {w : World} {g : Nat} {vs : Nat → Value} {d : DiskM} (h : DkV S w g vs d) : w.cell? ⟨g, 69, none⟩ = some (.int .i64 d.left) := h.cell 69 (by omega)
end Go.Proofs.YtgeacocdnenhdaaDoor

/-
  The program's disk: what its closures do, and execute.
-/
namespace Go.Proofs.YtgeacocdnenhdaaDoor
open Go.RowKit Go.Proofs.ShaWords
theorem DkV.store {S S' : Nat → Prop} {w w1 : World} {g : Nat} {vs vs' : Nat → Value} {d d' : DiskM} (h : DkV S w g vs d) (hb : w1.heap[g]? = w.heap[g]?) (hz : w.heap.size ≤ w1.heap.size) {j : Nat} (hj : j < 70) (v : Value)
    (hcell : ∀ i, i < 70 → dkCell vs' d' i = if i = j then v else dkCell vs d i) (hall : ∀ f, f < 33 → Own 0 w1 (d'.files f).all (vs' f)) (hS : S' g)
    (hins : ∀ f b, f < 33 → (vs' f).ownBlock = some b → S' b ∧ b ≠ g) (hap : ∀ f k b, f < 33 → k < 33 → (vs' f).ownBlock = some b → (vs' k).ownBlock = some b → f = k) (hdom : ∀ k, S' k → k < w1.heap.size) :
    DkV S' (w1.setCell ⟨g, j, none⟩ v) g vs' d' where
  lt := by have := h.lt; simp; omega
  cell := fun i hi => by
    have hc1 : w1.cell? ⟨g, i, none⟩ = some (dkCell vs d i) := (World.cell?_of_block (a := ⟨g, i, none⟩) hb).trans (h.cell i hi)
    rw [hcell i hi]
    by_cases e : i = j
    · subst e
      rw [if_pos rfl]
      exact World.cell?_setCell_same _ _ _ hc1
    · rw [if_neg e, World.cell?_setCell_other _ _ _ _ (fun e2 => e (by injection e2 with _ e3 _; exact e3.symm))]
      exact hc1
  thaw := fun i => by
    rw [World.frozen?_setCell]
    exact (World.frozen?_of_block (a := ⟨g, i, none⟩) hb).trans (h.thaw i)
  own := fun f hf => ownsRow_stays (F := fun k => k = g) (hall f hf) (grown_stays (grown_setCell w1 g j v) (fun k e => by cases e; rfl)) (fun k hk e => (hins f k hf hk).2 e)
  here := hS
  ins := hins
  apart := hap
  dom := fun k s => Nat.lt_of_lt_of_le (hdom k s) (by simp)
  long := fun i hi => by
    rw [World.cell?_setCell_other _ _ _ _ (fun e => by injection e with _ e _; omega)]
    exact (World.cell?_of_block (a := ⟨g, i, none⟩) hb).trans (h.long i hi)
theorem DkV.putCount {S : Nat → Prop} {w : World} {g : Nat} {vs : Nat → Value} {d : DiskM} (h : DkV S w g vs d) (n : Nat) : DkV S (w.setCell ⟨g, 67, none⟩ (.int .i64 (n : Int))) g vs { d with count := n } :=
  h.store rfl (Nat.le_refl _) (by omega) _ (fun i hi => by
    unfold dkCell
    by_cases e : i = 67
    · subst e; rfl
    · rw [if_neg (show ¬ i = 67 from e)]
      simp only [if_neg e]) h.own h.here h.ins h.apart h.dom
theorem stays_set (w : World) (g j : Nat) (v : Value) : Stays (fun k => k = g) w (w.setCell ⟨g, j, none⟩ v) := grown_stays (grown_setCell w g j v) (fun k e => by cases e; rfl)
end Go.Proofs.YtgeacocdnenhdaaDoor

/-
  The program's disk: cutting a file, and the closures of Write, Cut and Over.
-/
namespace Go.Proofs.YtgeacocdnenhdaaDoor
open Go.RowKit Go.Proofs.ShaWords
def DkGoV (S : Nat → Prop) (g : Nat) (d' : DiskM) (w w' : World) : Prop := ∃ S' vs', DkV S' w' g vs' d' ∧ (∀ k, S' k → S k ∨ (w.heap.size ≤ k ∧ k < w'.heap.size)) ∧ Stays S w w'
end Go.Proofs.YtgeacocdnenhdaaDoor

/-
  The program's disk: execute.
-/
namespace Go.Proofs.YtgeacocdnenhdaaDoor
open Go.RowKit Go.Proofs.ShaWords
theorem DkGoV.count {S : Nat → Prop} {g : Nat} {d : DiskM} {w w2 w3 : World} (h : DkGoV S g d w2 w3) (hst : Stays (fun k => k = g) w w2) (hg : S g) (hz : w.heap.size = w2.heap.size) : ∃ c : Nat, c = d.count ∧ w3.cell? ⟨g, 67, none⟩ = some (.int .i64 (c : Int)) ∧ w3.frozen? ⟨g, 67, none⟩ = false ∧ w3.cell? ⟨g, 68, none⟩ = some (.bool d.down) ∧
    Hid (DkGoV S g { d with count := c + 1 } w (w3.setCell ⟨g, 67, none⟩ (.int .i64 ((c + 1 : Nat) : Int)))) := by
  obtain ⟨S', vs', h1, h2, h3⟩ := h
  refine ⟨d.count, rfl, h1.count, h1.thaw 67, h1.down, show DkGoV _ _ _ _ _ from ⟨S', vs', h1.putCount _, fun k s => ?_, ?_⟩⟩
  · rw [hz]; simpa using h2 k s
  · have a := hst.more (G := S) (fun k e => e ▸ hg)
    have b : Stays S w w3 := a.trans h3 (fun k s _ => s)
    refine b.trans (stays_set w3 g 67 _) (fun k e _ => e ▸ hg)
end Go.Proofs.YtgeacocdnenhdaaDoor

/-
  The program's disk: open, Used, the closures of Write, Cut and Over.
-/
namespace Go.Proofs.YtgeacocdnenhdaaDoor
open Go.RowKit Go.Proofs.ShaWords
theorem DkV.below {S : Nat → Prop} {w w' : World} {g : Nat} {vs : Nat → Value} {d : DiskM} (h : DkV S w g vs d) (hb : Below w.heap.size w w') : DkV S w' g vs d := h.keep (F := fun _ => False) (Below.stays hb) (fun _ f => f.elim)
theorem DkGoV.below {S : Nat → Prop} {g : Nat} {d : DiskM} {w0 w w' : World} (h : DkGoV S g d w w') (hb : Below w0.heap.size w0 w) : DkGoV S g d w0 w' := by
  obtain ⟨S', vs', h1, h2, h3⟩ := h
  refine ⟨S', vs', h1, fun k s => ?_, (Below.stays (F := S) hb).trans h3 (fun _ s _ => s)⟩
  rcases h2 k s with h | h
  · exact Or.inl h
  · exact Or.inr ⟨Nat.le_trans hb.size h.1, h.2⟩
section
variable {ρ : Operand → Value} {o : Oper} {x y : Operand} {w : World}
end
end Go.Proofs.YtgeacocdnenhdaaDoor

/-
  The program's disk: the closures of Cut and Over; Write, Sync, Cut, Over.
-/
namespace Go.Proofs.YtgeacocdnenhdaaDoor
open Go.RowKit Go.Proofs.ShaWords
theorem wpList_runW8 {P : Program} {ops : Array Oper} {rest : List Oper} {o : Oper} {a : Act} {w w' : World} {Q : Exit → Act → World → Prop} {v : Value} (hw : Region.wanted o (yielded ops a.tmps) = true) (hr : (execOp a.eval o).run P w = .ok (.value v) w')
    (h : wpList P ops Q rest (a.put o.dst v) w') : wpList P ops Q (o :: rest) a w := by
  unfold wpList
  rw [if_pos hw]
  refine .inl ?_
  unfold Oper.wp
  rw [hr, Oper.upon_value]
  exact h
section
variable {ρ : Operand → Value} {o : Oper} {x y : Operand}
end
end Go.Proofs.YtgeacocdnenhdaaDoor
