/-
  What other texts lean on: DkModel, DkAt, DkExec, DkCut, DkRun, DkOps, DkCalls.
-/
import Derived.Test.YtejekgceompjpaaDoorPkA
import Derived.Lib.SliceRun
import Derived.Deep.DeepCutAuto
/-
  A disk as plain data: its files, each with how many of its bytes last; its room; how many operations were done; whether the power is off; how many operations go well ahead of the one that is struck (below nought: none is). What each call makes of it.
-/
namespace Go.Proofs.YtejekgceompjpaaDoor
open Go.Proofs.ShaWords
/-- A file: its bytes, and how many of them last. -/
structure FileM where
  all : List (BitVec 8)
  dur : Nat
structure DiskM where
  files : Nat → FileM
  room : Nat
  count : Nat
  down : Bool
  left : Int
/-- The lengths of the first n files. -/
def sumTo (F : Nat → FileM) : Nat → Nat
  | 0 => 0
  | n + 1 => sumTo F n + (F n).all.length
def DiskM.used (d : DiskM) : Nat := sumTo d.files 33
/-- What holds of every disk. -/
structure DiskM.Ok (d : DiskM) : Prop where
  dur : ∀ f, f < 33 → (d.files f).dur ≤ (d.files f).all.length
  used : d.used ≤ d.room
  room : d.room ≤ 262144
  left : -1 ≤ d.left ∧ d.left < 9223372036854775808
/-- A file is another one. -/
def setF (F : Nat → FileM) (f : Nat) (x : FileM) : Nat → FileM := fun k => if k = f then x else F k
theorem setF_same (F : Nat → FileM) (f : Nat) (x : FileM) : setF F f x f = x := if_pos rfl
theorem setF_other (F : Nat → FileM) {f k : Nat} (x : FileM) (h : k ≠ f) : setF F f x k = F k := if_neg h
theorem sumTo_setF (F : Nat → FileM) (f : Nat) (x : FileM) : ∀ n, sumTo (setF F f x) n + (if f < n then (F f).all.length else 0) = sumTo F n + (if f < n then x.all.length else 0)
  | 0 => by simp [sumTo]
  | n + 1 => by
    have ih := sumTo_setF F f x n
    unfold sumTo
    by_cases h : n = f
    · subst h
      rw [setF_same]
      simp at ih ⊢
      omega
    · rw [setF_other F x h]
      by_cases h2 : f < n
      · rw [if_pos (by omega), if_pos (by omega)]
        rw [if_pos h2, if_pos h2] at ih
        omega
      · rw [if_neg (by omega), if_neg (by omega)]
        rw [if_neg h2, if_neg h2] at ih
        omega
theorem sumTo_le (F : Nat → FileM) (f : Nat) : ∀ n, f < n → (F f).all.length ≤ sumTo F n
  | 0, h => by omega
  | n + 1, h => by
    unfold sumTo
    by_cases e : f = n
    · subst e; omega
    · have := sumTo_le F f n (by omega); omega
/-- A file's bytes, where its number may be any. -/
def DiskM.read (d : DiskM) (f : Int) : List (BitVec 8) := if 0 ≤ f ∧ f ≤ 32 then (d.files f.toNat).all else []
/-- An operation that is not refused: it is counted, and struck if its turn has come; what it does is done unless it was struck (a write's is done all the same). -/
def DiskM.tick (d : DiskM) : DiskM := { d with down := decide (d.left = 0), left := max (d.left - 1) (-1) }
def DiskM.exec (d : DiskM) (eff : (Nat → FileM) → Nat → FileM) (write : Bool) : DiskM :=
  if (write || !decide (d.left = 0)) = true then { d.tick with files := eff d.files, count := d.count + 1 } else d.tick
def DiskM.execE (d : DiskM) : Int := if d.left = 0 then 9 else 0
/-- Is there such a file, and is the power on? -/
def DiskM.openE (d : DiskM) (f : Int) : Int := if d.down = true then 9 else if 0 ≤ f ∧ f ≤ 32 then 0 else 1
def writeF (f : Nat) (b : List (BitVec 8)) (F : Nat → FileM) : Nat → FileM := setF F f ⟨(F f).all ++ b, (F f).dur⟩
def syncF (f : Nat) (F : Nat → FileM) : Nat → FileM := setF F f ⟨(F f).all, (F f).all.length⟩
def cutF (f n : Nat) (F : Nat → FileM) : Nat → FileM := setF F f ⟨(F f).all.take n, n⟩
/-- Bytes laid over a list from a place on. -/
def layOver (l : List (BitVec 8)) (at_ : Nat) (b : List (BitVec 8)) : List (BitVec 8) := l.take at_ ++ b ++ l.drop (at_ + b.length)
def overF (f at_ : Nat) (b : List (BitVec 8)) (F : Nat → FileM) : Nat → FileM := setF F f ⟨layOver (F f).all at_ b, (F f).dur⟩
def DiskM.write (d : DiskM) (f : Int) (b : List (BitVec 8)) : DiskM × Int :=
  if d.openE f ≠ 0 then (d, d.openE f) else if d.room < d.used + b.length then (d, 8) else (d.exec (writeF f.toNat b) true, d.execE)
def DiskM.sync (d : DiskM) (f : Int) : DiskM × Int :=
  if d.openE f ≠ 0 then (d, d.openE f) else (d.exec (syncF f.toNat) false, d.execE)
def DiskM.cut (d : DiskM) (f n : Int) : DiskM × Int :=
  if d.openE f ≠ 0 then (d, d.openE f) else if n < 0 ∨ ((d.files f.toNat).all.length : Int) < n then (d, 1) else (d.exec (cutF f.toNat n.toNat) false, d.execE)
def DiskM.over (d : DiskM) (f at_ : Int) (b : List (BitVec 8)) : DiskM × Int :=
  if d.openE f ≠ 0 then (d, d.openE f) else if at_ < 0 ∨ ((d.files f.toNat).dur : Int) - at_ < (b.length : Int) then (d, 1) else (d.exec (overF f.toNat at_.toNat b) false, d.execE)
def DiskM.arm (d : DiskM) (n : Int) : DiskM := { d with left := max n (-1) }
/-- What a crash leaves of a file. -/
def cutTo (x : FileM) (k : Int) : FileM := ⟨x.all.take (x.dur + (min (max k 0) ((x.all.length - x.dur : Nat) : Int)).toNat), x.dur + (min (max k 0) ((x.all.length - x.dur : Nat) : Int)).toNat⟩
/-- The files behind a crash, and the numbers that are left of those that say what is kept. -/
def crashTo (F : Nat → FileM) (keep : List Int) : Nat → (Nat → FileM) × List Int
  | 0 => (F, keep)
  | n + 1 =>
    let r := crashTo F keep n
    if (F n).all.length = (F n).dur then r else (setF r.1 n (cutTo (F n) (r.2.headD 0)), r.2.tail)
def DiskM.crash (d : DiskM) (keep : List Int) : DiskM := { d with files := (crashTo d.files keep 33).1, down := false, left := -1 }
def DiskM.new (room : Int) : DiskM := ⟨fun _ => ⟨[], 0⟩, (min (max room 0) 262144).toNat, 0, false, -1⟩
theorem sumTo_nil : ∀ n, sumTo (fun _ => ⟨[], 0⟩) n = 0
  | 0 => rfl
  | n + 1 => by unfold sumTo; rw [sumTo_nil n]; rfl
theorem DiskM.new_ok (room : Int) : (DiskM.new room).Ok := ⟨fun _ _ => Nat.le_refl _, by unfold DiskM.used DiskM.new; rw [sumTo_nil]; omega, by unfold DiskM.new; show (min (max room 0) 262144).toNat ≤ _; omega, by unfold DiskM.new; show -1 ≤ (-1 : Int) ∧ (-1 : Int) < _; omega⟩
theorem DiskM.tick_ok {d : DiskM} (h : d.Ok) : d.tick.Ok := ⟨h.dur, h.used, h.room, by have := h.left; unfold DiskM.tick; show -1 ≤ max (d.left - 1) (-1) ∧ max (d.left - 1) (-1) < _; omega⟩
theorem DiskM.exec_ok {d : DiskM} {eff : (Nat → FileM) → Nat → FileM} {write : Bool} (h : d.Ok) (h1 : ∀ f, f < 33 → (eff d.files f).dur ≤ (eff d.files f).all.length) (h2 : sumTo (eff d.files) 33 ≤ d.room) : (d.exec eff write).Ok := by
  unfold DiskM.exec
  split
  · exact ⟨h1, h2, h.room, (DiskM.tick_ok h).left⟩
  · exact DiskM.tick_ok h
theorem setF_dur {F : Nat → FileM} {f : Nat} {x : FileM} (h : ∀ k, k < 33 → (F k).dur ≤ (F k).all.length) (hx : x.dur ≤ x.all.length) (k : Nat) (hk : k < 33) : (setF F f x k).dur ≤ (setF F f x k).all.length := by
  unfold setF
  split
  · exact hx
  · exact h k hk
theorem layOver_length {l : List (BitVec 8)} {k : Nat} {b : List (BitVec 8)} (h : k + b.length ≤ l.length) : (layOver l k b).length = l.length := by
  unfold layOver
  rw [List.length_append, List.length_append, List.length_take, List.length_drop]; omega
theorem DiskM.openE_zero {d : DiskM} {f : Int} (h : ¬ d.openE f ≠ 0) : d.down = false ∧ 0 ≤ f ∧ f ≤ 32 := by
  unfold DiskM.openE at h
  split at h
  · exact absurd (by decide) h
  · rename_i hd
    split at h
    · rename_i hf
      exact ⟨by simpa using hd, hf⟩
    · exact absurd (by decide) h
theorem used_setF (d : DiskM) (f : Nat) (hf : f < 33) (x : FileM) : sumTo (setF d.files f x) 33 + (d.files f).all.length = d.used + x.all.length := by
  have h := sumTo_setF d.files f x 33
  rw [if_pos hf, if_pos hf] at h
  exact h
theorem DiskM.write_ok {d : DiskM} (h : d.Ok) (f : Int) (b : List (BitVec 8)) : (d.write f b).1.Ok := by
  unfold DiskM.write
  split
  · exact h
  · rename_i h0
    obtain ⟨-, h1, h2⟩ := DiskM.openE_zero h0
    split
    · exact h
    · rename_i h3
      have hd := h.dur f.toNat (by omega)
      have hu := used_setF d f.toNat (by omega) ⟨(d.files f.toNat).all ++ b, (d.files f.toNat).dur⟩
      rw [List.length_append] at hu
      exact DiskM.exec_ok (eff := writeF f.toNat b) (write := true) h (setF_dur h.dur (by show (d.files f.toNat).dur ≤ ((d.files f.toNat).all ++ b).length; rw [List.length_append]; omega)) (by show sumTo (setF _ _ _) 33 ≤ _; omega)
theorem DiskM.sync_ok {d : DiskM} (h : d.Ok) (f : Int) : (d.sync f).1.Ok := by
  unfold DiskM.sync
  split
  · exact h
  · rename_i h0
    obtain ⟨-, h1, h2⟩ := DiskM.openE_zero h0
    have hu := used_setF d f.toNat (by omega) ⟨(d.files f.toNat).all, (d.files f.toNat).all.length⟩
    have := h.used
    exact DiskM.exec_ok (eff := syncF f.toNat) (write := false) h (setF_dur h.dur (Nat.le_refl _)) (by show sumTo (setF _ _ _) 33 ≤ _; dsimp only at hu; omega)
theorem DiskM.cut_ok {d : DiskM} (h : d.Ok) (f n : Int) : (d.cut f n).1.Ok := by
  unfold DiskM.cut
  split
  · exact h
  · rename_i h0
    obtain ⟨-, h1, h2⟩ := DiskM.openE_zero h0
    split
    · exact h
    · rename_i h3
      have hu := used_setF d f.toNat (by omega) ⟨(d.files f.toNat).all.take n.toNat, n.toNat⟩
      have := h.used
      rw [List.length_take] at hu
      exact DiskM.exec_ok (eff := cutF f.toNat n.toNat) (write := false) h (setF_dur h.dur (by show n.toNat ≤ (List.take _ _).length; rw [List.length_take]; omega)) (by show sumTo (setF _ _ _) 33 ≤ _; omega)
theorem DiskM.over_ok {d : DiskM} (h : d.Ok) (f k : Int) (b : List (BitVec 8)) : (d.over f k b).1.Ok := by
  unfold DiskM.over
  split
  · exact h
  · rename_i h0
    obtain ⟨-, h1, h2⟩ := DiskM.openE_zero h0
    split
    · exact h
    · rename_i h3
      have hd := h.dur f.toNat (by omega)
      have hl : (layOver (d.files f.toNat).all k.toNat b).length = (d.files f.toNat).all.length := layOver_length (by omega)
      have hu := used_setF d f.toNat (by omega) ⟨layOver (d.files f.toNat).all k.toNat b, (d.files f.toNat).dur⟩
      have := h.used
      rw [hl] at hu
      exact DiskM.exec_ok (eff := overF f.toNat k.toNat b) (write := false) h (setF_dur h.dur (by show _ ≤ (layOver _ _ _).length; rw [hl]; exact hd)) (by show sumTo (setF _ _ _) 33 ≤ _; omega)
theorem DiskM.arm_ok {d : DiskM} (h : d.Ok) (n : Int) (hn : n < 9223372036854775808) : (d.arm n).Ok := ⟨h.dur, h.used, h.room, by unfold DiskM.arm; show -1 ≤ max n (-1) ∧ max n (-1) < _; omega⟩
/-- What a crash leaves is a beginning of what was there, and what lasted is in it. -/
theorem cutTo_ok {x : FileM} (h : x.dur ≤ x.all.length) (k : Int) : x.dur ≤ (cutTo x k).dur ∧ (cutTo x k).dur = (cutTo x k).all.length ∧ (cutTo x k).dur ≤ x.all.length := by
  unfold cutTo
  rw [List.length_take]
  dsimp only
  omega
theorem crashTo_at (F : Nat → FileM) (keep : List Int) : ∀ n f, n ≤ f → (crashTo F keep n).1 f = F f
  | 0, _, _ => rfl
  | n + 1, f, h => by
    unfold crashTo
    dsimp only
    split
    · exact crashTo_at F keep n f (by omega)
    · show setF _ _ _ f = _
      rw [setF_other _ _ (by omega)]; exact crashTo_at F keep n f (by omega)
theorem crashTo_file (F : Nat → FileM) (keep : List Int) (n : Nat) : ∀ m f, f < m → (crashTo F keep m).1 f = (crashTo F keep (f + 1)).1 f
  | 0, f, h => by omega
  | m + 1, f, h => by
    by_cases e : f = m
    · subst e; rfl
    · rw [← crashTo_file F keep n m f (by omega)]
      conv => lhs; unfold crashTo
      dsimp only
      split
      · rfl
      · show setF _ _ _ f = _
        rw [setF_other _ _ e]
theorem crashTo_one (F : Nat → FileM) (keep : List Int) (f : Nat) (hf : f < 33) : ∃ k, (crashTo F keep 33).1 f = cutTo (F f) k := by
  rw [crashTo_file F keep 0 33 f hf]
  unfold crashTo
  dsimp only
  split
  · rename_i e
    refine ⟨0, ?_⟩
    rw [crashTo_at F keep f f (Nat.le_refl _)]
    unfold cutTo
    have h0 : (F f).dur + (min (max (0 : Int) 0) (((F f).all.length - (F f).dur : Nat) : Int)).toNat = (F f).dur := by omega
    rw [h0, List.take_of_length_le (by omega)]
  · exact ⟨_, setF_same _ _ _⟩
theorem sumTo_mono {F G : Nat → FileM} : ∀ n, (∀ f, f < n → (F f).all.length ≤ (G f).all.length) → sumTo F n ≤ sumTo G n
  | 0, _ => Nat.le_refl _
  | n + 1, h => by
    unfold sumTo
    have := sumTo_mono n (fun f hf => h f (by omega))
    have := h n (by omega)
    omega
theorem DiskM.crash_ok {d : DiskM} (h : d.Ok) (keep : List Int) : (d.crash keep).Ok := by
  have h1 : ∀ f, f < 33 → ((crashTo d.files keep 33).1 f).dur = ((crashTo d.files keep 33).1 f).all.length ∧ ((crashTo d.files keep 33).1 f).dur ≤ (d.files f).all.length := fun f hf => by
    obtain ⟨k, hk⟩ := crashTo_one d.files keep f hf
    rw [hk]
    exact (cutTo_ok (h.dur f hf) k).2
  refine ⟨fun f hf => Nat.le_of_eq (h1 f hf).1, ?_, h.room, by show -1 ≤ (-1 : Int) ∧ (-1 : Int) < _; omega⟩
  exact Nat.le_trans (sumTo_mono 33 (fun f hf => by show ((crashTo d.files keep 33).1 f).all.length ≤ _; rw [← (h1 f hf).1]; exact (h1 f hf).2)) h.used
end Go.Proofs.YtejekgceompjpaaDoor

/-
  The program's disk in memory: its block, the slices of its files, the calls that only read it, New and Arm.
-/
namespace Go.Proofs.YtejekgceompjpaaDoor
open Go.RowKit Go.Proofs.ShaWords
/-- The cells of a disk: for each file its slice and how many bytes last; then room, count, power, what is armed. -/
def dkCell (vs : Nat → Value) (d : DiskM) (j : Nat) : Value :=
  if j < 66 then (if j % 2 = 0 then vs (j / 2) else .int .i64 ((d.files (j / 2)).dur : Int)) else if j = 66 then .int .i64 (d.room : Int) else if j = 67 then .int .i64 (d.count : Int) else if j = 68 then .bool d.down else .int .i64 d.left
/-- A disk lies in block g; its files' bytes lie in blocks of S, each in one of its own. -/
structure DkV (S : Nat → Prop) (w : World) (g : Nat) (vs : Nat → Value) (d : DiskM) : Prop where
  lt : g < w.heap.size
  cell : ∀ j, j < 70 → w.cell? ⟨g, j, none⟩ = some (dkCell vs d j)
  thaw : ∀ j, w.frozen? ⟨g, j, none⟩ = false
  own : ∀ f, f < 33 → Own 0 w (d.files f).all (vs f)
  here : S g
  ins : ∀ f b, f < 33 → (vs f).ownBlock = some b → S b ∧ b ≠ g
  apart : ∀ f k b, f < 33 → k < 33 → (vs f).ownBlock = some b → (vs k).ownBlock = some b → f = k
  dom : ∀ k, S k → k < w.heap.size
  long : ∀ j, 70 ≤ j → w.cell? ⟨g, j, none⟩ = none
def DkAt (S : Nat → Prop) (w : World) (g : Nat) (d : DiskM) : Prop := (∃ vs, DkV S w g vs d) ∧ d.Ok ∧ d.count ≤ 1000000000
theorem DkV.keep {S F : Nat → Prop} {w w' : World} {g : Nat} {vs : Nat → Value} {d : DiskM} (h : DkV S w g vs d) (hk : Stays F w w') (hF : ∀ k, F k → ¬ S k) : DkV S w' g vs d :=
  have hb := hk.block g h.lt (fun f => hF g f h.here)
  ⟨Nat.lt_of_lt_of_le h.lt hk.size, fun j hj => (World.cell?_of_block (a := ⟨g, j, none⟩) hb).trans (h.cell j hj), fun j => (World.frozen?_of_block (a := ⟨g, j, none⟩) hb).trans (h.thaw j),
    fun f hf => ownsRow_stays (h.own f hf) hk (fun k hk' fk => hF k fk (h.ins f k hf hk').1), h.here, h.ins, h.apart, fun k s => Nat.lt_of_lt_of_le (h.dom k s) hk.size, fun j hj => (World.cell?_of_block (a := ⟨g, j, none⟩) hb).trans (h.long j hj)⟩
theorem DkAt.keep {S F : Nat → Prop} {w w' : World} {g : Nat} {d : DiskM} (h : DkAt S w g d) (hk : Stays F w w') (hF : ∀ k, F k → ¬ S k) : DkAt S w' g d := ⟨h.1.imp fun _ h => h.keep hk hF, h.2⟩
theorem DkAt.below {S : Nat → Prop} {w w' : World} {g : Nat} {d : DiskM} (h : DkAt S w g d) (hb : Below w.heap.size w w') : DkAt S w' g d := h.keep (F := fun _ => False) (Below.stays hb) (fun _ f => f.elim)
theorem DkV.all {S : Nat → Prop} {w : World} {g : Nat} {vs : Nat → Value} {d : DiskM} (h : DkV S w g vs d) (f : Nat) (hf : f < 33) : ∃ q c, vs f = .slice q (d.files f).all.length c ∧ (d.files f).all.length ≤ c ∧ c ≤ maxLen ∧ Lies w q (d.files f).all := (h.own f hf).lies
theorem DkV.c0 {S : Nat → Prop} {w : World} {g : Nat} {vs : Nat → Value} {d : DiskM} (h : DkV S w g vs d) (f : Nat) (hf : f < 33) : w.cell? ⟨g, f * 2, none⟩ = some (vs f) := by
  rw [h.cell _ (by omega), dkCell, if_pos (by omega), if_pos (by omega), Nat.mul_div_cancel _ (by omega)]
theorem DkV.c1 {S : Nat → Prop} {w : World} {g : Nat} {vs : Nat → Value} {d : DiskM} (h : DkV S w g vs d) (f : Nat) (hf : f < 33) : w.cell? ⟨g, f * 2 + 1, none⟩ = some (.int .i64 ((d.files f).dur : Int)) := by
  rw [h.cell _ (by omega), dkCell, if_pos (by omega), if_neg (by omega), show (f * 2 + 1) / 2 = f by omega]
theorem DkV.room {S : Nat → Prop} {w : World} {g : Nat} {vs : Nat → Value} {d : DiskM} (h : DkV S w g vs d) : w.cell? ⟨g, 66, none⟩ = some (.int .i64 (d.room : Int)) := h.cell 66 (by omega)
theorem DkV.count {S : Nat → Prop} {w : World} {g : Nat} {vs : Nat → Value} {d : DiskM} (h : DkV S w g vs d) : w.cell? ⟨g, 67, none⟩ = some (.int .i64 (d.count : Int)) := h.cell 67 (by omega)
theorem DkV.down {S : Nat → Prop} {w : World} {g : Nat} {vs : Nat → Value} {d : DiskM} (h : DkV S w g vs d) : w.cell? ⟨g, 68, none⟩ = some (.bool d.down) := h.cell 68 (by omega)
theorem DkV.left {S : Nat → Prop} {w : World} {g : Nat} {vs : Nat → Value} {d : DiskM} (h : DkV S w g vs d) : w.cell? ⟨g, 69, none⟩ = some (.int .i64 d.left) := h.cell 69 (by omega)
end Go.Proofs.YtejekgceompjpaaDoor

/-
  The program's disk: what its closures do, and execute.
-/
namespace Go.Proofs.YtejekgceompjpaaDoor
open Go.RowKit Go.Proofs.ShaWords
theorem DkV.store {S S' : Nat → Prop} {w w1 : World} {g : Nat} {vs vs' : Nat → Value} {d d' : DiskM} (h : DkV S w g vs d) (hb : w1.heap[g]? = w.heap[g]?) (hz : w.heap.size ≤ w1.heap.size) {j : Nat} (hj : j < 70) (v : Value)
    (hcell : ∀ i, i < 70 → dkCell vs' d' i = if i = j then v else dkCell vs d i) (hall : ∀ f, f < 33 → Own 0 w1 (d'.files f).all (vs' f)) (hS : S' g)
    (hins : ∀ f b, f < 33 → (vs' f).ownBlock = some b → S' b ∧ b ≠ g) (hap : ∀ f k b, f < 33 → k < 33 → (vs' f).ownBlock = some b → (vs' k).ownBlock = some b → f = k) (hdom : ∀ k, S' k → k < w1.heap.size) :
    DkV S' (w1.setCell ⟨g, j, none⟩ v) g vs' d' where
  lt := by have := h.lt; simp; omega
  cell := fun i hi => by
    have hc1 : w1.cell? ⟨g, i, none⟩ = some (dkCell vs d i) := (World.cell?_of_block (a := ⟨g, i, none⟩) hb).trans (h.cell i hi)
    rw [hcell i hi]
    by_cases e : i = j
    · subst e
      rw [if_pos rfl]
      exact World.cell?_setCell_same _ _ _ hc1
    · rw [if_neg e, World.cell?_setCell_other _ _ _ _ (fun e2 => e (by injection e2 with _ e3 _; exact e3.symm))]
      exact hc1
  thaw := fun i => by
    rw [World.frozen?_setCell]
    exact (World.frozen?_of_block (a := ⟨g, i, none⟩) hb).trans (h.thaw i)
  own := fun f hf => ownsRow_stays (F := fun k => k = g) (hall f hf) (grown_stays (grown_setCell w1 g j v) (fun k e => by cases e; rfl)) (fun k hk e => (hins f k hf hk).2 e)
  here := hS
  ins := hins
  apart := hap
  dom := fun k s => Nat.lt_of_lt_of_le (hdom k s) (by simp)
  long := fun i hi => by
    rw [World.cell?_setCell_other _ _ _ _ (fun e => by injection e with _ e _; omega)]
    exact (World.cell?_of_block (a := ⟨g, i, none⟩) hb).trans (h.long i hi)
theorem dkCell_vs {vs : Nat → Value} {d : DiskM} {f : Nat} {v : Value} (hf : f < 33) (i : Nat) (hi : i < 70) : dkCell (fun k => if k = f then v else vs k) d i = if i = f * 2 then v else dkCell vs d i := by
  unfold dkCell
  by_cases h : i < 66
  · rw [if_pos h, if_pos h]
    by_cases h2 : i % 2 = 0
    · rw [if_pos h2, if_pos h2]
      show (if i / 2 = f then v else vs (i / 2)) = _
      by_cases h3 : i / 2 = f
      · rw [if_pos h3, if_pos (by omega)]
      · rw [if_neg h3, if_neg (by omega)]
    · rw [if_neg h2, if_neg h2, if_neg (show ¬ i = f * 2 by omega)]
  · rw [if_neg h, if_neg h, if_neg (show ¬ i = f * 2 by omega)]
theorem dkCell_dur {vs : Nat → Value} {d : DiskM} {f n : Nat} (hf : f < 33) (i : Nat) (hi : i < 70) : dkCell vs { d with files := setF d.files f ⟨(d.files f).all, n⟩ } i = if i = f * 2 + 1 then .int .i64 (n : Int) else dkCell vs d i := by
  unfold dkCell
  by_cases h : i < 66
  · rw [if_pos h, if_pos h]
    by_cases h2 : i % 2 = 0
    · rw [if_pos h2, if_pos h2, if_neg (by omega)]
    · rw [if_neg h2, if_neg h2]
      by_cases h3 : i / 2 = f
      · rw [if_pos (by omega), h3]
        show Value.int .i64 ((setF d.files f _ f).dur : Int) = _
        rw [setF_same]
      · rw [if_neg (by omega)]
        show Value.int .i64 ((setF d.files f _ (i / 2)).dur : Int) = _
        rw [setF_other _ _ h3]
  · rw [if_neg h, if_neg h, if_neg (show ¬ i = f * 2 + 1 by omega)]
theorem DkV.putDur {S : Nat → Prop} {w : World} {g : Nat} {vs : Nat → Value} {d : DiskM} (h : DkV S w g vs d) (f n : Nat) (hf : f < 33) :
    DkV S (w.setCell ⟨g, f * 2 + 1, none⟩ (.int .i64 (n : Int))) g vs { d with files := setF d.files f ⟨(d.files f).all, n⟩ } :=
  h.store rfl (Nat.le_refl _) (by omega) _ (dkCell_dur hf) (fun k hk => by
    show Own 0 w (setF d.files f _ k).all (vs k)
    by_cases e : k = f
    · subst e; rw [setF_same]; exact h.own k hk
    · rw [setF_other _ _ e]; exact h.own k hk) h.here h.ins h.apart h.dom
theorem DkV.putLeft {S : Nat → Prop} {w : World} {g : Nat} {vs : Nat → Value} {d : DiskM} (h : DkV S w g vs d) (n : Int) : DkV S (w.setCell ⟨g, 69, none⟩ (.int .i64 n)) g vs { d with left := n } :=
  h.store rfl (Nat.le_refl _) (by omega) _ (fun i hi => by
    unfold dkCell
    by_cases e : i = 69
    · subst e; rfl
    · rw [if_neg (show ¬ i = 69 from e)]
      by_cases h1 : i < 66
      · simp only [if_pos h1]
      · by_cases h2 : i = 66
        · simp only [if_neg h1, if_pos h2]
        · by_cases h3 : i = 67
          · simp only [if_neg h1, if_neg h2, if_pos h3]
          · simp only [if_neg h1, if_neg h2, if_neg h3, if_pos (show i = 68 by omega)]) h.own h.here h.ins h.apart h.dom
theorem DkV.putDown {S : Nat → Prop} {w : World} {g : Nat} {vs : Nat → Value} {d : DiskM} (h : DkV S w g vs d) (b : Bool) : DkV S (w.setCell ⟨g, 68, none⟩ (.bool b)) g vs { d with down := b } :=
  h.store rfl (Nat.le_refl _) (by omega) _ (fun i hi => by
    unfold dkCell
    by_cases e : i = 68
    · subst e; rfl
    · rw [if_neg (show ¬ i = 68 from e)]
      simp only [if_neg e]) h.own h.here h.ins h.apart h.dom
theorem DkV.putCount {S : Nat → Prop} {w : World} {g : Nat} {vs : Nat → Value} {d : DiskM} (h : DkV S w g vs d) (n : Nat) : DkV S (w.setCell ⟨g, 67, none⟩ (.int .i64 (n : Int))) g vs { d with count := n } :=
  h.store rfl (Nat.le_refl _) (by omega) _ (fun i hi => by
    unfold dkCell
    by_cases e : i = 67
    · subst e; rfl
    · rw [if_neg (show ¬ i = 67 from e)]
      simp only [if_neg e]) h.own h.here h.ins h.apart h.dom
theorem stays_set (w : World) (g j : Nat) (v : Value) : Stays (fun k => k = g) w (w.setCell ⟨g, j, none⟩ v) := grown_stays (grown_setCell w g j v) (fun k e => by cases e; rfl)
theorem DkV.putAll {S S' : Nat → Prop} {w w1 : World} {g : Nat} {vs : Nat → Value} {d : DiskM} (h : DkV S w g vs d) (f : Nat) (hf : f < 33) (l : List (BitVec 8)) (v : Value) (hg : w.grownBy w1 (vs f).ownBlock) (ho : Own 0 w1 l v)
    (hv : v.ownBlock = (vs f).ownBlock ∨ v.ownBlock = some w.heap.size) (hS : ∀ k, S k → S' k) (hS' : ∀ k, v.ownBlock = some k → S' k) (hdom : ∀ k, S' k → k < w1.heap.size) :
    DkV S' (w1.setCell ⟨g, f * 2, none⟩ v) g (fun k => if k = f then v else vs k) { d with files := setF d.files f ⟨l, (d.files f).dur⟩ } := by
  have hfar : ∀ k, k < 33 → k ≠ f → v.ownBlock ≠ none → (vs k).ownBlock ≠ v.ownBlock := fun k hk e hn he => by
    rcases hv with h1 | h1
    · rw [h1] at he hn
      cases hb : (vs f).ownBlock with
      | none => exact hn hb
      | some b => rw [hb] at he; exact e (h.apart k f b hk hf he hb)
    · rw [h1] at he
      have := h.dom _ (h.ins k _ hk he).1
      omega
  refine h.store (hg.block g h.lt (fun e => (h.ins f g hf e.symm).2 rfl)) hg.size (by omega) v (fun i hi => ?_) (fun k hk => ?_) (hS g h.here) (fun k b hk hb => ?_) (fun j k b hj hk h1 h2 => ?_) hdom
  · rw [← dkCell_vs (d := d) (vs := vs) (v := v) hf i hi]
    unfold dkCell
    by_cases h1 : i < 66
    · rw [if_pos h1, if_pos h1]
      by_cases h2 : i % 2 = 0
      · rw [if_pos h2, if_pos h2]
      · rw [if_neg h2, if_neg h2]
        show Value.int .i64 ((setF d.files f _ (i / 2)).dur : Int) = _
        unfold setF
        split
        · rename_i e; rw [e]
        · rfl
    · rw [if_neg h1, if_neg h1]
  · show Own 0 w1 (setF d.files f _ k).all (if k = f then v else vs k)
    by_cases e : k = f
    · subst e; rw [setF_same, if_pos rfl]; exact ho
    · rw [setF_other _ _ e, if_neg e]
      refine World.ownsRow.kept (h.own k hk) hg ?_
      cases hb : (vs k).ownBlock with
      | none => exact Or.inl rfl
      | some b => exact Or.inr (fun e2 => e (h.apart k f b hk hf hb (by rw [← e2])))
  · have hb' : (if k = f then v else vs k).ownBlock = some b := hb
    by_cases e : k = f
    · rw [if_pos e] at hb'
      refine ⟨hS' b hb', fun e2 => ?_⟩
      rcases hv with h1 | h1
      · rw [h1] at hb'; exact (h.ins f b hf hb').2 e2
      · rw [h1] at hb'; cases hb'; have := h.lt; omega
    · rw [if_neg e] at hb'
      exact ⟨hS b (h.ins k b hk hb').1, (h.ins k b hk hb').2⟩
  · have h1' : (if j = f then v else vs j).ownBlock = some b := h1
    have h2' : (if k = f then v else vs k).ownBlock = some b := h2
    by_cases e : j = f
    · by_cases e2 : k = f
      · rw [e, e2]
      · rw [if_pos e] at h1'
        rw [if_neg e2] at h2'
        exact absurd (h2'.trans h1'.symm) (hfar k hk e2 (by rw [h1']; simp))
    · by_cases e2 : k = f
      · rw [if_neg e] at h1'
        rw [if_pos e2] at h2'
        exact absurd (h1'.trans h2'.symm) (hfar j hj e (by rw [h2']; simp))
      · rw [if_neg e] at h1'
        rw [if_neg e2] at h2'
        exact h.apart j k b hj hk h1' h2'
/-- A slice's tail is cleared: the bytes ahead of it stay. -/
theorem clear_tail {w : World} {l : List (BitVec 8)} {b m c k : Nat} (h : Own 0 w l (.slice (some ⟨b, 0, none⟩) m c)) (hm : l.length = m) (hk : k < m) :
    ∃ w1, (∀ ty, (Builtin.clear_ #[22] ty #[.slice (some ⟨b, k, none⟩) (m - k) (c - k)]).run Tryd.prog w = .ok (.tuple #[]) w1) ∧ Own 0 w1 (l.take k) (.slice (some ⟨b, 0, none⟩) k c) ∧ w.grownBy w1 (some b) := by
  subst hm
  obtain ⟨b', c', he, -, -, hcm, hc2, hcell, hfr⟩ := h.form8 (by omega)
  cases he
  have hh := h.2
  rcases hh with ⟨h0, _⟩ | ⟨g, cap, cur, he, hg, hb, hc, hmx, hs, ht⟩
  · cases h0
  cases he
  have hcur : cur.toList.length = c := by rw [Array.length_toList, hs, Nat.mul_one]
  refine ⟨_, fun ty => Lib.run_clear_slice w _ _ ty (.int .u8 0) Tryd.underlying22 (fun w => by kernel_rfl) rfl rfl b k (l.length - k) (c - k) (by omega) (fun j hj => ?_) (fun j hj => hfr (k + j)), ?_, grown_setCells _ _ _ _⟩
  · rw [hcell (k + j) (by omega)]; rfl
  · have hsc := heap_setCells b 5 (List.replicate (l.length - k) (.int .u8 0)) k cur.toList w (by rw [hb]) (by rw [List.length_replicate, hcur]; omega)
    refine ⟨by rw [bytesV_length, Nat.mul_one], .inr ⟨b, c, _, by rw [List.length_take, Nat.min_eq_left (by omega)], hg, hsc, by rw [List.length_take]; omega, hmx, ?_, ?_⟩⟩
    · rw [List.size_toArray, Nat.mul_one, length_splice _ _ _ (by rw [List.length_replicate, hcur]; omega), hcur]
    · rw [Nat.mul_one] at ht ⊢
      rw [List.length_take, Nat.min_eq_left (by omega), bytesV_take, ← ht, List.take_take, Nat.min_eq_left (by omega)]
      show List.take k (splice _ _ _) = _
      unfold splice
      rw [List.take_append_of_le_length (by rw [List.length_take, hcur]; omega), List.take_take, Nat.min_self]
theorem Own.head8 {B : Nat} {w : World} {l : List (BitVec 8)} {q : Option Addr} {n c k : Nat} (h : Own B w l (.slice q n c)) (hk : k ≤ l.length) : Own B w (l.take k) (.slice q k c) := by
  rcases h.2 with ⟨h0, h1⟩ | ⟨g, cap, cur, he, hg, hh, hc, hm, hs, ht⟩
  · cases h0
    have hk0 : k = 0 := by omega
    subst hk0
    exact World.ownsRow_nil w B 5 1
  · cases he
    refine ⟨by rw [bytesV_length, Nat.mul_one], .inr ⟨g, c, cur, by rw [List.length_take, Nat.min_eq_left hk], hg, hh, by rw [List.length_take]; omega, hm, hs, ?_⟩⟩
    rw [Nat.mul_one] at ht ⊢
    rw [List.length_take, Nat.min_eq_left hk, bytesV_take, ← ht, List.take_take, Nat.min_eq_left hk]
end Go.Proofs.YtejekgceompjpaaDoor

/-
  The program's disk: cutting a file, and the closures of Write, Cut and Over.
-/
namespace Go.Proofs.YtejekgceompjpaaDoor
open Go.RowKit Go.Proofs.ShaWords
theorem DkV.storeDur {S : Nat → Prop} {w : World} {g : Nat} {vs : Nat → Value} {d : DiskM} (h : DkV S w g vs d) (f n : Nat) (hf : f < 33) (F : Nat → FileM) (hF : F = setF d.files f ⟨(d.files f).all, n⟩) :
    DkV S (w.setCell ⟨g, f * 2 + 1, none⟩ (.int .i64 (n : Int))) g vs { d with files := F } := by
  subst hF
  exact h.putDur f n hf
theorem setF_twice (F : Nat → FileM) (f : Nat) (x y : FileM) : setF (setF F f x) f y = setF F f y := by
  funext k
  unfold setF
  split <;> rfl
/-- What an operation leaves of a disk. -/
def DkGo (S : Nat → Prop) (g : Nat) (d' : DiskM) (w w' : World) : Prop := ∃ S', DkAt S' w' g d' ∧ (∀ k, S' k → S k ∨ (w.heap.size ≤ k ∧ k < w'.heap.size)) ∧ Stays S w w'
def DkGoV (S : Nat → Prop) (g : Nat) (d' : DiskM) (w w' : World) : Prop := ∃ S' vs', DkV S' w' g vs' d' ∧ (∀ k, S' k → S k ∨ (w.heap.size ≤ k ∧ k < w'.heap.size)) ∧ Stays S w w'
end Go.Proofs.YtejekgceompjpaaDoor

/-
  The program's disk: execute.
-/
namespace Go.Proofs.YtejekgceompjpaaDoor
open Go.RowKit Go.Proofs.ShaWords
theorem DkGoV.count {S : Nat → Prop} {g : Nat} {d : DiskM} {w w2 w3 : World} (h : DkGoV S g d w2 w3) (hst : Stays (fun k => k = g) w w2) (hg : S g) (hz : w.heap.size = w2.heap.size) : ∃ c : Nat, c = d.count ∧ w3.cell? ⟨g, 67, none⟩ = some (.int .i64 (c : Int)) ∧ w3.frozen? ⟨g, 67, none⟩ = false ∧ w3.cell? ⟨g, 68, none⟩ = some (.bool d.down) ∧
    Hid (DkGoV S g { d with count := c + 1 } w (w3.setCell ⟨g, 67, none⟩ (.int .i64 ((c + 1 : Nat) : Int)))) := by
  obtain ⟨S', vs', h1, h2, h3⟩ := h
  refine ⟨d.count, rfl, h1.count, h1.thaw 67, h1.down, show DkGoV _ _ _ _ _ from ⟨S', vs', h1.putCount _, fun k s => ?_, ?_⟩⟩
  · rw [hz]; simpa using h2 k s
  · have a := hst.more (G := S) (fun k e => e ▸ hg)
    have b : Stays S w w3 := a.trans h3 (fun k s _ => s)
    refine b.trans (stays_set w3 g 67 _) (fun k e _ => e ▸ hg)
end Go.Proofs.YtejekgceompjpaaDoor

/-
  The program's disk: open, Used, the closures of Write, Cut and Over.
-/
namespace Go.Proofs.YtejekgceompjpaaDoor
open Go.RowKit Go.Proofs.ShaWords
theorem DkV.below {S : Nat → Prop} {w w' : World} {g : Nat} {vs : Nat → Value} {d : DiskM} (h : DkV S w g vs d) (hb : Below w.heap.size w w') : DkV S w' g vs d := h.keep (F := fun _ => False) (Below.stays hb) (fun _ f => f.elim)
theorem DkGoV.below {S : Nat → Prop} {g : Nat} {d : DiskM} {w0 w w' : World} (h : DkGoV S g d w w') (hb : Below w0.heap.size w0 w) : DkGoV S g d w0 w' := by
  obtain ⟨S', vs', h1, h2, h3⟩ := h
  refine ⟨S', vs', h1, fun k s => ?_, (Below.stays (F := S) hb).trans h3 (fun _ s _ => s)⟩
  rcases h2 k s with h | h
  · exact Or.inl h
  · exact Or.inr ⟨Nat.le_trans hb.size h.1, h.2⟩
theorem mb_append {ops : Array Oper} {Q : Exit → Act → World → Prop} {S E : World → Prop} {r : List (Nat × Met)} {i : Nat} {o : Oper} {d : Option Tmp} {a : Act} {w : World} {s x : Operand} {v : Value} {p : Option Addr} {k c : Nat} (ho : ops[i]? = some o) (hd : o.dst = d) (hw : Region.wanted o (yielded ops a.tmps) = true)
    (q : o.op = .call { callee := .builtin .append, args := #[s, x], argTypes := #[22, 22] }) (hs : a.eval s = v) (hx : a.eval x = .slice p k c)
    (B : Nat) (l m : List (BitVec 8)) (hown : Own B w l v) (hk : m.length = k) (hm : Lies w p m) (hl : l.length + k < 140737488355328) (hB : B ≤ w.heap.size)
    (h : ∀ v' w', Own B w' (l ++ m) v' → w.grownBy w' v.ownBlock → (v'.ownBlock = v.ownBlock ∨ v'.ownBlock = some w.heap.size) → (S w' ∧ E w') ∧ wpE Tryd.prog ops Q S E r (a.put d v') w') : wpE Tryd.prog ops Q S E ((i, .before) :: r) a w := by
  obtain ⟨v', w', hr, h1, h2, h3⟩ := run_appendAt (ρ := a.eval) q hs hx B l m hown hk hm hl hB
  exact mb_value ho hd hw hr (h v' w' h1 h2 h3)
section
variable {ρ : Operand → Value} {o : Oper} {x y : Operand} {w : World}
theorem run_loadBs {a : Addr} {p : Option Addr} {n c : Nat} (ho : o.op = .load 22 x) (hx : ρ x = .pointer (some a)) (hc : w.cell? a = some (.slice p n c)) : (execOp ρ o).run Tryd.prog w = .ok (.value (.slice p n c)) w := by
  obtain ⟨dst, op, ty', pos, after, guard⟩ := o
  simp only at ho
  subst ho
  go_simp
theorem run_loadIn {a : Addr} {n : Int} (ho : o.op = .load 3 x) (hx : ρ x = .pointer (some a)) (hc : w.cell? a = some (.int .i64 n)) : (execOp ρ o).run Tryd.prog w = .ok (.value (.int .i64 n)) w := by
  obtain ⟨dst, op, ty', pos, after, guard⟩ := o
  simp only at ho
  subst ho
  go_simp
theorem run_storeBs {a : Addr} {p : Option Addr} {n c : Nat} {u : Value} (ho : o.op = .store 22 x y) (hx : ρ x = .pointer (some a)) (hy : ρ y = .slice p n c) (hc : w.cell? a = some u) (hf : w.frozen? a = false) :
    (execOp ρ o).run Tryd.prog w = .ok .skip (w.setCell a (.slice p n c)) := by
  obtain ⟨dst, op, ty', pos, after, guard⟩ := o
  simp only at ho
  subst ho
  go_simp
end
end Go.Proofs.YtejekgceompjpaaDoor

/-
  The program's disk: the closures of Cut and Over; Write, Sync, Cut, Over.
-/
namespace Go.Proofs.YtejekgceompjpaaDoor
open Go.RowKit Go.Proofs.ShaWords
theorem DkV.inPlace {S : Nat → Prop} {w w1 : World} {g : Nat} {vs : Nat → Value} {d : DiskM} (h : DkV S w g vs d) (f : Nat) (hf : f < 33) (l : List (BitVec 8)) (hg : w.grownBy w1 (vs f).ownBlock) (ho : Own 0 w1 l (vs f)) :
    DkV S w1 g vs { d with files := setF d.files f ⟨l, (d.files f).dur⟩ } := by
  have hb := hg.block g h.lt (fun e => (h.ins f g hf e.symm).2 rfl)
  refine ⟨Nat.lt_of_lt_of_le h.lt hg.size, fun i hi => ?_, fun i => (World.frozen?_of_block (a := ⟨g, i, none⟩) hb).trans (h.thaw i), fun k hk => ?_, h.here, h.ins, h.apart, fun k s => Nat.lt_of_lt_of_le (h.dom k s) hg.size, fun j hj => (World.cell?_of_block (a := ⟨g, j, none⟩) hb).trans (h.long j hj)⟩
  · rw [(World.cell?_of_block (a := ⟨g, i, none⟩) hb).trans (h.cell i hi)]
    congr 1
    unfold dkCell
    by_cases h1 : i < 66
    · rw [if_pos h1, if_pos h1]
      by_cases h2 : i % 2 = 0
      · rw [if_pos h2, if_pos h2]
      · rw [if_neg h2, if_neg h2]
        show _ = Value.int .i64 ((setF d.files f _ (i / 2)).dur : Int)
        unfold setF
        split
        · rename_i e; rw [e]
        · rfl
    · rw [if_neg h1, if_neg h1]
  · show Own 0 w1 (setF d.files f _ k).all (vs k)
    by_cases e : k = f
    · subst e; rw [setF_same]; exact ho
    · rw [setF_other _ _ e]
      refine World.ownsRow.kept (h.own k hk) hg ?_
      cases hb : (vs k).ownBlock with
      | none => exact Or.inl rfl
      | some b => exact Or.inr (fun e2 => e (h.apart k f b hk hf hb (by rw [← e2])))
theorem wpList_runW8 {P : Program} {ops : Array Oper} {rest : List Oper} {o : Oper} {a : Act} {w w' : World} {Q : Exit → Act → World → Prop} {v : Value} (hw : Region.wanted o (yielded ops a.tmps) = true) (hr : (execOp a.eval o).run P w = .ok (.value v) w')
    (h : wpList P ops Q rest (a.put o.dst v) w') : wpList P ops Q (o :: rest) a w := by
  unfold wpList
  rw [if_pos hw]
  refine .inl ?_
  unfold Oper.wp
  rw [hr, Oper.upon_value]
  exact h
section
variable {ρ : Operand → Value} {o : Oper} {x y : Operand}
theorem run_subI {a b : Int} {ty : TypeId} (ho : o.op = .binOp .sub 3 x y ty) (hx : ρ x = .int .i64 a) (hy : ρ y = .int .i64 b) (h1 : -9223372036854775808 ≤ a - b ∧ a - b ≤ 9223372036854775807) (w : World) : (execOp ρ o).run Tryd.prog w = .ok (.value (.int .i64 (a - b))) w := by
  have h2 : IntKind.i64.wrap (a - b) = a - b := IntWalk.i64_in _ h1
  obtain ⟨dst, op, ty', pos, after, guard⟩ := o
  simp only at ho
  subst ho
  go_simp
theorem run_gtrT {a b : Int} {ty : TypeId} (ho : o.op = .binOp .gtr 3 x y ty) (hx : ρ x = .int .i64 a) (hy : ρ y = .int .i64 b) (h : b < a) (w : World) : (execOp ρ o).run Tryd.prog w = .ok (.value (.bool true)) w := by
  obtain ⟨dst, op, ty', pos, after, guard⟩ := o
  simp only at ho
  subst ho
  go_simp
theorem run_gtrF {a b : Int} {ty : TypeId} (ho : o.op = .binOp .gtr 3 x y ty) (hx : ρ x = .int .i64 a) (hy : ρ y = .int .i64 b) (h : ¬ b < a) (w : World) : (execOp ρ o).run Tryd.prog w = .ok (.value (.bool false)) w := by
  obtain ⟨dst, op, ty', pos, after, guard⟩ := o
  simp only at ho
  subst ho
  go_simp
end
theorem DkGoV.go {S : Nat → Prop} {g : Nat} {d : DiskM} {w w' : World} (h : DkGoV S g d w w') (hok : d.Ok) (hc : d.count ≤ 1000000000) : DkGo S g d w w' := by
  obtain ⟨S', vs', h1, h2, h3⟩ := h
  exact ⟨S', ⟨⟨vs', h1⟩, hok, hc⟩, h2, h3⟩
theorem DkAt.go {S : Nat → Prop} {g : Nat} {d : DiskM} {w w' : World} (h : DkAt S w g d) (hb : Below w.heap.size w w') : DkGo S g d w w' := ⟨S, h.below hb, fun _ s => Or.inl s, Below.stays hb⟩
theorem DiskM.exec_count (d : DiskM) (eff : (Nat → FileM) → Nat → FileM) (write : Bool) (h : d.count < 1000000000) : (d.exec eff write).count ≤ 1000000000 := by
  unfold DiskM.exec
  split
  · exact h
  · exact Nat.le_of_lt h
/-- A disk's block holds no byte. -/
theorem dk_noByte {S : Nat → Prop} {w : World} {g : Nat} {vs : Nat → Value} {d : DiskM} (h : DkV S w g vs d) (off : Nat) (x : BitVec 8) (hc : w.cell? ⟨g, off, none⟩ = some (.int .u8 (n8 x))) : False := by
  by_cases h0 : off < 70
  · rw [h.cell off h0] at hc
    unfold dkCell at hc
    by_cases h1 : off < 66
    · rw [if_pos h1] at hc
      by_cases h2 : off % 2 = 0
      · rw [if_pos h2] at hc
        obtain ⟨q, c, hv, -⟩ := h.all (off / 2) (by omega)
        rw [hv] at hc; cases hc
      · rw [if_neg h2] at hc; cases hc
    · rw [if_neg h1] at hc
      by_cases h2 : off = 66
      · rw [if_pos h2] at hc; cases hc
      · rw [if_neg h2] at hc
        by_cases h3 : off = 67
        · rw [if_pos h3] at hc; cases hc
        · rw [if_neg h3] at hc
          by_cases h4 : off = 68
          · rw [if_pos h4] at hc; cases hc
          · rw [if_neg h4] at hc; cases hc
  · rw [h.long off (by omega)] at hc; cases hc
end Go.Proofs.YtejekgceompjpaaDoor
