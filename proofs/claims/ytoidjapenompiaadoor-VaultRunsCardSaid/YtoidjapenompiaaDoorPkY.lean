/-
  What other texts lean on: DkModel, DkAt, DkExec, DkCut, DkRun, DkOps, DkCalls.
-/
import Derived.Test.YtoidjapenompiaaDoorPkA
import Derived.Lib.SliceRun
import Derived.Deep.DeepCutAuto
/-
  A disk as plain data: its files, each with how many of its bytes last; its room; how many operations were done; whether the power is off; how many operations go well ahead of the one that is struck (below nought: none is). What each call makes of it.
-/
namespace Go.Proofs.YtoidjapenompiaaDoor
open Go.Proofs.ShaWords
/-- A file: its bytes, and how many of them last. -/
structure FileM where
  all : List (BitVec 8)
  dur : Nat
structure DiskM where
  files : Nat → FileM
  room : Nat
  count : Nat
  down : Bool
  left : Int
/-- The lengths of the first n files. -/
def sumTo (F : Nat → FileM) : Nat → Nat
  | 0 => 0
  | n + 1 => sumTo F n + (F n).all.length
def DiskM.used (d : DiskM) : Nat := sumTo d.files 33
/-- What holds of every disk. -/
structure DiskM.Ok (d : DiskM) : Prop where
  dur : ∀ f, f < 33 → (d.files f).dur ≤ (d.files f).all.length
  used : d.used ≤ d.room
  room : d.room ≤ 262144
  left : -1 ≤ d.left ∧ d.left < 9223372036854775808
/-- A file is another one. -/
def setF (F : Nat → FileM) (f : Nat) (x : FileM) : Nat → FileM := fun k => if k = f then x else F k
theorem setF_same (F : Nat → FileM) (f : Nat) (x : FileM) : setF F f x f = x := if_pos rfl
theorem setF_other (F : Nat → FileM) {f k : Nat} (x : FileM) (h : k ≠ f) : setF F f x k = F k := if_neg h
theorem sumTo_setF (F : Nat → FileM) (f : Nat) (x : FileM) : ∀ n, sumTo (setF F f x) n + (if f < n then (F f).all.length else 0) = sumTo F n + (if f < n then x.all.length else 0)
  | 0 => by simp [sumTo]
  | n + 1 => by
    have ih := sumTo_setF F f x n
    unfold sumTo
    by_cases h : n = f
    · subst h
      rw [setF_same]
      simp at ih ⊢
      omega
    · rw [setF_other F x h]
      by_cases h2 : f < n
      · rw [if_pos (by omega), if_pos (by omega)]
        rw [if_pos h2, if_pos h2] at ih
        omega
      · rw [if_neg (by omega), if_neg (by omega)]
        rw [if_neg h2, if_neg h2] at ih
        omega
theorem sumTo_le (F : Nat → FileM) (f : Nat) : ∀ n, f < n → (F f).all.length ≤ sumTo F n
  | 0, h => by omega
  | n + 1, h => by
    unfold sumTo
    by_cases e : f = n
    · subst e; omega
    · have := sumTo_le F f n (by omega); omega
/-- A file's bytes, where its number may be any. -/
def DiskM.read (d : DiskM) (f : Int) : List (BitVec 8) := if 0 ≤ f ∧ f ≤ 32 then (d.files f.toNat).all else []
/-- An operation that is not refused: it is counted, and struck if its turn has come; what it does is done unless it was struck (a write's is done all the same). -/
def DiskM.tick (d : DiskM) : DiskM := { d with down := decide (d.left = 0), left := max (d.left - 1) (-1) }
def DiskM.exec (d : DiskM) (eff : (Nat → FileM) → Nat → FileM) (write : Bool) : DiskM :=
  if (write || !decide (d.left = 0)) = true then { d.tick with files := eff d.files, count := d.count + 1 } else d.tick
def DiskM.execE (d : DiskM) : Int := if d.left = 0 then 9 else 0
/-- Is there such a file, and is the power on? -/
def DiskM.openE (d : DiskM) (f : Int) : Int := if d.down = true then 9 else if 0 ≤ f ∧ f ≤ 32 then 0 else 1
def writeF (f : Nat) (b : List (BitVec 8)) (F : Nat → FileM) : Nat → FileM := setF F f ⟨(F f).all ++ b, (F f).dur⟩
def syncF (f : Nat) (F : Nat → FileM) : Nat → FileM := setF F f ⟨(F f).all, (F f).all.length⟩
def cutF (f n : Nat) (F : Nat → FileM) : Nat → FileM := setF F f ⟨(F f).all.take n, n⟩
/-- Bytes laid over a list from a place on. -/
def layOver (l : List (BitVec 8)) (at_ : Nat) (b : List (BitVec 8)) : List (BitVec 8) := l.take at_ ++ b ++ l.drop (at_ + b.length)
def overF (f at_ : Nat) (b : List (BitVec 8)) (F : Nat → FileM) : Nat → FileM := setF F f ⟨layOver (F f).all at_ b, (F f).dur⟩
def DiskM.write (d : DiskM) (f : Int) (b : List (BitVec 8)) : DiskM × Int :=
  if d.openE f ≠ 0 then (d, d.openE f) else if d.room < d.used + b.length then (d, 8) else (d.exec (writeF f.toNat b) true, d.execE)
def DiskM.sync (d : DiskM) (f : Int) : DiskM × Int :=
  if d.openE f ≠ 0 then (d, d.openE f) else (d.exec (syncF f.toNat) false, d.execE)
def DiskM.cut (d : DiskM) (f n : Int) : DiskM × Int :=
  if d.openE f ≠ 0 then (d, d.openE f) else if n < 0 ∨ ((d.files f.toNat).all.length : Int) < n then (d, 1) else (d.exec (cutF f.toNat n.toNat) false, d.execE)
def DiskM.over (d : DiskM) (f at_ : Int) (b : List (BitVec 8)) : DiskM × Int :=
  if d.openE f ≠ 0 then (d, d.openE f) else if at_ < 0 ∨ ((d.files f.toNat).dur : Int) - at_ < (b.length : Int) then (d, 1) else (d.exec (overF f.toNat at_.toNat b) false, d.execE)
def DiskM.arm (d : DiskM) (n : Int) : DiskM := { d with left := max n (-1) }
/-- What a crash leaves of a file. -/
def cutTo (x : FileM) (k : Int) : FileM := ⟨x.all.take (x.dur + (min (max k 0) ((x.all.length - x.dur : Nat) : Int)).toNat), x.dur + (min (max k 0) ((x.all.length - x.dur : Nat) : Int)).toNat⟩
/-- The files behind a crash, and the numbers that are left of those that say what is kept. -/
def crashTo (F : Nat → FileM) (keep : List Int) : Nat → (Nat → FileM) × List Int
  | 0 => (F, keep)
  | n + 1 =>
    let r := crashTo F keep n
    if (F n).all.length = (F n).dur then r else (setF r.1 n (cutTo (F n) (r.2.headD 0)), r.2.tail)
def DiskM.crash (d : DiskM) (keep : List Int) : DiskM := { d with files := (crashTo d.files keep 33).1, down := false, left := -1 }
def DiskM.new (room : Int) : DiskM := ⟨fun _ => ⟨[], 0⟩, (min (max room 0) 262144).toNat, 0, false, -1⟩
theorem sumTo_nil : ∀ n, sumTo (fun _ => ⟨[], 0⟩) n = 0
  | 0 => rfl
  | n + 1 => by unfold sumTo; rw [sumTo_nil n]; rfl
theorem DiskM.new_ok (room : Int) : (DiskM.new room).Ok := ⟨fun _ _ => Nat.le_refl _, by unfold DiskM.used DiskM.new; rw [sumTo_nil]; omega, by unfold DiskM.new; show (min (max room 0) 262144).toNat ≤ _; omega, by unfold DiskM.new; show -1 ≤ (-1 : Int) ∧ (-1 : Int) < _; omega⟩
theorem DiskM.tick_ok {d : DiskM} (h : d.Ok) : d.tick.Ok := ⟨h.dur, h.used, h.room, by have := h.left; unfold DiskM.tick; show -1 ≤ max (d.left - 1) (-1) ∧ max (d.left - 1) (-1) < _; omega⟩
theorem DiskM.exec_ok {d : DiskM} {eff : (Nat → FileM) → Nat → FileM} {write : Bool} (h : d.Ok) (h1 : ∀ f, f < 33 → (eff d.files f).dur ≤ (eff d.files f).all.length) (h2 : sumTo (eff d.files) 33 ≤ d.room) : (d.exec eff write).Ok := by
  unfold DiskM.exec
  split
  · exact ⟨h1, h2, h.room, (DiskM.tick_ok h).left⟩
  · exact DiskM.tick_ok h
theorem setF_dur {F : Nat → FileM} {f : Nat} {x : FileM} (h : ∀ k, k < 33 → (F k).dur ≤ (F k).all.length) (hx : x.dur ≤ x.all.length) (k : Nat) (hk : k < 33) : (setF F f x k).dur ≤ (setF F f x k).all.length := by
  unfold setF
  split
  · exact hx
  · exact h k hk
theorem layOver_length {l : List (BitVec 8)} {k : Nat} {b : List (BitVec 8)} (h : k + b.length ≤ l.length) : (layOver l k b).length = l.length := by
  unfold layOver
  rw [List.length_append, List.length_append, List.length_take, List.length_drop]; omega
theorem DiskM.openE_zero {d : DiskM} {f : Int} (h : ¬ d.openE f ≠ 0) : d.down = false ∧ 0 ≤ f ∧ f ≤ 32 := by
  unfold DiskM.openE at h
  split at h
  · exact absurd (by decide) h
  · rename_i hd
    split at h
    · rename_i hf
      exact ⟨by simpa using hd, hf⟩
    · exact absurd (by decide) h
theorem used_setF (d : DiskM) (f : Nat) (hf : f < 33) (x : FileM) : sumTo (setF d.files f x) 33 + (d.files f).all.length = d.used + x.all.length := by
  have h := sumTo_setF d.files f x 33
  rw [if_pos hf, if_pos hf] at h
  exact h
theorem DiskM.write_ok {d : DiskM} (h : d.Ok) (f : Int) (b : List (BitVec 8)) : (d.write f b).1.Ok := by
  unfold DiskM.write
  split
  · exact h
  · rename_i h0
    obtain ⟨-, h1, h2⟩ := DiskM.openE_zero h0
    split
    · exact h
    · rename_i h3
      have hd := h.dur f.toNat (by omega)
      have hu := used_setF d f.toNat (by omega) ⟨(d.files f.toNat).all ++ b, (d.files f.toNat).dur⟩
      rw [List.length_append] at hu
      exact DiskM.exec_ok (eff := writeF f.toNat b) (write := true) h (setF_dur h.dur (by show (d.files f.toNat).dur ≤ ((d.files f.toNat).all ++ b).length; rw [List.length_append]; omega)) (by show sumTo (setF _ _ _) 33 ≤ _; omega)
theorem DiskM.sync_ok {d : DiskM} (h : d.Ok) (f : Int) : (d.sync f).1.Ok := by
  unfold DiskM.sync
  split
  · exact h
  · rename_i h0
    obtain ⟨-, h1, h2⟩ := DiskM.openE_zero h0
    have hu := used_setF d f.toNat (by omega) ⟨(d.files f.toNat).all, (d.files f.toNat).all.length⟩
    have := h.used
    exact DiskM.exec_ok (eff := syncF f.toNat) (write := false) h (setF_dur h.dur (Nat.le_refl _)) (by show sumTo (setF _ _ _) 33 ≤ _; dsimp only at hu; omega)
theorem DiskM.cut_ok {d : DiskM} (h : d.Ok) (f n : Int) : (d.cut f n).1.Ok := by
  unfold DiskM.cut
  split
  · exact h
  · rename_i h0
    obtain ⟨-, h1, h2⟩ := DiskM.openE_zero h0
    split
    · exact h
    · rename_i h3
      have hu := used_setF d f.toNat (by omega) ⟨(d.files f.toNat).all.take n.toNat, n.toNat⟩
      have := h.used
      rw [List.length_take] at hu
      exact DiskM.exec_ok (eff := cutF f.toNat n.toNat) (write := false) h (setF_dur h.dur (by show n.toNat ≤ (List.take _ _).length; rw [List.length_take]; omega)) (by show sumTo (setF _ _ _) 33 ≤ _; omega)
theorem DiskM.over_ok {d : DiskM} (h : d.Ok) (f k : Int) (b : List (BitVec 8)) : (d.over f k b).1.Ok := by
  unfold DiskM.over
  split
  · exact h
  · rename_i h0
    obtain ⟨-, h1, h2⟩ := DiskM.openE_zero h0
    split
    · exact h
    · rename_i h3
      have hd := h.dur f.toNat (by omega)
      have hl : (layOver (d.files f.toNat).all k.toNat b).length = (d.files f.toNat).all.length := layOver_length (by omega)
      have hu := used_setF d f.toNat (by omega) ⟨layOver (d.files f.toNat).all k.toNat b, (d.files f.toNat).dur⟩
      have := h.used
      rw [hl] at hu
      exact DiskM.exec_ok (eff := overF f.toNat k.toNat b) (write := false) h (setF_dur h.dur (by show _ ≤ (layOver _ _ _).length; rw [hl]; exact hd)) (by show sumTo (setF _ _ _) 33 ≤ _; omega)
theorem DiskM.arm_ok {d : DiskM} (h : d.Ok) (n : Int) (hn : n < 9223372036854775808) : (d.arm n).Ok := ⟨h.dur, h.used, h.room, by unfold DiskM.arm; show -1 ≤ max n (-1) ∧ max n (-1) < _; omega⟩
/-- What a crash leaves is a beginning of what was there, and what lasted is in it. -/
theorem cutTo_ok {x : FileM} (h : x.dur ≤ x.all.length) (k : Int) : x.dur ≤ (cutTo x k).dur ∧ (cutTo x k).dur = (cutTo x k).all.length ∧ (cutTo x k).dur ≤ x.all.length := by
  unfold cutTo
  rw [List.length_take]
  dsimp only
  omega
theorem crashTo_at (F : Nat → FileM) (keep : List Int) : ∀ n f, n ≤ f → (crashTo F keep n).1 f = F f
  | 0, _, _ => rfl
  | n + 1, f, h => by
    unfold crashTo
    dsimp only
    split
    · exact crashTo_at F keep n f (by omega)
    · show setF _ _ _ f = _
      rw [setF_other _ _ (by omega)]; exact crashTo_at F keep n f (by omega)
theorem crashTo_file (F : Nat → FileM) (keep : List Int) (n : Nat) : ∀ m f, f < m → (crashTo F keep m).1 f = (crashTo F keep (f + 1)).1 f
  | 0, f, h => by omega
  | m + 1, f, h => by
    by_cases e : f = m
    · subst e; rfl
    · rw [← crashTo_file F keep n m f (by omega)]
      conv => lhs; unfold crashTo
      dsimp only
      split
      · rfl
      · show setF _ _ _ f = _
        rw [setF_other _ _ e]
theorem crashTo_one (F : Nat → FileM) (keep : List Int) (f : Nat) (hf : f < 33) : ∃ k, (crashTo F keep 33).1 f = cutTo (F f) k := by
  rw [crashTo_file F keep 0 33 f hf]
  unfold crashTo
  dsimp only
  split
  · rename_i e
    refine ⟨0, ?_⟩
    rw [crashTo_at F keep f f (Nat.le_refl _)]
    unfold cutTo
    have h0 : (F f).dur + (min (max (0 : Int) 0) (((F f).all.length - (F f).dur : Nat) : Int)).toNat = (F f).dur := by omega
    rw [h0, List.take_of_length_le (by omega)]
  · exact ⟨_, setF_same _ _ _⟩
theorem sumTo_mono {F G : Nat → FileM} : ∀ n, (∀ f, f < n → (F f).all.length ≤ (G f).all.length) → sumTo F n ≤ sumTo G n
  | 0, _ => Nat.le_refl _
  | n + 1, h => by
    unfold sumTo
    have := sumTo_mono n (fun f hf => h f (by omega))
    have := h n (by omega)
    omega
theorem DiskM.crash_ok {d : DiskM} (h : d.Ok) (keep : List Int) : (d.crash keep).Ok := by
  have h1 : ∀ f, f < 33 → ((crashTo d.files keep 33).1 f).dur = ((crashTo d.files keep 33).1 f).all.length ∧ ((crashTo d.files keep 33).1 f).dur ≤ (d.files f).all.length := fun f hf => by
    obtain ⟨k, hk⟩ := crashTo_one d.files keep f hf
    rw [hk]
    exact (cutTo_ok (h.dur f hf) k).2
  refine ⟨fun f hf => Nat.le_of_eq (h1 f hf).1, ?_, h.room, by show -1 ≤ (-1 : Int) ∧ (-1 : Int) < _; omega⟩
  exact Nat.le_trans (sumTo_mono 33 (fun f hf => by show ((crashTo d.files keep 33).1 f).all.length ≤ _; rw [← (h1 f hf).1]; exact (h1 f hf).2)) h.used
end Go.Proofs.YtoidjapenompiaaDoor

/-
  The program's disk in memory: its block, the slices of its files, the calls that only read it, New and Arm.
-/
namespace Go.Proofs.YtoidjapenompiaaDoor
open Go.RowKit Go.Proofs.ShaWords
/-- The cells of a disk: for each file its slice and how many bytes last; then room, count, power, what is armed. -/
def dkCell (vs : Nat → Value) (d : DiskM) (j : Nat) : Value :=
  if j < 66 then (if j % 2 = 0 then vs (j / 2) else .int .i64 ((d.files (j / 2)).dur : Int)) else if j = 66 then .int .i64 (d.room : Int) else if j = 67 then .int .i64 (d.count : Int) else if j = 68 then .bool d.down else .int .i64 d.left
/-- A disk lies in block g; its files' bytes lie in blocks of S, each in one of its own. -/
structure DkV (S : Nat → Prop) (w : World) (g : Nat) (vs : Nat → Value) (d : DiskM) : Prop where
  lt : g < w.heap.size
  cell : ∀ j, j < 70 → w.cell? ⟨g, j, none⟩ = some (dkCell vs d j)
  thaw : ∀ j, w.frozen? ⟨g, j, none⟩ = false
  own : ∀ f, f < 33 → Own 0 w (d.files f).all (vs f)
  here : S g
  ins : ∀ f b, f < 33 → (vs f).ownBlock = some b → S b ∧ b ≠ g
  apart : ∀ f k b, f < 33 → k < 33 → (vs f).ownBlock = some b → (vs k).ownBlock = some b → f = k
  dom : ∀ k, S k → k < w.heap.size
  long : ∀ j, 70 ≤ j → w.cell? ⟨g, j, none⟩ = none
def DkAt (S : Nat → Prop) (w : World) (g : Nat) (d : DiskM) : Prop := (∃ vs, DkV S w g vs d) ∧ d.Ok ∧ d.count ≤ 1000000000
theorem DkV.keep {S F : Nat → Prop} {w w' : World} {g : Nat} {vs : Nat → Value} {d : DiskM} (h : DkV S w g vs d) (hk : Stays F w w') (hF : ∀ k, F k → ¬ S k) : DkV S w' g vs d :=
  have hb := hk.block g h.lt (fun f => hF g f h.here)
  ⟨Nat.lt_of_lt_of_le h.lt hk.size, fun j hj => (World.cell?_of_block (a := ⟨g, j, none⟩) hb).trans (h.cell j hj), fun j => (World.frozen?_of_block (a := ⟨g, j, none⟩) hb).trans (h.thaw j),
    fun f hf => ownsRow_stays (h.own f hf) hk (fun k hk' fk => hF k fk (h.ins f k hf hk').1), h.here, h.ins, h.apart, fun k s => Nat.lt_of_lt_of_le (h.dom k s) hk.size, fun j hj => (World.cell?_of_block (a := ⟨g, j, none⟩) hb).trans (h.long j hj)⟩
theorem DkAt.keep {S F : Nat → Prop} {w w' : World} {g : Nat} {d : DiskM} (h : DkAt S w g d) (hk : Stays F w w') (hF : ∀ k, F k → ¬ S k) : DkAt S w' g d := ⟨h.1.imp fun _ h => h.keep hk hF, h.2⟩
theorem DkAt.below {S : Nat → Prop} {w w' : World} {g : Nat} {d : DiskM} (h : DkAt S w g d) (hb : Below w.heap.size w w') : DkAt S w' g d := h.keep (F := fun _ => False) (Below.stays hb) (fun _ f => f.elim)
theorem DkV.all {S : Nat → Prop} {w : World} {g : Nat} {vs : Nat → Value} {d : DiskM} (h : DkV S w g vs d) (f : Nat) (hf : f < 33) : ∃ q c, vs f = .slice q (d.files f).all.length c ∧ (d.files f).all.length ≤ c ∧ c ≤ maxLen ∧ Lies w q (d.files f).all := (h.own f hf).lies
theorem DkV.c0 {S : Nat → Prop} {w : World} {g : Nat} {vs : Nat → Value} {d : DiskM} (h : DkV S w g vs d) (f : Nat) (hf : f < 33) : w.cell? ⟨g, f * 2, none⟩ = some (vs f) := by
  rw [h.cell _ (by omega), dkCell, if_pos (by omega), if_pos (by omega), Nat.mul_div_cancel _ (by omega)]
theorem DkV.c1 {S : Nat → Prop} {w : World} {g : Nat} {vs : Nat → Value} {d : DiskM} (h : DkV S w g vs d) (f : Nat) (hf : f < 33) : w.cell? ⟨g, f * 2 + 1, none⟩ = some (.int .i64 ((d.files f).dur : Int)) := by
  rw [h.cell _ (by omega), dkCell, if_pos (by omega), if_neg (by omega), show (f * 2 + 1) / 2 = f by omega]
theorem DkV.room {S : Nat → Prop} {w : World} {g : Nat} {vs : Nat → Value} {d : DiskM} (h : DkV S w g vs d) : w.cell? ⟨g, 66, none⟩ = some (.int .i64 (d.room : Int)) := h.cell 66 (by omega)
theorem DkV.count {S : Nat → Prop} {w : World} {g : Nat} {vs : Nat → Value} {d : DiskM} (h : DkV S w g vs d) : w.cell? ⟨g, 67, none⟩ = some (.int .i64 (d.count : Int)) := h.cell 67 (by omega)
theorem DkV.down {S : Nat → Prop} {w : World} {g : Nat} {vs : Nat → Value} {d : DiskM} (h : DkV S w g vs d) : w.cell? ⟨g, 68, none⟩ = some (.bool d.down) := h.cell 68 (by omega)
theorem DkV.left {S : Nat → Prop} {w : World} {g : Nat} {vs : Nat → Value} {d : DiskM} (h : DkV S w g vs d) : w.cell? ⟨g, 69, none⟩ = some (.int .i64 d.left) := h.cell 69 (by omega)
theorem dkCount_any (S : Nat → Prop) (g : Nat) (d : DiskM) (w : World) (h : DkAt S w g d) :
    Calls Tryd.prog 19 #[.pointer (some ⟨g, 0, none⟩)] w fun e w' => e = .returned (.int .i64 (d.count : Int)) ∧ w = w' := by
  obtain ⟨⟨vs, h⟩, -, -⟩ := h
  have c := h.count
  clear h
  go_enter Tryd.func19, Tryd.ntmps19
  go_wp2_with fail
  go_ret
  exact ⟨rfl, rfl⟩
theorem dkDown_any (S : Nat → Prop) (g : Nat) (d : DiskM) (w : World) (h : DkAt S w g d) :
    Calls Tryd.prog 17 #[.pointer (some ⟨g, 0, none⟩)] w fun e w' => e = .returned (.bool d.down) ∧ w = w' := by
  obtain ⟨⟨vs, h⟩, -, -⟩ := h
  have c := h.down
  clear h
  go_enter Tryd.func17, Tryd.ntmps17
  go_wp2_with fail
  go_ret
  exact ⟨rfl, rfl⟩
theorem dkExists_yes (f : Int) (w : World) (h1 : 0 ≤ f) (h2 : f ≤ 32) : Calls Tryd.prog 42 #[.int .i64 f] w fun e w' => e = .returned (.bool true) ∧ w = w' := by
  go_enter Tryd.func42, Tryd.ntmps42
  go_wp2_with fail
  go_ret
  exact ⟨rfl, rfl⟩
theorem dkExists_no (f : Int) (w : World) (h : ¬ (0 ≤ f ∧ f ≤ 32)) : Calls Tryd.prog 42 #[.int .i64 f] w fun e w' => e = .returned (.bool false) ∧ w = w' := by
  by_cases h1 : 0 ≤ f
  · have h2 : ¬ f ≤ 32 := fun x => h ⟨h1, x⟩
    clear h
    go_enter Tryd.func42, Tryd.ntmps42
    go_wp2_with fail
    go_ret
    exact ⟨rfl, rfl⟩
  · clear h
    go_enter Tryd.func42, Tryd.ntmps42
    go_wp2_with fail
    go_ret
    exact ⟨rfl, rfl⟩
/-- What a read takes: a file's slice, loaded out of the disk's block. -/
theorem dkRead_any (S : Nat → Prop) (g : Nat) (d : DiskM) (f : Int) (w : World) (h : DkAt S w g d) :
    Calls Tryd.prog 15 #[.pointer (some ⟨g, 0, none⟩), .int .i64 f] w fun e w' => ∃ v, e = .returned v ∧ Own w.heap.size w' (d.read f) v ∧ Below w.heap.size w w' := by
  by_cases hf : 0 ≤ f ∧ f ≤ 32
  · obtain ⟨k, rfl⟩ : ∃ k : Nat, f = (k : Int) := ⟨f.toNat, by omega⟩
    have hk : k < 33 := by omega
    obtain ⟨⟨vs, h⟩, hok, -⟩ := h
    have c := h.c0 k hk
    obtain ⟨q, cp, hv, h1, h2, hl⟩ := h.all k hk
    rw [hv] at c
    have hle := sumTo_le d.files k 33 hk
    have hu := hok.used
    have hr := hok.room
    have hb : (d.files k).all.length < 140737488355328 := by unfold DiskM.used at hu; omega
    have HC := Lib.hid (clone_any (d.files k).all _ q cp w rfl hb hl)
    have HX := Lib.hid (dkExists_yes (k : Int) w (by omega) (by omega))
    have hrd : d.read (k : Int) = (d.files k).all := by unfold DiskM.read; rw [if_pos hf, Int.toNat_natCast]
    rw [hrd]
    clear h hok hl h1 h2 hv hle hu hr hb hrd
    generalize (d.files k).all.length = n at c HC
    have k0 : (0 : Int) ≤ (k : Int) := by omega
    have k1 : (k : Int) < 33 := by omega
    clear hf hk
    go_enter Tryd.func15, Tryd.ntmps15
    go_wp2_with fail
    refine HX.out.mono ?_
    rintro e w1 ⟨rfl, rfl⟩
    go_wp2_with fail
    refine HC.out.mono ?_
    rintro e w1 ⟨v, rfl, ho, hb⟩
    have HO := Lib.hid ho; have HB := Lib.hid hb; clear ho hb
    go_wp2_with fail
    go_ret
    exact ⟨v, rfl, HO.out, HB.out⟩
  · have HX := Lib.hid (dkExists_no f w hf)
    have hrd : d.read f = [] := if_neg hf
    rw [hrd]
    clear h hf hrd
    go_enter Tryd.func15, Tryd.ntmps15
    go_wp2_with fail
    refine HX.out.mono ?_
    rintro e w1 ⟨rfl, rfl⟩
    go_wp2_with fail
    go_ret
    exact ⟨_, rfl, Own.nil _ _, Below.refl _ _⟩
end Go.Proofs.YtoidjapenompiaaDoor

/-
  The program's disk: what its closures do, and execute.
-/
namespace Go.Proofs.YtoidjapenompiaaDoor
open Go.RowKit Go.Proofs.ShaWords
theorem DkV.store {S S' : Nat → Prop} {w w1 : World} {g : Nat} {vs vs' : Nat → Value} {d d' : DiskM} (h : DkV S w g vs d) (hb : w1.heap[g]? = w.heap[g]?) (hz : w.heap.size ≤ w1.heap.size) {j : Nat} (hj : j < 70) (v : Value)
    (hcell : ∀ i, i < 70 → dkCell vs' d' i = if i = j then v else dkCell vs d i) (hall : ∀ f, f < 33 → Own 0 w1 (d'.files f).all (vs' f)) (hS : S' g)
    (hins : ∀ f b, f < 33 → (vs' f).ownBlock = some b → S' b ∧ b ≠ g) (hap : ∀ f k b, f < 33 → k < 33 → (vs' f).ownBlock = some b → (vs' k).ownBlock = some b → f = k) (hdom : ∀ k, S' k → k < w1.heap.size) :
    DkV S' (w1.setCell ⟨g, j, none⟩ v) g vs' d' where
  lt := by have := h.lt; simp; omega
  cell := fun i hi => by
    have hc1 : w1.cell? ⟨g, i, none⟩ = some (dkCell vs d i) := (World.cell?_of_block (a := ⟨g, i, none⟩) hb).trans (h.cell i hi)
    rw [hcell i hi]
    by_cases e : i = j
    · subst e
      rw [if_pos rfl]
      exact World.cell?_setCell_same _ _ _ hc1
    · rw [if_neg e, World.cell?_setCell_other _ _ _ _ (fun e2 => e (by injection e2 with _ e3 _; exact e3.symm))]
      exact hc1
  thaw := fun i => by
    rw [World.frozen?_setCell]
    exact (World.frozen?_of_block (a := ⟨g, i, none⟩) hb).trans (h.thaw i)
  own := fun f hf => ownsRow_stays (F := fun k => k = g) (hall f hf) (grown_stays (grown_setCell w1 g j v) (fun k e => by cases e; rfl)) (fun k hk e => (hins f k hf hk).2 e)
  here := hS
  ins := hins
  apart := hap
  dom := fun k s => Nat.lt_of_lt_of_le (hdom k s) (by simp)
  long := fun i hi => by
    rw [World.cell?_setCell_other _ _ _ _ (fun e => by injection e with _ e _; omega)]
    exact (World.cell?_of_block (a := ⟨g, i, none⟩) hb).trans (h.long i hi)
theorem dkCell_vs {vs : Nat → Value} {d : DiskM} {f : Nat} {v : Value} (hf : f < 33) (i : Nat) (hi : i < 70) : dkCell (fun k => if k = f then v else vs k) d i = if i = f * 2 then v else dkCell vs d i := by
  unfold dkCell
  by_cases h : i < 66
  · rw [if_pos h, if_pos h]
    by_cases h2 : i % 2 = 0
    · rw [if_pos h2, if_pos h2]
      show (if i / 2 = f then v else vs (i / 2)) = _
      by_cases h3 : i / 2 = f
      · rw [if_pos h3, if_pos (by omega)]
      · rw [if_neg h3, if_neg (by omega)]
    · rw [if_neg h2, if_neg h2, if_neg (show ¬ i = f * 2 by omega)]
  · rw [if_neg h, if_neg h, if_neg (show ¬ i = f * 2 by omega)]
theorem dkCell_dur {vs : Nat → Value} {d : DiskM} {f n : Nat} (hf : f < 33) (i : Nat) (hi : i < 70) : dkCell vs { d with files := setF d.files f ⟨(d.files f).all, n⟩ } i = if i = f * 2 + 1 then .int .i64 (n : Int) else dkCell vs d i := by
  unfold dkCell
  by_cases h : i < 66
  · rw [if_pos h, if_pos h]
    by_cases h2 : i % 2 = 0
    · rw [if_pos h2, if_pos h2, if_neg (by omega)]
    · rw [if_neg h2, if_neg h2]
      by_cases h3 : i / 2 = f
      · rw [if_pos (by omega), h3]
        show Value.int .i64 ((setF d.files f _ f).dur : Int) = _
        rw [setF_same]
      · rw [if_neg (by omega)]
        show Value.int .i64 ((setF d.files f _ (i / 2)).dur : Int) = _
        rw [setF_other _ _ h3]
  · rw [if_neg h, if_neg h, if_neg (show ¬ i = f * 2 + 1 by omega)]
theorem DkV.putDur {S : Nat → Prop} {w : World} {g : Nat} {vs : Nat → Value} {d : DiskM} (h : DkV S w g vs d) (f n : Nat) (hf : f < 33) :
    DkV S (w.setCell ⟨g, f * 2 + 1, none⟩ (.int .i64 (n : Int))) g vs { d with files := setF d.files f ⟨(d.files f).all, n⟩ } :=
  h.store rfl (Nat.le_refl _) (by omega) _ (dkCell_dur hf) (fun k hk => by
    show Own 0 w (setF d.files f _ k).all (vs k)
    by_cases e : k = f
    · subst e; rw [setF_same]; exact h.own k hk
    · rw [setF_other _ _ e]; exact h.own k hk) h.here h.ins h.apart h.dom
theorem DkV.putLeft {S : Nat → Prop} {w : World} {g : Nat} {vs : Nat → Value} {d : DiskM} (h : DkV S w g vs d) (n : Int) : DkV S (w.setCell ⟨g, 69, none⟩ (.int .i64 n)) g vs { d with left := n } :=
  h.store rfl (Nat.le_refl _) (by omega) _ (fun i hi => by
    unfold dkCell
    by_cases e : i = 69
    · subst e; rfl
    · rw [if_neg (show ¬ i = 69 from e)]
      by_cases h1 : i < 66
      · simp only [if_pos h1]
      · by_cases h2 : i = 66
        · simp only [if_neg h1, if_pos h2]
        · by_cases h3 : i = 67
          · simp only [if_neg h1, if_neg h2, if_pos h3]
          · simp only [if_neg h1, if_neg h2, if_neg h3, if_pos (show i = 68 by omega)]) h.own h.here h.ins h.apart h.dom
theorem DkV.putDown {S : Nat → Prop} {w : World} {g : Nat} {vs : Nat → Value} {d : DiskM} (h : DkV S w g vs d) (b : Bool) : DkV S (w.setCell ⟨g, 68, none⟩ (.bool b)) g vs { d with down := b } :=
  h.store rfl (Nat.le_refl _) (by omega) _ (fun i hi => by
    unfold dkCell
    by_cases e : i = 68
    · subst e; rfl
    · rw [if_neg (show ¬ i = 68 from e)]
      simp only [if_neg e]) h.own h.here h.ins h.apart h.dom
theorem DkV.putCount {S : Nat → Prop} {w : World} {g : Nat} {vs : Nat → Value} {d : DiskM} (h : DkV S w g vs d) (n : Nat) : DkV S (w.setCell ⟨g, 67, none⟩ (.int .i64 (n : Int))) g vs { d with count := n } :=
  h.store rfl (Nat.le_refl _) (by omega) _ (fun i hi => by
    unfold dkCell
    by_cases e : i = 67
    · subst e; rfl
    · rw [if_neg (show ¬ i = 67 from e)]
      simp only [if_neg e]) h.own h.here h.ins h.apart h.dom
theorem stays_set (w : World) (g j : Nat) (v : Value) : Stays (fun k => k = g) w (w.setCell ⟨g, j, none⟩ v) := grown_stays (grown_setCell w g j v) (fun k e => by cases e; rfl)
set_option maxRecDepth 100000 in
theorem dkSyncC_any (S : Nat → Prop) (g c f : Nat) (vs : Nat → Value) (d : DiskM) (w : World) (h : DkV S w g vs d) (hf : f < 33) (hx : w.cell? ⟨c, 0, none⟩ = some (.pointer (some ⟨g, f * 2, none⟩))) :
    Calls Tryd.prog 77 #[.pointer (some ⟨c, 0, none⟩)] w fun e w' => e = .returned (.tuple #[]) ∧ DkV S w' g vs { d with files := syncF f d.files } ∧ Stays (fun k => k = g) w w' := by
  have c0 := h.c0 f hf
  obtain ⟨q, cp, hv, h1, h2, hl⟩ := h.all f hf
  rw [hv] at c0
  have c1 := h.c1 f hf
  have cf := h.thaw (f * 2 + 1)
  have HD : Hid (∀ w' : World, Below w.heap.size w w' → DkV S (w'.setCell ⟨g, f * 2 + 1, none⟩ (.int .i64 ((d.files f).all.length : Int))) g vs { d with files := syncF f d.files }) := show ∀ _, _ → _ from fun w' hb => (h.keep (F := fun _ => False) (Below.stays hb) (fun _ e => e.elim)).putDur f _ hf
  clear h h1 h2 hl hv
  generalize (d.files f).all.length = n at *
  generalize (d.files f).dur = m at *
  go_enter Tryd.func77, Tryd.ntmps77
  go_still_tail 8, (by kernel_rfl)
  change wpList _ _ _ _ _ w.drew
  go_wp2_with fail
  go_end0
  exact ⟨rfl, HD.out w.drew (Below.refl _ _).drew, (Below.stays (Below.refl _ _).drew).trans (stays_set w.drew g _ _) (fun k e _ => e)⟩
theorem DkV.putAll {S S' : Nat → Prop} {w w1 : World} {g : Nat} {vs : Nat → Value} {d : DiskM} (h : DkV S w g vs d) (f : Nat) (hf : f < 33) (l : List (BitVec 8)) (v : Value) (hg : w.grownBy w1 (vs f).ownBlock) (ho : Own 0 w1 l v)
    (hv : v.ownBlock = (vs f).ownBlock ∨ v.ownBlock = some w.heap.size) (hS : ∀ k, S k → S' k) (hS' : ∀ k, v.ownBlock = some k → S' k) (hdom : ∀ k, S' k → k < w1.heap.size) :
    DkV S' (w1.setCell ⟨g, f * 2, none⟩ v) g (fun k => if k = f then v else vs k) { d with files := setF d.files f ⟨l, (d.files f).dur⟩ } := by
  have hfar : ∀ k, k < 33 → k ≠ f → v.ownBlock ≠ none → (vs k).ownBlock ≠ v.ownBlock := fun k hk e hn he => by
    rcases hv with h1 | h1
    · rw [h1] at he hn
      cases hb : (vs f).ownBlock with
      | none => exact hn hb
      | some b => rw [hb] at he; exact e (h.apart k f b hk hf he hb)
    · rw [h1] at he
      have := h.dom _ (h.ins k _ hk he).1
      omega
  refine h.store (hg.block g h.lt (fun e => (h.ins f g hf e.symm).2 rfl)) hg.size (by omega) v (fun i hi => ?_) (fun k hk => ?_) (hS g h.here) (fun k b hk hb => ?_) (fun j k b hj hk h1 h2 => ?_) hdom
  · rw [← dkCell_vs (d := d) (vs := vs) (v := v) hf i hi]
    unfold dkCell
    by_cases h1 : i < 66
    · rw [if_pos h1, if_pos h1]
      by_cases h2 : i % 2 = 0
      · rw [if_pos h2, if_pos h2]
      · rw [if_neg h2, if_neg h2]
        show Value.int .i64 ((setF d.files f _ (i / 2)).dur : Int) = _
        unfold setF
        split
        · rename_i e; rw [e]
        · rfl
    · rw [if_neg h1, if_neg h1]
  · show Own 0 w1 (setF d.files f _ k).all (if k = f then v else vs k)
    by_cases e : k = f
    · subst e; rw [setF_same, if_pos rfl]; exact ho
    · rw [setF_other _ _ e, if_neg e]
      refine World.ownsRow.kept (h.own k hk) hg ?_
      cases hb : (vs k).ownBlock with
      | none => exact Or.inl rfl
      | some b => exact Or.inr (fun e2 => e (h.apart k f b hk hf hb (by rw [← e2])))
  · have hb' : (if k = f then v else vs k).ownBlock = some b := hb
    by_cases e : k = f
    · rw [if_pos e] at hb'
      refine ⟨hS' b hb', fun e2 => ?_⟩
      rcases hv with h1 | h1
      · rw [h1] at hb'; exact (h.ins f b hf hb').2 e2
      · rw [h1] at hb'; cases hb'; have := h.lt; omega
    · rw [if_neg e] at hb'
      exact ⟨hS b (h.ins k b hk hb').1, (h.ins k b hk hb').2⟩
  · have h1' : (if j = f then v else vs j).ownBlock = some b := h1
    have h2' : (if k = f then v else vs k).ownBlock = some b := h2
    by_cases e : j = f
    · by_cases e2 : k = f
      · rw [e, e2]
      · rw [if_pos e] at h1'
        rw [if_neg e2] at h2'
        exact absurd (h2'.trans h1'.symm) (hfar k hk e2 (by rw [h1']; simp))
    · by_cases e2 : k = f
      · rw [if_neg e] at h1'
        rw [if_pos e2] at h2'
        exact absurd (h1'.trans h2'.symm) (hfar j hj e (by rw [h2']; simp))
      · rw [if_neg e] at h1'
        rw [if_neg e2] at h2'
        exact h.apart j k b hj hk h1' h2'
/-- A slice's tail is cleared: the bytes ahead of it stay. -/
theorem clear_tail {w : World} {l : List (BitVec 8)} {b m c k : Nat} (h : Own 0 w l (.slice (some ⟨b, 0, none⟩) m c)) (hm : l.length = m) (hk : k < m) :
    ∃ w1, (∀ ty, (Builtin.clear_ #[37] ty #[.slice (some ⟨b, k, none⟩) (m - k) (c - k)]).run Tryd.prog w = .ok (.tuple #[]) w1) ∧ Own 0 w1 (l.take k) (.slice (some ⟨b, 0, none⟩) k c) ∧ w.grownBy w1 (some b) := by
  subst hm
  obtain ⟨b', c', he, -, -, hcm, hc2, hcell, hfr⟩ := h.form8 (by omega)
  cases he
  have hh := h.2
  rcases hh with ⟨h0, _⟩ | ⟨g, cap, cur, he, hg, hb, hc, hmx, hs, ht⟩
  · cases h0
  cases he
  have hcur : cur.toList.length = c := by rw [Array.length_toList, hs, Nat.mul_one]
  refine ⟨_, fun ty => Lib.run_clear_slice w _ _ ty (.int .u8 0) Tryd.underlying37 (fun w => by kernel_rfl) rfl rfl b k (l.length - k) (c - k) (by omega) (fun j hj => ?_) (fun j hj => hfr (k + j)), ?_, grown_setCells _ _ _ _⟩
  · rw [hcell (k + j) (by omega)]; rfl
  · have hsc := heap_setCells b 5 (List.replicate (l.length - k) (.int .u8 0)) k cur.toList w (by rw [hb]) (by rw [List.length_replicate, hcur]; omega)
    refine ⟨by rw [bytesV_length, Nat.mul_one], .inr ⟨b, c, _, by rw [List.length_take, Nat.min_eq_left (by omega)], hg, hsc, by rw [List.length_take]; omega, hmx, ?_, ?_⟩⟩
    · rw [List.size_toArray, Nat.mul_one, length_splice _ _ _ (by rw [List.length_replicate, hcur]; omega), hcur]
    · rw [Nat.mul_one] at ht ⊢
      rw [List.length_take, Nat.min_eq_left (by omega), bytesV_take, ← ht, List.take_take, Nat.min_eq_left (by omega)]
      show List.take k (splice _ _ _) = _
      unfold splice
      rw [List.take_append_of_le_length (by rw [List.length_take, hcur]; omega), List.take_take, Nat.min_self]
theorem Own.head8 {B : Nat} {w : World} {l : List (BitVec 8)} {q : Option Addr} {n c k : Nat} (h : Own B w l (.slice q n c)) (hk : k ≤ l.length) : Own B w (l.take k) (.slice q k c) := by
  rcases h.2 with ⟨h0, h1⟩ | ⟨g, cap, cur, he, hg, hh, hc, hm, hs, ht⟩
  · cases h0
    have hk0 : k = 0 := by omega
    subst hk0
    exact World.ownsRow_nil w B 5 1
  · cases he
    refine ⟨by rw [bytesV_length, Nat.mul_one], .inr ⟨g, c, cur, by rw [List.length_take, Nat.min_eq_left hk], hg, hh, by rw [List.length_take]; omega, hm, hs, ?_⟩⟩
    rw [Nat.mul_one] at ht ⊢
    rw [List.length_take, Nat.min_eq_left hk, bytesV_take, ← ht, List.take_take, Nat.min_eq_left hk]
end Go.Proofs.YtoidjapenompiaaDoor

/-
  The program's disk: cutting a file, and the closures of Write, Cut and Over.
-/
namespace Go.Proofs.YtoidjapenompiaaDoor
open Go.RowKit Go.Proofs.ShaWords
theorem DkV.storeDur {S : Nat → Prop} {w : World} {g : Nat} {vs : Nat → Value} {d : DiskM} (h : DkV S w g vs d) (f n : Nat) (hf : f < 33) (F : Nat → FileM) (hF : F = setF d.files f ⟨(d.files f).all, n⟩) :
    DkV S (w.setCell ⟨g, f * 2 + 1, none⟩ (.int .i64 (n : Int))) g vs { d with files := F } := by
  subst hF
  exact h.putDur f n hf
theorem setF_twice (F : Nat → FileM) (f : Nat) (x y : FileM) : setF (setF F f x) f y = setF F f y := by
  funext k
  unfold setF
  split <;> rfl
/-- What an operation leaves of a disk. -/
def DkGo (S : Nat → Prop) (g : Nat) (d' : DiskM) (w w' : World) : Prop := ∃ S', DkAt S' w' g d' ∧ (∀ k, S' k → S k ∨ (w.heap.size ≤ k ∧ k < w'.heap.size)) ∧ Stays S w w'
def DkGoV (S : Nat → Prop) (g : Nat) (d' : DiskM) (w w' : World) : Prop := ∃ S' vs', DkV S' w' g vs' d' ∧ (∀ k, S' k → S k ∨ (w.heap.size ≤ k ∧ k < w'.heap.size)) ∧ Stays S w w'
set_option maxRecDepth 100000 in
theorem dkCutF_any (S : Nat → Prop) (g f k : Nat) (vs : Nat → Value) (d : DiskM) (w : World) (h : DkV S w g vs d) (hf : f < 33) (hk : k ≤ (d.files f).all.length) (hm63 : (d.files f).all.length < 9223372036854775808) :
    Calls Tryd.prog 57 #[.pointer (some ⟨g, f * 2, none⟩), .int .i64 (k : Int)] w fun e w' => e = .returned (.tuple #[]) ∧ DkGoV S g { d with files := cutF f k d.files } w w' := by
  obtain ⟨q, c, hv, h1, h2, hl⟩ := h.all f hf
  have ho := h.own f hf
  rw [hv] at ho
  have c0 := h.c0 f hf
  rw [hv] at c0
  have c1 := h.c1 f hf
  have t0 := h.thaw (f * 2)
  have t1 := h.thaw (f * 2 + 1)
  -- whatever the clearing left
  have fin : ∀ w1 : World, Own 0 w1 ((d.files f).all.take k) (.slice q k c) → w.grownBy w1 (Value.slice q (d.files f).all.length c).ownBlock →
      DkGoV S g { d with files := cutF f k d.files } w ((w1.setCell ⟨g, f * 2, none⟩ (.slice q k c)).setCell ⟨g, f * 2 + 1, none⟩ (.int .i64 (k : Int))) := fun w1 h3 h4 => by
    have hob : (Value.slice q k c).ownBlock = (vs f).ownBlock := by rw [hv]; cases q <;> rfl
    have hg4 : w.grownBy w1 (vs f).ownBlock := by rw [hv]; exact h4
    have h5 := h.putAll (S' := S) f hf ((d.files f).all.take k) (.slice q k c) hg4 h3 (Or.inl hob) (fun _ s => s) (fun b e => (h.ins f b hf (by rw [← hob]; exact e)).1) (fun b s => Nat.lt_of_lt_of_le (h.dom b s) hg4.size)
    refine ⟨S, _, h5.storeDur f k hf (cutF f k d.files) ?_, fun _ s => Or.inl s, ?_⟩
    · unfold cutF
      show _ = setF (setF d.files f _) f ⟨(setF d.files f _ f).all, k⟩
      rw [setF_same, setF_twice]
    · have s1 : Stays S w w1 := grown_stays hg4 (fun b e => (h.ins f b hf e).1)
      have s2 := (stays_set w1 g (f * 2) (.slice q k c)).more (G := S) (fun b e => e ▸ h.here)
      have s3 := (stays_set (w1.setCell ⟨g, f * 2, none⟩ (.slice q k c)) g (f * 2 + 1) (.int .i64 (k : Int))).more (G := S) (fun b e => e ▸ h.here)
      exact (s1.trans s2 (fun _ s _ => s)).trans s3 (fun _ s _ => s)
  have fg : ∀ w1 : World, w.grownBy w1 (Value.slice q (d.files f).all.length c).ownBlock → w1.heap[g]? = w.heap[g]? := fun w1 hg1 => hg1.block g h.lt (fun e => (h.ins f g hf (by rw [hv]; exact e.symm)).2 rfl)
  have hfr := fun (hk : k ≤ (d.files f).all.length) => Own.head8 ho hk
  have HFR := Lib.hid (hfr hk)
  have HF := Lib.hid fin
  have HG := Lib.hid fg
  clear h hl hv fin fg hfr
  cases q with
  | none =>
    have hn0 : (d.files f).all.length = 0 ∧ c = 0 := by
      rcases ho.2 with ⟨he, hn⟩ | ⟨_, _, _, he, _⟩
      · injection he with _ e2 e3; exact ⟨e2, e3⟩
      · cases he
    have HO := Lib.hid ho; clear ho
    obtain ⟨hn, rfl⟩ := hn0
    obtain rfl : k = 0 := by omega
    have HN := Lib.hid hn
    have HE := Lib.hid (HF.out w HFR.out (World.grownBy.refl _ _))
    rw [hn] at c0
    clear hk h1 h2 hm63 HG HF HFR HO hn
    generalize (d.files f).dur = m at *
    have hcl : ∀ (ty : TypeId), (Builtin.clear_ #[37] ty #[.slice none 0 0]).run Tryd.prog w = .ok (.tuple #[]) w := fun ty => by
      simp [Builtin.clear_, run_underlying Tryd.underlying37]
    go_enter Tryd.func57, Tryd.ntmps57
    go_wp2_with fail
    go_end0
    exact ⟨rfl, HE.out⟩
  | some a =>
    obtain ⟨b, rfl⟩ : ∃ b, a = ⟨b, 0, none⟩ := by
      rcases ho.2 with ⟨he, _⟩ | ⟨g', _, _, he, _⟩
      · cases he
      · cases he; exact ⟨g', rfl⟩
    by_cases hlt : k < (d.files f).all.length
    · obtain ⟨w1, hcl, h3, h4⟩ := clear_tail ho rfl hlt
      have hb1 := HG.out w1 h4
      have e0 := (World.cell?_of_block (a := ⟨g, f * 2, none⟩) hb1).trans c0
      have e1 := (World.cell?_of_block (a := ⟨g, f * 2 + 1, none⟩) hb1).trans c1
      have u0 := (World.frozen?_of_block (a := ⟨g, f * 2, none⟩) hb1).trans t0
      have u1 := (World.frozen?_of_block (a := ⟨g, f * 2 + 1, none⟩) hb1).trans t1
      have HE := Lib.hid (HF.out w1 h3 h4)
      have q1 : ¬ c = k := by omega
      clear h3 h4 hb1 HG HF HFR ho
      generalize (d.files f).dur = m at *
      generalize (d.files f).all.length = n at *
      have q2 : (k : Int) ≤ (n : Int) := by omega
      have q3 : (n : Int) ≤ (c : Int) := by omega
      have q4 : (n : Int) - (k : Int) = ((n - k : Nat) : Int) := by omega
      have q5 : (c : Int) - (k : Int) = ((c - k : Nat) : Int) := by omega
      go_enter Tryd.func57, Tryd.ntmps57
      go_wp2_with fail
      go_end0
      exact ⟨rfl, HE.out⟩
    · obtain rfl : k = (d.files f).all.length := by omega
      have hcl : ∀ (ty : TypeId) (p : Option Addr) (c' : Nat), (Builtin.clear_ #[37] ty #[.slice p 0 c']).run Tryd.prog w = .ok (.tuple #[]) w := fun ty p c' => by
        cases p <;> simp [Builtin.clear_, run_underlying Tryd.underlying37]
      have HE := Lib.hid (HF.out w HFR.out (World.grownBy.refl _ _))
      clear HG HF HFR ho hlt hk
      generalize (d.files f).dur = m at *
      generalize (d.files f).all.length = n at *
      have q3 : (n : Int) ≤ (c : Int) := by omega
      by_cases q1 : c = n
      · subst q1
        go_enter Tryd.func57, Tryd.ntmps57
        go_wp2_with fail
        go_end0
        exact ⟨rfl, HE.out⟩
      · go_enter Tryd.func57, Tryd.ntmps57
        go_wp2_with fail
        go_end0
        exact ⟨rfl, HE.out⟩
end Go.Proofs.YtoidjapenompiaaDoor

/-
  The program's disk: execute.
-/
namespace Go.Proofs.YtoidjapenompiaaDoor
open Go.RowKit Go.Proofs.ShaWords
theorem DkGoV.count {S : Nat → Prop} {g : Nat} {d : DiskM} {w w2 w3 : World} (h : DkGoV S g d w2 w3) (hst : Stays (fun k => k = g) w w2) (hg : S g) (hz : w.heap.size = w2.heap.size) : ∃ c : Nat, c = d.count ∧ w3.cell? ⟨g, 67, none⟩ = some (.int .i64 (c : Int)) ∧ w3.frozen? ⟨g, 67, none⟩ = false ∧ w3.cell? ⟨g, 68, none⟩ = some (.bool d.down) ∧
    Hid (DkGoV S g { d with count := c + 1 } w (w3.setCell ⟨g, 67, none⟩ (.int .i64 ((c + 1 : Nat) : Int)))) := by
  obtain ⟨S', vs', h1, h2, h3⟩ := h
  refine ⟨d.count, rfl, h1.count, h1.thaw 67, h1.down, show DkGoV _ _ _ _ _ from ⟨S', vs', h1.putCount _, fun k s => ?_, ?_⟩⟩
  · rw [hz]; simpa using h2 k s
  · have a := hst.more (G := S) (fun k e => e ▸ hg)
    have b : Stays S w w3 := a.trans h3 (fun k s _ => s)
    refine b.trans (stays_set w3 g 67 _) (fun k e _ => e ▸ hg)
set_option maxRecDepth 100000 in
set_option maxHeartbeats 1000000 in
theorem dkExec_any (S : Nat → Prop) (g : Nat) (vs : Nat → Value) (d : DiskM) (fid : FuncId) (fn : Func) (caps : Array Value) (write : Bool) (eff : (Nat → FileM) → Nat → FileM) (w : World) (h : DkV S w g vs d) (hok : d.Ok) (hc : d.count < 1000000000)
    (hfn : Tryd.prog.funcs[fid]? = some fn) (hbd : (fn.name == "runtime.NumGoroutine" || fn.body.isNone) = false)
    (heff : ∀ w1, DkV S w1 g vs d.tick → Stays (fun k => k = g) w w1 → Calls Tryd.prog fid caps w1 fun e w2 => e = .returned (.tuple #[]) ∧ DkGoV S g { d.tick with files := eff d.files } w1 w2) :
    Calls Tryd.prog 60 #[.pointer (some ⟨g, 0, none⟩), .func (.func fid) #[] caps, .bool write] w fun e w' => e = .returned (.int .i64 d.execE) ∧ DkGoV S g (d.exec eff write) w w' := by
  have c8 := h.down
  have c9 := h.left
  have t8 := h.thaw 68
  have t9 := h.thaw 69
  have hl := hok.left
  have hcf := fun w => callFunc_body hfn hbd caps w
  clear hfn hbd
  by_cases h0 : d.left = 0
  · rw [h0] at c9
    have hT : DkV S ((w.setCell ⟨g, 68, none⟩ (.bool true)).setCell ⟨g, 69, none⟩ (.int .i64 (-1))) g vs d.tick := by
      have hq := (h.putDown true).putLeft (-1)
      have e : d.tick = { d with down := true, left := -1 } := by unfold DiskM.tick; rw [h0]; rfl
      rw [e]; exact hq
    have hst : Stays (fun k => k = g) w ((w.setCell ⟨g, 68, none⟩ (.bool true)).setCell ⟨g, 69, none⟩ (.int .i64 (-1))) := (stays_set w g 68 _).trans (stays_set _ g 69 _) (fun k e _ => e)
    have HE := Lib.hid (heff _ hT hst)
    have HT := Lib.hid hT; have HST := Lib.hid hst
    have hSg := h.here
    clear hT hst heff h hok
    generalize d.down = dn at c8
    cases write with
    | true =>
      go_enter Tryd.func60, Tryd.ntmps60
      go_wp2_with fail
      refine HE.out.mono ?_
      rintro e w3 ⟨rfl, hgo⟩
      obtain ⟨c, hcc, x7, y7, x8, HFIN⟩ := hgo.count HST.out hSg (by simp)
      have hdn : (DiskM.tick d).down = true := by unfold DiskM.tick; show decide (d.left = 0) = _; simp [h0]
      rw [show ({ d.tick with files := eff d.files } : DiskM).down = true from hdn] at x8
      have hcc2 : c < 1000000000 := by rw [hcc]; exact hc
      have HCC := Lib.hid hcc; have HH0 := Lib.hid h0
      clear hgo HE hdn hcc hc h0
      go_wp2_with fail
      go_ret
      refine ⟨?_, ?_⟩
      · unfold DiskM.execE; rw [if_pos HH0.out]; rfl
      · have e1 : d.exec eff true = { d.tick with files := eff d.files, count := c + 1 } := by unfold DiskM.exec; rw [if_pos (by simp), HCC.out]; rfl
        rw [e1]; exact HFIN.out
    | false =>
      go_enter Tryd.func60, Tryd.ntmps60
      go_wp2_with fail
      go_ret
      refine ⟨?_, ?_⟩
      · unfold DiskM.execE; rw [if_pos h0]; rfl
      · have e1 : d.exec eff false = d.tick := by unfold DiskM.exec; rw [if_neg (by simp [h0])]
        rw [e1]; exact ⟨S, vs, HT.out, fun _ s => Or.inl s, HST.out.more (fun k e => e ▸ hSg)⟩
  · by_cases h1 : d.left = -1
    · rw [h1] at c9
      have hT : DkV S ((w.setCell ⟨g, 68, none⟩ (.bool false)).setCell ⟨g, 69, none⟩ (.int .i64 (-1))) g vs d.tick := by
        have hq := (h.putDown false).putLeft (-1)
        have e : d.tick = { d with down := false, left := -1 } := by unfold DiskM.tick; rw [h1]; rfl
        rw [e]; exact hq
      have hst : Stays (fun k => k = g) w ((w.setCell ⟨g, 68, none⟩ (.bool false)).setCell ⟨g, 69, none⟩ (.int .i64 (-1))) := (stays_set w g 68 _).trans (stays_set _ g 69 _) (fun k e _ => e)
      have HE := Lib.hid (heff _ hT hst)
      have HT := Lib.hid hT; have HST := Lib.hid hst
      have hSg := h.here
      clear hT hst heff h hok
      generalize d.down = dn at c8
      clear h1 hl
      cases write with
      | true =>
        go_enter Tryd.func60, Tryd.ntmps60
        go_wp2_with fail
        refine HE.out.mono ?_
        rintro e w3 ⟨rfl, hgo⟩
        obtain ⟨c, hcc, x7, y7, x8, HFIN⟩ := hgo.count HST.out hSg (by simp)
        have hdn : (DiskM.tick d).down = false := by unfold DiskM.tick; show decide (d.left = 0) = _; simp [h0]
        rw [show ({ d.tick with files := eff d.files } : DiskM).down = false from hdn] at x8
        have hcc2 : c < 1000000000 := by rw [hcc]; exact hc
        have HCC := Lib.hid hcc; have HH0 := Lib.hid h0
        clear hgo HE hdn hcc hc h0
        go_wp2_with fail
        go_ret
        refine ⟨?_, ?_⟩
        · unfold DiskM.execE; rw [if_neg HH0.out]; rfl
        · have e1 : d.exec eff true = { d.tick with files := eff d.files, count := c + 1 } := by unfold DiskM.exec; rw [if_pos (by simp), HCC.out]; rfl
          rw [e1]; exact HFIN.out
      | false =>
        go_enter Tryd.func60, Tryd.ntmps60
        go_wp2_with fail
        refine HE.out.mono ?_
        rintro e w3 ⟨rfl, hgo⟩
        obtain ⟨c, hcc, x7, y7, x8, HFIN⟩ := hgo.count HST.out hSg (by simp)
        have hdn : (DiskM.tick d).down = false := by unfold DiskM.tick; show decide (d.left = 0) = _; simp [h0]
        rw [show ({ d.tick with files := eff d.files } : DiskM).down = false from hdn] at x8
        have hcc2 : c < 1000000000 := by rw [hcc]; exact hc
        have HCC := Lib.hid hcc; have HH0 := Lib.hid h0
        clear hgo HE hdn hcc hc h0
        go_wp2_with fail
        go_ret
        refine ⟨?_, ?_⟩
        · unfold DiskM.execE; rw [if_neg HH0.out]; rfl
        · have e1 : d.exec eff false = { d.tick with files := eff d.files, count := c + 1 } := by unfold DiskM.exec; rw [if_pos (by simp [HH0.out]), HCC.out]; rfl
          rw [e1]; exact HFIN.out
    · have hpos : 0 < d.left := by omega
      have hlt : d.left ≤ 9223372036854775807 := by omega
      have q0 : (d.left == 0) = false := by simpa using h0
      have hT : DkV S ((w.setCell ⟨g, 68, none⟩ (.bool false)).setCell ⟨g, 69, none⟩ (.int .i64 (d.left - 1))) g vs d.tick := by
        have hq := (h.putDown false).putLeft (d.left - 1)
        have e : d.tick = { d with down := false, left := d.left - 1 } := by unfold DiskM.tick; rw [show max (d.left - 1) (-1) = d.left - 1 by omega, decide_eq_false h0]
        rw [e]; exact hq
      have hst : Stays (fun k => k = g) w ((w.setCell ⟨g, 68, none⟩ (.bool false)).setCell ⟨g, 69, none⟩ (.int .i64 (d.left - 1))) := (stays_set w g 68 _).trans (stays_set _ g 69 _) (fun k e _ => e)
      have HE := Lib.hid (heff _ hT hst)
      have HT := Lib.hid hT; have HST := Lib.hid hst
      have hSg := h.here
      clear hT hst heff h hok
      generalize d.down = dn at c8
      clear h1 hl
      cases write with
      | true =>
        go_enter Tryd.func60, Tryd.ntmps60
        go_wp2_with fail
        refine HE.out.mono ?_
        rintro e w3 ⟨rfl, hgo⟩
        obtain ⟨c, hcc, x7, y7, x8, HFIN⟩ := hgo.count HST.out hSg (by simp)
        have hdn : (DiskM.tick d).down = false := by unfold DiskM.tick; show decide (d.left = 0) = _; simp [h0]
        rw [show ({ d.tick with files := eff d.files } : DiskM).down = false from hdn] at x8
        have hcc2 : c < 1000000000 := by rw [hcc]; exact hc
        have HCC := Lib.hid hcc; have HH0 := Lib.hid h0
        clear hgo HE hdn hcc hc h0
        go_wp2_with fail
        go_ret
        refine ⟨?_, ?_⟩
        · unfold DiskM.execE; rw [if_neg HH0.out]; rfl
        · have e1 : d.exec eff true = { d.tick with files := eff d.files, count := c + 1 } := by unfold DiskM.exec; rw [if_pos (by simp), HCC.out]; rfl
          rw [e1]; exact HFIN.out
      | false =>
        go_enter Tryd.func60, Tryd.ntmps60
        go_wp2_with fail
        refine HE.out.mono ?_
        rintro e w3 ⟨rfl, hgo⟩
        obtain ⟨c, hcc, x7, y7, x8, HFIN⟩ := hgo.count HST.out hSg (by simp)
        have hdn : (DiskM.tick d).down = false := by unfold DiskM.tick; show decide (d.left = 0) = _; simp [h0]
        rw [show ({ d.tick with files := eff d.files } : DiskM).down = false from hdn] at x8
        have hcc2 : c < 1000000000 := by rw [hcc]; exact hc
        have HCC := Lib.hid hcc; have HH0 := Lib.hid h0
        clear hgo HE hdn hcc hc h0
        go_wp2_with fail
        go_ret
        refine ⟨?_, ?_⟩
        · unfold DiskM.execE; rw [if_neg HH0.out]; rfl
        · have e1 : d.exec eff false = { d.tick with files := eff d.files, count := c + 1 } := by unfold DiskM.exec; rw [if_pos (by simp [HH0.out]), HCC.out]; rfl
          rw [e1]; exact HFIN.out
end Go.Proofs.YtoidjapenompiaaDoor

/-
  The program's disk: open, Used, the closures of Write, Cut and Over.
-/
namespace Go.Proofs.YtoidjapenompiaaDoor
open Go.RowKit Go.Proofs.ShaWords
theorem DkV.below {S : Nat → Prop} {w w' : World} {g : Nat} {vs : Nat → Value} {d : DiskM} (h : DkV S w g vs d) (hb : Below w.heap.size w w') : DkV S w' g vs d := h.keep (F := fun _ => False) (Below.stays hb) (fun _ f => f.elim)
theorem dkOpen_down (g : Nat) (f : Int) (S : Nat → Prop) (vs : Nat → Value) (d : DiskM) (w : World) (h : DkV S w g vs d) (hd : d.down = true) :
    Calls Tryd.prog 58 #[.pointer (some ⟨g, 0, none⟩), .int .i64 f] w fun e w' => e = .returned (.tuple #[.pointer none, .int .i64 9]) ∧ w = w' := by
  have c8 := h.down
  rw [hd] at c8
  clear h hd
  go_enter Tryd.func58, Tryd.ntmps58
  go_wp2_with fail
  go_ret2
  exact ⟨rfl, rfl⟩
theorem dkOpen_no (g : Nat) (f : Int) (S : Nat → Prop) (vs : Nat → Value) (d : DiskM) (w : World) (h : DkV S w g vs d) (hd : d.down = false) (hf : ¬ (0 ≤ f ∧ f ≤ 32)) :
    Calls Tryd.prog 58 #[.pointer (some ⟨g, 0, none⟩), .int .i64 f] w fun e w' => e = .returned (.tuple #[.pointer none, .int .i64 1]) ∧ w = w' := by
  have c8 := h.down
  rw [hd] at c8
  have HX := Lib.hid (dkExists_no f w hf)
  clear h hd hf
  go_enter Tryd.func58, Tryd.ntmps58
  go_wp2_with fail
  refine HX.out.mono ?_
  rintro e w1 ⟨rfl, rfl⟩
  go_wp2_with fail
  go_ret2
  exact ⟨rfl, rfl⟩
theorem dkOpen_yes (g f : Nat) (S : Nat → Prop) (vs : Nat → Value) (d : DiskM) (w : World) (h : DkV S w g vs d) (hd : d.down = false) (hf : f < 33) :
    Calls Tryd.prog 58 #[.pointer (some ⟨g, 0, none⟩), .int .i64 (f : Int)] w fun e w' => e = .returned (.tuple #[.pointer (some ⟨g, f * 2, none⟩), .int .i64 0]) ∧ w = w' := by
  have c8 := h.down
  rw [hd] at c8
  have HX := Lib.hid (dkExists_yes (f : Int) w (by omega) (by omega))
  have q1 : (f : Int) < 33 := by omega
  clear h hd hf
  go_enter Tryd.func58, Tryd.ntmps58
  go_wp2_with fail
  refine HX.out.mono ?_
  rintro e w1 ⟨rfl, rfl⟩
  go_wp2_with fail
  go_ret2
  exact ⟨rfl, rfl⟩
theorem dkUsedV (S : Nat → Prop) (g : Nat) (vs : Nat → Value) (d : DiskM) (w : World) (h : DkV S w g vs d) (hu : d.used ≤ 262144) :
    Calls Tryd.prog 59 #[.pointer (some ⟨g, 0, none⟩)] w fun e w' => e = .returned (.int .i64 (d.used : Int)) ∧ w = w' := by
  have HD := Lib.hid h
  have HU := Lib.hid hu
  clear h hu
  have HS : Hid (sumTo d.files 0 = 0) := show _ = _ from rfl
  go_enter Tryd.func59, Tryd.ntmps59
  go_wp2_with fail
  go_loop [3, 5] (fun n i => ∃ k : Nat, k ≤ 33 ∧ i = .int .i64 (k : Int) ∧ n = .int .i64 ((sumTo d.files k : Nat) : Int)) (fun _ i => 33 - (intOf i).toNat)
  case atStart => exact ⟨0, by omega, rfl, rfl⟩
  case round =>
    obtain ⟨k, hk, rfl, rfl⟩ := hrel
    by_cases hlt : k < 33
    · obtain ⟨q, c, hv, -, -, -⟩ := HD.out.all k hlt
      have c0 := HD.out.c0 k hlt
      rw [hv] at c0
      have HN : Hid (sumTo d.files (k + 1) = sumTo d.files k + (d.files k).all.length) := show _ = _ from rfl
      have hle : sumTo d.files (k + 1) ≤ 262144 := by
        have h1 : sumTo d.files (k + 1) ≤ sumTo d.files 33 := by
          have : ∀ n m, n ≤ m → sumTo d.files n ≤ sumTo d.files m := fun n m hnm => by
            induction m with
            | zero => have : n = 0 := by omega
                      subst this; exact Nat.le_refl _
            | succ m ih =>
              by_cases e : n = m + 1
              · subst e; exact Nat.le_refl _
              · exact Nat.le_trans (ih (by omega)) (by show _ ≤ sumTo d.files m + _; omega)
          exact this _ _ (by omega)
        exact Nat.le_trans h1 HU.out
      rw [HN.out] at hle
      clear hv
      generalize hm : sumTo d.files k = m at *
      generalize (d.files k).all.length = n at *
      have q1 : (k : Int) < 33 := by omega
      have q2 : (m : Int) + (n : Int) ≤ 262144 := by omega
      clear hm hle
      go_wp2_with fail
      go_round
      case rel => exact ⟨k + 1, by omega, by go_num, by rw [HN.out]; go_num⟩
      case measure => simp [intOf]; omega
    · obtain rfl : k = 33 := by omega
      have q1 : ¬ ((33 : Nat) : Int) < 33 := by omega
      go_wp2_with fail
      go_ret
      exact ⟨rfl, rfl⟩
theorem DkGoV.below {S : Nat → Prop} {g : Nat} {d : DiskM} {w0 w w' : World} (h : DkGoV S g d w w') (hb : Below w0.heap.size w0 w) : DkGoV S g d w0 w' := by
  obtain ⟨S', vs', h1, h2, h3⟩ := h
  refine ⟨S', vs', h1, fun k s => ?_, (Below.stays (F := S) hb).trans h3 (fun _ s _ => s)⟩
  rcases h2 k s with h | h
  · exact Or.inl h
  · exact Or.inr ⟨Nat.le_trans hb.size h.1, h.2⟩
theorem mb_append {ops : Array Oper} {Q : Exit → Act → World → Prop} {S E : World → Prop} {r : List (Nat × Met)} {i : Nat} {o : Oper} {d : Option Tmp} {a : Act} {w : World} {s x : Operand} {v : Value} {p : Option Addr} {k c : Nat} (ho : ops[i]? = some o) (hd : o.dst = d) (hw : Region.wanted o (yielded ops a.tmps) = true)
    (q : o.op = .call { callee := .builtin .append, args := #[s, x], argTypes := #[37, 37] }) (hs : a.eval s = v) (hx : a.eval x = .slice p k c)
    (B : Nat) (l m : List (BitVec 8)) (hown : Own B w l v) (hk : m.length = k) (hm : Lies w p m) (hl : l.length + k < 140737488355328) (hB : B ≤ w.heap.size)
    (h : ∀ v' w', Own B w' (l ++ m) v' → w.grownBy w' v.ownBlock → (v'.ownBlock = v.ownBlock ∨ v'.ownBlock = some w.heap.size) → (S w' ∧ E w') ∧ wpE Tryd.prog ops Q S E r (a.put d v') w') : wpE Tryd.prog ops Q S E ((i, .before) :: r) a w := by
  obtain ⟨v', w', hr, h1, h2, h3⟩ := run_appendAt (ρ := a.eval) q hs hx B l m hown hk hm hl hB
  exact mb_value ho hd hw hr (h v' w' h1 h2 h3)
section
variable {ρ : Operand → Value} {o : Oper} {x y : Operand} {w : World}
theorem run_loadFile {a : Addr} {b : Option Addr} (ho : o.op = .load 93 x) (hx : ρ x = .pointer (some a)) (hc : w.cell? a = some (.pointer b)) : (execOp ρ o).run Tryd.prog w = .ok (.value (.pointer b)) w := by
  obtain ⟨dst, op, ty', pos, after, guard⟩ := o
  simp only at ho
  subst ho
  go_simp
theorem run_loadBs {a : Addr} {p : Option Addr} {n c : Nat} (ho : o.op = .load 37 x) (hx : ρ x = .pointer (some a)) (hc : w.cell? a = some (.slice p n c)) : (execOp ρ o).run Tryd.prog w = .ok (.value (.slice p n c)) w := by
  obtain ⟨dst, op, ty', pos, after, guard⟩ := o
  simp only at ho
  subst ho
  go_simp
theorem run_loadIn {a : Addr} {n : Int} (ho : o.op = .load 3 x) (hx : ρ x = .pointer (some a)) (hc : w.cell? a = some (.int .i64 n)) : (execOp ρ o).run Tryd.prog w = .ok (.value (.int .i64 n)) w := by
  obtain ⟨dst, op, ty', pos, after, guard⟩ := o
  simp only at ho
  subst ho
  go_simp
theorem run_fieldF0 {b off : Nat} (ho : o.op = .fieldAddr 62 x 0) (hx : ρ x = .pointer (some ⟨b, off, none⟩)) (w : World) : (execOp ρ o).run Tryd.prog w = .ok (.value (.pointer (some ⟨b, off, none⟩))) w := by
  obtain ⟨dst, op, ty', pos, after, guard⟩ := o
  simp only at ho
  subst ho
  go_simp
theorem run_fieldF1 {b off : Nat} (ho : o.op = .fieldAddr 62 x 1) (hx : ρ x = .pointer (some ⟨b, off, none⟩)) (w : World) : (execOp ρ o).run Tryd.prog w = .ok (.value (.pointer (some ⟨b, off + 1, none⟩))) w := by
  obtain ⟨dst, op, ty', pos, after, guard⟩ := o
  simp only at ho
  subst ho
  go_simp
theorem run_storeBs {a : Addr} {p : Option Addr} {n c : Nat} {u : Value} (ho : o.op = .store 37 x y) (hx : ρ x = .pointer (some a)) (hy : ρ y = .slice p n c) (hc : w.cell? a = some u) (hf : w.frozen? a = false) :
    (execOp ρ o).run Tryd.prog w = .ok .skip (w.setCell a (.slice p n c)) := by
  obtain ⟨dst, op, ty', pos, after, guard⟩ := o
  simp only at ho
  subst ho
  go_simp
end
set_option maxRecDepth 100000 in
set_option maxHeartbeats 1000000 in
theorem dkWriteC_any (S : Nat → Prop) (g b7 b5 f n c : Nat) (p : Option Addr) (b : List (BitVec 8)) (vs : Nat → Value) (d : DiskM) (w : World) (h : DkV S w g vs d) (hf : f < 33) (hb : b.length = n) (hL : Lies w p b) (hl : (d.files f).all.length + n < 140737488355328)
    (h7 : w.cell? ⟨b7, 0, none⟩ = some (.pointer (some ⟨g, f * 2, none⟩))) (h5 : w.cell? ⟨b5, 0, none⟩ = some (.slice p n c)) (hn7 : ¬ S b7) (hn5 : ¬ S b5) :
    Calls Tryd.prog 61 #[.pointer (some ⟨b7, 0, none⟩), .pointer (some ⟨b5, 0, none⟩)] w fun e w' => e = .returned (.tuple #[]) ∧ DkGoV S g { d with files := writeF f b d.files } w w' := by
  obtain ⟨q, cp, hv, -, -, -⟩ := h.all f hf
  have ho := h.own f hf
  have c0 := h.c0 f hf
  have t0 := h.thaw (f * 2)
  have HV := Lib.hid hv
  rw [hv] at c0 ho
  have fin : ∀ (v' : Value) (w1 : World), Own 0 w1 ((d.files f).all ++ b) v' → w.drew.grownBy w1 (Value.slice q (d.files f).all.length cp).ownBlock → (v'.ownBlock = (Value.slice q (d.files f).all.length cp).ownBlock ∨ v'.ownBlock = some w.drew.heap.size) →
      w1.cell? ⟨g, f * 2, none⟩ = some (.slice q (d.files f).all.length cp) ∧ w1.frozen? ⟨g, f * 2, none⟩ = false ∧ Hid (DkGoV S g { d with files := writeF f b d.files } w (w1.setCell ⟨g, f * 2, none⟩ v')) := fun v' w1 h1 h2 h3 => by
    rw [← HV.out] at h2 h3
    have hd : DkV S w.drew g vs d := h.below (Below.refl _ _).drew
    have hne : some g ≠ (vs f).ownBlock := fun e => (h.ins f g hf e.symm).2 rfl
    have hgb := h2.block g h.lt hne
    have hS' : ∀ k, v'.ownBlock = some k → S k ∨ (w.heap.size ≤ k ∧ k < w1.heap.size) := fun k e => by
      rcases h3 with h4 | h4
      · exact Or.inl (h.ins f k hf (by rw [← h4]; exact e)).1
      · rw [e] at h4; cases h4; exact Or.inr ⟨Nat.le_refl _, (World.ownsRow.lt h1 _ e).2⟩
    refine ⟨(World.cell?_of_block (a := ⟨g, f * 2, none⟩) hgb).trans c0, (World.frozen?_of_block (a := ⟨g, f * 2, none⟩) hgb).trans t0, show DkGoV _ _ _ _ _ from ?_⟩
    refine ⟨fun k => S k ∨ v'.ownBlock = some k, _, hd.putAll (S' := fun k => S k ∨ v'.ownBlock = some k) f hf _ v' h2 h1 h3 (fun _ s => Or.inl s) (fun _ e => Or.inr e) (fun k s => ?_), fun k s => ?_, ?_⟩
    · rcases s with s | e
      · exact Nat.lt_of_lt_of_le (h.dom k s) h2.size
      · exact (World.ownsRow.lt h1 _ e).2
    · rcases s with s | e
      · exact Or.inl s
      · rcases hS' k e with h4 | h4
        · exact Or.inl h4
        · exact Or.inr ⟨h4.1, by simpa using h4.2⟩
    · have s1 : Stays S w w1 := (Below.stays (F := S) (Below.refl _ _).drew).trans (grown_stays h2 (fun k e => (h.ins f k hf e).1)) (fun _ s _ => s)
      exact s1.trans (stays_set w1 g (f * 2) v') (fun k e _ => e ▸ h.here)
  have HF := Lib.hid fin
  have HO := Lib.hid (Own.below ho (Below.refl w.heap.size w).drew)
  have HL := Lib.hid (hL.below (Below.refl w.heap.size w).drew)
  have HB := Lib.hid hb
  have HS0 : Hid (w.drew.cell? ⟨b7, 0, none⟩ = some (.pointer (some ⟨g, f * 2, none⟩)) ∧ w.drew.cell? ⟨b5, 0, none⟩ = some (.slice p n c)) := show _ ∧ _ from ⟨h7, h5⟩
  have HSV : Hid (∀ w1, w.drew.grownBy w1 (Value.slice q (d.files f).all.length cp).ownBlock → w1.cell? ⟨b7, 0, none⟩ = some (.pointer (some ⟨g, f * 2, none⟩)) ∧ w1.cell? ⟨b5, 0, none⟩ = some (.slice p n c)) := show ∀ w1, _ → _ ∧ _ from fun w1 h2 => by
    rw [← HV.out] at h2
    exact ⟨h2.cell h7 (fun e => hn7 (h.ins f b7 hf e.symm).1), h2.cell h5 (fun e => hn5 (h.ins f b5 hf e.symm).1)⟩
  have SV9 : Hid (∀ (w1 : World) (v : Value), w1.cell? ⟨b7, 0, none⟩ = some (.pointer (some ⟨g, f * 2, none⟩)) ∧ w1.cell? ⟨b5, 0, none⟩ = some (.slice p n c) → (w1.setCell ⟨g, f * 2, none⟩ v).cell? ⟨b7, 0, none⟩ = some (.pointer (some ⟨g, f * 2, none⟩)) ∧ (w1.setCell ⟨g, f * 2, none⟩ v).cell? ⟨b5, 0, none⟩ = some (.slice p n c)) := show ∀ w1 v, _ → _ ∧ _ from fun w1 v h2 => by
    rw [World.cell?_setCell_other _ _ _ _ (fun e => hn7 (by injection e with e _ _; exact e ▸ h.here)), World.cell?_setCell_other _ _ _ _ (fun e => hn5 (by injection e with e _ _; exact e ▸ h.here))]
    exact h2
  have HE0 : Hid (w.drew.cell? ⟨g, f * 2, none⟩ = some (.slice q (d.files f).all.length cp)) := show _ = _ from c0
  clear fin ho hL h hv hb
  generalize hn : (d.files f).all.length = m at *
  have HN := Lib.hid hn
  clear hn
  go_enter Tryd.func61, Tryd.ntmps61
  refine region_phase (fun w' => w'.cell? ⟨b7, 0, none⟩ = some (.pointer (some ⟨g, f * 2, none⟩)) ∧ w'.cell? ⟨b5, 0, none⟩ = some (.slice p n c)) (fun w' => w'.cell? ⟨g, f * 2, none⟩ = some (.slice q m cp)) 9 (HS0.out) HE0.out [(0, .free), (1, .free), (2, .free), (3, .free), (5, .free), (4, .early), (6, .before), (7, .free), (8, .free), (9, .behind)] (by kernel_rfl) (by kernel_rfl) (by kernel_rfl) (by kernel_rfl) (fun ops hops A hA => ?_)
  have hsz : A.tmps.size = 11 := by rw [hA]; rfl
  have base0 : A.eval (.tmp 0) = .pointer (some ⟨b7, 0, none⟩) := by rw [hA]; rfl
  have base1 : A.eval (.tmp 1) = .pointer (some ⟨b5, 0, none⟩) := by rw [hA]; rfl
  have HAA := Lib.hid hA; clear hA
  obtain ⟨o0, po0, q0, d0, gd0⟩ : ∃ o, ops[0]? = some o ∧ o.op = .load 93 (.tmp 0) ∧ o.dst = some 2 ∧ o.guard = none := ⟨_, by rw [hops]; rfl, rfl, rfl, rfl⟩
  obtain ⟨o1, po1, q1, d1, gd1⟩ : ∃ o, ops[1]? = some o ∧ o.op = .load 93 (.tmp 0) ∧ o.dst = some 3 ∧ o.guard = none := ⟨_, by rw [hops]; rfl, rfl, rfl, rfl⟩
  obtain ⟨o2, po2, q2, d2, gd2⟩ : ∃ o, ops[2]? = some o ∧ o.op = .nilCheck (.tmp 3) ∧ o.dst = some 4 ∧ o.guard = none := ⟨_, by rw [hops]; rfl, rfl, rfl, rfl⟩
  obtain ⟨o3, po3, q3, d3, gd3⟩ : ∃ o, ops[3]? = some o ∧ o.op = .fieldAddr 62 (.tmp 4) 0 ∧ o.dst = some 5 ∧ o.guard = none := ⟨_, by rw [hops]; rfl, rfl, rfl, rfl⟩
  obtain ⟨o4, po4, q4, d4, gd4⟩ : ∃ o, ops[4]? = some o ∧ o.op = .load 37 (.tmp 5) ∧ o.dst = some 6 ∧ o.guard = none := ⟨_, by rw [hops]; rfl, rfl, rfl, rfl⟩
  obtain ⟨o5, po5, q5, d5, gd5⟩ : ∃ o, ops[5]? = some o ∧ o.op = .load 37 (.tmp 1) ∧ o.dst = some 7 ∧ o.guard = none := ⟨_, by rw [hops]; rfl, rfl, rfl, rfl⟩
  obtain ⟨o6, po6, q6, d6, gd6⟩ : ∃ o, ops[6]? = some o ∧ o.op = .call { callee := .builtin .append, args := #[.tmp 6, .tmp 7], argTypes := #[37, 37] } ∧ o.dst = some 8 ∧ o.guard = none := ⟨_, by rw [hops]; rfl, rfl, rfl, rfl⟩
  obtain ⟨o7, po7, q7, d7, gd7⟩ : ∃ o, ops[7]? = some o ∧ o.op = .nilCheck (.tmp 2) ∧ o.dst = some 9 ∧ o.guard = none := ⟨_, by rw [hops]; rfl, rfl, rfl, rfl⟩
  obtain ⟨o8, po8, q8, d8, gd8⟩ : ∃ o, ops[8]? = some o ∧ o.op = .fieldAddr 62 (.tmp 9) 0 ∧ o.dst = some 10 ∧ o.guard = none := ⟨_, by rw [hops]; rfl, rfl, rfl, rfl⟩
  obtain ⟨o9, po9, q9, d9, gd9⟩ : ∃ o, ops[9]? = some o ∧ o.op = .store 37 (.tmp 10) (.tmp 8) ∧ o.dst = none ∧ o.guard = none := ⟨_, by rw [hops]; rfl, rfl, rfl, rfl⟩
  clear hops
  refine met_free po0 d0 (wanted_of gd0) (fun w' h' => run_loadFile q0 base0 h'.1) ?_
  refine met_free po1 d1 (wanted_of gd1) (fun w' h' => run_loadFile q1 ((eval_other _ 2 0 _ (by decide)).trans base0) h'.1) ?_
  refine met_free po2 d2 (wanted_of gd2) (fun w' h' => run_nilCheck q2 (eval_same _ _ _ (by simp only [put_size, hsz]; decide)) w') ?_
  refine met_free po3 d3 (wanted_of gd3) (fun w' h' => run_fieldF0 q3 (eval_same _ _ _ (by simp only [put_size, hsz]; decide)) w') ?_
  refine met_free po5 d5 (wanted_of gd5) (fun w' h' => run_loadBs q5 ((eval_other _ 5 1 _ (by decide)).trans ((eval_other _ 4 1 _ (by decide)).trans ((eval_other _ 3 1 _ (by decide)).trans ((eval_other _ 2 1 _ (by decide)).trans base1)))) h'.2) ?_
  refine met_early po4 d4 (wanted_of gd4) (fun w' h' h2' => run_loadBs q4 ((eval_other _ 7 5 _ (by decide)).trans (eval_same _ _ _ (by simp only [put_size, hsz]; decide))) h2') ?_
  refine mb_append po6 d6 (wanted_of gd6) q6 (eval_same _ _ _ (by simp only [put_size, hsz]; decide)) ((eval_other _ 6 7 _ (by decide)).trans (eval_same _ _ _ (by simp only [put_size, hsz]; decide))) 0 (d.files f).all b HO.out HB.out HL.out (by rw [HN.out]; exact hl) (Nat.zero_le _) ?_
  intro v' w1 h1 h2 h3
  obtain ⟨e0, u0, HE⟩ := HF.out v' w1 h1 h2 h3
  have hsv := HSV.out w1 h2
  obtain ⟨q', c', rfl⟩ : ∃ q' c', v' = .slice q' (m + n) c' := by
    obtain ⟨q', c', e, -, -, -⟩ := h1.lies
    exact ⟨q', c', by rw [e, List.length_append, HN.out, HB.out]⟩
  clear h1 h2 h3 HF HO HL HB HN HV hl
  refine ⟨⟨hsv, e0⟩, ?_⟩
  refine met_free po7 d7 (wanted_of gd7) (fun w' h' => run_nilCheck q7 ((eval_other _ 8 2 _ (by decide)).trans ((eval_other _ 6 2 _ (by decide)).trans ((eval_other _ 7 2 _ (by decide)).trans ((eval_other _ 5 2 _ (by decide)).trans ((eval_other _ 4 2 _ (by decide)).trans ((eval_other _ 3 2 _ (by decide)).trans (eval_same _ _ _ (by rw [hsz]; decide)))))))) w') ?_
  refine met_free po8 d8 (wanted_of gd8) (fun w' h' => run_fieldF0 q8 (eval_same _ _ _ (by simp only [put_size, hsz]; decide)) w') ?_
  refine met_skip po9 d9 (wanted_of gd9) (run_storeBs q9 (eval_same _ _ _ (by simp only [put_size, hsz]; decide)) ((eval_other _ 10 8 _ (by decide)).trans ((eval_other _ 9 8 _ (by decide)).trans (eval_same _ _ _ (by simp only [put_size, hsz]; decide)))) e0 u0) (SV9.out _ _ hsv) ?_
  show NoPanic _ .normal _ _
  refine NoPanic.normal ?_
  rw [HAA.out]
  go_frame
  clear HAA
  go_end0
  exact ⟨rfl, HE.out⟩
end Go.Proofs.YtoidjapenompiaaDoor

/-
  The program's disk: the closures of Cut and Over; Write, Sync, Cut, Over.
-/
namespace Go.Proofs.YtoidjapenompiaaDoor
open Go.RowKit Go.Proofs.ShaWords
theorem DkV.inPlace {S : Nat → Prop} {w w1 : World} {g : Nat} {vs : Nat → Value} {d : DiskM} (h : DkV S w g vs d) (f : Nat) (hf : f < 33) (l : List (BitVec 8)) (hg : w.grownBy w1 (vs f).ownBlock) (ho : Own 0 w1 l (vs f)) :
    DkV S w1 g vs { d with files := setF d.files f ⟨l, (d.files f).dur⟩ } := by
  have hb := hg.block g h.lt (fun e => (h.ins f g hf e.symm).2 rfl)
  refine ⟨Nat.lt_of_lt_of_le h.lt hg.size, fun i hi => ?_, fun i => (World.frozen?_of_block (a := ⟨g, i, none⟩) hb).trans (h.thaw i), fun k hk => ?_, h.here, h.ins, h.apart, fun k s => Nat.lt_of_lt_of_le (h.dom k s) hg.size, fun j hj => (World.cell?_of_block (a := ⟨g, j, none⟩) hb).trans (h.long j hj)⟩
  · rw [(World.cell?_of_block (a := ⟨g, i, none⟩) hb).trans (h.cell i hi)]
    congr 1
    unfold dkCell
    by_cases h1 : i < 66
    · rw [if_pos h1, if_pos h1]
      by_cases h2 : i % 2 = 0
      · rw [if_pos h2, if_pos h2]
      · rw [if_neg h2, if_neg h2]
        show _ = Value.int .i64 ((setF d.files f _ (i / 2)).dur : Int)
        unfold setF
        split
        · rename_i e; rw [e]
        · rfl
    · rw [if_neg h1, if_neg h1]
  · show Own 0 w1 (setF d.files f _ k).all (vs k)
    by_cases e : k = f
    · subst e; rw [setF_same]; exact ho
    · rw [setF_other _ _ e]
      refine World.ownsRow.kept (h.own k hk) hg ?_
      cases hb : (vs k).ownBlock with
      | none => exact Or.inl rfl
      | some b => exact Or.inr (fun e2 => e (h.apart k f b hk hf hb (by rw [← e2])))
theorem wpList_runW8 {P : Program} {ops : Array Oper} {rest : List Oper} {o : Oper} {a : Act} {w w' : World} {Q : Exit → Act → World → Prop} {v : Value} (hw : Region.wanted o (yielded ops a.tmps) = true) (hr : (execOp a.eval o).run P w = .ok (.value v) w')
    (h : wpList P ops Q rest (a.put o.dst v) w') : wpList P ops Q (o :: rest) a w := by
  unfold wpList
  rw [if_pos hw]
  refine .inl ?_
  unfold Oper.wp
  rw [hr, Oper.upon_value]
  exact h
set_option maxRecDepth 100000 in
theorem dkCutC_any (S : Nat → Prop) (g b7 b5 f k : Nat) (vs : Nat → Value) (d : DiskM) (w : World) (h : DkV S w g vs d) (hf : f < 33) (hk : k ≤ (d.files f).all.length) (hm63 : (d.files f).all.length < 9223372036854775808)
    (h7 : w.cell? ⟨b7, 0, none⟩ = some (.pointer (some ⟨g, f * 2, none⟩))) (h5 : w.cell? ⟨b5, 0, none⟩ = some (.int .i64 (k : Int))) :
    Calls Tryd.prog 82 #[.pointer (some ⟨b7, 0, none⟩), .pointer (some ⟨b5, 0, none⟩)] w fun e w' => e = .returned (.tuple #[]) ∧ DkGoV S g { d with files := cutF f k d.files } w w' := by
  have HC := Lib.hid (dkCutF_any S g f k vs d w h hf hk hm63)
  clear h hk hm63
  go_enter Tryd.func82, Tryd.ntmps82
  go_wp2_with fail
  refine HC.out.mono ?_
  rintro e w1 ⟨rfl, hg⟩
  have HG := Lib.hid hg; clear hg
  go_wp2_with fail
  go_end0
  exact ⟨rfl, HG.out⟩
set_option maxRecDepth 100000 in
set_option maxHeartbeats 1000000 in
theorem dkOverC_any (S : Nat → Prop) (g b9 b6 b7 f k n c : Nat) (p : Option Addr) (b : List (BitVec 8)) (vs : Nat → Value) (d : DiskM) (w : World) (h : DkV S w g vs d) (hf : f < 33) (hb : b.length = n) (hL : Lies w p b) (hk : k + n ≤ (d.files f).all.length) (hm63 : (d.files f).all.length < 9223372036854775808)
    (h9 : w.cell? ⟨b9, 0, none⟩ = some (.pointer (some ⟨g, f * 2, none⟩))) (h6 : w.cell? ⟨b6, 0, none⟩ = some (.int .i64 (k : Int))) (h7 : w.cell? ⟨b7, 0, none⟩ = some (.slice p n c)) :
    Calls Tryd.prog 78 #[.pointer (some ⟨b9, 0, none⟩), .pointer (some ⟨b6, 0, none⟩), .pointer (some ⟨b7, 0, none⟩)] w fun e w' => e = .returned (.tuple #[]) ∧ DkGoV S g { d with files := overF f k b d.files } w w' := by
  obtain ⟨q, cp, hv, h1, h2, -⟩ := h.all f hf
  have ho := h.own f hf
  have c0 := h.c0 f hf
  rw [hv] at c0 ho
  have fin : ∀ w1 : World, Own 0 w1 ((d.files f).all.take k ++ b ++ (d.files f).all.drop (k + b.length)) (.slice q (d.files f).all.length cp) → w.drew.grownBy w1 (Value.slice q (d.files f).all.length cp).ownBlock → DkGoV S g { d with files := overF f k b d.files } w w1 := fun w1 h3 h4 => by
    rw [← hv] at h3 h4
    have hd : DkV S w.drew g vs d := h.below (Below.refl w.heap.size w).drew
    exact ⟨S, vs, hd.inPlace f hf _ h4 h3, fun _ s => Or.inl s, (Below.stays (F := S) (Below.refl w.heap.size w).drew).trans (grown_stays h4 (fun k e => (h.ins f k hf e).1)) (fun _ s _ => s)⟩
  have HF := Lib.hid fin
  have HO := Lib.hid (Own.below ho (Below.refl w.heap.size w).drew)
  have HL := Lib.hid (hL.below (Below.refl w.heap.size w).drew)
  have HB := Lib.hid hb
  clear fin hL h hv hb
  have hform : (q = none ∧ (d.files f).all.length = 0 ∧ cp = 0) ∨ ∃ b', q = some ⟨b', 0, none⟩ := by
    rcases ho.2 with ⟨he, _⟩ | ⟨g', _, _, he, _⟩
    · injection he with e1 e2 e3; exact Or.inl ⟨e1, e2, e3⟩
    · cases he; exact Or.inr ⟨g', rfl⟩
  clear ho
  generalize hn : (d.files f).all.length = m at *
  have HN := Lib.hid hn
  clear hn
  rcases hform with ⟨rfl, rfl, rfl⟩ | ⟨b', rfl⟩
  · obtain rfl : k = 0 := by omega
    obtain rfl : n = 0 := by omega
    obtain ⟨w1, hr, e1, e2⟩ := copy_into (q2 := none) (cm := c) 3 HO.out HN.out HB.out HL.out hk (fun h => absurd h (by omega))
    have HE := Lib.hid (HF.out w1 e1 e2)
    clear e1 e2 HF HO HL HB HN h1 h2
    go_enter Tryd.func78, Tryd.ntmps78
    go_still_tail 7, (by kernel_rfl)
    change wpList _ _ _ _ _ w.drew
    refine wpList_runW8 (wanted_of rfl) (run_copy_op rfl rfl rfl hr) ?_
    go_wp2_with fail
    go_end0
    exact ⟨rfl, HE.out⟩
  · obtain ⟨w1, hr, e1, e2⟩ := copy_into (q2 := if cp = k then some ⟨b', 0, none⟩ else some ⟨b', k, none⟩) (cm := c) 3 HO.out HN.out HB.out HL.out hk (fun h => ⟨b', rfl, if_neg (by omega)⟩)
    have HE := Lib.hid (HF.out w1 e1 e2)
    have HM := Lib.hid h2
    clear e1 e2 HF HO HL HB HN h2
    have q1 : (0 : Int) ≤ (k : Int) := by omega
    have q2 : (k : Int) ≤ (m : Int) := by omega
    have q3 : (m : Int) ≤ (cp : Int) := by omega
    have q4 : (m : Int) - (k : Int) = ((m - k : Nat) : Int) := by omega
    have q5 : (cp : Int) - (k : Int) = ((cp - k : Nat) : Int) := by omega
    by_cases q6 : cp = k
    · subst q6
      obtain rfl : m = cp := by omega
      rw [if_pos rfl, Nat.sub_self] at hr
      go_enter Tryd.func78, Tryd.ntmps78
      go_still_tail 7, (by kernel_rfl)
      change wpList _ _ _ _ _ w.drew
      refine wpList_runW8 (wanted_of rfl) (run_copy_op rfl rfl rfl hr) ?_
      go_wp2_with fail
      go_end0
      exact ⟨rfl, HE.out⟩
    · rw [if_neg q6] at hr
      go_enter Tryd.func78, Tryd.ntmps78
      go_still_tail 7, (by kernel_rfl)
      change wpList _ _ _ _ _ w.drew
      refine wpList_runW8 (wanted_of rfl) (run_copy_op rfl rfl rfl hr) ?_
      go_wp2_with fail
      go_end0
      exact ⟨rfl, HE.out⟩
section
variable {ρ : Operand → Value} {o : Oper} {x y : Operand}
theorem run_subI {a b : Int} {ty : TypeId} (ho : o.op = .binOp .sub 3 x y ty) (hx : ρ x = .int .i64 a) (hy : ρ y = .int .i64 b) (h1 : -9223372036854775808 ≤ a - b ∧ a - b ≤ 9223372036854775807) (w : World) : (execOp ρ o).run Tryd.prog w = .ok (.value (.int .i64 (a - b))) w := by
  have h2 : IntKind.i64.wrap (a - b) = a - b := IntWalk.i64_in _ h1
  obtain ⟨dst, op, ty', pos, after, guard⟩ := o
  simp only at ho
  subst ho
  go_simp
theorem run_gtrT {a b : Int} {ty : TypeId} (ho : o.op = .binOp .gtr 3 x y ty) (hx : ρ x = .int .i64 a) (hy : ρ y = .int .i64 b) (h : b < a) (w : World) : (execOp ρ o).run Tryd.prog w = .ok (.value (.bool true)) w := by
  obtain ⟨dst, op, ty', pos, after, guard⟩ := o
  simp only at ho
  subst ho
  go_simp
theorem run_gtrF {a b : Int} {ty : TypeId} (ho : o.op = .binOp .gtr 3 x y ty) (hx : ρ x = .int .i64 a) (hy : ρ y = .int .i64 b) (h : ¬ b < a) (w : World) : (execOp ρ o).run Tryd.prog w = .ok (.value (.bool false)) w := by
  obtain ⟨dst, op, ty', pos, after, guard⟩ := o
  simp only at ho
  subst ho
  go_simp
end
theorem DkGoV.go {S : Nat → Prop} {g : Nat} {d : DiskM} {w w' : World} (h : DkGoV S g d w w') (hok : d.Ok) (hc : d.count ≤ 1000000000) : DkGo S g d w w' := by
  obtain ⟨S', vs', h1, h2, h3⟩ := h
  exact ⟨S', ⟨⟨vs', h1⟩, hok, hc⟩, h2, h3⟩
theorem DkAt.go {S : Nat → Prop} {g : Nat} {d : DiskM} {w w' : World} (h : DkAt S w g d) (hb : Below w.heap.size w w') : DkGo S g d w w' := ⟨S, h.below hb, fun _ s => Or.inl s, Below.stays hb⟩
theorem DiskM.exec_count (d : DiskM) (eff : (Nat → FileM) → Nat → FileM) (write : Bool) (h : d.count < 1000000000) : (d.exec eff write).count ≤ 1000000000 := by
  unfold DiskM.exec
  split
  · exact h
  · exact Nat.le_of_lt h
/-- A disk's block holds no byte. -/
theorem dk_noByte {S : Nat → Prop} {w : World} {g : Nat} {vs : Nat → Value} {d : DiskM} (h : DkV S w g vs d) (off : Nat) (x : BitVec 8) (hc : w.cell? ⟨g, off, none⟩ = some (.int .u8 (n8 x))) : False := by
  by_cases h0 : off < 70
  · rw [h.cell off h0] at hc
    unfold dkCell at hc
    by_cases h1 : off < 66
    · rw [if_pos h1] at hc
      by_cases h2 : off % 2 = 0
      · rw [if_pos h2] at hc
        obtain ⟨q, c, hv, -⟩ := h.all (off / 2) (by omega)
        rw [hv] at hc; cases hc
      · rw [if_neg h2] at hc; cases hc
    · rw [if_neg h1] at hc
      by_cases h2 : off = 66
      · rw [if_pos h2] at hc; cases hc
      · rw [if_neg h2] at hc
        by_cases h3 : off = 67
        · rw [if_pos h3] at hc; cases hc
        · rw [if_neg h3] at hc
          by_cases h4 : off = 68
          · rw [if_pos h4] at hc; cases hc
          · rw [if_neg h4] at hc; cases hc
  · rw [h.long off (by omega)] at hc; cases hc
set_option maxRecDepth 100000 in
set_option maxHeartbeats 1000000 in
theorem dkWrite_any (S : Nat → Prop) (g : Nat) (d : DiskM) (f : Int) (b : List (BitVec 8)) (n c : Nat) (p : Option Addr) (w : World) (h : DkAt S w g d) (hc : d.count < 1000000000) (hb : b.length = n) (hn : n < 140737488000000) (hL : Lies w p b) :
    Calls Tryd.prog 30 #[.pointer (some ⟨g, 0, none⟩), .int .i64 f, .slice p n c] w fun e w' => e = .returned (.int .i64 (d.write f b).2) ∧ DkGo S g (d.write f b).1 w w' := by
  have HA := Lib.hid h
  have HC := Lib.hid hc
  have HW := Lib.hid (DiskM.write_ok h.2.1 f b)
  obtain ⟨⟨vs, hV⟩, hok, -⟩ := h
  have hb0 : Below w.heap.size w (w.alloc (.cells #[.slice p n c] 37)) := (Below.refl _ _).alloc (Nat.le_refl _) _
  have hx0 : (w.alloc (.cells #[.slice p n c] 37)).cell? ⟨w.heap.size, 0, none⟩ = some (.slice p n c) := by rw [cell_of_row _ _ _ _ _ _ (heap_alloc_new w _)]; rfl
  have hs0 : (w.alloc (.cells #[.slice p n c] 37)).heap.size = w.heap.size + 1 := size_alloc _ _
  go_enter Tryd.func30, Tryd.ntmps30
  go_wp2_with fail
  generalize w.alloc (.cells #[.slice p n c] 37) = w1 at hb0 hx0 hs0 ⊢
  have HSZ := Lib.hid hs0; clear hs0
  have HB0 := Lib.hid hb0
  have HV1 := Lib.hid (hV.below hb0)
  cases hd : d.down with
  | true =>
    have e0 : d.openE f = 9 := by unfold DiskM.openE; rw [if_pos hd]
    have e1 : d.write f b = (d, 9) := by unfold DiskM.write; rw [if_pos (by rw [e0]; decide), e0]
    have HE1 := Lib.hid e1
    refine (dkOpen_down g f S vs d w1 HV1.out hd).mono ?_
    rintro e w2 ⟨rfl, rfl⟩
    clear e0 e1 hb0 hV hok hL hb HW
    go_wp2_with fail
    go_ret
    rw [HE1.out]
    exact ⟨rfl, HA.out.go (HB0.out.alloc HB0.out.size _)⟩
  | false =>
    by_cases hf : 0 ≤ f ∧ f ≤ 32
    · obtain ⟨k, rfl⟩ : ∃ k : Nat, f = (k : Int) := ⟨f.toNat, by omega⟩
      have hk : k < 33 := by omega
      have e0 : d.openE (k : Int) = 0 := by unfold DiskM.openE; rw [if_neg (by rw [hd]; decide), if_pos hf]
      have hu := hok.used
      have hr := hok.room
      have hle := sumTo_le d.files k 33 hk
      have hlk : (d.files k).all.length + n < 140737488355328 := by unfold DiskM.used at hu; omega
      have hbw : Below w.heap.size w (w1.alloc (.cells #[.pointer (some ⟨g, k * 2, none⟩)] 93)) := hb0.alloc hb0.size _
      have hx7 : (w1.alloc (.cells #[.pointer (some ⟨g, k * 2, none⟩)] 93)).cell? ⟨w1.heap.size, 0, none⟩ = some (.pointer (some ⟨g, k * 2, none⟩)) := by rw [cell_of_row _ _ _ _ _ _ (heap_alloc_new w1 _)]; rfl
      have hx5 : (w1.alloc (.cells #[.pointer (some ⟨g, k * 2, none⟩)] 93)).cell? ⟨w.heap.size, 0, none⟩ = some (.slice p n c) := (((Below.refl w1.heap.size w1).alloc (Nat.le_refl _) _).cell (p := ⟨w.heap.size, 0, none⟩) (by show w.heap.size < w1.heap.size; have := HSZ.out; omega)).trans hx0
      refine (dkOpen_yes g k S vs d w1 HV1.out hd hk).mono ?_
      rintro e w2 ⟨rfl, rfl⟩
      clear hx0 hf
      go_upto_region 4 with fail
      generalize w1.alloc (.cells #[.pointer (some ⟨g, k * 2, none⟩)] 93) = w2 at hbw hx7 hx5 ⊢
      have HB2 := Lib.hid hbw
      have HV2 := Lib.hid (hV.below hbw)
      have HLL := Lib.hid (hL.below hbw)
      have HX7 := Lib.hid hx7; have HX5 := Lib.hid hx5
      have HS7 : Hid (∀ k', S k' → k' < w.heap.size) := show ∀ k', _ → _ from hV.dom
      have HU := Lib.hid hu
      have HOK := Lib.hid hok
      have HBL := Lib.hid hb
      clear hb0 hbw hx7 hx5 hL hV HV1 hle hok hb
      have H0 : Hid (w2.drew.cell? ⟨w.heap.size, 0, none⟩ = some (.slice p n c) ∧ w2.drew.cell? ⟨g, 66, none⟩ = some (.int .i64 (d.room : Int))) := show _ ∧ _ from ⟨HX5.out, HV2.out.room⟩
      by_cases hfull : d.room < d.used + n
      · have e1 : d.write (k : Int) b = (d, 8) := by unfold DiskM.write; rw [if_neg (by rw [e0]; decide), HBL.out, if_pos hfull]
        have HE1 := Lib.hid e1
        clear e1 HW
        have hq : (d.room : Int) - (d.used : Int) < (n : Int) := by omega
        refine region_phase (fun w' => w'.cell? ⟨w.heap.size, 0, none⟩ = some (.slice p n c) ∧ w'.cell? ⟨g, 66, none⟩ = some (.int .i64 (d.room : Int))) (fun _ => True) 7 (H0.out) trivial [(0, .free), (1, .free), (2, .free), (3, .free), (4, .free), (5, .free), (6, .free), (7, .behind), (8, .free), (9, .free)] (by kernel_rfl) (by kernel_rfl) (by kernel_rfl) (by kernel_rfl) (fun ops hops A hA => ?_)
        have hsz : A.tmps.size = 31 := by rw [hA]; rfl
        have base0 : A.eval (.tmp 0) = .pointer (some ⟨g, 0, none⟩) := by rw [hA]; rfl
        have base5 : A.eval (.tmp 5) = .pointer (some ⟨w.heap.size, 0, none⟩) := by rw [hA]; rfl
        have HAA := Lib.hid hA; clear hA
        obtain ⟨o0, po0, q0, d0, gd0⟩ : ∃ o, ops[0]? = some o ∧ o.op = .load 37 (.tmp 5) ∧ o.dst = some 18 ∧ o.guard = none := ⟨_, by rw [hops]; rfl, rfl, rfl, rfl⟩
        obtain ⟨o1, po1, q1, d1, gd1⟩ : ∃ o, ops[1]? = some o ∧ o.op = .call { callee := .builtin .len, args := #[.tmp 18], argTypes := #[37] } ∧ o.dst = some 19 ∧ o.guard = none := ⟨_, by rw [hops]; rfl, rfl, rfl, rfl⟩
        obtain ⟨o2, po2, q2, d2, gd2⟩ : ∃ o, ops[2]? = some o ∧ o.op = .move (.tmp 0) ∧ o.dst = some 20 ∧ o.guard = none := ⟨_, by rw [hops]; rfl, rfl, rfl, rfl⟩
        obtain ⟨o3, po3, q3, d3, gd3⟩ : ∃ o, ops[3]? = some o ∧ o.op = .nilCheck (.tmp 20) ∧ o.dst = some 21 ∧ o.guard = none := ⟨_, by rw [hops]; rfl, rfl, rfl, rfl⟩
        obtain ⟨o4, po4, q4, d4, gd4⟩ : ∃ o, ops[4]? = some o ∧ o.op = .fieldAddr 65 (.tmp 21) 1 ∧ o.dst = some 22 ∧ o.guard = none := ⟨_, by rw [hops]; rfl, rfl, rfl, rfl⟩
        obtain ⟨o5, po5, q5, d5, gd5⟩ : ∃ o, ops[5]? = some o ∧ o.op = .load 3 (.tmp 22) ∧ o.dst = some 23 ∧ o.guard = none := ⟨_, by rw [hops]; rfl, rfl, rfl, rfl⟩
        obtain ⟨o6, po6, q6, d6, gd6⟩ : ∃ o, ops[6]? = some o ∧ o.op = .move (.tmp 0) ∧ o.dst = some 24 ∧ o.guard = none := ⟨_, by rw [hops]; rfl, rfl, rfl, rfl⟩
        obtain ⟨o7, po7, q7, d7, gd7⟩ : ∃ o, ops[7]? = some o ∧ o.op = .call { callee := .value (.func 59), args := #[.tmp 24], argTypes := #[24] } ∧ o.dst = some 25 ∧ o.guard = none := ⟨_, by rw [hops]; rfl, rfl, rfl, rfl⟩
        obtain ⟨o8, po8, q8, d8, gd8⟩ : ∃ o, ops[8]? = some o ∧ o.op = .binOp .sub 3 (.tmp 23) (.tmp 25) 3 ∧ o.dst = some 26 ∧ o.guard = none := ⟨_, by rw [hops]; rfl, rfl, rfl, rfl⟩
        obtain ⟨o9, po9, q9, d9, gd9⟩ : ∃ o, ops[9]? = some o ∧ o.op = .binOp .gtr 3 (.tmp 19) (.tmp 26) 3 ∧ o.dst = some 27 ∧ o.guard = none := ⟨_, by rw [hops]; rfl, rfl, rfl, rfl⟩
        clear hops
        refine met_free po0 d0 (wanted_of gd0) (fun w' h' => run_loadBs q0 base5 h'.1) ?_
        refine met_free po1 d1 (wanted_of gd1) (fun w' h' => run_len26 q1 (eval_same _ _ _ (by rw [hsz]; decide)) w') ?_
        refine met_free po2 d2 (wanted_of gd2) (fun w' h' => run_move q2 ((eval_other _ 19 0 _ (by decide)).trans ((eval_other _ 18 0 _ (by decide)).trans base0)) w') ?_
        refine met_free po3 d3 (wanted_of gd3) (fun w' h' => run_nilCheck q3 (eval_same _ _ _ (by simp only [put_size, hsz]; decide)) w') ?_
        refine met_free po4 d4 (wanted_of gd4) (fun w' h' => run_fieldT (off := 66) q4 (fun _ => by kernel_rfl) (eval_same _ _ _ (by simp only [put_size, hsz]; decide)) w') ?_
        refine met_free po5 d5 (wanted_of gd5) (fun w' h' => run_loadIn q5 (eval_same _ _ _ (by simp only [put_size, hsz]; decide)) h'.2) ?_
        refine met_free po6 d6 (wanted_of gd6) (fun w' h' => run_move q6 ((eval_other _ 23 0 _ (by decide)).trans ((eval_other _ 22 0 _ (by decide)).trans ((eval_other _ 21 0 _ (by decide)).trans ((eval_other _ 20 0 _ (by decide)).trans ((eval_other _ 19 0 _ (by decide)).trans ((eval_other _ 18 0 _ (by decide)).trans base0)))))) w') ?_
        refine m_enter po7 d7 (wanted_of gd7) (run_callf1 q7 rfl (eval_same _ _ _ (by simp only [put_size, hsz]; decide)) Tryd.func59 (by kernel_rfl) _) (dkUsedV S g vs d w2.drew (HV2.out.below (Below.refl w2.heap.size w2).drew) (Nat.le_trans HU.out hr)) ?_
        rintro e w3 ⟨rfl, rfl⟩
        refine ⟨_, rfl, H0.out, ?_⟩
        refine met_free po8 d8 (wanted_of gd8) (fun w' h' => run_subI q8 ((eval_other _ 25 23 _ (by decide)).trans ((eval_other _ 24 23 _ (by decide)).trans (eval_same _ _ _ (by simp only [put_size, hsz]; decide)))) (eval_same _ _ _ (by simp only [put_size, hsz]; decide)) (by have := HU.out; omega) w') ?_
        refine met_free po9 d9 (wanted_of gd9) (fun w' h' => run_gtrT q9 ((eval_other _ 26 19 _ (by decide)).trans ((eval_other _ 25 19 _ (by decide)).trans ((eval_other _ 24 19 _ (by decide)).trans ((eval_other _ 23 19 _ (by decide)).trans ((eval_other _ 22 19 _ (by decide)).trans ((eval_other _ 21 19 _ (by decide)).trans ((eval_other _ 20 19 _ (by decide)).trans (eval_same _ _ _ (by simp only [put_size, hsz]; decide))))))))) (eval_same _ _ _ (by simp only [put_size, hsz]; decide)) hq w') ?_
        show NoPanic _ .normal _ _
        refine NoPanic.normal ?_
        rw [HAA.out]
        go_frame
        clear HAA
        clear HU
        go_wp2_with fail
        go_ret
        rw [HE1.out]
        exact ⟨rfl, HA.out.go (HB2.out.trans ((Below.refl w2.heap.size w2).drew.mono HB2.out.size))⟩
      · have e1 : d.write (k : Int) b = (d.exec (writeF k b) true, d.execE) := by unfold DiskM.write; rw [if_neg (by rw [e0]; decide), HBL.out, if_neg hfull, Int.toNat_natCast]
        rw [e1] at HW
        have HE1 := Lib.hid e1
        clear e1
        have hq : ¬ (d.room : Int) - (d.used : Int) < (n : Int) := by omega
        refine region_phase (fun w' => w'.cell? ⟨w.heap.size, 0, none⟩ = some (.slice p n c) ∧ w'.cell? ⟨g, 66, none⟩ = some (.int .i64 (d.room : Int))) (fun _ => True) 7 (H0.out) trivial [(0, .free), (1, .free), (2, .free), (3, .free), (4, .free), (5, .free), (6, .free), (7, .behind), (8, .free), (9, .free)] (by kernel_rfl) (by kernel_rfl) (by kernel_rfl) (by kernel_rfl) (fun ops hops A hA => ?_)
        have hsz : A.tmps.size = 31 := by rw [hA]; rfl
        have base0 : A.eval (.tmp 0) = .pointer (some ⟨g, 0, none⟩) := by rw [hA]; rfl
        have base5 : A.eval (.tmp 5) = .pointer (some ⟨w.heap.size, 0, none⟩) := by rw [hA]; rfl
        have HAA := Lib.hid hA; clear hA
        obtain ⟨o0, po0, q0, d0, gd0⟩ : ∃ o, ops[0]? = some o ∧ o.op = .load 37 (.tmp 5) ∧ o.dst = some 18 ∧ o.guard = none := ⟨_, by rw [hops]; rfl, rfl, rfl, rfl⟩
        obtain ⟨o1, po1, q1, d1, gd1⟩ : ∃ o, ops[1]? = some o ∧ o.op = .call { callee := .builtin .len, args := #[.tmp 18], argTypes := #[37] } ∧ o.dst = some 19 ∧ o.guard = none := ⟨_, by rw [hops]; rfl, rfl, rfl, rfl⟩
        obtain ⟨o2, po2, q2, d2, gd2⟩ : ∃ o, ops[2]? = some o ∧ o.op = .move (.tmp 0) ∧ o.dst = some 20 ∧ o.guard = none := ⟨_, by rw [hops]; rfl, rfl, rfl, rfl⟩
        obtain ⟨o3, po3, q3, d3, gd3⟩ : ∃ o, ops[3]? = some o ∧ o.op = .nilCheck (.tmp 20) ∧ o.dst = some 21 ∧ o.guard = none := ⟨_, by rw [hops]; rfl, rfl, rfl, rfl⟩
        obtain ⟨o4, po4, q4, d4, gd4⟩ : ∃ o, ops[4]? = some o ∧ o.op = .fieldAddr 65 (.tmp 21) 1 ∧ o.dst = some 22 ∧ o.guard = none := ⟨_, by rw [hops]; rfl, rfl, rfl, rfl⟩
        obtain ⟨o5, po5, q5, d5, gd5⟩ : ∃ o, ops[5]? = some o ∧ o.op = .load 3 (.tmp 22) ∧ o.dst = some 23 ∧ o.guard = none := ⟨_, by rw [hops]; rfl, rfl, rfl, rfl⟩
        obtain ⟨o6, po6, q6, d6, gd6⟩ : ∃ o, ops[6]? = some o ∧ o.op = .move (.tmp 0) ∧ o.dst = some 24 ∧ o.guard = none := ⟨_, by rw [hops]; rfl, rfl, rfl, rfl⟩
        obtain ⟨o7, po7, q7, d7, gd7⟩ : ∃ o, ops[7]? = some o ∧ o.op = .call { callee := .value (.func 59), args := #[.tmp 24], argTypes := #[24] } ∧ o.dst = some 25 ∧ o.guard = none := ⟨_, by rw [hops]; rfl, rfl, rfl, rfl⟩
        obtain ⟨o8, po8, q8, d8, gd8⟩ : ∃ o, ops[8]? = some o ∧ o.op = .binOp .sub 3 (.tmp 23) (.tmp 25) 3 ∧ o.dst = some 26 ∧ o.guard = none := ⟨_, by rw [hops]; rfl, rfl, rfl, rfl⟩
        obtain ⟨o9, po9, q9, d9, gd9⟩ : ∃ o, ops[9]? = some o ∧ o.op = .binOp .gtr 3 (.tmp 19) (.tmp 26) 3 ∧ o.dst = some 27 ∧ o.guard = none := ⟨_, by rw [hops]; rfl, rfl, rfl, rfl⟩
        clear hops
        refine met_free po0 d0 (wanted_of gd0) (fun w' h' => run_loadBs q0 base5 h'.1) ?_
        refine met_free po1 d1 (wanted_of gd1) (fun w' h' => run_len26 q1 (eval_same _ _ _ (by rw [hsz]; decide)) w') ?_
        refine met_free po2 d2 (wanted_of gd2) (fun w' h' => run_move q2 ((eval_other _ 19 0 _ (by decide)).trans ((eval_other _ 18 0 _ (by decide)).trans base0)) w') ?_
        refine met_free po3 d3 (wanted_of gd3) (fun w' h' => run_nilCheck q3 (eval_same _ _ _ (by simp only [put_size, hsz]; decide)) w') ?_
        refine met_free po4 d4 (wanted_of gd4) (fun w' h' => run_fieldT (off := 66) q4 (fun _ => by kernel_rfl) (eval_same _ _ _ (by simp only [put_size, hsz]; decide)) w') ?_
        refine met_free po5 d5 (wanted_of gd5) (fun w' h' => run_loadIn q5 (eval_same _ _ _ (by simp only [put_size, hsz]; decide)) h'.2) ?_
        refine met_free po6 d6 (wanted_of gd6) (fun w' h' => run_move q6 ((eval_other _ 23 0 _ (by decide)).trans ((eval_other _ 22 0 _ (by decide)).trans ((eval_other _ 21 0 _ (by decide)).trans ((eval_other _ 20 0 _ (by decide)).trans ((eval_other _ 19 0 _ (by decide)).trans ((eval_other _ 18 0 _ (by decide)).trans base0)))))) w') ?_
        refine m_enter po7 d7 (wanted_of gd7) (run_callf1 q7 rfl (eval_same _ _ _ (by simp only [put_size, hsz]; decide)) Tryd.func59 (by kernel_rfl) _) (dkUsedV S g vs d w2.drew (HV2.out.below (Below.refl w2.heap.size w2).drew) (Nat.le_trans HU.out hr)) ?_
        rintro e w3 ⟨rfl, rfl⟩
        refine ⟨_, rfl, H0.out, ?_⟩
        refine met_free po8 d8 (wanted_of gd8) (fun w' h' => run_subI q8 ((eval_other _ 25 23 _ (by decide)).trans ((eval_other _ 24 23 _ (by decide)).trans (eval_same _ _ _ (by simp only [put_size, hsz]; decide)))) (eval_same _ _ _ (by simp only [put_size, hsz]; decide)) (by have := HU.out; omega) w') ?_
        refine met_free po9 d9 (wanted_of gd9) (fun w' h' => run_gtrF q9 ((eval_other _ 26 19 _ (by decide)).trans ((eval_other _ 25 19 _ (by decide)).trans ((eval_other _ 24 19 _ (by decide)).trans ((eval_other _ 23 19 _ (by decide)).trans ((eval_other _ 22 19 _ (by decide)).trans ((eval_other _ 21 19 _ (by decide)).trans ((eval_other _ 20 19 _ (by decide)).trans (eval_same _ _ _ (by simp only [put_size, hsz]; decide))))))))) (eval_same _ _ _ (by simp only [put_size, hsz]; decide)) hq w') ?_
        show NoPanic _ .normal _ _
        refine NoPanic.normal ?_
        rw [HAA.out]
        go_frame
        clear HAA
        have HE := Lib.hid (dkExec_any S g vs d 61 Tryd.f61 #[.pointer (some ⟨w1.heap.size, 0, none⟩), .pointer (some ⟨w.heap.size, 0, none⟩)] true (writeF k b) w2.drew (HV2.out.below (Below.refl w2.heap.size w2).drew) HOK.out hc Tryd.func61 (by kernel_rfl) (fun w3 hv3 hs3 => by
          have hgS := HV2.out.here
          have hn7 : ¬ S w1.heap.size := fun s => by have := HS7.out _ s; have := HB0.out.size; omega
          have hn5 : ¬ S w.heap.size := fun s => by have := HS7.out _ s; omega
          have hg7 : w1.heap.size ≠ g := fun e => hn7 (e ▸ hgS)
          have hg5 : w.heap.size ≠ g := fun e => hn5 (e ▸ hgS)
          have k7 := World.block_lt_of_cell? w2 _ HX7.out
          have k5 := World.block_lt_of_cell? w2 _ HX5.out
          exact dkWriteC_any S g w1.heap.size w.heap.size k n c p b vs d.tick w3 hv3 hk HBL.out ((HLL.out.below (Below.refl w2.heap.size w2).drew).stay hs3 (fun off x hc => by
            have := HV2.out.below (Below.refl w2.heap.size w2).drew
            exact dk_noByte this off x hc)) (by exact hlk)
            ((World.cell?_of_block (a := ⟨w1.heap.size, 0, none⟩) (hs3.block _ k7 hg7)).trans HX7.out) ((World.cell?_of_block (a := ⟨w.heap.size, 0, none⟩) (hs3.block _ k5 hg5)).trans HX5.out) hn7 hn5))
        clear HX7 HX5 HLL HS7 HOK HBL HV2 HU hc hlk hk hd
        go_wp2_with fail
        with_reducible refine HE.out.mono ?_
        rintro e w3 ⟨rfl, hgo⟩
        have HGO := Lib.hid hgo; clear hgo
        go_wp2_with fail
        go_ret
        rw [HE1.out]
        exact ⟨rfl, (HGO.out.below (HB2.out.trans ((Below.refl w2.heap.size w2).drew.mono HB2.out.size))).go HW.out (DiskM.exec_count _ _ _ HC.out)⟩
    · have e0 : d.openE f = 1 := by unfold DiskM.openE; rw [if_neg (by rw [hd]; decide), if_neg hf]
      have e1 : d.write f b = (d, 1) := by unfold DiskM.write; rw [if_pos (by rw [e0]; decide), e0]
      have HE1 := Lib.hid e1
      refine (dkOpen_no g f S vs d w1 HV1.out hd hf).mono ?_
      rintro e w2 ⟨rfl, rfl⟩
      clear e0 e1 hb0 hV hok hL hb HW hf
      go_wp2_with fail
      go_ret
      rw [HE1.out]
      exact ⟨rfl, HA.out.go (HB0.out.alloc HB0.out.size _)⟩
end Go.Proofs.YtoidjapenompiaaDoor
