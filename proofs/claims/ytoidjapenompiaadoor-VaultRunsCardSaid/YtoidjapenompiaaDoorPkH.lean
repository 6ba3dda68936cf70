/-
  What other texts lean on: WaL, WaKnP, FrSameM, WaKn, KitRow, WaRow, WaIn, WaK.
-/
import Derived.Test.YtoidjapenompiaaDoorPkA
import Derived.Test.YtoidjapenompiaaDoorPkZ
import Derived.Test.YtoidjapenompiaaDoorPkD
import Derived.Test.YtoidjapenompiaaDoorPkF
import Derived.Test.YtoidjapenompiaaDoorPkG
/-
  A log of the call's own beside its disk, and blocks of others that its calls leave alone.
-/
namespace Go.Proofs.YtoidjapenompiaaDoor
open Go.RowKit Go.Proofs.ShaWords
section
variable {lo b g E : Nat} {d : DiskM} {dead : Bool} {w w' : World} {L : List (Nat × Obj)}
end
end Go.Proofs.YtoidjapenompiaaDoor

/-
  A log step by step while the power stays: a row more in its segment, in a new one; a crash that keeps nothing.
-/
namespace Go.Proofs.YtoidjapenompiaaDoor
open Go.Proofs.ShaWords
structure KnW (d : DiskM) (E : Nat) (segs : Nat → List RowW) (all : List RowW) : Prop where
  live : LiveW d E segs 0 all
  calm : d.Calm
section
variable {d : DiskM} {E : Nat} {segs : Nat → List RowW} {all : List RowW}
theorem KnW.row (h : KnW d E segs all) (z : Int) (hz : 1 ≤ z ∧ z ≤ 254) (f : RowW) (hf : f.1 ≠ 0#8 ∧ f.2.length ≤ 2022) (hfit : fitsW d E f.2.length = true) (hroom : d.used + needW d E f.2.length ≤ d.room) :
    AddedW d E f (appendW d E false z f) ∧ KnW (appendW d E false z f).d E (setW segs E (segs E ++ [f])) (all ++ [f]) := by
  have ha := append_calm h.live.files h.calm z hz f hf.2 hroom (Or.inl hfit)
  have h1 : 1 ≤ E := by unfold fitsW at hfit; simp at hfit; omega
  have hfi := ha.files
  rw [if_pos hfit] at hfi
  obtain ⟨g1, g2, g3⟩ := LogFiles.wrote h.live h1 f ⟨hf.1, by omega⟩
  exact ⟨ha, ⟨by rw [hfi]; exact g1, by rw [hfi]; exact g2, g3⟩, ha.calm⟩
theorem KnW.seg (h : KnW d E segs all) (z : Int) (hz : 1 ≤ z ∧ z ≤ 254) (f : RowW) (hf : f.1 ≠ 0#8 ∧ f.2.length ≤ 2022) (hfit : fitsW d E f.2.length = false) (hE : E < 32) (hroom : d.used + needW d E f.2.length ≤ d.room) :
    AddedW d E f (appendW d E false z f) ∧ KnW (appendW d E false z f).d (E + 1) (setW segs (E + 1) [f]) (all ++ [f]) ∧ ((appendW d E false z f).d.files (E + 1)).dur = (d.files (E + 1)).dur ∧ (1 ≤ E → ((appendW d E false z f).d.files E).dur = (d.files E).all.length) := by
  have hfit' : ¬ fitsW d E f.2.length = true := by rw [hfit]; decide
  have ha := append_calm h.live.files h.calm z hz f hf.2 hroom (Or.inr hE)
  have hfi := ha.files
  rw [if_neg hfit'] at hfi
  have h0 : (d.files (E + 1)).all = [] := h.live.files.rest (E + 1) (by omega) (by omega)
  have hsy : ∀ s, ((if E = 0 then d.files else syncF E d.files) s).all = (d.files s).all := fun s => by
    split
    · rfl
    · exact sync_all _ _ _
  have hso : ∀ s, s ≠ E → (if E = 0 then d.files else syncF E d.files) s = d.files s := fun s hs => by
    split
    · rfl
    · exact sync_other _ hs
  have hsd : 1 ≤ E → ((if E = 0 then d.files else syncF E d.files) E).dur = (d.files E).all.length := fun h1 => by
    rw [if_neg (by omega)]; exact (sync_same _ _).2
  generalize (if E = 0 then d.files else syncF E d.files) = F1 at hfi hsy hso hsd
  obtain ⟨g1, g2, g3⟩ := LogFiles.begun (G := (appendW d E false z f).d.files) h.live hE [f] (fun x hx => by rw [List.mem_singleton.1 hx]; exact ⟨hf.1, by omega⟩)
    (by rw [hfi, (write_same _ _ _).1, (write_same _ _ _).1, hsy, h0, List.nil_append, framesB_cons, framesB_one])
    ⟨by rw [hfi, write_other _ _ (by omega), write_other _ _ (by omega)]; exact hsy E, fun h1 => by rw [hfi, write_other _ _ (by omega), write_other _ _ (by omega)]; exact hsd h1⟩
    (fun s a b => by rw [hfi, write_other _ _ b, write_other _ _ b]; exact hso s a)
  refine ⟨ha, ⟨⟨g1, g2, g3⟩, ha.calm⟩, ?_, fun h1 => ?_⟩
  · rw [hfi, (write_same _ _ _).2, (write_same _ _ _).2, hso _ (by omega)]
  · rw [hfi, write_other _ _ (by omega), write_other _ _ (by omega)]; exact hsd h1
theorem KnW.sync (h : KnW d E segs all) : (syncW d E false).e = 0 ∧ (syncW d E false).dead = false ∧ (syncW d E false).E = E ∧ KnW (syncW d E false).d E segs all ∧ (syncW d E false).d.used = d.used ∧ (syncW d E false).d.room = d.room ∧ (1 ≤ E → ((syncW d E false).d.files E).dur = (d.files E).all.length) ∧ ∀ s, ((syncW d E false).d.files s).all = (d.files s).all := by
  have hle := h.live.files.le
  have hsl := sync_live h.live h.calm.down
  have hon : syncW d E false = ⟨(syncedW d E).1, E, decide ((syncedW d E).2 = 9), (syncedW d E).2⟩ := if_neg (by rw [h.calm.down]; decide)
  obtain ⟨d1, hd1, hc1, hu1, hr1, hdu, hal⟩ : ∃ d1, syncedW d E = (d1, 0) ∧ d1.Calm ∧ d1.used = d.used ∧ d1.room = d.room ∧ (1 ≤ E → (d1.files E).dur = (d.files E).all.length) ∧ ∀ s, (d1.files s).all = (d.files s).all := by
    unfold syncedW
    by_cases e : E = 0
    · rw [if_pos e]; exact ⟨d, rfl, h.calm, rfl, rfl, fun h1 => by omega, fun _ => rfl⟩
    · rw [if_neg e, h.calm.sync (f := (E : Int)) (by omega), Int.toNat_natCast]
      exact ⟨_, rfl, ⟨h.calm.down, h.calm.left⟩, used_sync d E (by omega), rfl, fun _ => (sync_same _ _).2, fun s => sync_all _ _ _⟩
  rw [hd1] at hon
  rw [hon] at hsl ⊢
  refine ⟨rfl, rfl, rfl, ⟨?_, hc1⟩, hu1, hr1, hdu, hal⟩
  rcases hsl with ⟨-, -, -, -, h5⟩ | ⟨h5, -⟩
  · exact ⟨h5.files, ⟨h5.dur.ahead, Or.inl (Nat.zero_le _)⟩, h5.rows⟩
  · exact absurd h5 (by show ¬ (0 : Int) = 9; decide)
end
end Go.Proofs.YtoidjapenompiaaDoor

/-
  Two lists of frames, as they are read, are the same.
-/
namespace Go.Proofs.YtoidjapenompiaaDoor
open Go.RowKit Go.Proofs.ShaWords
/-- Frames in memory, as they are read. -/
def FrM (w : World) (hv : Value) (fs : List Fr9) : Prop := ∃ q c, hv = .slice q fs.length c ∧ (0 < fs.length → ∃ g, q = some ⟨g, 0, none⟩ ∧ g < w.heap.size ∧ ∀ (i : Nat) (f : Fr9), fs[i]? = some f → ∃ qv cv, w.cell? ⟨g, i * 2, none⟩ = some (.int .i64 (n8 f.1)) ∧ w.cell? ⟨g, i * 2 + 1, none⟩ = some (.slice qv f.2.length cv) ∧ Lies w qv f.2)
theorem FrM.below {w w' : World} {hv : Value} {fs : List Fr9} (h : FrM w hv fs) (hb : Below w.heap.size w w') : FrM w' hv fs := by
  obtain ⟨q, c, rfl, h1⟩ := h
  refine ⟨q, c, rfl, fun h0 => ?_⟩
  obtain ⟨g, rfl, hg, hc⟩ := h1 h0
  refine ⟨g, rfl, Nat.lt_of_lt_of_le hg hb.size, fun i f hf => ?_⟩
  obtain ⟨qv, cv, c0, c1, hl⟩ := hc i f hf
  exact ⟨qv, cv, (hb.cell (p := ⟨g, i * 2, none⟩) hg).trans c0, (hb.cell (p := ⟨g, i * 2 + 1, none⟩) hg).trans c1, hl.below hb⟩
/-- The first ones of them. -/
theorem FrM.take {w : World} {q : Option Addr} {n c : Nat} {fs : List Fr9} (h : FrM w (.slice q n c) fs) (k : Nat) (hk : k ≤ n) : FrM w (.slice q k c) (fs.take k) := by
  obtain ⟨q', c', e, h1⟩ := h
  cases e
  refine ⟨q, c, by rw [List.length_take, Nat.min_eq_left hk], fun h0 => ?_⟩
  rw [List.length_take] at h0
  obtain ⟨g, rfl, hg, hc⟩ := h1 (by omega)
  refine ⟨g, rfl, hg, fun i f hf => hc i f ?_⟩
  rw [List.getElem?_take] at hf
  split at hf
  · exact hf
  · cases hf
/-- One frame whose bytes lie somewhere. -/
theorem FrM.one {w : World} {g n c cv : Nat} {qv : Option Addr} {z : Int} {cs : Array Value} {t : TypeId} {fz : Nat × Nat} {f : Fr9} (hh : w.heap[g]? = some (.cells cs t fz)) (hcs : cs = #[.int .i64 z, .slice qv n cv]) (hz : z = n8 f.1) (hn : f.2.length = n) (hl : Lies w qv f.2) : FrM w (.slice (some ⟨g, 0, none⟩) 1 c) [f] := by
  subst hcs hz hn
  refine ⟨_, c, rfl, fun _ => ⟨g, rfl, (Array.getElem?_eq_some_iff.1 hh).1, fun i x hx => ?_⟩⟩
  have hi : i = 0 := by have := (List.getElem?_eq_some_iff.1 hx).1; simp at this; exact this
  subst hi
  simp only [List.getElem?_cons_zero, Option.some.injEq] at hx
  subst hx
  exact ⟨qv, cv, by rw [cell_of_row w g _ _ _ _ hh]; rfl, by rw [cell_of_row w g _ _ _ _ hh]; rfl, hl⟩
end Go.Proofs.YtoidjapenompiaaDoor

/-
  The statement's example: rows that are told when the disk is opened again.
-/
namespace Go.Proofs.YtoidjapenompiaaDoor
open Go.RowKit Go.Proofs.ShaWords
section
variable {lo b g E : Nat} {d : DiskM} {dead : Bool} {w w' : World} {L : List (Nat × Obj)}
/-- A new disk. -/
theorem dkNewL (room : Int) (w : World) : Calls Tryd.prog 7 #[.int .i64 room] w fun e w' => ∃ g, e = .returned (.pointer (some ⟨g, 0, none⟩)) ∧ DkL w.heap.size w' g (DiskM.new room) [] ∧ Below w.heap.size w w' :=
  (dkNewI w.heap.size room w (Nat.le_refl _)).mono fun _ _ ⟨g, h1, h2, h3⟩ => ⟨g, h1, DkL.of h2, h3⟩
end
end Go.Proofs.YtoidjapenompiaaDoor

/- The kit's Row: so many bytes, 7, 8, 9 and so on, modulo 251. -/
namespace Go.Proofs.YtoidjapenompiaaDoor
open Go.RowKit Go.Proofs.ShaWords
def rowAt (i : Nat) : BitVec 8 := BitVec.ofNat 8 ((7 + i) % 251)
def kitRow (n : Nat) : List (BitVec 8) := (List.range n).map rowAt
attribute [local irreducible] rowAt kitRow
end Go.Proofs.YtoidjapenompiaaDoor

/-
  The statements' rows: the frame that a row is.
-/
namespace Go.Proofs.YtoidjapenompiaaDoor
open Go.RowKit Go.Proofs.ShaWords
/-- The bytes of a row, and the frame. -/
def rowBs (sz : Int) (i : Nat) : List (BitVec 8) := if pickZ sz 900 = 0 then [] else (kitRow (pickZ sz 900)).set 0 (kb (i : Int))
attribute [local irreducible] rowBs
end Go.Proofs.YtoidjapenompiaaDoor

/-
  What comes in at layer 10, opened: rows, lives, files.
-/
namespace Go.Proofs.YtoidjapenompiaaDoor
open Go.ChangeShapes Go.WideShapes Go.ChangeAt Go.RowKit Go.Proofs.ShaWords Go.Deep
structure InRow where
  kd : Int
  sz : Int
  sy : Bool
instance : Inhabited InRow := ⟨⟨0, 0, false⟩⟩
def InRow.cells (x : InRow) : List Value := [.int .i64 x.kd, .int .i64 x.sz, .bool x.sy]
/-- A life that came in. -/
structure InLife where
  p : Option Addr
  c : Nat
  rows : List InRow
  cut : Int
  q : Option Addr
  k : Nat
  keep : List Int
instance : Inhabited InLife := ⟨⟨none, 0, [], 0, none, 0, []⟩⟩
def InLife.cells (x : InLife) : List Value := [.slice x.p x.rows.length x.c, .int .i64 x.cut, .slice x.q x.keep.length x.k]
structure InLife.Ok (W : World) (x : InLife) : Prop where
  rows : RowOf 3 InRow.cells W x.p x.rows
  keep : LiesZ W x.q x.keep
  cap : x.keep.length ≤ x.k
/-- Bytes that came in, among others. -/
structure InB where
  p : Option Addr
  c : Nat
  b : List (BitVec 8)
instance : Inhabited InB := ⟨⟨none, 0, []⟩⟩
def InB.cells (x : InB) : List Value := [.slice x.p x.b.length x.c]
structure InB.Ok (W : World) (x : InB) : Prop where
  cap : x.b.length ≤ x.c
  lies : Lies W x.p x.b
end Go.Proofs.YtoidjapenompiaaDoor

/-
  Frames of a list and bytes by their blocks, beside a log: carried through its calls, one more appended.
-/
namespace Go.Proofs.YtoidjapenompiaaDoor
open Go.RowKit Go.Proofs.ShaWords
theorem wanted_guardF {ops : Array Oper} {a : Act} {o : Oper} {j : Nat} {dj : Tmp} {oj : Oper} (hg : o.guard = some (j, false)) (hj : ops[j]? = some oj) (hd : oj.dst = some dj) (he : a.eval (.tmp dj) = .bool false) : Region.wanted o (yielded ops a.tmps) = true := by
  have h2 := tmp_at he
  unfold Region.wanted
  rw [hg]
  simp only [yielded, hj, Option.bind_some, hd, h2]
  rfl
end Go.Proofs.YtoidjapenompiaaDoor
