/-
  What other texts lean on: VtPure, VtDo, VtMem, VtSlot, VtRun, VtClo, VtTake, VtOpen, VtOpen2, VtRefB, VtRefR, VtRefV, VtGet, VtCalm.
-/
import Derived.Test.YtoidjapenompiaaDoorPkA
import Derived.Test.YtoidjapenompiaaDoorPkW
import Derived.Test.YtoidjapenompiaaDoorPkY
import Derived.Test.YtoidjapenompiaaDoorPkZ
import Derived.Test.YtoidjapenompiaaDoorPkB
import Derived.Test.YtoidjapenompiaaDoorPkD
import Derived.Test.YtoidjapenompiaaDoorPkF
import Derived.Laws.ResultCell
import Derived.Deep.MidRow
import Derived.Great.BuildSlice
/-
  A vault's slots as plain data: each slot's bytes; the slots that any bytes begin with.
-/
namespace Go.Proofs.YtoidjapenompiaaDoor
open Go.Proofs.ShaWords
/-- A slot: its key, or that it was erased. -/
abbrev SlotV : Type := Option (List (BitVec 8))
def SlotOk (s : SlotV) : Prop := ∀ k, s = some k → k.length = 32
def slotH (k : List (BitVec 8)) (n : Nat) : List (BitVec 8) := k ++ be4 (BitVec.ofNat 32 n)
def slotB (s : SlotV) (n : Nat) : List (BitVec 8) :=
  match s with
  | none => List.replicate 40 0#8
  | some k => slotH k n ++ be4 (crcOf (slotH k n))
theorem slotOk_none : SlotOk none := fun _ h => by cases h
theorem slotOk_some {k : List (BitVec 8)} (h : k.length = 32) : SlotOk (some k) := fun _ e => by cases e; exact h
theorem slotH_length {k : List (BitVec 8)} (h : k.length = 32) (n : Nat) : (slotH k n).length = 36 := by
  unfold slotH
  rw [List.length_append, h, be4_length]
theorem slotB_length {s : SlotV} (h : SlotOk s) (n : Nat) : (slotB s n).length = 40 := by
  cases s with
  | none => exact List.length_replicate
  | some k =>
    show (slotH k n ++ _).length = 40
    rw [List.length_append, slotH_length (h k rfl), be4_length]
theorem slotB_take {k : List (BitVec 8)} (h : k.length = 32) (n : Nat) : (slotB (some k) n).take 32 = k := by
  show (k ++ _ ++ _).take 32 = k
  rw [List.append_assoc, List.take_append_of_le_length (by omega), List.take_of_length_le (by omega)]
/-- A key's slot is not 0 throughout: its number is not. -/
theorem slotB_key {k : List (BitVec 8)} (h : k.length = 32) {n : Nat} (h1 : 1 ≤ n) (h2 : n < 4294967296) : slotB (some k) n ≠ List.replicate 40 0#8 := by
  intro e
  have e2 : (slotB (some k) n).drop 32 = List.replicate 8 0#8 := by rw [e, List.drop_replicate]
  have e3 : (slotB (some k) n).drop 32 = be4 (BitVec.ofNat 32 n) ++ be4 (crcOf (slotH k n)) := by
    show (k ++ _ ++ _).drop 32 = _
    rw [List.append_assoc, List.drop_append_of_le_length (by omega), List.drop_of_length_le (by omega), List.nil_append]
  have e4 : w4 (be4 (BitVec.ofNat 32 n) ++ be4 (crcOf (slotH k n))) = w4 (List.replicate 8 0#8) := by rw [← e3, e2]
  rw [w4_be4] at e4
  have e5 : (BitVec.ofNat 32 n).toNat = 0 := by rw [e4]; decide
  rw [BitVec.toNat_ofNat, Nat.mod_eq_of_lt (by omega)] at e5
  omega
theorem slotB_inj {s t : SlotV} (hs : SlotOk s) (ht : SlotOk t) {n : Nat} (h1 : 1 ≤ n) (h2 : n < 4294967296) (e : slotB s n = slotB t n) : s = t := by
  cases s with
  | none =>
    cases t with
    | none => rfl
    | some k => exact absurd e.symm (slotB_key (ht k rfl) h1 h2)
  | some j =>
    cases t with
    | none => exact absurd e (slotB_key (hs j rfl) h1 h2)
    | some k => rw [← slotB_take (hs j rfl) n, e, slotB_take (ht k rfl) n]
/-- The bytes of slots, behind so many others. -/
def slotsFrom : Nat → List SlotV → List (BitVec 8)
  | _, [] => []
  | n, s :: l => slotB s (n + 1) ++ slotsFrom (n + 1) l
def slotsB (l : List SlotV) : List (BitVec 8) := slotsFrom 0 l
theorem slotsFrom_append : ∀ (a b : List SlotV) (n : Nat), slotsFrom n (a ++ b) = slotsFrom n a ++ slotsFrom (n + a.length) b
  | [], b, n => rfl
  | s :: a, b, n => by
    show slotB s (n + 1) ++ slotsFrom (n + 1) (a ++ b) = _
    rw [slotsFrom_append a b (n + 1)]
    show _ = slotB s (n + 1) ++ slotsFrom (n + 1) a ++ _
    rw [List.append_assoc, List.length_cons, show n + 1 + a.length = n + (a.length + 1) by omega]
theorem slotsFrom_length : ∀ (l : List SlotV) (n : Nat), (∀ s ∈ l, SlotOk s) → (slotsFrom n l).length = 40 * l.length
  | [], _, _ => rfl
  | s :: l, n, h => by
    show (slotB s (n + 1) ++ slotsFrom (n + 1) l).length = _
    rw [List.length_append, slotB_length (h s List.mem_cons_self), slotsFrom_length l (n + 1) (fun x hx => h x (List.mem_cons_of_mem _ hx)), List.length_cons]
    omega
theorem slotsB_length {l : List SlotV} (h : ∀ s ∈ l, SlotOk s) : (slotsB l).length = 40 * l.length := slotsFrom_length l 0 h
theorem slotsB_snoc (l : List SlotV) (s : SlotV) : slotsB (l ++ [s]) = slotsB l ++ slotB s (l.length + 1) := by
  unfold slotsB
  rw [slotsFrom_append, Nat.zero_add]
  show _ ++ (slotB s (l.length + 1) ++ []) = _
  rw [List.append_nil]
/-- Parted at a slot. -/
theorem slotsB_part (l : List SlotV) (i : Nat) (h : i < l.length) : slotsB l = slotsB (l.take i) ++ (slotB l[i] (i + 1) ++ slotsFrom (i + 1) (l.drop (i + 1))) := by
  conv => lhs; rw [← List.take_append_drop i l, List.drop_eq_getElem_cons h]
  unfold slotsB
  rw [slotsFrom_append, Nat.zero_add, List.length_take, Nat.min_eq_left (Nat.le_of_lt h)]
  rfl
theorem okTake {l : List SlotV} (h : ∀ s ∈ l, SlotOk s) (i : Nat) : ∀ s ∈ l.take i, SlotOk s := fun s hs => h s (List.mem_of_mem_take hs)
theorem okSnoc {l : List SlotV} (h : ∀ s ∈ l, SlotOk s) {s : SlotV} (hs : SlotOk s) : ∀ x ∈ l ++ [s], SlotOk x := fun x hx => by
  rcases List.mem_append.1 hx with hx | hx
  · exact h x hx
  · rw [List.mem_singleton.1 hx]; exact hs
theorem okSet {l : List SlotV} (h : ∀ s ∈ l, SlotOk s) (i : Nat) : ∀ x ∈ l.set i none, SlotOk x := fun x hx => by
  rcases List.mem_or_eq_of_mem_set hx with hx | rfl
  · exact h x hx
  · exact slotOk_none
/-- What stands at a slot's place. -/
theorem slotsB_at {l : List SlotV} (h : ∀ s ∈ l, SlotOk s) (i : Nat) (hi : i < l.length) : ((slotsB l).drop (40 * i)).take 40 = slotB l[i] (i + 1) := by
  have hl : (slotsB (l.take i)).length = 40 * i := by rw [slotsB_length (okTake h i), List.length_take, Nat.min_eq_left (Nat.le_of_lt hi)]
  rw [slotsB_part l i hi, ← hl, List.drop_left]
  rw [← slotB_length (h _ (List.getElem_mem hi)) (i + 1), List.take_left]
/-- Noughts over a slot. -/
theorem slotsB_over {l : List SlotV} (h : ∀ s ∈ l, SlotOk s) (i : Nat) (hi : i < l.length) : layOver (slotsB l) (40 * i) (List.replicate 40 0#8) = slotsB (l.set i none) := by
  have hl : (slotsB (l.take i)).length = 40 * i := by rw [slotsB_length (okTake h i), List.length_take, Nat.min_eq_left (Nat.le_of_lt hi)]
  have h40 := slotB_length (h _ (List.getElem_mem hi)) (i + 1)
  have e2 : slotsB (l.set i none) = slotsB (l.take i) ++ (List.replicate 40 0#8 ++ slotsFrom (i + 1) (l.drop (i + 1))) := by
    rw [slotsB_part (l.set i none) i (by rw [List.length_set]; exact hi), List.getElem_set_self]
    rw [List.take_set_of_le (Nat.le_refl i), List.drop_set_of_lt (Nat.lt_succ_self i)]
    rfl
  rw [e2, slotsB_part l i hi]
  unfold layOver
  rw [List.length_replicate, ← hl, List.take_left, List.append_assoc]
  congr 2
  rw [← List.append_assoc]
  have h80 : (slotsB (l.take i)).length + 40 = (slotsB (l.take i) ++ slotB l[i] (i + 1)).length := by rw [List.length_append, h40]
  rw [h80, List.drop_left]
/-- The slots that bytes begin with, and what stands behind them. -/
structure VtOf (b : List (BitVec 8)) (l : List SlotV) (r : List (BitVec 8)) : Prop where
  is : b = slotsB l ++ r
  ok : ∀ s ∈ l, SlotOk s
  le : l.length ≤ 64
  stop : l.length = 64 ∨ r.length < 40 ∨ ∀ s, SlotOk s → slotB s (l.length + 1) ≠ r.take 40
theorem vt_ex (b : List (BitVec 8)) : ∃ l r, VtOf b l r := by
  have h : ∀ n, n ≤ 64 → (∃ l r, VtOf b l r) ∨ ∃ l r, l.length = n ∧ b = slotsB l ++ r ∧ ∀ s ∈ l, SlotOk s := fun n => by
    induction n with
    | zero => exact fun _ => Or.inr ⟨[], b, rfl, rfl, fun s hs => by cases hs⟩
    | succ n ih =>
      intro hn
      rcases ih (by omega) with h | ⟨l, r, h1, h2, h3⟩
      · exact Or.inl h
      · by_cases hr : r.length < 40
        · exact Or.inl ⟨l, r, h2, h3, by omega, Or.inr (Or.inl hr)⟩
        · by_cases hs : ∃ s, SlotOk s ∧ slotB s (l.length + 1) = r.take 40
          · obtain ⟨s, hs, e⟩ := hs
            refine Or.inr ⟨l ++ [s], r.drop 40, by rw [List.length_append, h1]; rfl, ?_, okSnoc h3 hs⟩
            rw [slotsB_snoc, List.append_assoc, e, List.take_append_drop]
            exact h2
          · exact Or.inl ⟨l, r, h2, h3, by omega, Or.inr (Or.inr fun s ho e => hs ⟨s, ho, e⟩)⟩
  rcases h 64 (Nat.le_refl _) with h | ⟨l, r, h1, h2, h3⟩
  · exact h
  · exact ⟨l, r, h2, h3, by omega, Or.inl h1⟩
/-- Slots that stand at the beginning are among them. -/
theorem VtOf.pre {b : List (BitVec 8)} {l m : List SlotV} {r r' : List (BitVec 8)} (h : VtOf b l r) (hb : b = slotsB m ++ r') (ho : ∀ s ∈ m, SlotOk s) (hm : m.length ≤ 64) : m <+: l := by
  have hj : ∀ j, j ≤ m.length → j ≤ l.length ∧ m.take j = l.take j := fun j => by
    induction j with
    | zero => exact fun _ => ⟨Nat.zero_le _, by rw [List.take_zero, List.take_zero]⟩
    | succ j ih =>
      intro hj
      obtain ⟨i1, i2⟩ := ih (by omega)
      have hjm : j < m.length := by omega
      have e1 : b = slotsB (m.take j) ++ (slotB m[j] (j + 1) ++ (slotsFrom (j + 1) (m.drop (j + 1)) ++ r')) := by
        rw [hb, slotsB_part m j hjm]; simp only [List.append_assoc]
      have o40 := slotB_length (ho _ (List.getElem_mem hjm)) (j + 1)
      by_cases hjl : j < l.length
      · have e2 : b = slotsB (m.take j) ++ (slotB l[j] (j + 1) ++ (slotsFrom (j + 1) (l.drop (j + 1)) ++ r)) := by
          rw [h.is, slotsB_part l j hjl, i2]; simp only [List.append_assoc]
        have e3 := List.append_cancel_left (e1.symm.trans e2)
        have e4 := (List.append_inj e3 (by rw [o40, slotB_length (h.ok _ (List.getElem_mem hjl)) (j + 1)])).1
        have e5 := slotB_inj (ho _ (List.getElem_mem hjm)) (h.ok _ (List.getElem_mem hjl)) (by omega) (by omega) e4
        exact ⟨hjl, by rw [List.take_succ_eq_append_getElem hjm, List.take_succ_eq_append_getElem hjl, i2, e5]⟩
      · exfalso
        have hl : l.length = j := by omega
        have hlt : l.take j = l := List.take_of_length_le (by omega)
        have e3 : r = slotB m[j] (j + 1) ++ (slotsFrom (j + 1) (m.drop (j + 1)) ++ r') := by
          have hh : slotsB l ++ r = slotsB l ++ (slotB m[j] (j + 1) ++ (slotsFrom (j + 1) (m.drop (j + 1)) ++ r')) := by rw [← h.is, e1, i2, hlt]
          exact List.append_cancel_left hh
        rcases h.stop with s | s | s
        · omega
        · rw [e3, List.length_append, o40] at s; omega
        · refine s m[j] (ho _ (List.getElem_mem hjm)) ?_
          rw [hl, e3, ← o40, List.take_left]
  obtain ⟨-, e⟩ := hj m.length (Nat.le_refl _)
  rw [List.take_length] at e
  rw [e]
  exact List.take_prefix _ _
theorem VtOf.unique {b : List (BitVec 8)} {l m : List SlotV} {r r' : List (BitVec 8)} (h : VtOf b l r) (k : VtOf b m r') : l = m ∧ r = r' := by
  have h1 := h.pre k.is k.ok k.le
  have h2 := k.pre h.is h.ok h.le
  have e : l = m := List.IsPrefix.eq_of_length h2 (Nat.le_antisymm h2.length_le h1.length_le)
  subst e
  exact ⟨rfl, List.append_cancel_left (h.is.symm.trans k.is)⟩
theorem vt_all {l : List SlotV} (ho : ∀ s ∈ l, SlotOk s) (h : l.length ≤ 64) : VtOf (slotsB l) l [] := ⟨by rw [List.append_nil], ho, h, Or.inr (Or.inl (by decide))⟩
theorem vt_cut {l : List SlotV} {x : List (BitVec 8)} (ho : ∀ s ∈ l, SlotOk s) (h : l.length ≤ 64) (hx : x.length < 40) : VtOf (slotsB l ++ x) l x := ⟨rfl, ho, h, Or.inr (Or.inl hx)⟩
theorem VtOf.length {b : List (BitVec 8)} {l : List SlotV} {r : List (BitVec 8)} (h : VtOf b l r) : b.length = 40 * l.length + r.length := by
  rw [h.is, List.length_append, slotsB_length h.ok]
theorem VtOf.take {b : List (BitVec 8)} {l : List SlotV} {r : List (BitVec 8)} (h : VtOf b l r) : b.take (40 * l.length) = slotsB l := by
  rw [h.is, ← slotsB_length h.ok, List.take_left]
theorem VtOf.nil {l : List SlotV} {r : List (BitVec 8)} (h : VtOf [] l r) : l = [] ∧ r = [] := by
  have := h.length
  rw [List.length_nil] at this
  exact ⟨List.length_eq_zero_iff.1 (by omega), List.length_eq_zero_iff.1 (by omega)⟩
end Go.Proofs.YtoidjapenompiaaDoor

/-
  What a vault's calls make of the disk and of its slots; what holds then, whether or not the power fails in between.
-/
namespace Go.Proofs.YtoidjapenompiaaDoor
open Go.Proofs.ShaWords
/-- What a call leaves: the disk, the slots, whether the vault is dead, the error. -/
structure VtRes where
  d : DiskM
  l : List SlotV
  dead : Bool
  e : Int
/-- What opening does with the disk, whose file begins with the slots l, r behind them (the power is on). -/
def openVt (d : DiskM) (l : List SlotV) (r : List (BitVec 8)) : DiskM × Int :=
  if r ≠ [] then d.cut 0 ((40 * l.length : Nat) : Int) else if l ≠ [] then d.sync 0 else (d, 0)
def putVt (d : DiskM) (l : List SlotV) (dead : Bool) (k : List (BitVec 8)) : VtRes :=
  if dead = true then ⟨d, l, true, 9⟩
  else if l.length = 64 then ⟨d, l, false, 3⟩
  else if (d.write 0 (slotB (some k) (l.length + 1))).2 ≠ 0 then ⟨(d.write 0 (slotB (some k) (l.length + 1))).1, l, decide ((d.write 0 (slotB (some k) (l.length + 1))).2 = 9), (d.write 0 (slotB (some k) (l.length + 1))).2⟩
  else if ((d.write 0 (slotB (some k) (l.length + 1))).1.sync 0).2 ≠ 0 then ⟨((d.write 0 (slotB (some k) (l.length + 1))).1.sync 0).1, l, decide (((d.write 0 (slotB (some k) (l.length + 1))).1.sync 0).2 = 9), ((d.write 0 (slotB (some k) (l.length + 1))).1.sync 0).2⟩
  else ⟨((d.write 0 (slotB (some k) (l.length + 1))).1.sync 0).1, l ++ [some k], false, 0⟩
/-- What is got: the key (0 throughout beside an error), the error. -/
def getVt (l : List SlotV) (z : Int) : List (BitVec 8) × Int :=
  if z < 1 ∨ (l.length : Int) < z then (List.replicate 32 0#8, 12)
  else match l.getD (z - 1).toNat none with
    | none => (List.replicate 32 0#8, 17)
    | some k => (k, 0)
def zeroVt (d : DiskM) (l : List SlotV) (dead : Bool) (z : Int) : VtRes :=
  if dead = true then ⟨d, l, true, 9⟩
  else if z < 1 ∨ (l.length : Int) < z then ⟨d, l, false, 12⟩
  else if l.getD (z - 1).toNat none = none then ⟨d, l, false, 0⟩
  else if (d.over 0 (40 * (z - 1)) (List.replicate 40 0#8)).2 ≠ 0 then ⟨(d.over 0 (40 * (z - 1)) (List.replicate 40 0#8)).1, l, decide ((d.over 0 (40 * (z - 1)) (List.replicate 40 0#8)).2 = 9), (d.over 0 (40 * (z - 1)) (List.replicate 40 0#8)).2⟩
  else ⟨(d.over 0 (40 * (z - 1)) (List.replicate 40 0#8)).1, l.set (z - 1).toNat none, false, 0⟩
theorem getD_atV {l : List SlotV} {i : Nat} (h : i < l.length) : l.getD i none = l[i] := by rw [List.getD_eq_getElem?_getD, List.getElem?_eq_getElem h]; rfl
theorem getVt_at {l : List SlotV} {i : Nat} (h : i < l.length) : getVt l ((i : Int) + 1) = match l[i] with | none => (List.replicate 32 0#8, 17) | some k => (k, 0) := by
  unfold getVt
  rw [if_neg (by omega), show ((i : Int) + 1 - 1).toNat = i by omega, getD_atV h]
theorem getVt_none {l : List SlotV} {z : Int} (h : z < 1 ∨ (l.length : Int) < z) : getVt l z = (List.replicate 32 0#8, 12) := by
  unfold getVt
  rw [if_pos h]
theorem DiskM.Calm.cutV {d : DiskM} (h : d.Calm) {f n : Int} (hf : 0 ≤ f ∧ f ≤ 32) (hn : 0 ≤ n ∧ n ≤ ((d.files f.toNat).all.length : Int)) : d.cut f n = ({ d with files := cutF f.toNat n.toNat d.files, count := d.count + 1 }, 0) := by
  unfold DiskM.cut
  rw [if_neg (by rw [h.openE hf]; decide), if_neg (by omega), h.exec, h.execE]
/-- The vault's file has the slots, x behind them which need not last; there is room; no other file has a byte. -/
structure VtHas (d : DiskM) (l : List SlotV) (x : List (BitVec 8)) : Prop where
  ok : d.Ok
  room : d.room = 262144
  file : (d.files 0).all = slotsB l ++ x
  dur : (d.files 0).dur = 40 * l.length
  slots : ∀ s ∈ l, SlotOk s
  le : l.length ≤ 64
  others : ∀ f, f ≠ 0 → (d.files f).all = []
structure VtLive (d : DiskM) (l : List SlotV) : Prop where
  has : VtHas d l []
  on : d.down = false
theorem sumTo_one {F : Nat → FileM} (h : ∀ f, f ≠ 0 → (F f).all = []) : ∀ n, sumTo F (n + 1) = (F 0).all.length
  | 0 => Nat.zero_add _
  | n + 1 => by
    show sumTo F (n + 1) + (F (n + 1)).all.length = _
    rw [sumTo_one h n, h (n + 1) (by omega)]; rfl
theorem VtHas.used {d : DiskM} {l : List SlotV} {x : List (BitVec 8)} (h : VtHas d l x) : d.used = 40 * l.length + x.length := by
  unfold DiskM.used
  rw [sumTo_one h.others 32, h.file, List.length_append, slotsB_length h.slots]
theorem VtLive.arm {d : DiskM} {l : List SlotV} (h : VtLive d l) (n : Int) (hn : n < 9223372036854775808) : VtLive (d.arm n) l :=
  ⟨⟨DiskM.arm_ok h.has.ok n hn, h.has.room, h.has.file, h.has.dur, h.has.slots, h.has.le, h.has.others⟩, h.on⟩
/-- Opening, while nothing is armed. -/
structure OpenedV (d d' : DiskM) (l : List SlotV) : Prop where
  calm : d'.Calm
  ok : d'.Ok
  room : d'.room = d.room
  file : (d'.files 0).all = slotsB l
  dur : (d'.files 0).dur = 40 * l.length
  others : ∀ f, f ≠ 0 → d'.files f = d.files f
theorem openVt_calm {d : DiskM} {l : List SlotV} {r : List (BitVec 8)} (hc : d.Calm) (ho : d.Ok) (h : VtOf (d.files 0).all l r) : (openVt d l r).2 = 0 ∧ OpenedV d (openVt d l r).1 l := by
  have hlen := h.length
  unfold openVt
  by_cases hr : r = []
  · rw [if_neg (by simp [hr])]
    have hf : (d.files 0).all = slotsB l := by rw [h.is, hr, List.append_nil]
    rw [hr, List.length_nil, Nat.add_zero] at hlen
    by_cases hl : l = []
    · rw [if_neg (by simp [hl])]
      refine ⟨rfl, hc, ho, rfl, hf, ?_, fun _ _ => rfl⟩
      have := ho.dur 0 (by omega)
      have e : l.length = 0 := by rw [hl]; rfl
      show (d.files 0).dur = _
      omega
    · rw [if_pos hl]
      have hok := DiskM.sync_ok ho 0
      rw [hc.sync (by omega)] at hok ⊢
      refine ⟨rfl, ⟨hc.down, hc.left⟩, hok, rfl, ?_, ?_, fun f hf => ?_⟩
      · show (setF d.files 0 _ 0).all = _
        rw [setF_same]; exact hf
      · show (setF d.files 0 _ 0).dur = _
        rw [setF_same]; exact hlen
      · exact setF_other _ _ hf
  · rw [if_pos hr]
    have hok := DiskM.cut_ok ho 0 ((40 * l.length : Nat) : Int)
    rw [hc.cutV (by omega) ⟨by omega, by show _ ≤ ((d.files 0).all.length : Int); omega⟩] at hok ⊢
    refine ⟨rfl, ⟨hc.down, hc.left⟩, hok, rfl, ?_, ?_, fun f hf => ?_⟩
    · show (setF d.files 0 _ 0).all = _
      rw [setF_same]
      show (d.files 0).all.take (((40 * l.length : Nat) : Int)).toNat = _
      rw [Int.toNat_natCast]
      exact h.take
    · show (setF d.files 0 _ 0).dur = _
      rw [setF_same]
      exact Int.toNat_natCast _
    · exact setF_other _ _ hf
theorem OpenedV.live {d d' : DiskM} {l : List SlotV} (h : OpenedV d d' l) (hr : d.room = 262144) (hs : ∀ s ∈ l, SlotOk s) (hl : l.length ≤ 64) (hf : ∀ f, f ≠ 0 → (d.files f).all = []) : VtLive d' l :=
  ⟨⟨h.ok, h.room.trans hr, by rw [h.file, List.append_nil], h.dur, hs, hl, fun f h0 => by rw [h.others f h0]; exact hf f h0⟩, h.calm.down⟩
/-- Behind a crash, and an opening: the slots, or the one more whose bytes came behind them. -/
theorem VtHas.opened {d : DiskM} {l : List SlotV} {x : List (BitVec 8)} (h : VtHas d l x) {k : List (BitVec 8)} (hk : k.length = 32) (hx : x = [] ∨ l.length < 64 ∧ x = slotB (some k) (l.length + 1)) (keep : List Int) :
    ∃ l' r, VtOf ((d.crash keep).files 0).all l' r ∧ (l' = l ∨ x ≠ [] ∧ l' = l ++ [some k]) ∧ (openVt (d.crash keep) l' r).2 = 0 ∧ VtLive (openVt (d.crash keep) l' r).1 l' := by
  have hok := DiskM.crash_ok h.ok keep
  have hcalm := calm_crash d keep
  have hoth : ∀ f, f ≠ 0 → ((d.crash keep).files f).all = [] := fun f h0 => by
    by_cases hf : f < 33
    · obtain ⟨j, hj⟩ := crashTo_one d.files keep f hf
      show ((crashTo d.files keep 33).1 f).all = []
      rw [hj]
      unfold cutTo
      show ((d.files f).all.take _) = []
      rw [h.others f h0, List.take_nil]
    · show ((crashTo d.files keep 33).1 f).all = []
      rw [crashTo_at d.files keep 33 f (by omega)]
      exact h.others f h0
  have hsl := slotsB_length h.slots
  have hfile : ∃ j, ((d.crash keep).files 0).all = slotsB l ++ x.take j := by
    obtain ⟨j, hj⟩ := crashTo_one d.files keep 0 (by omega)
    refine ⟨(min (max j 0) (((d.files 0).all.length - (d.files 0).dur : Nat) : Int)).toNat, ?_⟩
    show ((crashTo d.files keep 33).1 0).all = _
    rw [hj]
    unfold cutTo
    show (d.files 0).all.take _ = _
    generalize (min (max j 0) (((d.files 0).all.length - (d.files 0).dur : Nat) : Int)).toNat = m
    rw [h.file, h.dur, ← hsl, List.take_length_add_append]
  obtain ⟨j, hj⟩ := hfile
  have hfin : ∀ l' r, VtOf ((d.crash keep).files 0).all l' r → (l' = l ∨ x ≠ [] ∧ l' = l ++ [some k]) → ∃ l' r, VtOf ((d.crash keep).files 0).all l' r ∧ (l' = l ∨ x ≠ [] ∧ l' = l ++ [some k]) ∧ (openVt (d.crash keep) l' r).2 = 0 ∧ VtLive (openVt (d.crash keep) l' r).1 l' := fun l' r hv he => by
    obtain ⟨h1, h2⟩ := openVt_calm hcalm hok hv
    exact ⟨l', r, hv, he, h1, h2.live h.room hv.ok hv.le hoth⟩
  by_cases h40 : (x.take j).length < 40
  · refine hfin l (x.take j) ?_ (Or.inl rfl)
    rw [hj]
    exact vt_cut h.slots h.le h40
  · rcases hx with hx | ⟨h64, hx⟩
    · rw [hx, List.take_nil] at h40
      exact absurd (by decide) h40
    · have hso := slotOk_some hk
      have hxl : x.length = 40 := by rw [hx]; exact slotB_length hso _
      have hxt : x.take j = x := List.take_of_length_le (by rw [List.length_take] at h40; omega)
      refine hfin (l ++ [some k]) [] ?_ (Or.inr ⟨(by intro e; rw [e] at hxl; cases hxl), rfl⟩)
      rw [hj, hxt, hx, ← slotsB_snoc]
      exact vt_all (okSnoc h.slots hso) (by rw [List.length_append]; show l.length + 1 ≤ 64; omega)
/-- A key is put. -/
theorem VtLive.put {d : DiskM} {l : List SlotV} (h : VtLive d l) {k : List (BitVec 8)} (hk : k.length = 32) (hl : l.length < 64) :
    ((putVt d l false k).e = 0 ∧ (putVt d l false k).dead = false ∧ (putVt d l false k).l = l ++ [some k] ∧ VtLive (putVt d l false k).d (l ++ [some k])) ∨
    ((putVt d l false k).e = 9 ∧ (putVt d l false k).dead = true ∧ (putVt d l false k).l = l ∧ VtHas (putVt d l false k).d l (slotB (some k) (l.length + 1))) := by
  have hso := slotOk_some hk
  have hb := slotB_length hso (l.length + 1)
  have hu := h.has.used
  rw [List.length_nil, Nat.add_zero] at hu
  have hsl := slotsB_length h.has.slots
  have hw : d.write 0 (slotB (some k) (l.length + 1)) = (d.exec (writeF 0 (slotB (some k) (l.length + 1))) true, d.execE) := by
    unfold DiskM.write
    have ho : d.openE 0 = 0 := by unfold DiskM.openE; rw [if_neg (by rw [h.on]; decide), if_pos (by omega)]
    rw [if_neg (by rw [ho]; decide), if_neg (by rw [h.has.room, hu, hb]; omega)]
    rfl
  have hwok := DiskM.write_ok h.has.ok 0 (slotB (some k) (l.length + 1))
  have hf0 : (writeF 0 (slotB (some k) (l.length + 1)) d.files 0) = ⟨slotsB l ++ slotB (some k) (l.length + 1), 40 * l.length⟩ := by
    unfold writeF
    rw [setF_same, h.has.file, h.has.dur, List.append_nil]
  have hfo : ∀ f, f ≠ 0 → (writeF 0 (slotB (some k) (l.length + 1)) d.files f).all = [] := fun f hf => by
    unfold writeF
    rw [setF_other _ _ hf]; exact h.has.others f hf
  have hex : (d.exec (writeF 0 (slotB (some k) (l.length + 1))) true) = { d.tick with files := writeF 0 (slotB (some k) (l.length + 1)) d.files, count := d.count + 1 } := by
    unfold DiskM.exec
    rw [if_pos (by rfl)]
  unfold putVt
  rw [if_neg (by decide), if_neg (by omega)]
  rw [hw] at hwok ⊢
  dsimp only at hwok ⊢
  have hhas : VtHas (d.exec (writeF 0 (slotB (some k) (l.length + 1))) true) l (slotB (some k) (l.length + 1)) := by
    refine ⟨hwok, by rw [hex]; exact h.has.room, ?_, ?_, h.has.slots, h.has.le, ?_⟩
    · rw [hex]; show (writeF 0 _ d.files 0).all = _; rw [hf0]
    · rw [hex]; show (writeF 0 _ d.files 0).dur = _; rw [hf0]
    · rw [hex]; exact hfo
  by_cases hleft : d.left = 0
  · have he : d.execE = 9 := by unfold DiskM.execE; rw [if_pos hleft]
    rw [he, if_pos (by decide)]
    exact Or.inr ⟨rfl, rfl, rfl, hhas⟩
  · have he : d.execE = 0 := by unfold DiskM.execE; rw [if_neg hleft]
    rw [he, if_neg (by decide)]
    have hdn : (d.exec (writeF 0 (slotB (some k) (l.length + 1))) true).down = false := by
      rw [hex]; show decide (d.left = 0) = false; exact decide_eq_false hleft
    generalize hD : d.exec (writeF 0 (slotB (some k) (l.length + 1))) true = D at hhas hdn ⊢
    have ho : D.openE 0 = 0 := by unfold DiskM.openE; rw [if_neg (by rw [hdn]; decide), if_pos (by omega)]
    have hs : D.sync 0 = (D.exec (syncF 0) false, D.execE) := by
      unfold DiskM.sync
      rw [if_neg (by rw [ho]; decide)]
      rfl
    have hsok := DiskM.sync_ok hhas.ok 0
    rw [hs] at hsok ⊢
    dsimp only at hsok ⊢
    by_cases hl2 : D.left = 0
    · have he2 : D.execE = 9 := by unfold DiskM.execE; rw [if_pos hl2]
      have hex2 : D.exec (syncF 0) false = D.tick := by unfold DiskM.exec; rw [if_neg (by simp [hl2])]
      rw [he2, if_pos (by decide)]
      refine Or.inr ⟨rfl, rfl, rfl, ?_⟩
      rw [hex2] at hsok ⊢
      exact ⟨hsok, hhas.room, hhas.file, hhas.dur, hhas.slots, hhas.le, hhas.others⟩
    · have he2 : D.execE = 0 := by unfold DiskM.execE; rw [if_neg hl2]
      have hex2 : D.exec (syncF 0) false = { D.tick with files := syncF 0 D.files, count := D.count + 1 } := by unfold DiskM.exec; rw [if_pos (by simp [hl2])]
      rw [he2, if_neg (by decide)]
      refine Or.inl ⟨rfl, rfl, rfl, ?_⟩
      rw [hex2] at hsok ⊢
      refine ⟨⟨hsok, hhas.room, ?_, ?_, okSnoc h.has.slots hso, by rw [List.length_append]; show l.length + 1 ≤ 64; omega, fun f hf => ?_⟩, ?_⟩
      · show (setF D.files 0 _ 0).all = _
        rw [setF_same, List.append_nil, slotsB_snoc]; exact hhas.file
      · show (setF D.files 0 _ 0).dur = _
        rw [setF_same]
        show (D.files 0).all.length = _
        rw [hhas.file, List.length_append, hsl, hb, List.length_append]
        show 40 * l.length + 40 = 40 * (l.length + 1)
        omega
      · show (setF D.files 0 _ f).all = _
        rw [setF_other _ _ hf]; exact hhas.others f hf
      · show decide (D.left = 0) = false
        exact decide_eq_false hl2
/-- A slot is zeroed. -/
theorem VtLive.zero {d : DiskM} {l : List SlotV} (h : VtLive d l) {z : Int} (hz : ¬ (z < 1 ∨ (l.length : Int) < z)) :
    ((zeroVt d l false z).e = 0 ∧ (zeroVt d l false z).dead = false ∧ (zeroVt d l false z).l = l.set (z - 1).toNat none ∧ VtLive (zeroVt d l false z).d (l.set (z - 1).toNat none)) ∨
    ((zeroVt d l false z).e = 9 ∧ (zeroVt d l false z).dead = true ∧ (zeroVt d l false z).l = l ∧ VtHas (zeroVt d l false z).d l []) := by
  obtain ⟨i, hi⟩ : ∃ i : Nat, i = (z - 1).toNat := ⟨_, rfl⟩
  have hil : i < l.length := by omega
  have hzi : z - 1 = (i : Int) := by omega
  unfold zeroVt
  rw [if_neg (by decide), if_neg hz, hzi, Int.toNat_natCast]
  have hsl := slotsB_length h.has.slots
  by_cases hn : l.getD i none = none
  · rw [if_pos hn]
    have e : l.set i none = l := by
      rw [getD_atV hil] at hn
      conv => lhs; rw [← hn]
      exact List.set_getElem_self hil
    rw [e]
    exact Or.inl ⟨rfl, rfl, rfl, h⟩
  · rw [if_neg hn]
    have ho : d.openE 0 = 0 := by unfold DiskM.openE; rw [if_neg (by rw [h.on]; decide), if_pos (by omega)]
    have hov : d.over 0 (40 * (i : Int)) (List.replicate 40 0#8) = (d.exec (overF 0 (40 * i) (List.replicate 40 0#8)) false, d.execE) := by
      unfold DiskM.over
      rw [if_neg (by rw [ho]; decide), if_neg (by show ¬ (_ ∨ ((d.files 0).dur : Int) - _ < _); rw [h.has.dur, List.length_replicate]; omega)]
      rw [show (40 * (i : Int)).toNat = 40 * i by omega]
      rfl
    have hook := DiskM.over_ok h.has.ok 0 (40 * (i : Int)) (List.replicate 40 0#8)
    rw [hov] at hook ⊢
    dsimp only at hook ⊢
    by_cases hleft : d.left = 0
    · have he : d.execE = 9 := by unfold DiskM.execE; rw [if_pos hleft]
      have hex : d.exec (overF 0 (40 * i) (List.replicate 40 0#8)) false = d.tick := by unfold DiskM.exec; rw [if_neg (by simp [hleft])]
      rw [he, if_pos (by decide)]
      rw [hex] at hook ⊢
      exact Or.inr ⟨rfl, rfl, rfl, hook, h.has.room, h.has.file, h.has.dur, h.has.slots, h.has.le, h.has.others⟩
    · have he : d.execE = 0 := by unfold DiskM.execE; rw [if_neg hleft]
      have hex : d.exec (overF 0 (40 * i) (List.replicate 40 0#8)) false = { d.tick with files := overF 0 (40 * i) (List.replicate 40 0#8) d.files, count := d.count + 1 } := by unfold DiskM.exec; rw [if_pos (by simp [hleft])]
      rw [he, if_neg (by decide)]
      rw [hex] at hook ⊢
      refine Or.inl ⟨rfl, rfl, rfl, ⟨hook, h.has.room, ?_, ?_, okSet h.has.slots i, by rw [List.length_set]; exact h.has.le, fun f hf => ?_⟩, ?_⟩
      · show (setF d.files 0 _ 0).all = _
        rw [setF_same, List.append_nil]
        show layOver (d.files 0).all (40 * i) _ = _
        rw [h.has.file, List.append_nil]
        exact slotsB_over h.has.slots i hil
      · show (setF d.files 0 _ 0).dur = _
        rw [setF_same, List.length_set]
        exact h.has.dur
      · show (setF d.files 0 _ f).all = _
        rw [setF_other _ _ hf]; exact h.has.others f hf
      · show decide (d.left = 0) = false
        exact decide_eq_false hleft
end Go.Proofs.YtoidjapenompiaaDoor

/-
  The program's vault in memory, beside its disk.
-/
namespace Go.Proofs.YtoidjapenompiaaDoor
open Go.RowKit Go.Proofs.ShaWords
/-- The bytes of a vault's slots: those that it has, noughts behind them. -/
def padV (l : List SlotV) : List (BitVec 8) := slotsB l ++ noughts (2560 - 40 * l.length)
theorem padV_length {l : List SlotV} (h : ∀ s ∈ l, SlotOk s) (hl : l.length ≤ 64) : (padV l).length = 2560 := by
  unfold padV
  rw [List.length_append, slotsB_length h, noughts_length]; omega
theorem padV_nil : padV [] = noughts 2560 := rfl
theorem padV_snoc {l : List SlotV} {s : SlotV} (h : ∀ s ∈ l, SlotOk s) (hs : SlotOk s) (hl : l.length < 64) : splice (padV l) (40 * l.length) (slotB s (l.length + 1)) = padV (l ++ [s]) := by
  unfold padV splice
  have h1 := slotsB_length h
  have h2 := slotB_length hs (l.length + 1)
  rw [← h1, List.take_left, slotsB_snoc, List.append_assoc, h2]
  congr 2
  rw [List.drop_append, List.drop_of_length_le (by omega), List.nil_append, List.length_append]
  unfold noughts
  rw [List.drop_replicate]
  congr 1
  rw [List.length_singleton]
  omega
theorem padV_zero {l : List SlotV} (h : ∀ s ∈ l, SlotOk s) (i : Nat) (hi : i < l.length) : splice (padV l) (40 * i) (noughts 40) = padV (l.set i none) := by
  have h1 := slotsB_length h
  have h2 := slotsB_over h i hi
  unfold layOver at h2
  unfold padV
  rw [← h2, List.length_set]
  unfold splice
  rw [noughts_length, List.length_replicate, List.take_append_of_le_length (by omega), List.drop_append_of_le_length (by omega)]
  simp only [List.append_assoc]
  rfl
theorem padV_at {l : List SlotV} (h : ∀ s ∈ l, SlotOk s) (i : Nat) (hi : i < l.length) : ((padV l).drop (40 * i)).take 40 = slotB l[i] (i + 1) := by
  have h1 := slotsB_length h
  rw [← slotsB_at h i hi]
  unfold padV
  rw [List.drop_append_of_le_length (by omega), List.take_append_of_le_length (by rw [List.length_drop]; omega)]
def vtC (g : Nat) (bs : List (BitVec 8)) (n : Nat) (dead : Bool) : List Value := .pointer (some ⟨g, 0, none⟩) :: (bytesV bs ++ [.int .i64 (n : Int), .bool dead])
theorem vtC_at {g n : Nat} {bs : List (BitVec 8)} {dead : Bool} (h : bs.length = 2560) : (vtC g bs n dead)[0]? = some (.pointer (some ⟨g, 0, none⟩)) ∧ (vtC g bs n dead)[2561]? = some (.int .i64 (n : Int)) ∧ (vtC g bs n dead)[2562]? = some (.bool dead) ∧ (vtC g bs n dead).length = 2563 ∧ ∀ j, j < 2560 → (vtC g bs n dead)[1 + j]? = (bytesV bs)[j]? := by
  have hb : (bytesV bs).length = 2560 := by rw [bytesV_length, h]
  have h1 : ∀ j, (vtC g bs n dead)[1 + j]? = (bytesV bs ++ [Value.int .i64 (n : Int), .bool dead])[j]? := fun j => by
    unfold vtC
    rw [Nat.add_comm, List.getElem?_cons_succ]
  refine ⟨rfl, ?_, ?_, ?_, fun j hj => ?_⟩
  · rw [show 2561 = 1 + 2560 from rfl, h1, List.getElem?_append_right (by omega), hb]; rfl
  · rw [show 2562 = 1 + 2561 from rfl, h1, List.getElem?_append_right (by omega), hb]; rfl
  · unfold vtC
    rw [List.length_cons, List.length_append, hb]; rfl
  · rw [h1, List.getElem?_append_left (by omega)]
theorem vtC_splice {g n : Nat} {bs x : List (BitVec 8)} {dead : Bool} (h : bs.length = 2560) {o : Nat} (hx : o + x.length ≤ 2560) : splice (vtC g bs n dead) (1 + o) (bytesV x) = vtC g (splice bs o x) n dead := by
  have hb : (bytesV bs).length = 2560 := by rw [bytesV_length, h]
  unfold vtC splice
  rw [Nat.add_comm 1 o, List.take_succ_cons, show o + 1 + (bytesV x).length = o + (bytesV x).length + 1 by omega, List.drop_succ_cons, bytesV_length, List.take_append_of_le_length (by omega), List.drop_append_of_le_length (by omega), bytesV_append, bytesV_append, bytesV_take, bytesV_drop]
  simp only [List.cons_append, List.append_assoc]
theorem vtC_size {g n m : Nat} {bs : List (BitVec 8)} {dead : Bool} (h : bs.length = 2560) : (vtC g bs n dead).toArray.setIfInBounds 2561 (.int .i64 (m : Int)) = (vtC g bs m dead).toArray := by
  have hb : (bytesV bs).length = 2560 := by rw [bytesV_length, h]
  unfold vtC
  rw [List.setIfInBounds_toArray, List.set_cons_succ, List.set_append_right _ _ (by omega), hb]
  rfl
theorem vtC_dead {g n : Nat} {bs : List (BitVec 8)} {dead b : Bool} (h : bs.length = 2560) : (vtC g bs n dead).toArray.setIfInBounds 2562 (.bool b) = (vtC g bs n b).toArray := by
  have hb : (bytesV bs).length = 2560 := by rw [bytesV_length, h]
  unfold vtC
  rw [List.setIfInBounds_toArray, List.set_cons_succ, List.set_append_right _ _ (by omega), hb]
  rfl
/-- A vault in block v, its disk in block g. -/
structure VtIn (S : Nat → Prop) (w : World) (v g : Nat) (d : DiskM) (l : List SlotV) (dead : Bool) : Prop where
  disk : DkAt S w g d
  vt : w.heap[v]? = some (.cells (vtC g (padV l) l.length dead).toArray 83 (0, 0))
  out : ¬ S v
  le : l.length ≤ 64
  slots : ∀ s ∈ l, SlotOk s
/-- What a call leaves. -/
def VtGo (S : Nat → Prop) (v g : Nat) (d : DiskM) (l : List SlotV) (dead : Bool) (w w' : World) : Prop := ∃ S', VtIn S' w' v g d l dead ∧ (∀ k, S' k → S k ∨ w.heap.size ≤ k) ∧ Stays (fun k => S k ∨ k = v) w w'
section
variable {S : Nat → Prop} {w w' : World} {v g : Nat} {d : DiskM} {l : List SlotV} {dead : Bool}
theorem VtIn.lt (h : VtIn S w v g d l dead) : v < w.heap.size := (Array.getElem?_eq_some_iff.1 h.vt).1
theorem VtIn.pad (h : VtIn S w v g d l dead) : (padV l).length = 2560 := padV_length h.slots h.le
theorem VtIn.cells (h : VtIn S w v g d l dead) : w.cell? ⟨v, 0, none⟩ = some (.pointer (some ⟨g, 0, none⟩)) ∧ w.cell? ⟨v, 2561, none⟩ = some (.int .i64 (l.length : Int)) ∧ w.cell? ⟨v, 2562, none⟩ = some (.bool dead) ∧ ∀ j, w.frozen? ⟨v, j, none⟩ = false := by
  obtain ⟨h0, h1, h2, -, -⟩ := vtC_at (g := g) (n := l.length) (dead := dead) h.pad
  refine ⟨?_, ?_, ?_, fun j => frozen_of_row _ _ _ _ _ h.vt⟩
  · rw [cell_of_row w v 0 _ _ _ h.vt]; simpa using h0
  · rw [cell_of_row w v 2561 _ _ _ h.vt]; simpa using h1
  · rw [cell_of_row w v 2562 _ _ _ h.vt]; simpa using h2
theorem VtIn.slot (h : VtIn S w v g d l dead) (i : Nat) (hi : i < l.length) : w.rangeAt v (1 + i * 40) (bytesV (slotB l[i] (i + 1))) := fun j u hu => by
  obtain ⟨-, -, -, -, h4⟩ := vtC_at (g := g) (n := l.length) (dead := dead) h.pad
  have hj : j < 40 := by
    have := (List.getElem?_eq_some_iff.1 hu).1
    rwa [bytesV_length, slotB_length (h.slots _ (List.getElem_mem hi))] at this
  have hle := h.le
  rw [cell_of_row w v _ _ _ _ h.vt, Nat.add_assoc]
  have := h4 (i * 40 + j) (by omega)
  rw [List.getElem?_toArray, this]
  rw [← padV_at h.slots i hi] at hu
  rw [bytesV_take, bytesV_drop, List.getElem?_take_of_lt hj, List.getElem?_drop] at hu
  rw [Nat.mul_comm i 40]
  exact hu
theorem VtIn.there (h : VtIn S w v g d l dead) (i : Nat) (hi : i < 64) : w.there v (1 + i * 40) 40 := fun j hj => by
  obtain ⟨-, -, -, h3, -⟩ := vtC_at (g := g) (n := l.length) (dead := dead) h.pad
  refine ⟨?_, frozen_of_row _ _ _ _ _ h.vt⟩
  rw [cell_of_row w v _ _ _ _ h.vt, List.getElem?_toArray, List.getElem?_eq_getElem (by rw [h3]; omega)]
  rfl
theorem VtIn.below (h : VtIn S w v g d l dead) (hb : Below w.heap.size w w') : VtIn S w' v g d l dead := ⟨h.disk.below hb, (hb.block _ h.lt).trans h.vt, h.out, h.le, h.slots⟩
theorem VtGo.refl (h : VtIn S w v g d l dead) : VtGo S v g d l dead w w := ⟨S, h, fun _ s => Or.inl s, Stays.refl _ _⟩
theorem VtIn.goes (h : VtIn S w v g d l dead) (hb : Below w.heap.size w w') : VtGo S v g d l dead w w' := ⟨S, h.below hb, fun _ s => Or.inl s, Below.stays hb⟩
theorem VtGo.trans {S1 : Nat → Prop} {w0 : World} {d' : DiskM} {l' : List SlotV} {dead' : Bool} (h1 : ∀ k, S1 k → S k ∨ w0.heap.size ≤ k) (hs : Stays (fun k => S k ∨ k = v) w0 w) (h : VtGo S1 v g d' l' dead' w w') : VtGo S v g d' l' dead' w0 w' := by
  obtain ⟨S', h2, h3, h4⟩ := h
  refine ⟨S', h2, fun k s => ?_, hs.trans h4 fun k f hk => ?_⟩
  · rcases h3 k s with s | s
    · exact h1 k s
    · exact Or.inr (Nat.le_trans hs.size s)
  · rcases f with f | f
    · rcases h1 k f with f | f
      · exact Or.inl f
      · omega
    · exact Or.inr f
theorem VtGo.next {w0 : World} {d' : DiskM} {l' : List SlotV} {dead' : Bool} (h : VtGo S v g d l dead w0 w) (h2 : ∀ S1, VtIn S1 w v g d l dead → VtGo S1 v g d' l' dead' w w') : VtGo S v g d' l' dead' w0 w' := by
  obtain ⟨S1, a, b, c⟩ := h
  exact (h2 S1 a).trans b c
/-- The vault's own block is written. -/
theorem VtIn.keepSet {l' : List SlotV} {dead' : Bool} {bs : List (BitVec 8)} {n : Nat} (h : VtIn S w v g d l dead) (hg : w.grownBy w' (some v)) (hv : w'.heap[v]? = some (.cells (vtC g bs n dead').toArray 83 (0, 0))) (hb : bs = padV l') (hn : n = l'.length) (hle : l'.length ≤ 64) (hok : ∀ s ∈ l', SlotOk s) : VtGo S v g d l' dead' w w' := by
  subst hb hn
  have hs : Stays (fun k => k = v) w w' := grown_stays hg (fun k e => (Option.some.inj e).symm)
  exact ⟨S, ⟨h.disk.keep hs (fun k e s => h.out (e ▸ s)), hv, h.out, hle, hok⟩, fun _ s => Or.inl s, hs.more fun k e => Or.inr e⟩
theorem VtIn.putDead (h : VtIn S w v g d l dead) (b : Bool) : VtGo S v g d l b w (w.setCell ⟨v, 2562, none⟩ (.bool b)) :=
  h.keepSet (grown_setCell w v 2562 _) (by rw [heap_setCell_same w v 2562 _ _ _ h.vt, vtC_dead h.pad]) rfl rfl h.le h.slots
theorem VtIn.zero (h : VtIn S w v g d l dead) (i : Nat) (hi : i < l.length) : VtGo S v g d (l.set i none) dead w (w.setCells v (1 + i * 40) (bytesV (noughts 40))) := by
  obtain ⟨-, -, -, h3, -⟩ := vtC_at (g := g) (n := l.length) (dead := dead) h.pad
  have hle := h.le
  refine h.keepSet (grown_setCells w v _ _) (by rw [heap_setCells v _ _ _ _ w h.vt (by rw [h3, bytesV_length, noughts_length]; omega), vtC_splice h.pad (by rw [noughts_length]; omega)]) (by rw [Nat.mul_comm]; exact padV_zero h.slots i hi) (by rw [List.length_set]) (by rw [List.length_set]; exact hle) (okSet h.slots i)
theorem VtIn.push (h : VtIn S w v g d l dead) {s : SlotV} (hs : SlotOk s) (hl : l.length < 64) : VtGo S v g d (l ++ [s]) dead w ((w.setCells v (1 + l.length * 40) (bytesV (slotB s (l.length + 1)))).setCell ⟨v, 2561, none⟩ (.int .i64 ((l.length + 1 : Nat) : Int))) ∧ (w.setCells v (1 + l.length * 40) (bytesV (slotB s (l.length + 1)))).cell? ⟨v, 2561, none⟩ = some (.int .i64 (l.length : Int)) ∧ ∀ j, (w.setCells v (1 + l.length * 40) (bytesV (slotB s (l.length + 1)))).frozen? ⟨v, j, none⟩ = false := by
  obtain ⟨-, -, -, h3, -⟩ := vtC_at (g := g) (n := l.length) (dead := dead) h.pad
  have h40 := slotB_length hs (l.length + 1)
  have hmid := heap_setCells v _ (bytesV (slotB s (l.length + 1))) (1 + l.length * 40) _ w h.vt (by rw [h3, bytesV_length, h40]; omega)
  rw [vtC_splice h.pad (by rw [h40]; omega), Nat.mul_comm l.length 40, padV_snoc h.slots hs hl] at hmid
  have hp : (padV (l ++ [s])).length = 2560 := padV_length (okSnoc h.slots hs) (by rw [List.length_append]; show l.length + 1 ≤ 64; omega)
  rw [Nat.mul_comm l.length 40]
  refine ⟨h.keepSet (bs := padV (l ++ [s])) (n := l.length + 1) (grown_trans (grown_setCells w v _ _) (grown_setCell _ v 2561 _)) (by rw [heap_setCell_same _ v 2561 _ _ _ hmid, vtC_size hp]) rfl (by rw [List.length_append]; rfl) (by rw [List.length_append]; show l.length + 1 ≤ 64; omega) (okSnoc h.slots hs), ?_, fun j => frozen_of_row _ _ _ _ _ hmid⟩
  rw [cell_of_row _ v 2561 _ _ _ hmid, List.getElem?_toArray]
  exact (vtC_at hp).2.1
/-- A call of the disk. -/
theorem DkGo.vault {d' : DiskM} (h : DkGo S g d' w w') (hl : VtIn S w v g d l dead) : VtGo S v g d' l dead w w' := by
  obtain ⟨S', h1, h2, hs⟩ := h
  have hlt := hl.lt
  exact ⟨S', ⟨h1, (hs.block v hlt hl.out).trans hl.vt, fun s => (h2 v s).elim hl.out (fun h => by omega), hl.le, hl.slots⟩, fun k s => (h2 k s).imp id And.left, hs.more fun k s => Or.inl s⟩
end
end Go.Proofs.YtoidjapenompiaaDoor

/-
  The program's slots: a word laid over bytes, a slot's bytes, a slot's key; equal slots.
-/
namespace Go.Proofs.YtoidjapenompiaaDoor
open Go.RowKit Go.Proofs.ShaWords
set_option maxRecDepth 100000 in
/-- A copy into noughts that stand behind other bytes. -/
theorem run_copy_intoV (w : World) (ty : TypeId) (g o n cap : Nat) (t : TypeId) (pre bs : List (BitVec 8)) (p : Option Addr) (m c : Nat) (hg : BytesAt w g t (pre ++ noughts n)) (hn : pre.length = o) (hL : Lies w p bs) (hm : bs.length = m) :
    ∃ w', (Builtin.copy_ #[37, 37] ty #[.slice (some ⟨g, o, none⟩) n cap, .slice p m c]).run Tryd.prog w = .ok (goInt ((min m n : Nat) : Int)) w' ∧ BytesAt w' g t (pre ++ (bs.take n ++ noughts (n - m))) ∧ w.grownBy w' (some g) := by
  have i5 : (Tryd.prog.info? 5).map (·.size) = some 1 := by kernel_rfl
  by_cases h0 : m = 0
  · subst h0
    have hb : bs = [] := List.length_eq_zero_iff.1 hm
    subst hb
    rw [Nat.zero_min]
    refine ⟨w, run_copy_none (P := Tryd.prog) w 37 37 ty 5 _ p n cap 0 c Tryd.underlying37 i5 (by simp), ?_, World.grownBy.refl _ _⟩
    simpa using hg
  · rcases hL with hb | ⟨b, off, rfl, hr⟩
    · subst hb; exact absurd hm.symm h0
    · have hl : (bytesV (bs.take n)).length = min m n := by rw [bytesV_length, List.length_take, hm]; omega
      have hrun := run_copy_row (P := Tryd.prog) w 37 37 ty 5 g o n cap ⟨b, off, none⟩ m c (bytesV (pre ++ noughts n)).toArray t (bytesV (bs.take n)) Tryd.underlying37 i5 hg hl
        (fun j v hv => by
          rw [Addr.add_mid]
          refine hr j v ?_
          rw [bytesV_take, List.getElem?_take] at hv
          split at hv
          · exact hv
          · cases hv) (by rw [hl, bytesV_size _ _ rfl, List.length_append, noughts_length]; omega) (fun v hv => bytesV_mem hv)
      rw [hl] at hrun
      refine ⟨_, hrun, ?_, grown_setRow _ _ _⟩
      show _ = _
      rw [setRow_heap _ _ _ _ _ _ hg]
      congr 2
      have e1 : List.take o (bytesV (pre ++ noughts n)) = bytesV pre := by
        rw [bytesV_append, List.take_left' (by rw [bytesV_length, hn])]
      have e2 : List.drop (o + min m n) (bytesV (pre ++ noughts n)) = bytesV (noughts (n - m)) := by
        rw [bytesV_append, ← List.drop_drop, List.drop_left' (by rw [bytesV_length, hn]), ← bytesV_drop]
        congr 1
        unfold noughts
        rw [List.drop_replicate]
        congr 1; omega
      have e3 : (bytesV (pre ++ noughts n)).toArray.toList = bytesV (pre ++ noughts n) := rfl
      rw [e3, e1, e2, bytesV_append, bytesV_append, List.append_assoc]
theorem wpList_copy_intoV {w : World} {ops : Array Oper} {rest : List Oper} {o : Oper} {a : Act} {Q : Exit → Act → World → Prop} (hgd : o.guard = none) (d s : Operand)
    (ho : o.op = .call { callee := .builtin .copy, args := #[d, s], argTypes := #[37, 37] }) (g off n cap : Nat) (t : TypeId) (pre bs : List (BitVec 8)) (p : Option Addr) (m c : Nat)
    (hd : a.eval d = .slice (some ⟨g, off, none⟩) n cap) (hs : a.eval s = .slice p m c) (hg : BytesAt w g t (pre ++ noughts n)) (hn : pre.length = off) (hL : Lies w p bs) (hm : bs.length = m)
    (h : ∀ w', BytesAt w' g t (pre ++ (bs.take n ++ noughts (n - m))) → w.grownBy w' (some g) → wpList Tryd.prog ops Q rest (a.put o.dst (goInt ((min m n : Nat) : Int))) w') : wpList Tryd.prog ops Q (o :: rest) a w := by
  refine wpList_plain hgd fun K hK => ?_
  obtain ⟨w', hrun, h1, h2⟩ := run_copy_intoV w o.type g off n cap t pre bs p m c hg hn hL hm
  unfold Oper.wp
  simp [execOp, ho, resolve, invoke, builtin, hd, hs, hrun, Result.andThen]
  exact hK _ _ (h w' h1 h2)
attribute [local go_sem] wrap8_n32 shr32_8 shr32_16 shr32_24
set_option maxRecDepth 100000 in
set_option maxHeartbeats 400000 in
theorem putWord_any (x : BitVec 32) (pre : List (BitVec 8)) (G off n c : Nat) (t : TypeId) (w : World) (hB : BytesAt w G t (pre ++ noughts n)) (ho : pre.length = off) (hn : 4 ≤ n) :
    Calls Tryd.prog 75 #[.slice (some ⟨G, off, none⟩) n c, .int .u32 (n32 x)] w fun e w' => e = .returned (.tuple #[]) ∧ BytesAt w' G t (pre ++ (be4 x ++ noughts (n - 4))) ∧ Stays (fun k => k = G) w w' := by
  obtain ⟨W, hW⟩ : ∃ W, W = w.alloc (.cells #[.int .u8 (n8 (lo8 (x >>> 24))), .int .u8 (n8 (lo8 (x >>> 16))), .int .u8 (n8 (lo8 (x >>> 8))), .int .u8 (n8 (lo8 x))] 5) := ⟨_, rfl⟩
  have hb0 : Below w.heap.size w W := by rw [hW]; exact (Below.refl _ w).alloc (Nat.le_refl _) _
  have HB : Hid (BytesAt W G t (pre ++ noughts n)) := show BytesAt _ _ _ _ from hB.keep hb0
  have HL : Hid (Lies W (some ⟨w.heap.size, 0, none⟩) (be4 x)) := show Lies _ _ _ by
    rw [hW]; exact Or.inr ⟨_, _, rfl, range_bytesV (heap_new_at rfl)⟩
  have HB0 := Lib.hid hb0
  have HT : Hid ((be4 x).take n = be4 x) := show _ = _ from List.take_of_length_le hn
  have HO := Lib.hid ho
  clear hB hb0 hn ho
  go_enter Tryd.func75, Tryd.ntmps75
  go_wp2_with (show wpList _ _ _ (⟨_, .call { callee := .builtin .copy, args := _, argTypes := _ }, _, _, _, _⟩ :: _) _ _; go_loud (rw [← hW]; refine wpList_copy_intoV rfl (.tmp 4) (.tmp 16) rfl G off n c t pre (be4 x) (some ⟨w.heap.size, 0, none⟩) 4 4 rfl rfl HB.out HO.out HL.out (be4_length x) ?_; intro w1 h1 g1; rw [HT.out] at h1; have H1 := Lib.hid h1; have G1 := Lib.hid g1; clear h1 g1))
  go_end0
  exact ⟨rfl, H1.out, (Below.stays HB0.out).trans (grown_stays G1.out (fun k e => (Option.some.inj e).symm)) (fun k e _ => e)⟩
theorem infoSlot (l : List (BitVec 8)) (h : l.length = 40) : (Tryd.prog.info? 80).map (·.size) = some (bytesV l).toArray.size := by
  rw [bytesV_size _ 40 h]; kernel_rfl
theorem infoSlotL (l : List (BitVec 8)) (h : l.length = 40) : (Tryd.prog.info? 80).map (·.size) = some (bytesV l).length := by
  rw [bytesV_length, h]; kernel_rfl
theorem zeroSlotV : Tryd.prog.built 80 [] = some (bytesV (noughts 40)).toArray := by kernel_rfl
section
variable {ρ : Operand → Value} {o : Oper} {x y : Operand}
theorem run_eqSlot {l m : List (BitVec 8)} {ty : TypeId} (ho : o.op = .binOp .eql 80 x y ty) (hl : l.length = 40) (hm : m.length = 40) (hx : ρ x = .agg (bytesV l).toArray) (hy : ρ y = .agg (bytesV m).toArray) (w : World) :
    (execOp ρ o).run Tryd.prog w = .ok (.value (.bool (decide (l = m)))) w := run_eqArr ho Tryd.underlying80 (by kernel_rfl) hl hm hx hy w
theorem run_neSlot {l m : List (BitVec 8)} {ty : TypeId} (ho : o.op = .binOp .neq 80 x y ty) (hl : l.length = 40) (hm : m.length = 40) (hx : ρ x = .agg (bytesV l).toArray) (hy : ρ y = .agg (bytesV m).toArray) (w : World) :
    (execOp ρ o).run Tryd.prog w = .ok (.value (.bool (!decide (l = m)))) w := by
  have h := (run_neq_struct (P := Tryd.prog) (w := w) 80 (bytesV l).toArray (bytesV m).toArray)
  have h2 := run_equalIn_bytes (P := Tryd.prog) w 9998 80 5 40 Tryd.underlying80 Tryd.underlying5 (fun w => by kernel_rfl) (l.map UInt8.ofBitVec) (m.map UInt8.ofBitVec) (by simpa using hl) (by simpa using hm)
  rw [← bytesV_cell, ← bytesV_cell] at h2
  have e : (l.map UInt8.ofBitVec == m.map UInt8.ofBitVec) = decide (l = m) := by
    rw [Bool.eq_iff_iff]
    simp only [beq_iff_eq, decide_eq_true_eq]
    exact List.map_inj_right (fun a b e => by simpa using congrArg UInt8.toBitVec e)
  rw [e] at h2
  rw [h2] at h
  simp only [Result.andThen_ok] at h
  have hg : Tryd.prog.eqGuardType Tryd.prog.depth 80 = false := by kernel_rfl
  unfold execOp
  simp only [ho, hx, hy, Sem.run_bind, run_eqGuard_agg w .neq 80 x y _ _ hg, Result.andThen_ok, h, Sem.run_pure]
theorem run_loadSlotV {w : World} {b off : Nat} {l : List (BitVec 8)} (ho : o.op = .load 80 x) (hx : ρ x = .pointer (some ⟨b, off, none⟩)) (hl : l.length = 40) (hr : w.rangeAt b off (bytesV l)) : (execOp ρ o).run Tryd.prog w = .ok (.value (.agg (bytesV l).toArray)) w :=
  run_loadArr ho hx Tryd.underlying80 (infoSlotL l hl) hr
theorem run_toSlot {g off c n : Nat} (ho : o.op = .sliceToArrayPointer 80 x) (hn : 40 ≤ n) (hx : ρ x = .slice (some ⟨g, off, none⟩) n c) (w : World) : (execOp ρ o).run Tryd.prog w = .ok (.value (.pointer (some ⟨g, off, none⟩))) w := by
  unfold execOp
  simp [ho, hx, Instr.arrayAt, run_underlying Tryd.underlying80, Sem.run_bind, Result.andThen, Nat.not_lt.2 hn]
theorem run_slotFrom {b : Nat} (ho : o.op = .slice 80 x (some (.const (.int .i64 36))) none none) (hx : ρ x = .pointer (some ⟨b, 0, none⟩)) (h0 : ∀ u, ρ (.const u) = u) (w : World) : (execOp ρ o).run Tryd.prog w = .ok (.value (.slice (some ⟨b, 36, none⟩) 4 4)) w := by
  obtain ⟨dst, op, ty', pos, after, guard⟩ := o
  simp only at ho
  subst ho
  have h1 := h0 (.int .i64 36)
  go_simp
theorem run_slotTo {b : Nat} (ho : o.op = .slice 80 x none (some (.const (.int .i64 36))) none) (hx : ρ x = .pointer (some ⟨b, 0, none⟩)) (h0 : ∀ u, ρ (.const u) = u) (w : World) : (execOp ρ o).run Tryd.prog w = .ok (.value (.slice (some ⟨b, 0, none⟩) 36 40)) w := by
  obtain ⟨dst, op, ty', pos, after, guard⟩ := o
  simp only at ho
  subst ho
  have h1 := h0 (.int .i64 36)
  go_simp
theorem run_toKey {g off c n : Nat} (ho : o.op = .sliceToArrayPointer 36 x) (hn : 32 ≤ n) (hx : ρ x = .slice (some ⟨g, off, none⟩) n c) (w : World) : (execOp ρ o).run Tryd.prog w = .ok (.value (.pointer (some ⟨g, off, none⟩))) w := by
  unfold execOp
  simp [ho, hx, Instr.arrayAt, run_underlying Tryd.underlying36, Sem.run_bind, Result.andThen, Nat.not_lt.2 hn]
theorem run_loadKeyR {w : World} {b off : Nat} {l : List (BitVec 8)} (ho : o.op = .load 36 x) (hx : ρ x = .pointer (some ⟨b, off, none⟩)) (hl : l.length = 32) (hr : w.rangeAt b off (bytesV l)) : (execOp ρ o).run Tryd.prog w = .ok (.value (.agg (bytesV l).toArray)) w :=
  run_loadArr ho hx Tryd.underlying36 (by rw [bytesV_length, hl]; kernel_rfl) hr
end
theorem lies_front {w : World} {p : Option Addr} {l m : List (BitVec 8)} (h : Lies w p (l ++ m)) : Lies w p l := by
  have := lies_takeB h l.length
  rwa [List.take_left] at this
theorem lies_takeV {w : World} {p : Option Addr} {l : List (BitVec 8)} (h : Lies w p l) (k : Nat) : Lies w p (l.take k) := lies_takeB h k
/-- The key of a slot's bytes. -/
theorem vtKey_any (b : List (BitVec 8)) (hb : b.length = 40) (w : World) :
    Calls Tryd.prog 45 #[.agg (bytesV b).toArray] w fun e w' => e = .returned (.agg (bytesV (b.take 32)).toArray) ∧ Below w.heap.size w w' := by
  have h32 : (b.take 32).length = 32 := by rw [List.length_take, hb]; rfl
  have HB0 : Hid (((w.alloc (.cells (bytesV b).toArray 80)).alloc (.cells (bytesV (noughts 32)).toArray 36)).heap[w.heap.size]? = some (.cells (bytesV b).toArray 80 (0, 0)) ∧ ((w.alloc (.cells (bytesV b).toArray 80)).alloc (.cells (bytesV (noughts 32)).toArray 36)).heap[w.heap.size + 1]? = some (.cells (bytesV (noughts 32)).toArray 36 (0, 0)) ∧ Below w.heap.size w ((w.alloc (.cells (bytesV b).toArray 80)).alloc (.cells (bytesV (noughts 32)).toArray 36))) := show _ ∧ _ ∧ _ from
    ⟨by rw [Below.heap_alloc _ _ _ (by rw [size_alloc]; omega)]; exact heap_new_at rfl, heap_new_at (by rw [size_alloc]), ((Below.refl _ _).alloc (Nat.le_refl _) _).alloc (by rw [size_alloc]; omega) _⟩
  have HIK := Lib.hid (infoKey _ h32)
  have H32 := Lib.hid h32
  have HOLD : Hid ((bytesV (noughts 32)).toArray.size = (bytesV (b.take 32)).toArray.size) := show _ = _ by rw [bytesV_size _ 32 h32, bytesV_size _ 32 (noughts_length 32)]
  clear hb h32
  go_enter Tryd.func45, Tryd.ntmps45
  go_upto_region 1 with (fail)
  refine wp_gen (fun A => A.heap[w.heap.size]? = some (.cells (bytesV b).toArray 80 (0, 0)) ∧ A.heap[w.heap.size + 1]? = some (.cells (bytesV (noughts 32)).toArray 36 (0, 0)) ∧ Below w.heap.size w A) HB0.out ?_
  rintro A ⟨h1, h2, h3⟩
  have hr : A.rangeAt w.heap.size 0 (bytesV (b.take 32)) := fun j v hv => by
    refine range_bytesV h1 j v ?_
    rw [bytesV_take, List.getElem?_take] at hv
    split at hv
    · exact hv
    · cases hv
  have HR := Lib.hid hr; have H2 := Lib.hid h2; have H3 := Lib.hid h3
  have HONE := Lib.hid (bytesV_one (b.take 32))
  clear HB0 h1 h2 h3 hr
  go_wp2_with (first
    | (refine wpList_run (by rfl) (run_toKey (x := .tmp 3) rfl (Nat.le_refl _) rfl _) ?_)
    | (refine wpList_run (by rfl) (run_loadKeyR (x := .tmp 4) rfl rfl H32.out HR.out) ?_)
    | (refine wpList_store_row rfl 36 (.tmp 2) (.tmp 5) rfl (w.heap.size + 1) (bytesV (b.take 32)).toArray rfl rfl 36 _ H2.out HIK.out HOLD.out HONE.out ?_))
  have hrow := setRow_heap A (w.heap.size + 1) _ (bytesV (b.take 32)).toArray 36 _ H2.out
  have hbel := below_setRow H3.out (show w.heap.size ≤ w.heap.size + 1 by omega) (bytesV (b.take 32)).toArray
  generalize A.setRow (w.heap.size + 1) (bytesV (b.take 32)).toArray = wz at hrow hbel ⊢
  have hres : ∀ tmps : Array Value, tmps.getD 2 undef = .pointer (some ⟨w.heap.size + 1, 0, none⟩) → Sem.run Tryd.prog (results Tryd.f45 tmps) wz = .ok (.agg (bytesV (b.take 32)).toArray) wz := fun tmps h =>
    results_cell_row (P := Tryd.prog) (p := 2) (ty := 36) Tryd.results45 tmps wz (w.heap.size + 1) 36 _ (0, 0) _ h hrow Tryd.underlying36 rfl HIK.out
  exact bodyPost_ret (v := .agg (bytesV (b.take 32)).toArray) (hres _ rfl) rfl ⟨rfl, hbel⟩
/-- Amid slotOf: the key, the answer's block, the slot's. -/
structure SlW (w : World) (k t : List (BitVec 8)) (wr : World) : Prop where
  key : BytesAt wr w.heap.size 36 k
  res : wr.heap[w.heap.size + 1]? = some (.cells (bytesV (noughts 40)).toArray 80 (0, 0))
  slot : BytesAt wr (w.heap.size + 1 + 1) 80 t
  below : Below w.heap.size w wr
theorem slw_start (w : World) (k : List (BitVec 8)) (A : Array Value) (hA : A = (bytesV (noughts 40)).toArray) :
    SlW w k (noughts 40) (((w.alloc (.cells (bytesV k).toArray 36)).alloc (.cells A 80)).alloc (.cells A 80)) := by
  subst hA
  exact ⟨alloc3_1 _ _ _ _, alloc3_2 _ _ _ _, alloc3_3 _ _ _ _, alloc3_below _ _ _ _⟩
theorem SlW.put {w wr w' : World} {k t t' : List (BitVec 8)} (h : SlW w k t wr) (hs : Stays (fun j => j = w.heap.size + 1 + 1) wr w') (ht : BytesAt w' (w.heap.size + 1 + 1) 80 t') : SlW w k t' w' := by
  have hk := (Array.getElem?_eq_some_iff.1 h.key).1
  have hr := (Array.getElem?_eq_some_iff.1 h.res).1
  exact ⟨(hs.block _ hk (by omega)).trans h.key, (hs.block _ hr (by omega)).trans h.res, ht, h.below.trans (hs.below (fun j e => by omega) h.below.size)⟩
theorem SlW.drew {w wr : World} {k t : List (BitVec 8)} (h : SlW w k t wr) : SlW w k t wr.drew := ⟨h.key, h.res, h.slot, h.below.drew⟩
theorem wrap_u32 (n : Nat) : (n : Int) % 4294967296 = n32 (BitVec.ofNat 32 n) := by
  unfold n32
  rw [BitVec.toNat_ofNat]
  show _ = ((n % 4294967296 : Nat) : Int)
  omega
theorem slotS_0 {k : List (BitVec 8)} (h : k.length = 32) : splice (noughts 40) 0 k = k ++ noughts 8 := by unfold noughts; rw [splice_noughts, h]
set_option maxRecDepth 100000 in
set_option maxHeartbeats 2000000 in
theorem slotOf_any (k : List (BitVec 8)) (n : Nat) (hk : k.length = 32) (w : World) (hR : Rem w) :
    Calls Tryd.prog 48 #[.int .i64 (n : Int), .agg (bytesV k).toArray] w fun e w' => e = .returned (.agg (bytesV (slotB (some k) n)).toArray) ∧ Below w.heap.size w w' := by
  have HG := Lib.hid hR.size
  have HR := Lib.hid hR
  have HK := Lib.hid hk
  have HH : Hid ((slotH k n).length = 36) := show _ = _ from slotH_length hk n
  have HO := Lib.hid (slotB_length (slotOk_some hk) n)
  have HWR := Lib.hid (wrap_u32 n)
  clear hR hk
  go_enter Tryd.func48, Tryd.ntmps48
  go_upto_region 2 with (fail)
  refine wp_gen (SlW w k (noughts 40)) (slw_start w k _ (by rfl)) ?_
  intro w0 hw0
  have HW0 := Lib.hid hw0.drew; clear hw0
  go_still_tail 2, (by kernel_rfl)
  change wpList _ _ _ _ _ w0.drew
  generalize w0.drew = w1 at HW0 ⊢
  go_upto_region 3 with (show wpList _ _ _ (⟨_, .call { callee := .builtin .copy, args := _, argTypes := _ }, _, _, _, _⟩ :: _) _ _; go_loud (refine wpList_copy_bytes rfl (.tmp 6) (.tmp 7) rfl (w.heap.size + 1 + 1) 40 40 80 (noughts 40) k (some ⟨w.heap.size, 0, none⟩) 32 32 rfl rfl HW0.out.slot (noughts_length 40) (Or.inr ⟨_, _, rfl, HW0.out.key.range⟩) HK.out (by omega) ?_; intro w2 h2 g2; rw [slotS_0 HK.out] at h2; have HW2 := Lib.hid (HW0.out.put (grown_stays g2 (fun k e => (Option.some.inj e).symm)) h2); clear h2 g2))
  clear HW0
  go_wp2_with (go_at_call 75; fail)
  rw [HWR.out]
  refine (putWord_any (BitVec.ofNat 32 n) k (w.heap.size + 1 + 1) 32 8 8 _ w2 HW2.out.slot HK.out (by omega)).mono ?_
  rintro e w3 ⟨rfl, h3, s3⟩
  have e3 : k ++ (be4 (BitVec.ofNat 32 n) ++ noughts (8 - 4)) = slotH k n ++ noughts 4 := by unfold slotH; rw [List.append_assoc]
  rw [e3] at h3
  have HW3 := Lib.hid (HW2.out.put s3 h3).drew
  clear h3 s3 e3 HW2
  go_wp2_with fail
  refine region_phase (fun _ => True) (fun _ => True) 99 (trivial) trivial [(0, .free), (1, .free), (2, .behind), (3, .behind)] (by kernel_rfl) (by kernel_rfl) (by kernel_rfl) (by kernel_rfl) (fun ops hops A hA => ?_)
  have hsz : A.tmps.size = 18 := by rw [hA]; rfl
  have base5 : A.eval (.tmp 5) = .pointer (some ⟨w.heap.size + 1 + 1, 0, none⟩) := by rw [hA]; rfl
  have HAA := Lib.hid hA; clear hA
  obtain ⟨o0, po0, q0, d0, gd0⟩ : ∃ o, ops[0]? = some o ∧ o.op = .slice 80 (.tmp 5) (some (.const (.int .i64 36))) none none ∧ o.dst = some 13 ∧ o.guard = none := ⟨_, by rw [hops]; rfl, rfl, rfl, rfl⟩
  obtain ⟨o1, po1, q1, d1, gd1⟩ : ∃ o, ops[1]? = some o ∧ o.op = .slice 80 (.tmp 5) none (some (.const (.int .i64 36))) none ∧ o.dst = some 14 ∧ o.guard = none := ⟨_, by rw [hops]; rfl, rfl, rfl, rfl⟩
  obtain ⟨o2, po2, q2, d2, gd2⟩ : ∃ o, ops[2]? = some o ∧ o.op = .call { callee := .value (.func 76), args := #[.tmp 14], argTypes := #[37] } ∧ o.dst = some 15 ∧ o.guard = none := ⟨_, by rw [hops]; rfl, rfl, rfl, rfl⟩
  obtain ⟨o3, po3, q3, d3, gd3⟩ : ∃ o, ops[3]? = some o ∧ o.op = .call { callee := .value (.func 75), args := #[.tmp 13, .tmp 15], argTypes := #[37, 109] } ∧ o.dst = some 16 ∧ o.guard = none := ⟨_, by rw [hops]; rfl, rfl, rfl, rfl⟩
  clear hops
  refine met_free po0 d0 (wanted_of gd0) (fun w' h' => run_slotFrom q0 base5 (fun u => rfl) w') ?_
  refine met_free po1 d1 (wanted_of gd1) (fun w' h' => run_slotTo q1 ((eval_other _ 13 5 _ (by decide)).trans base5) (fun u => rfl) w') ?_
  refine m_enter po2 d2 (wanted_of gd2) (run_callf1 q2 rfl (eval_same _ _ _ (by simp only [put_size, hsz]; decide)) Tryd.func76 (by kernel_rfl) _) (sum_any (slotH k n) 36 (some ⟨w.heap.size + 1 + 1, 0, none⟩) 40 w3.drew HH.out (by omega) (lies_front (Or.inr ⟨_, _, rfl, HW3.out.slot.range⟩)) (HR.out.on HW3.out.below)) ?_
  rintro e w5 ⟨rfl, rfl⟩
  refine ⟨_, rfl, trivial, ?_⟩
  refine m_enter po3 d3 (wanted_of gd3) (run_callf2 q3 rfl ((eval_other _ 15 13 _ (by decide)).trans ((eval_other _ 14 13 _ (by decide)).trans (eval_same _ _ _ (by rw [hsz]; decide)))) (eval_same _ _ _ (by simp only [put_size, hsz]; decide)) Tryd.func75 (by kernel_rfl) _) (putWord_any (crcOf (slotH k n)) (slotH k n) (w.heap.size + 1 + 1) 36 4 4 _ w3.drew HW3.out.slot HH.out (by omega)) ?_
  rintro e w6 ⟨rfl, h6, s6⟩
  refine ⟨_, rfl, trivial, ?_⟩
  show NoPanic _ .normal _ _
  refine NoPanic.normal ?_
  rw [HAA.out]
  go_frame
  clear HAA
  clear po0 q0 d0 gd0 po1 q1 d1 gd1 po2 q2 d2 gd2 po3 q3 d3 gd3
  clear base5 hsz
  have e6 : slotH k n ++ (be4 (crcOf (slotH k n)) ++ noughts (4 - 4)) = slotB (some k) n := by
    show _ ++ (_ ++ []) = _
    rw [List.append_nil]; rfl
  rw [e6] at h6
  have HW6 := Lib.hid (HW3.out.put s6 h6)
  clear h6 s6 e6 HW3 HG HR HH HWR
  have HIO := Lib.hid (infoSlot _ HO.out)
  have HOLD : Hid ((bytesV (noughts 40)).toArray.size = (bytesV (slotB (some k) n)).toArray.size) := show _ = _ by rw [bytesV_size _ 40 HO.out, bytesV_size _ 40 (noughts_length 40)]
  have HONE := Lib.hid (bytesV_one (slotB (some k) n))
  have HROW := Lib.hid (show w6.heap[w.heap.size + 1 + 1]? = some (.cells (bytesV (slotB (some k) n)).toArray 80 (0, 0)) from HW6.out.slot)
  have HRES := Lib.hid HW6.out.res
  have HB6 := Lib.hid HW6.out.below
  clear HW6
  generalize hfe : (bytesV (slotB (some k) n)).toArray = full at HIO HOLD HONE HROW ⊢
  have HFE := Lib.hid hfe; clear hfe
  go_wp2_with (first
    | (refine wpList_load_row rfl 80 (.tmp 5) rfl (w.heap.size + 1 + 1) rfl 80 full (0, 0) _ HROW.out Tryd.underlying80 rfl HIO.out ?_)
    | (refine wpList_store_row rfl 80 (.tmp 4) (.tmp 17) rfl (w.heap.size + 1) full rfl rfl 80 _ HRES.out HIO.out HOLD.out HONE.out ?_))
  have hrow := setRow_heap w6 (w.heap.size + 1) _ full 80 _ HRES.out
  have hbel := below_setRow HB6.out (show w.heap.size ≤ w.heap.size + 1 by omega) full
  generalize w6.setRow (w.heap.size + 1) full = wz at hrow hbel ⊢
  have hres : ∀ tmps : Array Value, tmps.getD 4 undef = .pointer (some ⟨w.heap.size + 1, 0, none⟩) → Sem.run Tryd.prog (results Tryd.f48 tmps) wz = .ok (.agg full) wz := fun tmps h =>
    results_cell_row (P := Tryd.prog) (p := 4) (ty := 80) Tryd.results48 tmps wz (w.heap.size + 1) 80 full (0, 0) _ h hrow Tryd.underlying80 rfl HIO.out
  exact bodyPost_ret (v := .agg full) (hres _ rfl) rfl ⟨by rw [HFE.out], hbel⟩
end Go.Proofs.YtoidjapenompiaaDoor

/-
  The program's vault: has, add, the closures of its calls, run.
-/
namespace Go.Proofs.YtoidjapenompiaaDoor
open Go.RowKit Go.Proofs.ShaWords
theorem vtHas_any {S : Nat → Prop} {v g : Nat} {d : DiskM} {l : List SlotV} {dead : Bool} (z : Int) (w : World) (h : VtIn S w v g d l dead) :
    Calls Tryd.prog 44 #[.pointer (some ⟨v, 0, none⟩), .int .i64 z] w fun e w' => e = .returned (.bool (decide (1 ≤ z ∧ z ≤ (l.length : Int)))) ∧ w' = w := by
  obtain ⟨-, c1, -, -⟩ := h.cells
  clear h
  generalize l.length = n at c1 ⊢
  by_cases h1 : 1 ≤ z
  · by_cases h2 : z ≤ (n : Int)
    · have HD : Hid (decide (1 ≤ z ∧ z ≤ (n : Int)) = true) := show _ = _ from decide_eq_true ⟨h1, h2⟩
      rw [HD.out]
      go_enter Tryd.func44, Tryd.ntmps44
      go_wp2_with fail
      go_ret
      exact ⟨rfl, rfl⟩
    · have HD : Hid (decide (1 ≤ z ∧ z ≤ (n : Int)) = false) := show _ = _ from decide_eq_false (fun h => h2 h.2)
      rw [HD.out]
      go_enter Tryd.func44, Tryd.ntmps44
      go_wp2_with fail
      go_ret
      exact ⟨rfl, rfl⟩
  · have HD : Hid (decide (1 ≤ z ∧ z ≤ (n : Int)) = false) := show _ = _ from decide_eq_false (fun h => h1 h.1)
    rw [HD.out]
    clear HD
    go_enter Tryd.func44, Tryd.ntmps44
    go_wp2_with fail
    go_ret
    exact ⟨rfl, rfl⟩
theorem vtLen_any {S : Nat → Prop} {v g : Nat} {d : DiskM} {l : List SlotV} {dead : Bool} (w : World) (h : VtIn S w v g d l dead) :
    Calls Tryd.prog 29 #[.pointer (some ⟨v, 0, none⟩)] w fun e w' => e = .returned (.int .i64 (l.length : Int)) ∧ w' = w := by
  obtain ⟨-, c1, -, -⟩ := h.cells
  clear h
  go_enter Tryd.func29, Tryd.ntmps29
  go_wp2_with fail
  go_ret
  exact ⟨rfl, rfl⟩
set_option maxRecDepth 100000 in
theorem vtAdd_any {S : Nat → Prop} {v g : Nat} {d : DiskM} {l : List SlotV} {dead : Bool} (s : SlotV) (w : World) (h : VtIn S w v g d l dead) (hs : SlotOk s) (hl : l.length < 64) :
    Calls Tryd.prog 53 #[.pointer (some ⟨v, 0, none⟩), .agg (bytesV (slotB s (l.length + 1))).toArray] w fun e w' => e = .returned (.tuple #[]) ∧ VtGo S v g d (l ++ [s]) dead w w' := by
  have h40 := slotB_length hs (l.length + 1)
  obtain ⟨W, hW⟩ : ∃ W, W = w.alloc (.cells (bytesV (slotB s (l.length + 1))).toArray 80) := ⟨_, rfl⟩
  have hrow : W.heap[w.heap.size]? = some (.cells (bytesV (slotB s (l.length + 1))).toArray 80 (0, 0)) := by rw [hW]; exact heap_new_at rfl
  have hb0 : Below w.heap.size w W := by rw [hW]; exact (Below.refl _ _).alloc (Nat.le_refl _) _
  have hI := h.below (hb0.trans ((Below.refl _ W).drew.mono hb0.size))
  have HGO := Lib.hid (hb0.trans ((Below.refl _ W).drew.mono hb0.size))
  have HRG : Hid (W.drew.rangeAt w.heap.size 0 (bytesV (slotB s (l.length + 1)))) := show World.rangeAt _ _ _ _ from range_bytesV (w := W.drew) hrow
  have HIL := Lib.hid (infoSlotL _ h40)
  have HIS := Lib.hid (infoSlot _ h40)
  have HONE := Lib.hid (bytesV_one (slotB s (l.length + 1)))
  have HTH : Hid (W.drew.there v (1 + l.length * 40) (bytesV (slotB s (l.length + 1))).toArray.size) := show World.there _ _ _ _ by rw [bytesV_size _ 40 h40]; exact hI.there l.length hl
  obtain ⟨hp, hc, hf⟩ := hI.push hs hl
  have HP := Lib.hid hp
  obtain ⟨-, c1, -, -⟩ := hI.cells
  have HWW := Lib.hid hW
  clear hW hrow hb0 h40 hp h hI
  generalize bytesV (slotB s (l.length + 1)) = C at *
  generalize l.length = n at *
  have q0 : (n : Int) < 64 := by omega
  go_enter Tryd.func53, Tryd.ntmps53
  go_upto_region 1 with (fail)
  rw [← HWW.out]
  refine wp_region_still_tail 9 (by kernel_rfl) (by kernel_rfl) ?_
  simp only [List.take_succ_cons, List.take_zero, List.drop_succ_cons, List.drop_zero]
  repeat still_step
  refine still_load_mid rfl 80 (.tmp 3) rfl w.heap.size 0 rfl C _ HRG.out Tryd.underlying80 rfl HIL.out ?_
  repeat still_step
  refine wpStill_nil ?_
  change wpList _ _ _ _ _ W.drew
  have HHC := hc; have HHF := hf 2561
  generalize W.drew = W1 at *
  go_wp2_with (show wpList _ _ _ (⟨_, .store 80 _ _, _, _, _, _⟩ :: _) _ _; go_loud (refine wpList_store_mid rfl 80 (.tmp 12) (.tmp 9) rfl v (1 + n * 40) C.toArray rfl rfl HTH.out HIS.out HONE.out ?_))
  go_end0
  exact ⟨rfl, VtGo.trans (S1 := S) (fun _ s => Or.inl s) (Below.stays HGO.out) HP.out⟩
/-- A slice of closures: its block. -/
def FnsAt (w : World) (b : Nat) (F : List (FuncId × Array Value)) : Prop := w.heap[b]? = some (.cells (F.map fun x => Value.func (.func x.1) #[] x.2).toArray 90 (0, 0))
/-- How far a row of calls comes: the first error, or all of them. -/
structure RunR (S : Nat → Prop) (v g : Nat) (D : Nat → DiskM) (E : Nat → Int) (n : Nat) (l : List SlotV) (dead : Bool) (w : World) (e : Ending) (w' : World) : Prop where
  is : ∃ k, k ≤ n ∧ (∀ j, j < k → E j = 0) ∧ (k = n ∧ e = .returned (.int .i64 0) ∧ VtGo S v g (D n) l dead w w' ∨ k < n ∧ E k ≠ 0 ∧ e = .returned (.int .i64 (E k)) ∧ VtGo S v g (D (k + 1)) l (dead || decide (E k = 9)) w w')
set_option maxRecDepth 100000 in
set_option maxHeartbeats 1000000 in
theorem vtRun_any {S : Nat → Prop} {v g : Nat} {l : List SlotV} {dead : Bool} (D : Nat → DiskM) (E : Nat → Int) (F : List (FuncId × Array Value)) (n c b : Nat) (w : World) (h : VtIn S w v g (D 0) l dead) (hn : F.length = n) (hn9 : n ≤ 9) (hF : FnsAt w b F) (hbS : ¬ S b ∧ b ≠ v)
    (hcall : ∀ (k : Nat) (x : FuncId × Array Value), F[k]? = some x → (∃ fn, Tryd.prog.funcs[x.1]? = some fn ∧ (fn.name == "runtime.NumGoroutine" || fn.body.isNone) = false) ∧ ∀ S1 w1, VtIn S1 w1 v g (D k) l dead → Stays (fun k => S k ∨ k = v) w w1 → Calls Tryd.prog x.1 x.2 w1 fun e w2 => e = .returned (.int .i64 (E k)) ∧ VtGo S1 v g (D (k + 1)) l dead w1 w2) :
    Calls Tryd.prog 49 #[.pointer (some ⟨v, 0, none⟩), .slice (some ⟨b, 0, none⟩) n c] w fun e w' => RunR S v g D E n l dead w e w' := by
  have H0 := Lib.hid (VtGo.refl h)
  have HN := Lib.hid hn
  have HF := Lib.hid hF
  have HBS := Lib.hid hbS
  have HC := Lib.hid hcall
  clear h hn hF hbS hcall
  go_enter Tryd.func49, Tryd.ntmps49
  go_wp2_with fail
  go_loopw [10] (fun i wr => ∃ k : Nat, k ≤ n ∧ i = .int .i64 (k : Int) ∧ (∀ j, j < k → E j = 0) ∧ VtGo S v g (D k) l dead w wr) (fun i _ => n - (intOf i).toNat)
  case atStart => exact ⟨0, Nat.zero_le _, rfl, fun j hj => absurd hj (Nat.not_lt_zero _), H0.out⟩
  case round =>
    clear H0
    obtain ⟨k, hk, rfl, hE, hgo⟩ := hrel
    have HGO := Lib.hid hgo
    have HE := Lib.hid hE
    clear hE
    by_cases hlt : k < n
    · obtain ⟨x, hx⟩ : ∃ x, F[k]? = some x := ⟨_, List.getElem?_eq_getElem (by rw [HN.out]; exact hlt)⟩
      obtain ⟨S1, hI, hS1, hst⟩ := hgo
      have hfb : wr.heap[b]? = some _ := (hst.block b (Array.getElem?_eq_some_iff.1 HF.out).1 (fun f => f.elim HBS.out.1 HBS.out.2)).trans HF.out
      have hc : wr.cell? ⟨b, k, none⟩ = some (.func (.func x.1) #[] x.2) := by
        rw [cell_of_row wr b k _ _ _ hfb]; simp [hx]
      obtain ⟨⟨fn, hfn, hbd⟩, hcc⟩ := HC.out k x hx
      have hcall := hcc S1 wr hI hst
      have hcf := fun w => callFunc_body hfn hbd x.2 w
      have HS1 := Lib.hid hS1
      have HST := Lib.hid hst
      have HCC := Lib.hid hcall
      have q0 : (k : Int) < (n : Int) := by omega
      clear hI hfb hcc hcall hfn hbd hS1 hst hx
      generalize x.1 = fid at *
      generalize x.2 = caps at *
      go_wp2_with fail
      refine HCC.out.mono ?_
      rintro e w2 ⟨rfl, hgo2⟩
      have hgo3 := VtGo.trans HS1.out HST.out hgo2
      have HGO3 := Lib.hid hgo3
      obtain ⟨S3, hI3, hS3, hst3⟩ := hgo3
      obtain ⟨-, -, c2, hth⟩ := hI3.cells
      have t2 := hth 2562
      have HPD := fun y => Lib.hid (VtGo.trans hS3 hst3 (hI3.putDead y))
      clear hgo2 hI3 hS3 hst3 hth hc hcf HCC HS1 HST HGO
      obtain ⟨ek, hek⟩ : ∃ ek, E k = ek := ⟨_, rfl⟩
      have HEK := Lib.hid hek
      rw [hek]
      clear hek
      by_cases h0 : ek = 0
      · subst h0
        clear c2 t2 HPD
        go_wp2_with fail
        go_roundw
        case rel =>
          refine ⟨k + 1, by omega, by go_num, fun j hj => ?_, HGO3.out⟩
          by_cases e : j = k
          · rw [e]; exact HEK.out
          · exact HE.out j (by omega)
        case measure => simp [intOf]; omega
      · have q1 : (ek == 0) = false := beq_eq_false_iff_ne.2 h0
        have HFIN : Hid (∀ w3, VtGo S v g (D (k + 1)) l (dead || decide (ek = 9)) w w3 → RunR S v g D E n l dead w (.returned (.int .i64 ek)) w3) := show ∀ _, _ → _ from fun w3 hw3 => ⟨k, by omega, HE.out, Or.inr ⟨hlt, by rw [HEK.out]; exact h0, by rw [HEK.out], by rw [HEK.out]; exact hw3⟩⟩
        clear HE HEK h0
        cases dead with
        | true =>
          go_wp2_with fail
          go_ret
          exact HFIN.out _ (HPD true).out
        | false =>
          by_cases h9 : ek = 9
          · subst h9
            go_wp2_with fail
            go_ret
            exact HFIN.out _ (HPD true).out
          · have q2 : (ek == 9) = false := beq_eq_false_iff_ne.2 h9
            have HD : Hid ((false || decide (ek = 9)) = false) := show _ = _ by rw [decide_eq_false h9]; rfl
            rw [HD.out] at HFIN
            clear h9
            go_wp2_with fail
            go_ret
            exact HFIN.out _ (HPD false).out
    · obtain rfl : k = n := by omega
      go_wp2_with fail
      go_ret
      exact ⟨k, Nat.le_refl _, HE.out, Or.inl ⟨rfl, rfl, HGO.out⟩⟩
end Go.Proofs.YtoidjapenompiaaDoor

/-
  The closures of the program's vault: each a call of its disk.
-/
namespace Go.Proofs.YtoidjapenompiaaDoor
open Go.RowKit Go.Proofs.ShaWords
/-- A variable that closures share: the vault's address. -/
def VarV (w : World) (A v : Nat) : Prop := w.heap[A]? = some (.cells #[.pointer (some ⟨v, 0, none⟩)] 28 (0, 0))
def VarI (w : World) (A : Nat) (z : Int) : Prop := w.heap[A]? = some (.cells #[.int .i64 z] 3 (0, 0))
theorem VarV.cell {w : World} {A v : Nat} (h : VarV w A v) : w.cell? ⟨A, 0, none⟩ = some (.pointer (some ⟨v, 0, none⟩)) := by rw [cell_of_row w A 0 _ _ _ h]; rfl
theorem VarI.cell {w : World} {A : Nat} {z : Int} (h : VarI w A z) : w.cell? ⟨A, 0, none⟩ = some (.int .i64 z) := by rw [cell_of_row w A 0 _ _ _ h]; rfl
section
variable {S : Nat → Prop} {w : World} {v g A B C : Nat} {d : DiskM} {l : List SlotV} {dead : Bool}
theorem VtIn.drew (h : VtIn S w v g d l dead) : VtIn S w.drew v g d l dead := h.below (Below.refl _ w).drew
theorem VtIn.call {f : FuncId} {args : Array Value} {e0 : Ending} {d' : DiskM} {w1 : World} (h : VtIn S w v g d l dead) (hb : Below w.heap.size w w1) (hc : DkAt S w1 g d → Calls Tryd.prog f args w1 fun e w' => e = e0 ∧ DkGo S g d' w1 w') :
    Calls Tryd.prog f args w1 fun e w' => e = e0 ∧ VtGo S v g d' l dead w w' :=
  (hc (h.below hb).disk).mono fun _ _ ⟨a, b⟩ => ⟨a, VtGo.trans (S1 := S) (fun _ s => Or.inl s) (Below.stays hb) (b.vault (h.below hb))⟩
set_option maxRecDepth 100000 in
theorem vtPut1_any (bs : List (BitVec 8)) (h : VtIn S w v g d l dead) (hA : VarV w A v) (hB : BytesAt w B 80 bs) (hbs : bs.length = 40) (hc : d.count < 1000000000) :
    Calls Tryd.prog 50 #[.pointer (some ⟨A, 0, none⟩), .pointer (some ⟨B, 0, none⟩)] w fun e w' => e = .returned (.int .i64 (d.write 0 bs).2) ∧ VtGo S v g (d.write 0 bs).1 l dead w w' := by
  obtain ⟨c0, -, -, -⟩ := h.cells
  have cA := hA.cell
  have HD := Lib.hid (h.call (Below.refl _ w).drew (fun hd => dkWrite_any S g d 0 bs 40 40 (some ⟨B, 0, none⟩) w.drew hd hc hbs (by decide) (Or.inr ⟨B, 0, rfl, range_bytesV (w := w.drew) hB⟩)))
  clear h hA hB hbs hc
  go_enter Tryd.func50, Tryd.ntmps50
  go_upto_region 1 with (fail)
  go_still_tail 5, (by kernel_rfl)
  change wpList _ _ _ _ _ w.drew
  go_wp2_with (go_at_call 30; go_loud (refine HD.out.mono ?_; rintro e w1 ⟨rfl, hg⟩; have HG := Lib.hid hg; clear hg))
  go_ret
  exact ⟨rfl, HG.out⟩
set_option maxRecDepth 100000 in
theorem vtSettle1_any (m : Int) (h : VtIn S w v g d l dead) (hA : VarV w A v) (hB : VarI w B m) (hc : d.count < 1000000000) :
    Calls Tryd.prog 72 #[.pointer (some ⟨A, 0, none⟩), .pointer (some ⟨B, 0, none⟩)] w fun e w' => e = .returned (.int .i64 (d.cut 0 m).2) ∧ VtGo S v g (d.cut 0 m).1 l dead w w' := by
  obtain ⟨c0, -, -, -⟩ := h.cells
  have cA := hA.cell
  have cB := hB.cell
  have HD := Lib.hid (h.call (Below.refl _ w).drew (fun hd => dkCut_any S g d 0 m w.drew hd hc))
  clear h hA hB hc
  go_enter Tryd.func72, Tryd.ntmps72
  go_upto_region 1 with (fail)
  go_still_tail 5, (by kernel_rfl)
  change wpList _ _ _ _ _ w.drew
  go_wp2_with (go_at_call 73; go_loud (refine HD.out.mono ?_; rintro e w1 ⟨rfl, hg⟩; have HG := Lib.hid hg; clear hg))
  go_ret
  exact ⟨rfl, HG.out⟩
set_option maxRecDepth 100000 in
theorem vtPut2_any (h : VtIn S w v g d l dead) (hA : VarV w A v) (hc : d.count < 1000000000) :
    Calls Tryd.prog 51 #[.pointer (some ⟨A, 0, none⟩)] w fun e w' => e = .returned (.int .i64 (d.sync 0).2) ∧ VtGo S v g (d.sync 0).1 l dead w w' := by
  obtain ⟨c0, -, -, -⟩ := h.cells
  have cA := hA.cell
  have HD := Lib.hid (h.call (Below.refl _ w) (fun hd => dkSync_any S g d 0 w hd hc))
  clear h hA hc
  go_enter Tryd.func51, Tryd.ntmps51
  go_wp2_with (go_at_call 52; go_loud (refine HD.out.mono ?_; rintro e w1 ⟨rfl, hg⟩; have HG := Lib.hid hg; clear hg))
  go_ret
  exact ⟨rfl, HG.out⟩
set_option maxRecDepth 100000 in
theorem vtSettle2_any (h : VtIn S w v g d l dead) (hA : VarV w A v) (hc : d.count < 1000000000) :
    Calls Tryd.prog 74 #[.pointer (some ⟨A, 0, none⟩)] w fun e w' => e = .returned (.int .i64 (d.sync 0).2) ∧ VtGo S v g (d.sync 0).1 l dead w w' := by
  obtain ⟨c0, -, -, -⟩ := h.cells
  have cA := hA.cell
  have HD := Lib.hid (h.call (Below.refl _ w) (fun hd => dkSync_any S g d 0 w hd hc))
  clear h hA hc
  go_enter Tryd.func74, Tryd.ntmps74
  go_wp2_with (go_at_call 52; go_loud (refine HD.out.mono ?_; rintro e w1 ⟨rfl, hg⟩; have HG := Lib.hid hg; clear hg))
  go_ret
  exact ⟨rfl, HG.out⟩
set_option maxRecDepth 100000 in
theorem vtZero1_any (i : Nat) (hi : i < 1000) (bs : List (BitVec 8)) (h : VtIn S w v g d l dead) (hA : VarV w A v) (hB : VarI w B ((i : Int) + 1)) (hC : BytesAt w C 80 bs) (hbs : bs.length = 40) (hc : d.count < 1000000000) :
    Calls Tryd.prog 54 #[.pointer (some ⟨A, 0, none⟩), .pointer (some ⟨B, 0, none⟩), .pointer (some ⟨C, 0, none⟩)] w fun e w' => e = .returned (.int .i64 (d.over 0 (40 * (i : Int)) bs).2) ∧ VtGo S v g (d.over 0 (40 * (i : Int)) bs).1 l dead w w' := by
  obtain ⟨c0, -, -, -⟩ := h.cells
  have cA := hA.cell
  have cB := hB.cell
  have HD := Lib.hid (h.call (Below.refl _ w).drew (fun hd => dkOver_any S g d 0 (40 * (i : Int)) 40 40 (some ⟨C, 0, none⟩) bs w.drew hd hc (by omega) hbs (Or.inr ⟨C, 0, rfl, range_bytesV (w := w.drew) hC⟩)))
  have h2 : (i : Int) * 40 = 40 * (i : Int) := by omega
  clear h hA hB hC hbs hc
  go_enter Tryd.func54, Tryd.ntmps54
  go_upto_region 1 with (fail)
  go_still_tail 8, (by kernel_rfl)
  change wpList _ _ _ _ _ w.drew
  go_wp2_with (go_at_call 55; fail)
  have H2 := Lib.hid h2
  rw [H2.out]
  refine HD.out.mono ?_
  rintro e w1 ⟨rfl, hg⟩
  have HG := Lib.hid hg
  clear hg h2
  go_wp2_with fail
  go_ret
  exact ⟨rfl, HG.out⟩
end
end Go.Proofs.YtoidjapenompiaaDoor

/-
  The program's take: the slots that the file's bytes begin with.
-/
namespace Go.Proofs.YtoidjapenompiaaDoor
open Go.RowKit Go.Proofs.ShaWords
theorem wpList_runV {P : Program} {ops : Array Oper} {rest : List Oper} {o : Oper} {a : Act} {w : World} {Q : Exit → Act → World → Prop} {v : Value} (hw : Region.wanted o (yielded ops a.tmps) = true) (hr : (execOp a.eval o).run P w = .ok (.value v) w)
    (h : wpList P ops Q rest (a.put o.dst v) w) : wpList P ops Q (o :: rest) a w := wpList_run hw hr h
section
variable {ρ : Operand → Value} {o : Oper} {x y : Operand}
theorem run_neSlotT {l m : List (BitVec 8)} {ty : TypeId} {b : Bool} (ho : o.op = .binOp .neq 80 x y ty) (hl : l.length = 40) (hm : m.length = 40) (hx : ρ x = .agg (bytesV l).toArray) (hy : ρ y = .agg (bytesV m).toArray) (hb : decide (l = m) = b) (w : World) :
    (execOp ρ o).run Tryd.prog w = .ok (.value (.bool (!b))) w := by
  rw [← hb]; exact run_neSlot ho hl hm hx hy w
theorem run_bldSlot0 (ho : o.op = .build 80 #[]) (w : World) : (execOp ρ o).run Tryd.prog w = .ok (.value (.agg (bytesV (noughts 40)).toArray)) w := by
  have hr := Go.run_build (P := Tryd.prog) w 80 #[] _ zeroSlotV
  obtain ⟨dst, op, ty', pos, after, guard⟩ := o
  simp only at ho
  subst ho
  unfold execOp
  simp only [List.map_toArray, List.map_nil, Sem.run_bind, hr, Result.andThen_ok, Sem.run_pure]
theorem run_addOneV {n : Nat} (ho : o.op = .binOp .add 3 x (.const (.int .i64 1)) 3) (h0 : ∀ u, ρ (.const u) = u) (hx : ρ x = .int .i64 (n : Int)) (hn : n ≤ 1000000) (w : World) : (execOp ρ o).run Tryd.prog w = .ok (.value (.int .i64 ((n + 1 : Nat) : Int))) w := by
  obtain ⟨dst, op, ty', pos, after, guard⟩ := o
  simp only at ho
  subst ho
  have h := IntWalk.i64_in ((n : Int) + 1) (by omega)
  have h1 := h0 (.int .i64 1)
  go_simp
theorem run_loadI3V {a : Addr} {n : Int} (ho : o.op = .load 3 x) (hx : ρ x = .pointer (some a)) {w : World} (hc : w.cell? a = some (.int .i64 n)) : (execOp ρ o).run Tryd.prog w = .ok (.value (.int .i64 n)) w := by
  obtain ⟨dst, op, ty', pos, after, guard⟩ := o
  simp only at ho
  subst ho
  go_simp
theorem run_sliceToV {p : Addr} {n cap k : Nat} (ho : o.op = .slice 37 x none (some y) none) (hx : ρ x = .slice (some p) n cap) (hy : ρ y = .int .i64 (k : Int)) (hk : k ≤ cap) (w : World) :
    (execOp ρ o).run Tryd.prog w = .ok (.value (.slice (some p) k cap)) w := by
  obtain ⟨dst, op, ty', pos, after, guard⟩ := o
  simp only at ho
  subst ho
  have q : (k : Int) ≤ (cap : Int) := by omega
  obtain ⟨b, off, pl⟩ := p
  go_simp
theorem run_to40V {b off n c : Nat} (ho : o.op = .slice 37 x none (some (.const (.int .i64 40))) none) (h0 : ∀ u, ρ (.const u) = u) (hx : ρ x = .slice (some ⟨b, off, none⟩) n c) (hk : 40 ≤ c) (w : World) : (execOp ρ o).run Tryd.prog w = .ok (.value (.slice (some ⟨b, off, none⟩) 40 c)) w := run_sliceToV ho hx (h0 _) hk w
end
/-- What is read amid a round of take: the slot that was taken, how many slots there are. -/
def TkS (T v j : Nat) (x : List (BitVec 8)) (w : World) : Prop := w.heap[T]? = some (.cells (bytesV x).toArray 80 (0, 0)) ∧ w.cell? ⟨v, 2561, none⟩ = some (.int .i64 (j : Int)) ∧ v < w.heap.size
theorem TkS.below {T v j : Nat} {x : List (BitVec 8)} {w w' : World} (h : TkS T v j x w) (hb : Below w.heap.size w w') : TkS T v j x w' :=
  ⟨(hb.block T (Array.getElem?_eq_some_iff.1 h.1).1).trans h.1, (hb.cell (p := ⟨v, 2561, none⟩) h.2.2).trans h.2.1, Nat.lt_of_lt_of_le h.2.2 hb.size⟩
/-- What stands at the place of a slot that bytes begin with. -/
theorem VtOf.at {all : List (BitVec 8)} {l : List SlotV} {r : List (BitVec 8)} (h : VtOf all l r) {j : Nat} (hj : j < l.length) : (all.drop (40 * j)).take 40 = slotB l[j] (j + 1) ∧ 40 ≤ (all.drop (40 * j)).length := by
  have h1 := slotsB_length h.ok
  have h2 := h.length
  refine ⟨?_, by rw [List.length_drop]; omega⟩
  rw [← slotsB_at h.ok j hj, h.is, List.drop_append_of_le_length (by omega), List.take_append_of_le_length (by rw [List.length_drop]; omega)]
theorem VtOf.rest {all : List (BitVec 8)} {l : List SlotV} {r : List (BitVec 8)} (h : VtOf all l r) : all.drop (40 * l.length) = r := by
  have h1 := slotsB_length h.ok
  rw [h.is, ← h1, List.drop_left]
theorem range_take {w : World} {b off k : Nat} {l : List (BitVec 8)} (h : w.rangeAt b off (bytesV l)) : w.rangeAt b off (bytesV (l.take k)) := fun j v hv => by
  refine h j v ?_
  rw [bytesV_take, List.getElem?_take] at hv
  split at hv
  · exact hv
  · cases hv
set_option maxRecDepth 100000 in
set_option maxHeartbeats 2000000 in
theorem vtTake_any {S : Nat → Prop} {v g : Nat} {d : DiskM} (all : List (BitVec 8)) (l : List SlotV) (r : List (BitVec 8)) (n c : Nat) (p : Option Addr) (w : World) (h : VtIn S w v g d [] false) (hn : all.length = n) (hnc : n ≤ c) (hV : VtOf all l r)
    (hL : ∀ w', Stays (fun k => S k ∨ k = v) w w' → Lies w' p all) (hR : ∀ w', Stays (fun k => S k ∨ k = v) w w' → Rem w') :
    Calls Tryd.prog 46 #[.pointer (some ⟨v, 0, none⟩), .slice p n c] w fun e w' => e = .returned (.tuple #[]) ∧ VtGo S v g d l false w w' := by
  have H0 := Lib.hid (VtGo.refl h)
  have HN := Lib.hid hn
  have HNC := Lib.hid (And.intro hnc trivial)
  have HV := Lib.hid hV
  have HL0 := Lib.hid hL
  have HR := Lib.hid hR
  clear h hn hnc hV hL hR
  go_enter Tryd.func46, Tryd.ntmps46
  go_wp2_with fail
  go_loopw [1] (fun s1 wr => ∃ (j : Nat) (q : Option Addr), j ≤ l.length ∧ s1 = .slice q (n - 40 * j) (c - 40 * j) ∧ VtGo S v g d (l.take j) false w wr ∧ ∀ w', Stays (fun k => S k ∨ k = v) w w' → Lies w' q (all.drop (40 * j))) (fun s1 _ => match s1 with | .slice _ m _ => m | _ => 0)
  case atStart => exact ⟨0, p, Nat.zero_le _, rfl, H0.out, HL0.out⟩
  case round =>
    clear H0 HL0
    obtain ⟨j, q, hj, rfl, hgo, hq⟩ := hrel
    have HQ := Lib.hid hq
    have HGO := Lib.hid hgo
    have hlen : (l.take j).length = j := by rw [List.length_take]; omega
    have hX : (all.drop (40 * j)).length = n - 40 * j := by rw [List.length_drop, HN.out]
    obtain ⟨S1, hI, hS1, hst⟩ := hgo
    have hle := HV.out.le
    obtain ⟨-, c1, -, -⟩ := hI.cells
    rw [hlen] at c1
    have HI := Lib.hid hI
    have HS1 := Lib.hid hS1
    have HST := Lib.hid hst
    have HLEN := Lib.hid hlen
    clear hq
    by_cases hlt : j < l.length
    · obtain ⟨hat, h40⟩ := HV.out.at hlt
      have hso := HV.out.ok _ (List.getElem_mem hlt)
      have HADD : Hid (∀ S4 w4, VtIn S4 w4 v g d (l.take j) false → Calls Tryd.prog 53 #[.pointer (some ⟨v, 0, none⟩), .agg (bytesV (slotB l[j] (j + 1))).toArray] w4 fun e w' => e = .returned (.tuple #[]) ∧ VtGo S4 v g d (l.take (j + 1)) false w4 w') := show ∀ _ _, _ → _ from fun S4 w4 h4 => by
        have := vtAdd_any l[j] w4 h4 hso (by omega)
        rw [hlen, ← List.take_succ_eq_append_getElem hlt] at this
        exact this
      have hb40 := slotB_length hso (j + 1)
      obtain ⟨x, hx⟩ : ∃ x, slotB l[j] (j + 1) = x := ⟨_, rfl⟩
      have HSX : Hid (x = noughts 40 ∨ x ≠ noughts 40 ∧ slotB (some (x.take 32)) (j + 1) = x) := show _ ∨ _ by
        cases hs : l[j] with
        | none => rw [hs] at hx; exact Or.inl hx.symm
        | some k =>
          rw [hs] at hx hso
          have hk := hso k rfl
          refine Or.inr ⟨fun e => slotB_key hk (n := j + 1) (by omega) (by omega) (hx.trans e), ?_⟩
          rw [← hx, slotB_take hk]
      rw [hx] at hat hb40 HADD
      have HX40 := Lib.hid hb40
      have hl := HQ.out wr hst
      rw [hX] at h40
      rcases hl with h0 | ⟨b, off, rfl, hr⟩
      · exfalso; rw [h0, List.length_nil] at hX; omega
      have hrg : wr.rangeAt b off (bytesV x) := by rw [← hat]; exact range_take hr
      have HRG := Lib.hid hrg
      obtain ⟨q2, hq2, hl2⟩ := run_fromP (p := some ⟨b, off, none⟩) (n := n - 40 * j) (c := c - 40 * j) (k := 40) (fun _ => ⟨b, off, rfl⟩) h40 (by have := HNC.out; omega)
      have HQ2 : Hid (∀ w', Stays (fun k => S k ∨ k = v) w w' → Lies w' q2 (all.drop (40 * (j + 1)))) := show ∀ _, _ → _ from fun w' hs => by
        have := hl2 w' _ hX (HQ.out w' hs)
        rw [List.drop_drop] at this
        rwa [show 40 * (j + 1) = 40 * j + 40 by omega]
      have HC40 : Hid (40 ≤ c - 40 * j ∧ True) := show _ ∧ _ from ⟨by have := HNC.out; omega, trivial⟩
      have em : n - 40 * j - 40 = n - 40 * (j + 1) := by omega
      have ec : c - 40 * j - 40 = c - 40 * (j + 1) := by omega
      rw [em, ec] at hq2
      have HRUN : Hid (∀ {ρ : Operand → Value} {o : Oper} {x y : Operand}, o.op = .slice 37 x (some y) none none → ρ x = .slice (some ⟨b, off, none⟩) (n - 40 * j) (c - 40 * j) → ρ y = .int .i64 (40 : Int) → ∀ w, (execOp ρ o).run Tryd.prog w = .ok (.value (.slice q2 (n - 40 * (j + 1)) (c - 40 * (j + 1)))) w) := hq2
      have hmm : n - 40 * (j + 1) < n - 40 * j := by omega
      have HMM := Lib.hid (And.intro hmm trivial)
      generalize hm2 : n - 40 * (j + 1) = m2 at HRUN HMM
      generalize hc2 : c - 40 * (j + 1) = c2 at HRUN
      have HM2 := Lib.hid hm2
      have HC2 := Lib.hid hc2
      generalize n - 40 * j = m at *
      generalize c - 40 * j = cc at *
      have q0 : (j : Int) < 64 := by omega
      have q1 : (40 : Int) ≤ (m : Int) := by omega
      have HJ64 := Lib.hid (And.intro (show j < 64 by omega) trivial)
      clear hat hX hq2 hl2 hr hmm em ec hm2 hc2 hb40 hso hx hI hS1 hst hrg h40 hj hle hlen
      have HIS := Lib.hid (infoSlot _ HX40.out)
      have HOLD : Hid ((bytesV (noughts 40)).toArray.size = (bytesV x).toArray.size) := show _ = _ by rw [bytesV_size _ 40 HX40.out, bytesV_size _ 40 (noughts_length 40)]
      have HONE := Lib.hid (bytesV_one x)
      go_upto_region 2 with (first
        | (show wpList _ _ _ (⟨_, .slice _ _ none (some _) none, _, _, _, _⟩ :: _) _ _; refine wpList_runV (by rfl) (run_to40V (x := .tmp 15) rfl (fun _ => rfl) rfl HC40.out.1 _) ?_)
        | (refine wpList_runV (by rfl) (run_toSlot (x := .tmp 16) rfl (Nat.le_refl _) rfl _) ?_)
        | (refine wpList_runV (by rfl) (run_loadSlotV (x := .tmp 17) rfl rfl HX40.out HRG.out) ?_)
        | (refine wpList_store_new rfl 80 (.tmp 4) (.tmp 18) rfl wr.heap.size rfl (bytesV x).toArray rfl rfl HIS.out (by exact HOLD.out) HONE.out ?_; intro w2 h2 b2; have HT2 := Lib.hid h2; have HB2 := Lib.hid b2; clear h2 b2))
      obtain ⟨T, hT⟩ : ∃ T, T = wr.heap.size := ⟨_, rfl⟩
      have HI2 := Lib.hid (HI.out.below HB2.out)
      have hlt2 := HI2.out.lt
      have hc2 := HI2.out.cells.2.1
      rw [HLEN.out] at hc2
      rw [← hT] at HT2 ⊢
      have HTK : Hid (TkS T v j x w2.drew) := show TkS _ _ _ _ _ from ⟨HT2.out, hc2, hlt2⟩
      have HD2 : Hid (Below wr.heap.size wr w2.drew) := show Below _ _ _ from HB2.out.drew
      clear hT hlt2 hc2 c1 HT2 HB2 HI2 HRG
      rcases HSX.out with hz | ⟨hz, hsl⟩
      · have HZ : Hid (decide (x = noughts 40) = true) := show _ = _ from decide_eq_true hz
        clear hz HSX
        refine region_phase (TkS T v j x) (fun _ => True) 99 (HTK.out) trivial [(0, .free), (1, .free), (2, .free), (3, .free), (4, .free), (5, .free), (6, .free), (7, .free), (8, .free), (9, .free), (10, .free), (11, .behind), (12, .behind), (13, .free), (14, .free)] (by kernel_rfl) (by kernel_rfl) (by kernel_rfl) (by kernel_rfl) (fun ops hops A hA => ?_)
        have hsz : A.tmps.size = 39 := by rw [hA]; rfl
        have base0 : A.eval (.tmp 0) = .pointer (some ⟨v, 0, none⟩) := by rw [hA]; rfl
        have base4 : A.eval (.tmp 4) = .pointer (some ⟨T, 0, none⟩) := by rw [hA]; rfl
        have HAA := Lib.hid hA; clear hA
        obtain ⟨o0, po0, q0, d0, gd0⟩ : ∃ o, ops[0]? = some o ∧ o.op = .load 80 (.tmp 4) ∧ o.dst = some 19 ∧ o.guard = none := ⟨_, by rw [hops]; rfl, rfl, rfl, rfl⟩
        obtain ⟨o1, po1, q1, d1, gd1⟩ : ∃ o, ops[1]? = some o ∧ o.op = .build 80 #[] ∧ o.dst = some 20 ∧ o.guard = none := ⟨_, by rw [hops]; rfl, rfl, rfl, rfl⟩
        obtain ⟨o2, po2, q2, d2, gd2⟩ : ∃ o, ops[2]? = some o ∧ o.op = .binOp .neq 80 (.tmp 19) (.tmp 20) 80 ∧ o.dst = some 21 ∧ o.guard = none := ⟨_, by rw [hops]; rfl, rfl, rfl, rfl⟩
        obtain ⟨o3, po3, q3, d3, gd3⟩ : ∃ o, ops[3]? = some o ∧ o.op = .move (.tmp 21) ∧ o.dst = some 22 ∧ o.guard = none := ⟨_, by rw [hops]; rfl, rfl, rfl, rfl⟩
        obtain ⟨o4, po4, q4, d4, gd4⟩ : ∃ o, ops[4]? = some o ∧ o.op = .load 80 (.tmp 4) ∧ o.dst = some 23 ∧ o.guard = some (3, true) := ⟨_, by rw [hops]; rfl, rfl, rfl, rfl⟩
        obtain ⟨o5, po5, q5, d5, gd5⟩ : ∃ o, ops[5]? = some o ∧ o.op = .move (.tmp 0) ∧ o.dst = some 24 ∧ o.guard = some (3, true) := ⟨_, by rw [hops]; rfl, rfl, rfl, rfl⟩
        obtain ⟨o6, po6, q6, d6, gd6⟩ : ∃ o, ops[6]? = some o ∧ o.op = .nilCheck (.tmp 24) ∧ o.dst = some 25 ∧ o.guard = some (3, true) := ⟨_, by rw [hops]; rfl, rfl, rfl, rfl⟩
        obtain ⟨o7, po7, q7, d7, gd7⟩ : ∃ o, ops[7]? = some o ∧ o.op = .fieldAddr 83 (.tmp 25) 2 ∧ o.dst = some 26 ∧ o.guard = some (3, true) := ⟨_, by rw [hops]; rfl, rfl, rfl, rfl⟩
        obtain ⟨o8, po8, q8, d8, gd8⟩ : ∃ o, ops[8]? = some o ∧ o.op = .load 3 (.tmp 26) ∧ o.dst = some 27 ∧ o.guard = some (3, true) := ⟨_, by rw [hops]; rfl, rfl, rfl, rfl⟩
        obtain ⟨o9, po9, q9, d9, gd9⟩ : ∃ o, ops[9]? = some o ∧ o.op = .binOp .add 3 (.tmp 27) (.const (.int .i64 1)) 3 ∧ o.dst = some 28 ∧ o.guard = some (3, true) := ⟨_, by rw [hops]; rfl, rfl, rfl, rfl⟩
        obtain ⟨o10, po10, q10, d10, gd10⟩ : ∃ o, ops[10]? = some o ∧ o.op = .load 80 (.tmp 4) ∧ o.dst = some 29 ∧ o.guard = some (3, true) := ⟨_, by rw [hops]; rfl, rfl, rfl, rfl⟩
        obtain ⟨o11, po11, q11, d11, gd11⟩ : ∃ o, ops[11]? = some o ∧ o.op = .call { callee := .value (.func 45), args := #[.tmp 29], argTypes := #[80] } ∧ o.dst = some 30 ∧ o.guard = some (3, true) := ⟨_, by rw [hops]; rfl, rfl, rfl, rfl⟩
        obtain ⟨o12, po12, q12, d12, gd12⟩ : ∃ o, ops[12]? = some o ∧ o.op = .call { callee := .value (.func 48), args := #[.tmp 28, .tmp 30], argTypes := #[3, 36] } ∧ o.dst = some 31 ∧ o.guard = some (3, true) := ⟨_, by rw [hops]; rfl, rfl, rfl, rfl⟩
        obtain ⟨o13, po13, q13, d13, gd13⟩ : ∃ o, ops[13]? = some o ∧ o.op = .binOp .neq 80 (.tmp 23) (.tmp 31) 80 ∧ o.dst = some 32 ∧ o.guard = some (3, true) := ⟨_, by rw [hops]; rfl, rfl, rfl, rfl⟩
        obtain ⟨o14, po14, q14, d14, gd14⟩ : ∃ o, ops[14]? = some o ∧ o.op = .pick (.tmp 22) (.tmp 32) (.const (.bool false)) ∧ o.dst = some 33 ∧ o.guard = none := ⟨_, by rw [hops]; rfl, rfl, rfl, rfl⟩
        clear hops
        refine met_free po0 d0 (wanted_of gd0) (fun w' h' => run_loadSlotV q0 base4 HX40.out (range_bytesV h'.1)) ?_
        refine met_free po1 d1 (wanted_of gd1) (fun w' h' => run_bldSlot0 q1 w') ?_
        refine met_free po2 d2 (wanted_of gd2) (fun w' h' => run_neSlotT q2 HX40.out (noughts_length 40) ((eval_other _ 20 19 _ (by decide)).trans (eval_same _ _ _ (by rw [hsz]; decide))) (eval_same _ _ _ (by simp only [put_size, hsz]; decide)) HZ.out w') ?_
        refine met_free po3 d3 (wanted_of gd3) (fun w' h' => run_move q3 (eval_same _ _ _ (by simp only [put_size, hsz]; decide)) w') ?_
        refine m_unwanted po4 d4 (w_not gd4 po3 d3 (eval_same _ _ _ (by simp only [put_size, hsz]; decide))) ?_
        refine m_unwanted po5 d5 (w_not gd5 po3 d3 ((eval_other _ 23 22 _ (by decide)).trans (eval_same _ _ _ (by simp only [put_size, hsz]; decide)))) ?_
        refine m_unwanted po6 d6 (w_not gd6 po3 d3 ((eval_other _ 24 22 _ (by decide)).trans ((eval_other _ 23 22 _ (by decide)).trans (eval_same _ _ _ (by simp only [put_size, hsz]; decide))))) ?_
        refine m_unwanted po7 d7 (w_not gd7 po3 d3 ((eval_other _ 25 22 _ (by decide)).trans ((eval_other _ 24 22 _ (by decide)).trans ((eval_other _ 23 22 _ (by decide)).trans (eval_same _ _ _ (by simp only [put_size, hsz]; decide)))))) ?_
        refine m_unwanted po8 d8 (w_not gd8 po3 d3 ((eval_other _ 26 22 _ (by decide)).trans ((eval_other _ 25 22 _ (by decide)).trans ((eval_other _ 24 22 _ (by decide)).trans ((eval_other _ 23 22 _ (by decide)).trans (eval_same _ _ _ (by simp only [put_size, hsz]; decide))))))) ?_
        refine m_unwanted po9 d9 (w_not gd9 po3 d3 ((eval_other _ 27 22 _ (by decide)).trans ((eval_other _ 26 22 _ (by decide)).trans ((eval_other _ 25 22 _ (by decide)).trans ((eval_other _ 24 22 _ (by decide)).trans ((eval_other _ 23 22 _ (by decide)).trans (eval_same _ _ _ (by simp only [put_size, hsz]; decide)))))))) ?_
        refine m_unwanted po10 d10 (w_not gd10 po3 d3 ((eval_other _ 28 22 _ (by decide)).trans ((eval_other _ 27 22 _ (by decide)).trans ((eval_other _ 26 22 _ (by decide)).trans ((eval_other _ 25 22 _ (by decide)).trans ((eval_other _ 24 22 _ (by decide)).trans ((eval_other _ 23 22 _ (by decide)).trans (eval_same _ _ _ (by simp only [put_size, hsz]; decide))))))))) ?_
        refine m_skipped po11 d11 (w_not gd11 po3 d3 ((eval_other _ 29 22 _ (by decide)).trans ((eval_other _ 28 22 _ (by decide)).trans ((eval_other _ 27 22 _ (by decide)).trans ((eval_other _ 26 22 _ (by decide)).trans ((eval_other _ 25 22 _ (by decide)).trans ((eval_other _ 24 22 _ (by decide)).trans ((eval_other _ 23 22 _ (by decide)).trans (eval_same _ _ _ (by simp only [put_size, hsz]; decide)))))))))) ⟨HTK.out, ?_⟩
        refine m_skipped po12 d12 (w_not gd12 po3 d3 ((eval_other _ 30 22 _ (by decide)).trans ((eval_other _ 29 22 _ (by decide)).trans ((eval_other _ 28 22 _ (by decide)).trans ((eval_other _ 27 22 _ (by decide)).trans ((eval_other _ 26 22 _ (by decide)).trans ((eval_other _ 25 22 _ (by decide)).trans ((eval_other _ 24 22 _ (by decide)).trans ((eval_other _ 23 22 _ (by decide)).trans (eval_same _ _ _ (by simp only [put_size, hsz]; decide))))))))))) ⟨HTK.out, ?_⟩
        refine m_unwanted po13 d13 (w_not gd13 po3 d3 ((eval_other _ 31 22 _ (by decide)).trans ((eval_other _ 30 22 _ (by decide)).trans ((eval_other _ 29 22 _ (by decide)).trans ((eval_other _ 28 22 _ (by decide)).trans ((eval_other _ 27 22 _ (by decide)).trans ((eval_other _ 26 22 _ (by decide)).trans ((eval_other _ 25 22 _ (by decide)).trans ((eval_other _ 24 22 _ (by decide)).trans ((eval_other _ 23 22 _ (by decide)).trans (eval_same _ _ _ (by simp only [put_size, hsz]; decide)))))))))))) ?_
        refine met_free po14 d14 (wanted_of gd14) (fun w' h' => r_pickF q14 ((eval_other _ 32 22 _ (by decide)).trans ((eval_other _ 31 22 _ (by decide)).trans ((eval_other _ 30 22 _ (by decide)).trans ((eval_other _ 29 22 _ (by decide)).trans ((eval_other _ 28 22 _ (by decide)).trans ((eval_other _ 27 22 _ (by decide)).trans ((eval_other _ 26 22 _ (by decide)).trans ((eval_other _ 25 22 _ (by decide)).trans ((eval_other _ 24 22 _ (by decide)).trans ((eval_other _ 23 22 _ (by decide)).trans (eval_same _ _ _ (by simp only [put_size, hsz]; decide)))))))))))) rfl w') ?_
        show NoPanic _ .normal _ _
        refine NoPanic.normal ?_
        rw [HAA.out]
        go_frame
        clear HAA
        clear po0 q0 d0 gd0 po1 q1 d1 gd1 po2 q2 d2 gd2 po3 q3 d3 gd3 po4 q4 d4 gd4 po5 q5 d5 gd5 po6 q6 d6 gd6 po7 q7 d7 gd7 po8 q8 d8 gd8 po9 q9 d9 gd9 po10 q10 d10 gd10 po11 q11 d11 gd11 po12 q12 d12 gd12 po13 q13 d13 gd13 po14 q14 d14 gd14
        clear base0 base4 hsz
        have HB3 : Hid (Below w2.drew.heap.size w2.drew w2.drew) := show Below _ _ _ from Below.refl _ _
        generalize hw3 : w2.drew = w3 at HTK HD2 HB3 ⊢
        clear hw3
        have HT3 := Lib.hid (HTK.out.below HB3.out)
        have hI3 := HI.out.below (HD2.out)
        have hs3 : Stays (fun k => S k ∨ k = v) w w3 := HST.out.trans (G := fun _ => False) (Below.stays (HD2.out)) (fun _ f _ => f.elim)
        have hadd := HADD.out S1 w3 hI3
        have HADD3 := Lib.hid hadd
        have HS3 := Lib.hid hs3
        clear hI3 hs3 hadd HTK HADD
        go_wp2_with (first
          | (show wpList _ _ _ (⟨_, .load 80 _, _, _, _, _⟩ :: _) _ _; refine wpList_runV (by rfl) (run_loadSlotV (x := .tmp 4) rfl rfl HX40.out (range_bytesV HT3.out.1)) ?_)
          | (go_at_call 53; refine HADD3.out.mono ?_; rintro e w6 ⟨rfl, hg6⟩; have HG6 := Lib.hid hg6; clear hg6)
          | (show wpList _ _ _ (⟨_, .slice _ _ (some _) none none, _, _, _, _⟩ :: _) _ _; refine wpList_runV (by rfl) (HRUN.out (x := .tmp 37) rfl rfl rfl _) ?_))
        go_roundw
        case rel => exact ⟨j + 1, q2, by omega, by rw [HM2.out, HC2.out], VtGo.trans HS1.out HS3.out HG6.out, HQ2.out⟩
        case measure => exact HMM.out.1
      · have HZ : Hid (decide (x = noughts 40) = false) := show _ = _ from decide_eq_false hz
        have HEQ : Hid (decide (x = slotB (some (x.take 32)) (j + 1)) = true) := show _ = _ from decide_eq_true hsl.symm
        clear hz hsl HSX
        have HRR : Hid (Rem w2.drew) := show Rem _ from HR.out _ (HST.out.trans (G := fun _ => False) (Below.stays HD2.out) (fun _ f _ => f.elim))
        refine region_phase (TkS T v j x) (fun _ => True) 99 (HTK.out) trivial [(0, .free), (1, .free), (2, .free), (3, .free), (4, .free), (5, .free), (6, .free), (7, .free), (8, .free), (9, .free), (10, .free), (11, .behind), (12, .behind), (13, .free), (14, .free)] (by kernel_rfl) (by kernel_rfl) (by kernel_rfl) (by kernel_rfl) (fun ops hops A hA => ?_)
        have hsz : A.tmps.size = 39 := by rw [hA]; rfl
        have base0 : A.eval (.tmp 0) = .pointer (some ⟨v, 0, none⟩) := by rw [hA]; rfl
        have base4 : A.eval (.tmp 4) = .pointer (some ⟨T, 0, none⟩) := by rw [hA]; rfl
        have HAA := Lib.hid hA; clear hA
        obtain ⟨o0, po0, q0, d0, gd0⟩ : ∃ o, ops[0]? = some o ∧ o.op = .load 80 (.tmp 4) ∧ o.dst = some 19 ∧ o.guard = none := ⟨_, by rw [hops]; rfl, rfl, rfl, rfl⟩
        obtain ⟨o1, po1, q1, d1, gd1⟩ : ∃ o, ops[1]? = some o ∧ o.op = .build 80 #[] ∧ o.dst = some 20 ∧ o.guard = none := ⟨_, by rw [hops]; rfl, rfl, rfl, rfl⟩
        obtain ⟨o2, po2, q2, d2, gd2⟩ : ∃ o, ops[2]? = some o ∧ o.op = .binOp .neq 80 (.tmp 19) (.tmp 20) 80 ∧ o.dst = some 21 ∧ o.guard = none := ⟨_, by rw [hops]; rfl, rfl, rfl, rfl⟩
        obtain ⟨o3, po3, q3, d3, gd3⟩ : ∃ o, ops[3]? = some o ∧ o.op = .move (.tmp 21) ∧ o.dst = some 22 ∧ o.guard = none := ⟨_, by rw [hops]; rfl, rfl, rfl, rfl⟩
        obtain ⟨o4, po4, q4, d4, gd4⟩ : ∃ o, ops[4]? = some o ∧ o.op = .load 80 (.tmp 4) ∧ o.dst = some 23 ∧ o.guard = some (3, true) := ⟨_, by rw [hops]; rfl, rfl, rfl, rfl⟩
        obtain ⟨o5, po5, q5, d5, gd5⟩ : ∃ o, ops[5]? = some o ∧ o.op = .move (.tmp 0) ∧ o.dst = some 24 ∧ o.guard = some (3, true) := ⟨_, by rw [hops]; rfl, rfl, rfl, rfl⟩
        obtain ⟨o6, po6, q6, d6, gd6⟩ : ∃ o, ops[6]? = some o ∧ o.op = .nilCheck (.tmp 24) ∧ o.dst = some 25 ∧ o.guard = some (3, true) := ⟨_, by rw [hops]; rfl, rfl, rfl, rfl⟩
        obtain ⟨o7, po7, q7, d7, gd7⟩ : ∃ o, ops[7]? = some o ∧ o.op = .fieldAddr 83 (.tmp 25) 2 ∧ o.dst = some 26 ∧ o.guard = some (3, true) := ⟨_, by rw [hops]; rfl, rfl, rfl, rfl⟩
        obtain ⟨o8, po8, q8, d8, gd8⟩ : ∃ o, ops[8]? = some o ∧ o.op = .load 3 (.tmp 26) ∧ o.dst = some 27 ∧ o.guard = some (3, true) := ⟨_, by rw [hops]; rfl, rfl, rfl, rfl⟩
        obtain ⟨o9, po9, q9, d9, gd9⟩ : ∃ o, ops[9]? = some o ∧ o.op = .binOp .add 3 (.tmp 27) (.const (.int .i64 1)) 3 ∧ o.dst = some 28 ∧ o.guard = some (3, true) := ⟨_, by rw [hops]; rfl, rfl, rfl, rfl⟩
        obtain ⟨o10, po10, q10, d10, gd10⟩ : ∃ o, ops[10]? = some o ∧ o.op = .load 80 (.tmp 4) ∧ o.dst = some 29 ∧ o.guard = some (3, true) := ⟨_, by rw [hops]; rfl, rfl, rfl, rfl⟩
        obtain ⟨o11, po11, q11, d11, gd11⟩ : ∃ o, ops[11]? = some o ∧ o.op = .call { callee := .value (.func 45), args := #[.tmp 29], argTypes := #[80] } ∧ o.dst = some 30 ∧ o.guard = some (3, true) := ⟨_, by rw [hops]; rfl, rfl, rfl, rfl⟩
        obtain ⟨o12, po12, q12, d12, gd12⟩ : ∃ o, ops[12]? = some o ∧ o.op = .call { callee := .value (.func 48), args := #[.tmp 28, .tmp 30], argTypes := #[3, 36] } ∧ o.dst = some 31 ∧ o.guard = some (3, true) := ⟨_, by rw [hops]; rfl, rfl, rfl, rfl⟩
        obtain ⟨o13, po13, q13, d13, gd13⟩ : ∃ o, ops[13]? = some o ∧ o.op = .binOp .neq 80 (.tmp 23) (.tmp 31) 80 ∧ o.dst = some 32 ∧ o.guard = some (3, true) := ⟨_, by rw [hops]; rfl, rfl, rfl, rfl⟩
        obtain ⟨o14, po14, q14, d14, gd14⟩ : ∃ o, ops[14]? = some o ∧ o.op = .pick (.tmp 22) (.tmp 32) (.const (.bool false)) ∧ o.dst = some 33 ∧ o.guard = none := ⟨_, by rw [hops]; rfl, rfl, rfl, rfl⟩
        clear hops
        refine met_free po0 d0 (wanted_of gd0) (fun w' h' => run_loadSlotV q0 base4 HX40.out (range_bytesV h'.1)) ?_
        refine met_free po1 d1 (wanted_of gd1) (fun w' h' => run_bldSlot0 q1 w') ?_
        refine met_free po2 d2 (wanted_of gd2) (fun w' h' => run_neSlotT q2 HX40.out (noughts_length 40) ((eval_other _ 20 19 _ (by decide)).trans (eval_same _ _ _ (by rw [hsz]; decide))) (eval_same _ _ _ (by simp only [put_size, hsz]; decide)) HZ.out w') ?_
        refine met_free po3 d3 (wanted_of gd3) (fun w' h' => run_move q3 (eval_same _ _ _ (by simp only [put_size, hsz]; decide)) w') ?_
        refine met_free po4 d4 (wanted_guard gd4 po3 d3 (eval_same _ _ _ (by simp only [put_size, hsz]; decide))) (fun w' h' => run_loadSlotV q4 ((eval_other _ 22 4 _ (by decide)).trans ((eval_other _ 21 4 _ (by decide)).trans ((eval_other _ 20 4 _ (by decide)).trans ((eval_other _ 19 4 _ (by decide)).trans base4)))) HX40.out (range_bytesV h'.1)) ?_
        refine met_free po5 d5 (wanted_guard gd5 po3 d3 ((eval_other _ 23 22 _ (by decide)).trans (eval_same _ _ _ (by simp only [put_size, hsz]; decide)))) (fun w' h' => run_move q5 ((eval_other _ 23 0 _ (by decide)).trans ((eval_other _ 22 0 _ (by decide)).trans ((eval_other _ 21 0 _ (by decide)).trans ((eval_other _ 20 0 _ (by decide)).trans ((eval_other _ 19 0 _ (by decide)).trans base0))))) w') ?_
        refine met_free po6 d6 (wanted_guard gd6 po3 d3 ((eval_other _ 24 22 _ (by decide)).trans ((eval_other _ 23 22 _ (by decide)).trans (eval_same _ _ _ (by simp only [put_size, hsz]; decide))))) (fun w' h' => run_nilCheck q6 (eval_same _ _ _ (by simp only [put_size, hsz]; decide)) w') ?_
        refine met_free po7 d7 (wanted_guard gd7 po3 d3 ((eval_other _ 25 22 _ (by decide)).trans ((eval_other _ 24 22 _ (by decide)).trans ((eval_other _ 23 22 _ (by decide)).trans (eval_same _ _ _ (by simp only [put_size, hsz]; decide)))))) (fun w' h' => run_fieldT (off := 2561) q7 (fun _ => by kernel_rfl) (eval_same _ _ _ (by simp only [put_size, hsz]; decide)) w') ?_
        refine met_free po8 d8 (wanted_guard gd8 po3 d3 ((eval_other _ 26 22 _ (by decide)).trans ((eval_other _ 25 22 _ (by decide)).trans ((eval_other _ 24 22 _ (by decide)).trans ((eval_other _ 23 22 _ (by decide)).trans (eval_same _ _ _ (by simp only [put_size, hsz]; decide))))))) (fun w' h' => run_loadI3V q8 (eval_same _ _ _ (by simp only [put_size, hsz]; decide)) h'.2.1) ?_
        refine met_free po9 d9 (wanted_guard gd9 po3 d3 ((eval_other _ 27 22 _ (by decide)).trans ((eval_other _ 26 22 _ (by decide)).trans ((eval_other _ 25 22 _ (by decide)).trans ((eval_other _ 24 22 _ (by decide)).trans ((eval_other _ 23 22 _ (by decide)).trans (eval_same _ _ _ (by simp only [put_size, hsz]; decide)))))))) (fun w' h' => run_addOneV q9 (fun _ => rfl) (eval_same _ _ _ (by simp only [put_size, hsz]; decide)) (by have := HJ64.out; omega) w') ?_
        refine met_free po10 d10 (wanted_guard gd10 po3 d3 ((eval_other _ 28 22 _ (by decide)).trans ((eval_other _ 27 22 _ (by decide)).trans ((eval_other _ 26 22 _ (by decide)).trans ((eval_other _ 25 22 _ (by decide)).trans ((eval_other _ 24 22 _ (by decide)).trans ((eval_other _ 23 22 _ (by decide)).trans (eval_same _ _ _ (by simp only [put_size, hsz]; decide))))))))) (fun w' h' => run_loadSlotV q10 ((eval_other _ 28 4 _ (by decide)).trans ((eval_other _ 27 4 _ (by decide)).trans ((eval_other _ 26 4 _ (by decide)).trans ((eval_other _ 25 4 _ (by decide)).trans ((eval_other _ 24 4 _ (by decide)).trans ((eval_other _ 23 4 _ (by decide)).trans ((eval_other _ 22 4 _ (by decide)).trans ((eval_other _ 21 4 _ (by decide)).trans ((eval_other _ 20 4 _ (by decide)).trans ((eval_other _ 19 4 _ (by decide)).trans base4)))))))))) HX40.out (range_bytesV h'.1)) ?_
        refine m_enter po11 d11 (wanted_guard gd11 po3 d3 ((eval_other _ 29 22 _ (by decide)).trans ((eval_other _ 28 22 _ (by decide)).trans ((eval_other _ 27 22 _ (by decide)).trans ((eval_other _ 26 22 _ (by decide)).trans ((eval_other _ 25 22 _ (by decide)).trans ((eval_other _ 24 22 _ (by decide)).trans ((eval_other _ 23 22 _ (by decide)).trans (eval_same _ _ _ (by simp only [put_size, hsz]; decide)))))))))) (run_callf1 q11 rfl (eval_same _ _ _ (by simp only [put_size, hsz]; decide)) Tryd.func45 (by kernel_rfl) _) (vtKey_any x HX40.out w2.drew) ?_
        rintro e w3 ⟨rfl, b3⟩
        have HB3 : Hid (Below w2.drew.heap.size w2.drew w3) := show Below _ _ _ from b3
        clear b3
        refine ⟨_, rfl, HTK.out.below HB3.out, ?_⟩
        refine m_enter po12 d12 (wanted_guard gd12 po3 d3 ((eval_other _ 30 22 _ (by decide)).trans ((eval_other _ 29 22 _ (by decide)).trans ((eval_other _ 28 22 _ (by decide)).trans ((eval_other _ 27 22 _ (by decide)).trans ((eval_other _ 26 22 _ (by decide)).trans ((eval_other _ 25 22 _ (by decide)).trans ((eval_other _ 24 22 _ (by decide)).trans ((eval_other _ 23 22 _ (by decide)).trans (eval_same _ _ _ (by simp only [put_size, hsz]; decide))))))))))) (run_callf2 q12 rfl ((eval_other _ 30 28 _ (by decide)).trans ((eval_other _ 29 28 _ (by decide)).trans (eval_same _ _ _ (by simp only [put_size, hsz]; decide)))) (eval_same _ _ _ (by simp only [put_size, hsz]; decide)) Tryd.func48 (by kernel_rfl) _) (slotOf_any (x.take 32) (j + 1) (by rw [List.length_take, HX40.out]; rfl) w3 (HRR.out.on HB3.out)) ?_
        rintro e w4 ⟨rfl, b4⟩
        have HB4 : Hid (Below w2.drew.heap.size w2.drew w4) := show Below _ _ _ from HB3.out.trans (b4.mono HB3.out.size)
        clear b4 HB3
        have HB3 := HB4
        clear HB4
        refine ⟨_, rfl, HTK.out.below HB3.out, ?_⟩
        refine met_free po13 d13 (wanted_guard gd13 po3 d3 ((eval_other _ 31 22 _ (by decide)).trans ((eval_other _ 30 22 _ (by decide)).trans ((eval_other _ 29 22 _ (by decide)).trans ((eval_other _ 28 22 _ (by decide)).trans ((eval_other _ 27 22 _ (by decide)).trans ((eval_other _ 26 22 _ (by decide)).trans ((eval_other _ 25 22 _ (by decide)).trans ((eval_other _ 24 22 _ (by decide)).trans ((eval_other _ 23 22 _ (by decide)).trans (eval_same _ _ _ (by simp only [put_size, hsz]; decide)))))))))))) (fun w' h' => run_neSlotT q13 HX40.out (slotB_length (slotOk_some (by rw [List.length_take, HX40.out]; rfl)) _) ((eval_other _ 31 23 _ (by decide)).trans ((eval_other _ 30 23 _ (by decide)).trans ((eval_other _ 29 23 _ (by decide)).trans ((eval_other _ 28 23 _ (by decide)).trans ((eval_other _ 27 23 _ (by decide)).trans ((eval_other _ 26 23 _ (by decide)).trans ((eval_other _ 25 23 _ (by decide)).trans ((eval_other _ 24 23 _ (by decide)).trans (eval_same _ _ _ (by simp only [put_size, hsz]; decide)))))))))) (eval_same _ _ _ (by simp only [put_size, hsz]; decide)) HEQ.out w') ?_
        refine met_free po14 d14 (wanted_of gd14) (fun w' h' => run_pick_true q14 ((eval_other _ 32 22 _ (by decide)).trans ((eval_other _ 31 22 _ (by decide)).trans ((eval_other _ 30 22 _ (by decide)).trans ((eval_other _ 29 22 _ (by decide)).trans ((eval_other _ 28 22 _ (by decide)).trans ((eval_other _ 27 22 _ (by decide)).trans ((eval_other _ 26 22 _ (by decide)).trans ((eval_other _ 25 22 _ (by decide)).trans ((eval_other _ 24 22 _ (by decide)).trans ((eval_other _ 23 22 _ (by decide)).trans (eval_same _ _ _ (by simp only [put_size, hsz]; decide)))))))))))) (eval_same _ _ _ (by simp only [put_size, hsz]; decide)) w') ?_
        show NoPanic _ .normal _ _
        refine NoPanic.normal ?_
        rw [HAA.out]
        go_frame
        clear HAA
        clear po0 q0 d0 gd0 po1 q1 d1 gd1 po2 q2 d2 gd2 po3 q3 d3 gd3 po4 q4 d4 gd4 po5 q5 d5 gd5 po6 q6 d6 gd6 po7 q7 d7 gd7 po8 q8 d8 gd8 po9 q9 d9 gd9 po10 q10 d10 gd10 po11 q11 d11 gd11 po12 q12 d12 gd12 po13 q13 d13 gd13 po14 q14 d14 gd14
        clear base0 base4 hsz
        have HT3 := Lib.hid (HTK.out.below HB3.out)
        have hI3 := HI.out.below (HD2.out.trans (HB3.out.mono HD2.out.size))
        have hs3 : Stays (fun k => S k ∨ k = v) w w4 := HST.out.trans (G := fun _ => False) (Below.stays (HD2.out.trans (HB3.out.mono HD2.out.size))) (fun _ f _ => f.elim)
        have hadd := HADD.out S1 w4 hI3
        have HADD3 := Lib.hid hadd
        have HS3 := Lib.hid hs3
        clear hI3 hs3 hadd HTK HADD
        go_wp2_with (first
          | (show wpList _ _ _ (⟨_, .load 80 _, _, _, _, _⟩ :: _) _ _; refine wpList_runV (by rfl) (run_loadSlotV (x := .tmp 4) rfl rfl HX40.out (range_bytesV HT3.out.1)) ?_)
          | (go_at_call 53; refine HADD3.out.mono ?_; rintro e w6 ⟨rfl, hg6⟩; have HG6 := Lib.hid hg6; clear hg6)
          | (show wpList _ _ _ (⟨_, .slice _ _ (some _) none none, _, _, _, _⟩ :: _) _ _; refine wpList_runV (by rfl) (HRUN.out (x := .tmp 37) rfl rfl rfl _) ?_))
        go_roundw
        case rel => exact ⟨j + 1, q2, by omega, by rw [HM2.out, HC2.out], VtGo.trans HS1.out HS3.out HG6.out, HQ2.out⟩
        case measure => exact HMM.out.1
    · obtain rfl : j = l.length := by omega
      have HCCM : Hid (¬ r.length < 40 → 40 ≤ c - 40 * l.length ∧ True) := show _ → _ from fun hr => by
        have h1 := HV.out.length
        have h2 := HN.out
        have h3 := HNC.out.1
        exact ⟨by omega, trivial⟩
      have htk : l.take l.length = l := List.take_length
      rw [htk] at HGO HI
      rw [HV.out.rest] at HQ hX
      have HX := Lib.hid hX
      generalize n - 40 * l.length = m at *
      generalize c - 40 * l.length = cc at *
      by_cases h64 : l.length = 64
      · have q0 : ¬ (l.length : Int) < 64 := by omega
        clear hX htk hI hS1 hst hle hlen hlt hj HI h64
        go_wp2_with fail
        go_end0
        exact ⟨rfl, HGO.out⟩
      · have q0 : (l.length : Int) < 64 := by omega
        by_cases hr40 : r.length < 40
        · have q1 : ¬ (40 : Int) ≤ (m : Int) := by omega
          clear hX htk hI hS1 hst hle hlen hlt hj HI h64
          go_wp2_with fail
          go_end0
          exact ⟨rfl, HGO.out⟩
        · have q1 : (40 : Int) ≤ (m : Int) := by omega
          have hno : ∀ s, SlotOk s → slotB s (l.length + 1) ≠ r.take 40 := by
            rcases HV.out.stop with h | h | h
            · exact absurd h h64
            · exact absurd h hr40
            · exact h
          obtain ⟨x, hx⟩ : ∃ x, r.take 40 = x := ⟨_, rfl⟩
          have hx40 : x.length = 40 := by rw [← hx, List.length_take]; omega
          rw [hx] at hno
          have HZ : Hid (decide (x = noughts 40) = false) := show _ = _ from decide_eq_false fun e => hno none slotOk_none e.symm
          have HEQ : Hid (decide (x = slotB (some (x.take 32)) (l.length + 1)) = false) := show _ = _ from decide_eq_false fun e => hno (some (x.take 32)) (slotOk_some (by rw [List.length_take, hx40]; rfl)) e.symm
          have HX40 := Lib.hid hx40
          rcases HQ.out wr hst with h0 | ⟨b, off, rfl, hr⟩
          · exfalso; rw [h0, List.length_nil] at hr40; omega
          have hrg : wr.rangeAt b off (bytesV x) := by rw [← hx]; exact range_take hr
          have HRG := Lib.hid hrg
          have HCC : Hid (n ≤ c ∧ True) := HNC.out
          have HIS := Lib.hid (infoSlot _ HX40.out)
          have HOLD : Hid ((bytesV (noughts 40)).toArray.size = (bytesV x).toArray.size) := show _ = _ by rw [bytesV_size _ 40 HX40.out, bytesV_size _ 40 (noughts_length 40)]
          have HONE := Lib.hid (bytesV_one x)
          have HJ64 := Lib.hid (And.intro (show l.length < 64 by omega) trivial)
          have HC40 : Hid (40 ≤ cc ∧ True) := HCCM.out hr40
          clear hX htk hI hS1 hst hle hlen hlt hj h64 hno hx hx40 hr hrg hr40 HCCM
          generalize l.length = j at *
          go_upto_region 2 with (first
            | (show wpList _ _ _ (⟨_, .slice _ _ none (some _) none, _, _, _, _⟩ :: _) _ _; refine wpList_runV (by rfl) (run_to40V (x := .tmp 15) rfl (fun _ => rfl) rfl HC40.out.1 _) ?_)
            | (refine wpList_runV (by rfl) (run_toSlot (x := .tmp 16) rfl (Nat.le_refl _) rfl _) ?_)
            | (refine wpList_runV (by rfl) (run_loadSlotV (x := .tmp 17) rfl rfl HX40.out HRG.out) ?_)
            | (refine wpList_store_new rfl 80 (.tmp 4) (.tmp 18) rfl wr.heap.size rfl (bytesV x).toArray rfl rfl HIS.out (by exact HOLD.out) HONE.out ?_; intro w2 h2 b2; have HT2 := Lib.hid h2; have HB2 := Lib.hid b2; clear h2 b2))
          obtain ⟨T, hT⟩ : ∃ T, T = wr.heap.size := ⟨_, rfl⟩
          have HI2 := Lib.hid (HI.out.below HB2.out)
          have hlt2 := HI2.out.lt
          have hc2 : w2.cell? ⟨v, 2561, none⟩ = some (.int .i64 (j : Int)) := (HB2.out.cell (p := ⟨v, 2561, none⟩) HI.out.lt).trans c1
          rw [← hT] at HT2 ⊢
          have HTK : Hid (TkS T v j x w2.drew) := show TkS _ _ _ _ _ from ⟨HT2.out, hc2, hlt2⟩
          have HD2 : Hid (Below wr.heap.size wr w2.drew) := show Below _ _ _ from HB2.out.drew
          clear hT hlt2 hc2 c1 HT2 HB2 HI2 HRG
          have HRR : Hid (Rem w2.drew) := show Rem _ from HR.out _ (HST.out.trans (G := fun _ => False) (Below.stays HD2.out) (fun _ f _ => f.elim))
          refine region_phase (TkS T v j x) (fun _ => True) 99 (HTK.out) trivial [(0, .free), (1, .free), (2, .free), (3, .free), (4, .free), (5, .free), (6, .free), (7, .free), (8, .free), (9, .free), (10, .free), (11, .behind), (12, .behind), (13, .free), (14, .free)] (by kernel_rfl) (by kernel_rfl) (by kernel_rfl) (by kernel_rfl) (fun ops hops A hA => ?_)
          have hsz : A.tmps.size = 39 := by rw [hA]; rfl
          have base0 : A.eval (.tmp 0) = .pointer (some ⟨v, 0, none⟩) := by rw [hA]; rfl
          have base4 : A.eval (.tmp 4) = .pointer (some ⟨T, 0, none⟩) := by rw [hA]; rfl
          have HAA := Lib.hid hA; clear hA
          obtain ⟨o0, po0, q0, d0, gd0⟩ : ∃ o, ops[0]? = some o ∧ o.op = .load 80 (.tmp 4) ∧ o.dst = some 19 ∧ o.guard = none := ⟨_, by rw [hops]; rfl, rfl, rfl, rfl⟩
          obtain ⟨o1, po1, q1, d1, gd1⟩ : ∃ o, ops[1]? = some o ∧ o.op = .build 80 #[] ∧ o.dst = some 20 ∧ o.guard = none := ⟨_, by rw [hops]; rfl, rfl, rfl, rfl⟩
          obtain ⟨o2, po2, q2, d2, gd2⟩ : ∃ o, ops[2]? = some o ∧ o.op = .binOp .neq 80 (.tmp 19) (.tmp 20) 80 ∧ o.dst = some 21 ∧ o.guard = none := ⟨_, by rw [hops]; rfl, rfl, rfl, rfl⟩
          obtain ⟨o3, po3, q3, d3, gd3⟩ : ∃ o, ops[3]? = some o ∧ o.op = .move (.tmp 21) ∧ o.dst = some 22 ∧ o.guard = none := ⟨_, by rw [hops]; rfl, rfl, rfl, rfl⟩
          obtain ⟨o4, po4, q4, d4, gd4⟩ : ∃ o, ops[4]? = some o ∧ o.op = .load 80 (.tmp 4) ∧ o.dst = some 23 ∧ o.guard = some (3, true) := ⟨_, by rw [hops]; rfl, rfl, rfl, rfl⟩
          obtain ⟨o5, po5, q5, d5, gd5⟩ : ∃ o, ops[5]? = some o ∧ o.op = .move (.tmp 0) ∧ o.dst = some 24 ∧ o.guard = some (3, true) := ⟨_, by rw [hops]; rfl, rfl, rfl, rfl⟩
          obtain ⟨o6, po6, q6, d6, gd6⟩ : ∃ o, ops[6]? = some o ∧ o.op = .nilCheck (.tmp 24) ∧ o.dst = some 25 ∧ o.guard = some (3, true) := ⟨_, by rw [hops]; rfl, rfl, rfl, rfl⟩
          obtain ⟨o7, po7, q7, d7, gd7⟩ : ∃ o, ops[7]? = some o ∧ o.op = .fieldAddr 83 (.tmp 25) 2 ∧ o.dst = some 26 ∧ o.guard = some (3, true) := ⟨_, by rw [hops]; rfl, rfl, rfl, rfl⟩
          obtain ⟨o8, po8, q8, d8, gd8⟩ : ∃ o, ops[8]? = some o ∧ o.op = .load 3 (.tmp 26) ∧ o.dst = some 27 ∧ o.guard = some (3, true) := ⟨_, by rw [hops]; rfl, rfl, rfl, rfl⟩
          obtain ⟨o9, po9, q9, d9, gd9⟩ : ∃ o, ops[9]? = some o ∧ o.op = .binOp .add 3 (.tmp 27) (.const (.int .i64 1)) 3 ∧ o.dst = some 28 ∧ o.guard = some (3, true) := ⟨_, by rw [hops]; rfl, rfl, rfl, rfl⟩
          obtain ⟨o10, po10, q10, d10, gd10⟩ : ∃ o, ops[10]? = some o ∧ o.op = .load 80 (.tmp 4) ∧ o.dst = some 29 ∧ o.guard = some (3, true) := ⟨_, by rw [hops]; rfl, rfl, rfl, rfl⟩
          obtain ⟨o11, po11, q11, d11, gd11⟩ : ∃ o, ops[11]? = some o ∧ o.op = .call { callee := .value (.func 45), args := #[.tmp 29], argTypes := #[80] } ∧ o.dst = some 30 ∧ o.guard = some (3, true) := ⟨_, by rw [hops]; rfl, rfl, rfl, rfl⟩
          obtain ⟨o12, po12, q12, d12, gd12⟩ : ∃ o, ops[12]? = some o ∧ o.op = .call { callee := .value (.func 48), args := #[.tmp 28, .tmp 30], argTypes := #[3, 36] } ∧ o.dst = some 31 ∧ o.guard = some (3, true) := ⟨_, by rw [hops]; rfl, rfl, rfl, rfl⟩
          obtain ⟨o13, po13, q13, d13, gd13⟩ : ∃ o, ops[13]? = some o ∧ o.op = .binOp .neq 80 (.tmp 23) (.tmp 31) 80 ∧ o.dst = some 32 ∧ o.guard = some (3, true) := ⟨_, by rw [hops]; rfl, rfl, rfl, rfl⟩
          obtain ⟨o14, po14, q14, d14, gd14⟩ : ∃ o, ops[14]? = some o ∧ o.op = .pick (.tmp 22) (.tmp 32) (.const (.bool false)) ∧ o.dst = some 33 ∧ o.guard = none := ⟨_, by rw [hops]; rfl, rfl, rfl, rfl⟩
          clear hops
          refine met_free po0 d0 (wanted_of gd0) (fun w' h' => run_loadSlotV q0 base4 HX40.out (range_bytesV h'.1)) ?_
          refine met_free po1 d1 (wanted_of gd1) (fun w' h' => run_bldSlot0 q1 w') ?_
          refine met_free po2 d2 (wanted_of gd2) (fun w' h' => run_neSlotT q2 HX40.out (noughts_length 40) ((eval_other _ 20 19 _ (by decide)).trans (eval_same _ _ _ (by rw [hsz]; decide))) (eval_same _ _ _ (by simp only [put_size, hsz]; decide)) HZ.out w') ?_
          refine met_free po3 d3 (wanted_of gd3) (fun w' h' => run_move q3 (eval_same _ _ _ (by simp only [put_size, hsz]; decide)) w') ?_
          refine met_free po4 d4 (wanted_guard gd4 po3 d3 (eval_same _ _ _ (by simp only [put_size, hsz]; decide))) (fun w' h' => run_loadSlotV q4 ((eval_other _ 22 4 _ (by decide)).trans ((eval_other _ 21 4 _ (by decide)).trans ((eval_other _ 20 4 _ (by decide)).trans ((eval_other _ 19 4 _ (by decide)).trans base4)))) HX40.out (range_bytesV h'.1)) ?_
          refine met_free po5 d5 (wanted_guard gd5 po3 d3 ((eval_other _ 23 22 _ (by decide)).trans (eval_same _ _ _ (by simp only [put_size, hsz]; decide)))) (fun w' h' => run_move q5 ((eval_other _ 23 0 _ (by decide)).trans ((eval_other _ 22 0 _ (by decide)).trans ((eval_other _ 21 0 _ (by decide)).trans ((eval_other _ 20 0 _ (by decide)).trans ((eval_other _ 19 0 _ (by decide)).trans base0))))) w') ?_
          refine met_free po6 d6 (wanted_guard gd6 po3 d3 ((eval_other _ 24 22 _ (by decide)).trans ((eval_other _ 23 22 _ (by decide)).trans (eval_same _ _ _ (by simp only [put_size, hsz]; decide))))) (fun w' h' => run_nilCheck q6 (eval_same _ _ _ (by simp only [put_size, hsz]; decide)) w') ?_
          refine met_free po7 d7 (wanted_guard gd7 po3 d3 ((eval_other _ 25 22 _ (by decide)).trans ((eval_other _ 24 22 _ (by decide)).trans ((eval_other _ 23 22 _ (by decide)).trans (eval_same _ _ _ (by simp only [put_size, hsz]; decide)))))) (fun w' h' => run_fieldT (off := 2561) q7 (fun _ => by kernel_rfl) (eval_same _ _ _ (by simp only [put_size, hsz]; decide)) w') ?_
          refine met_free po8 d8 (wanted_guard gd8 po3 d3 ((eval_other _ 26 22 _ (by decide)).trans ((eval_other _ 25 22 _ (by decide)).trans ((eval_other _ 24 22 _ (by decide)).trans ((eval_other _ 23 22 _ (by decide)).trans (eval_same _ _ _ (by simp only [put_size, hsz]; decide))))))) (fun w' h' => run_loadI3V q8 (eval_same _ _ _ (by simp only [put_size, hsz]; decide)) h'.2.1) ?_
          refine met_free po9 d9 (wanted_guard gd9 po3 d3 ((eval_other _ 27 22 _ (by decide)).trans ((eval_other _ 26 22 _ (by decide)).trans ((eval_other _ 25 22 _ (by decide)).trans ((eval_other _ 24 22 _ (by decide)).trans ((eval_other _ 23 22 _ (by decide)).trans (eval_same _ _ _ (by simp only [put_size, hsz]; decide)))))))) (fun w' h' => run_addOneV q9 (fun _ => rfl) (eval_same _ _ _ (by simp only [put_size, hsz]; decide)) (by have := HJ64.out; omega) w') ?_
          refine met_free po10 d10 (wanted_guard gd10 po3 d3 ((eval_other _ 28 22 _ (by decide)).trans ((eval_other _ 27 22 _ (by decide)).trans ((eval_other _ 26 22 _ (by decide)).trans ((eval_other _ 25 22 _ (by decide)).trans ((eval_other _ 24 22 _ (by decide)).trans ((eval_other _ 23 22 _ (by decide)).trans (eval_same _ _ _ (by simp only [put_size, hsz]; decide))))))))) (fun w' h' => run_loadSlotV q10 ((eval_other _ 28 4 _ (by decide)).trans ((eval_other _ 27 4 _ (by decide)).trans ((eval_other _ 26 4 _ (by decide)).trans ((eval_other _ 25 4 _ (by decide)).trans ((eval_other _ 24 4 _ (by decide)).trans ((eval_other _ 23 4 _ (by decide)).trans ((eval_other _ 22 4 _ (by decide)).trans ((eval_other _ 21 4 _ (by decide)).trans ((eval_other _ 20 4 _ (by decide)).trans ((eval_other _ 19 4 _ (by decide)).trans base4)))))))))) HX40.out (range_bytesV h'.1)) ?_
          refine m_enter po11 d11 (wanted_guard gd11 po3 d3 ((eval_other _ 29 22 _ (by decide)).trans ((eval_other _ 28 22 _ (by decide)).trans ((eval_other _ 27 22 _ (by decide)).trans ((eval_other _ 26 22 _ (by decide)).trans ((eval_other _ 25 22 _ (by decide)).trans ((eval_other _ 24 22 _ (by decide)).trans ((eval_other _ 23 22 _ (by decide)).trans (eval_same _ _ _ (by simp only [put_size, hsz]; decide)))))))))) (run_callf1 q11 rfl (eval_same _ _ _ (by simp only [put_size, hsz]; decide)) Tryd.func45 (by kernel_rfl) _) (vtKey_any x HX40.out w2.drew) ?_
          rintro e w3 ⟨rfl, b3⟩
          have HB3 : Hid (Below w2.drew.heap.size w2.drew w3) := show Below _ _ _ from b3
          clear b3
          refine ⟨_, rfl, HTK.out.below HB3.out, ?_⟩
          refine m_enter po12 d12 (wanted_guard gd12 po3 d3 ((eval_other _ 30 22 _ (by decide)).trans ((eval_other _ 29 22 _ (by decide)).trans ((eval_other _ 28 22 _ (by decide)).trans ((eval_other _ 27 22 _ (by decide)).trans ((eval_other _ 26 22 _ (by decide)).trans ((eval_other _ 25 22 _ (by decide)).trans ((eval_other _ 24 22 _ (by decide)).trans ((eval_other _ 23 22 _ (by decide)).trans (eval_same _ _ _ (by simp only [put_size, hsz]; decide))))))))))) (run_callf2 q12 rfl ((eval_other _ 30 28 _ (by decide)).trans ((eval_other _ 29 28 _ (by decide)).trans (eval_same _ _ _ (by simp only [put_size, hsz]; decide)))) (eval_same _ _ _ (by simp only [put_size, hsz]; decide)) Tryd.func48 (by kernel_rfl) _) (slotOf_any (x.take 32) (j + 1) (by rw [List.length_take, HX40.out]; rfl) w3 (HRR.out.on HB3.out)) ?_
          rintro e w4 ⟨rfl, b4⟩
          have HB4 : Hid (Below w2.drew.heap.size w2.drew w4) := show Below _ _ _ from HB3.out.trans (b4.mono HB3.out.size)
          clear b4 HB3
          have HB3 := HB4
          clear HB4
          refine ⟨_, rfl, HTK.out.below HB3.out, ?_⟩
          refine met_free po13 d13 (wanted_guard gd13 po3 d3 ((eval_other _ 31 22 _ (by decide)).trans ((eval_other _ 30 22 _ (by decide)).trans ((eval_other _ 29 22 _ (by decide)).trans ((eval_other _ 28 22 _ (by decide)).trans ((eval_other _ 27 22 _ (by decide)).trans ((eval_other _ 26 22 _ (by decide)).trans ((eval_other _ 25 22 _ (by decide)).trans ((eval_other _ 24 22 _ (by decide)).trans ((eval_other _ 23 22 _ (by decide)).trans (eval_same _ _ _ (by simp only [put_size, hsz]; decide)))))))))))) (fun w' h' => run_neSlotT q13 HX40.out (slotB_length (slotOk_some (by rw [List.length_take, HX40.out]; rfl)) _) ((eval_other _ 31 23 _ (by decide)).trans ((eval_other _ 30 23 _ (by decide)).trans ((eval_other _ 29 23 _ (by decide)).trans ((eval_other _ 28 23 _ (by decide)).trans ((eval_other _ 27 23 _ (by decide)).trans ((eval_other _ 26 23 _ (by decide)).trans ((eval_other _ 25 23 _ (by decide)).trans ((eval_other _ 24 23 _ (by decide)).trans (eval_same _ _ _ (by simp only [put_size, hsz]; decide)))))))))) (eval_same _ _ _ (by simp only [put_size, hsz]; decide)) HEQ.out w') ?_
          refine met_free po14 d14 (wanted_of gd14) (fun w' h' => run_pick_true q14 ((eval_other _ 32 22 _ (by decide)).trans ((eval_other _ 31 22 _ (by decide)).trans ((eval_other _ 30 22 _ (by decide)).trans ((eval_other _ 29 22 _ (by decide)).trans ((eval_other _ 28 22 _ (by decide)).trans ((eval_other _ 27 22 _ (by decide)).trans ((eval_other _ 26 22 _ (by decide)).trans ((eval_other _ 25 22 _ (by decide)).trans ((eval_other _ 24 22 _ (by decide)).trans ((eval_other _ 23 22 _ (by decide)).trans (eval_same _ _ _ (by simp only [put_size, hsz]; decide)))))))))))) (eval_same _ _ _ (by simp only [put_size, hsz]; decide)) w') ?_
          show NoPanic _ .normal _ _
          refine NoPanic.normal ?_
          rw [HAA.out]
          go_frame
          clear HAA
          clear po0 q0 d0 gd0 po1 q1 d1 gd1 po2 q2 d2 gd2 po3 q3 d3 gd3 po4 q4 d4 gd4 po5 q5 d5 gd5 po6 q6 d6 gd6 po7 q7 d7 gd7 po8 q8 d8 gd8 po9 q9 d9 gd9 po10 q10 d10 gd10 po11 q11 d11 gd11 po12 q12 d12 gd12 po13 q13 d13 gd13 po14 q14 d14 gd14
          clear base0 base4 hsz
          go_wp2_with fail
          refine bodyPost_ret (results_none rfl _ _ _) rfl ?_
          exact ⟨rfl, VtGo.trans HS1.out HST.out (HI.out.goes (HD2.out.trans (HB3.out.mono HD2.out.size)))⟩
end Go.Proofs.YtoidjapenompiaaDoor

/-
  The program's settle and Open.
-/
namespace Go.Proofs.YtoidjapenompiaaDoor
open Go.RowKit Go.Proofs.ShaWords
section
variable {S : Nat → Prop} {v g : Nat} {l : List SlotV} {dead : Bool}
/-- One call. -/
theorem vtRun1 {d d' : DiskM} {e1 : Int} (fid : FuncId) (fn : Func) (caps : Array Value) (c b : Nat) (w : World) (h : VtIn S w v g d l dead) (hF : FnsAt w b [(fid, caps)]) (hbS : ¬ S b ∧ b ≠ v) (hfn : Tryd.prog.funcs[fid]? = some fn) (hbd : (fn.name == "runtime.NumGoroutine" || fn.body.isNone) = false)
    (hcall : ∀ S1 w1, VtIn S1 w1 v g d l dead → Stays (fun k => S k ∨ k = v) w w1 → Calls Tryd.prog fid caps w1 fun e w2 => e = .returned (.int .i64 e1) ∧ VtGo S1 v g d' l dead w1 w2) :
    Calls Tryd.prog 49 #[.pointer (some ⟨v, 0, none⟩), .slice (some ⟨b, 0, none⟩) 1 c] w fun e w' => e = .returned (.int .i64 e1) ∧ VtGo S v g d' l (dead || decide (e1 = 9)) w w' := by
  refine (vtRun_any (fun k => if k = 0 then d else d') (fun _ => e1) [(fid, caps)] 1 c b w h rfl (by decide) hF hbS (fun k x hx => ?_)).mono ?_
  · match k, hx with
    | 0, hx =>
      cases hx
      exact ⟨⟨fn, hfn, hbd⟩, hcall⟩
    | k + 1, hx => simp at hx
  · rintro e w' ⟨k, hk, hE, ⟨rfl, rfl, hg⟩ | ⟨hk1, h0, rfl, hg⟩⟩
    · have h0 : e1 = 0 := hE 0 (by decide)
      subst h0
      refine ⟨rfl, ?_⟩
      have e : (dead || decide ((0 : Int) = 9)) = dead := by cases dead <;> rfl
      rw [e]
      exact hg
    · obtain rfl : k = 0 := by omega
      exact ⟨rfl, hg⟩
/-- Two calls. -/
theorem vtRun2 {d d1 d2 : DiskM} {e1 e2 : Int} (f1 f2 : FuncId) (fn1 fn2 : Func) (caps1 caps2 : Array Value) (c b : Nat) (w : World) (h : VtIn S w v g d l dead) (hF : FnsAt w b [(f1, caps1), (f2, caps2)]) (hbS : ¬ S b ∧ b ≠ v)
    (hfn1 : Tryd.prog.funcs[f1]? = some fn1) (hbd1 : (fn1.name == "runtime.NumGoroutine" || fn1.body.isNone) = false) (hfn2 : Tryd.prog.funcs[f2]? = some fn2) (hbd2 : (fn2.name == "runtime.NumGoroutine" || fn2.body.isNone) = false)
    (hcall1 : ∀ S1 w1, VtIn S1 w1 v g d l dead → Stays (fun k => S k ∨ k = v) w w1 → Calls Tryd.prog f1 caps1 w1 fun e w2 => e = .returned (.int .i64 e1) ∧ VtGo S1 v g d1 l dead w1 w2)
    (hcall2 : ∀ S1 w1, VtIn S1 w1 v g d1 l dead → Stays (fun k => S k ∨ k = v) w w1 → Calls Tryd.prog f2 caps2 w1 fun e w2 => e = .returned (.int .i64 e2) ∧ VtGo S1 v g d2 l dead w1 w2) :
    Calls Tryd.prog 49 #[.pointer (some ⟨v, 0, none⟩), .slice (some ⟨b, 0, none⟩) 2 c] w fun e w' => e = .returned (.int .i64 (if e1 ≠ 0 then e1 else e2)) ∧ VtGo S v g (if e1 ≠ 0 then d1 else d2) l (dead || decide ((if e1 ≠ 0 then e1 else e2) = 9)) w w' := by
  refine (vtRun_any (fun k => if k = 0 then d else if k = 1 then d1 else d2) (fun k => if k = 0 then e1 else e2) [(f1, caps1), (f2, caps2)] 2 c b w h rfl (by decide) hF hbS (fun k x hx => ?_)).mono ?_
  · match k, hx with
    | 0, hx =>
      cases hx
      exact ⟨⟨fn1, hfn1, hbd1⟩, hcall1⟩
    | 1, hx =>
      cases hx
      exact ⟨⟨fn2, hfn2, hbd2⟩, hcall2⟩
    | k + 2, hx => simp at hx
  · rintro e w' ⟨k, hk, hE, ⟨rfl, rfl, hg⟩ | ⟨hk1, h0, rfl, hg⟩⟩
    · have h0 : e1 = 0 := hE 0 (by decide)
      have h1 : e2 = 0 := hE 1 (by decide)
      subst h0 h1
      refine ⟨rfl, ?_⟩
      have e : (dead || decide ((if (0 : Int) ≠ 0 then (0 : Int) else 0) = 9)) = dead := by cases dead <;> rfl
      rw [e]
      exact hg
    · have h2 : k = 0 ∨ k = 1 := by omega
      rcases h2 with rfl | rfl
      · have h0' : e1 ≠ 0 := h0
        rw [if_pos h0', if_pos h0']
        exact ⟨rfl, hg⟩
      · have h1 : e1 = 0 := hE 0 (by decide)
        subst h1
        exact ⟨rfl, hg⟩
end
/-- A slice of closures that was just built. -/
theorem fns_new1 (w : World) (fid : FuncId) (caps : Array Value) : FnsAt (w.alloc (.cells #[.func (.func fid) #[] caps] 90)) w.heap.size [(fid, caps)] := heap_new_at rfl
theorem fns_new2 (w : World) (f1 f2 : FuncId) (c1 c2 : Array Value) : FnsAt (w.alloc (.cells #[.func (.func f1) #[] c1, .func (.func f2) #[] c2] 90)) w.heap.size [(f1, c1), (f2, c2)] := heap_new_at rfl
theorem VarV.stay {S : Nat → Prop} {w w' : World} {A v : Nat} (h : VarV w A v) (hs : Stays S w w') (hA : ¬ S A) : VarV w' A v := (hs.block A (Array.getElem?_eq_some_iff.1 h).1 hA).trans h
theorem VarI.stay {S : Nat → Prop} {w w' : World} {A : Nat} {z : Int} (h : VarI w A z) (hs : Stays S w w') (hA : ¬ S A) : VarI w' A z := (hs.block A (Array.getElem?_eq_some_iff.1 h).1 hA).trans h
theorem VtIn.dom {S : Nat → Prop} {w : World} {v g : Nat} {d : DiskM} {l : List SlotV} {dead : Bool} (h : VtIn S w v g d l dead) : ∀ k, S k ∨ k = v → k < w.heap.size := fun k hk => by
  rcases hk with hk | rfl
  · obtain ⟨⟨⟨vs, hv⟩, -⟩, -⟩ := h; exact hv.dom k hk
  · exact h.lt
theorem openVt_cut {d : DiskM} {l : List SlotV} {r : List (BitVec 8)} (h : 0 < r.length) : openVt d l r = d.cut 0 ((40 * l.length : Nat) : Int) := by unfold openVt; rw [if_pos (fun e => by rw [e] at h; exact absurd h (by decide))]
theorem openVt_sync {d : DiskM} {l : List SlotV} {r : List (BitVec 8)} (h : r.length = 0) (hl : 0 < l.length) : openVt d l r = d.sync 0 := by
  unfold openVt
  rw [if_neg (fun e => e (List.length_eq_zero_iff.1 h)), if_pos (fun e => by rw [e] at hl; exact absurd hl (by decide))]
theorem openVt_none {d : DiskM} {l : List SlotV} {r : List (BitVec 8)} (h : r.length = 0) (hl : l.length = 0) : openVt d l r = (d, 0) := by
  unfold openVt
  rw [if_neg (fun e => e (List.length_eq_zero_iff.1 h)), if_neg (fun e => e (List.length_eq_zero_iff.1 hl))]
set_option maxRecDepth 100000 in
set_option maxHeartbeats 1000000 in
theorem vtSettle_any {S : Nat → Prop} {v g : Nat} {d : DiskM} {l : List SlotV} (r : List (BitVec 8)) (n : Nat) (w : World) (h : VtIn S w v g d l false) (hc : d.count < 1000000000) (hn : n = 40 * l.length + r.length) (hn9 : n < 1000000) :
    Calls Tryd.prog 47 #[.pointer (some ⟨v, 0, none⟩), .int .i64 (n : Int)] w fun e w' => e = .returned (.int .i64 (openVt d l r).2) ∧ VtGo S v g (openVt d l r).1 l (decide ((openVt d l r).2 = 9)) w w' := by
  have HD := Lib.hid h.dom
  have HC := Lib.hid hc
  obtain ⟨W, hW⟩ : ∃ W, W = w.alloc (.cells #[.pointer (some ⟨v, 0, none⟩)] 28) := ⟨_, rfl⟩
  have hA : VarV W w.heap.size v := by rw [hW]; exact heap_new_at rfl
  have hb0 : Below w.heap.size w W := by rw [hW]; exact (Below.refl _ _).alloc (Nat.le_refl _) _
  have hWs : W.heap.size = w.heap.size + 1 := by rw [hW, size_alloc]
  have hI := h.below hb0
  obtain ⟨-, c1, -, -⟩ := hI.cells
  have cA := hA.cell
  have HA := Lib.hid hA
  have HI := Lib.hid hI
  have HB0 := Lib.hid hb0
  have HWS := Lib.hid hWs
  have HWW := Lib.hid hW
  have hle := h.le
  have hr0 : r.length = n - 40 * l.length := by omega
  clear h hA hI hb0 hWs hW hc
  obtain ⟨m, hm⟩ : ∃ m, 40 * l.length = m := ⟨_, rfl⟩
  have hm2 : (l.length : Int) * 40 = (m : Int) := by omega
  have HM2 := Lib.hid hm2
  have HM := Lib.hid hm
  have HWR : Hid (wrap64 ((l.length : Int) * 40) = (m : Int)) := show _ = _ by rw [hm2]; unfold wrap64; omega
  clear hm2
  go_enter Tryd.func47, Tryd.ntmps47
  go_upto_region 1 with (fail)
  rw [← HWW.out]
  go_upto_region 2 with (fail)
  rw [HM2.out]
  refine wp_gen (fun A => Below W.heap.size W A ∧ VarI A W.heap.size (m : Int) ∧ A.heap.size = W.heap.size + 1) ⟨(Below.refl _ _).alloc (Nat.le_refl _) _, heap_new_at rfl, size_alloc _ _⟩ ?_
  rintro W2 ⟨b2, hv2, hs2⟩
  have HI2 := Lib.hid (HI.out.below b2)
  have hA2 : VarV W2 w.heap.size v := (b2.block _ (Array.getElem?_eq_some_iff.1 HA.out).1).trans HA.out
  have HA2 := Lib.hid hA2
  have cA2 := hA2.cell
  have cB2 := hv2.cell
  have HV2 := Lib.hid hv2
  have HB2 := Lib.hid (HB0.out.trans (b2.mono HB0.out.size))
  have hW2 : W2.heap.size = w.heap.size + 2 := by have := HWS.out; omega
  have HW2 := Lib.hid hW2
  have HWS2 := Lib.hid (show W.heap.size = w.heap.size + 1 from HWS.out)
  obtain ⟨B, hB⟩ : ∃ B, B = W.heap.size := ⟨_, rfl⟩
  obtain ⟨A, hA⟩ : ∃ A, A = w.heap.size := ⟨_, rfl⟩
  rw [← hB] at HV2 cB2 HWS2 ⊢
  rw [← hA] at HA2 cA2 HWS2 HW2 ⊢
  have HBA := Lib.hid hA
  clear hA2 hv2 b2 hs2 hW2 hB hA c1 cA HI HA HB0 HWS HWW HWR HM2
  have HF1 : Hid (∀ F, W2.heap.size ≤ F → ¬ S F ∧ F ≠ v) := show ∀ _, _ → _ from fun F hF => by
    have e2 := HW2.out
    have e3 := HBA.out
    exact ⟨fun s => by have := HD.out F (Or.inl s); omega, fun e => by have := HD.out F (Or.inr e); omega⟩
  have HF2 : Hid (∀ w1, Stays (fun k => S k ∨ k = v) W2 w1 → VarV w1 A v ∧ VarI w1 B (m : Int)) := show ∀ _, _ → _ from fun w1 hs => by
    have e1 := HWS2.out
    have e2 := HW2.out
    have e3 := HBA.out
    exact ⟨HA2.out.stay hs (fun s => by have := HD.out A s; omega), HV2.out.stay hs (fun s => by have := HD.out B s; omega)⟩
  by_cases hr : 0 < r.length
  · have q0 : (m : Int) < (n : Int) := by omega
    have hop := openVt_cut (d := d) (l := l) hr
    rw [HM.out] at hop
    have HOP := Lib.hid hop
    clear hop hr hr0 hn hle hn9 hm
    go_wp2_with (go_at_call 49; fail)
    have hb4 : Below W2.heap.size W2 (W2.alloc (.cells #[.func (.func 72) #[] #[.pointer (some ⟨A, 0, none⟩), .pointer (some ⟨B, 0, none⟩)]] 90)) := (Below.refl _ _).alloc (Nat.le_refl _) _
    refine (vtRun1 (d' := (d.cut 0 (m : Int)).1) (e1 := (d.cut 0 (m : Int)).2) 72 Tryd.f72 #[.pointer (some ⟨A, 0, none⟩), .pointer (some ⟨B, 0, none⟩)] 1 W2.heap.size _ (HI2.out.below hb4) (fns_new1 W2 _ _) (HF1.out _ (Nat.le_refl _)) Tryd.func72 (by kernel_rfl) (fun S1 w1 h1 hs => let hv := HF2.out w1 ((Below.stays hb4).trans hs (fun _ f _ => f)); vtSettle1_any (m : Int) h1 hv.1 hv.2 HC.out)).mono ?_
    rintro e w5 ⟨rfl, hg⟩
    have hg5 := VtGo.trans (S1 := S) (fun _ s => Or.inl s) (Below.stays (HB2.out.trans (hb4.mono HB2.out.size))) hg
    rw [Bool.false_or] at hg5
    have HG5 := Lib.hid hg5
    clear hg hg5 hb4
    go_wp2_with fail
    go_ret
    rw [HOP.out]
    exact ⟨rfl, HG5.out⟩
  · have q0 : ¬ (m : Int) < (n : Int) := by omega
    have hrz : r.length = 0 := by omega
    by_cases hl : 0 < l.length
    · have q1 : (0 : Int) < (n : Int) := by omega
      have HOP := Lib.hid (openVt_sync (d := d) hrz hl)
      clear hr hr0 hn hle hn9 hm hrz hl
      go_wp2_with (go_at_call 49; fail)
      have hb4 : Below W2.heap.size W2 (W2.alloc (.cells #[.func (.func 74) #[] #[.pointer (some ⟨A, 0, none⟩)]] 90)) := (Below.refl _ _).alloc (Nat.le_refl _) _
      refine (vtRun1 (d' := (d.sync 0).1) (e1 := (d.sync 0).2) 74 Tryd.f74 #[.pointer (some ⟨A, 0, none⟩)] 1 W2.heap.size _ (HI2.out.below hb4) (fns_new1 W2 _ _) (HF1.out _ (Nat.le_refl _)) Tryd.func74 (by kernel_rfl) (fun S1 w1 h1 hs => let hv := HF2.out w1 ((Below.stays hb4).trans hs (fun _ f _ => f)); vtSettle2_any h1 hv.1 HC.out)).mono ?_
      rintro e w5 ⟨rfl, hg⟩
      have hg5 := VtGo.trans (S1 := S) (fun _ s => Or.inl s) (Below.stays (HB2.out.trans (hb4.mono HB2.out.size))) hg
      rw [Bool.false_or] at hg5
      have HG5 := Lib.hid hg5
      clear hg hg5 hb4
      go_wp2_with fail
      go_ret
      rw [HOP.out]
      exact ⟨rfl, HG5.out⟩
    · have q1 : ¬ (0 : Int) < (n : Int) := by omega
      have HOP := Lib.hid (openVt_none (d := d) hrz (show l.length = 0 by omega))
      clear hr hr0 hn hle hn9 hm hrz hl
      go_wp2_with fail
      go_ret
      rw [HOP.out]
      exact ⟨rfl, VtGo.trans (S1 := S) (fun _ s => Or.inl s) (Below.stays HB2.out) (VtGo.refl HI2.out)⟩
end Go.Proofs.YtoidjapenompiaaDoor

/-
  The program's Open.
-/
namespace Go.Proofs.YtoidjapenompiaaDoor
open Go.RowKit Go.Proofs.ShaWords
theorem Own.slP {B n : Nat} {w : World} {l : List (BitVec 8)} {v : Value} (h : Own B w l v) (hn : l.length = n) : ∃ q c, v = .slice q n c ∧ n ≤ c ∧ c ≤ maxLen ∧ Lies w q l := by
  subst hn
  exact h.lies
theorem clear_own {B n c : Nat} {w : World} {l : List (BitVec 8)} {p : Option Addr} (h : Own B w l (.slice p n c)) (hn : l.length = n) :
    ∃ w1, (∀ ty, (Builtin.clear_ #[37] ty #[.slice p n c]).run Tryd.prog w = .ok (.tuple #[]) w1) ∧ Stays (fun k => (Value.slice p n c).ownBlock = some k) w w1 := by
  by_cases h0 : n = 0
  · subst h0
    exact ⟨w, fun ty => by cases p <;> simp [Builtin.clear_, run_underlying Tryd.underlying37], Stays.refl _ _⟩
  · rcases h.2 with ⟨he, h1⟩ | ⟨b, cap, cur, he, -⟩
    · omega
    · cases he
      obtain ⟨w1, h1, -, h3⟩ := clear_tail (k := 0) (h.lower (Nat.zero_le _)) hn (by omega)
      exact ⟨w1, h1, grown_stays h3 (fun k e => e)⟩
theorem Rem.stay {F : Nat → Prop} {w w' : World} (h : Rem w) (hs : Stays F w w') (hF : ¬ F 0) : Rem w' := range_of_block h (hs.block _ h.size hF)
theorem vault_zero : ∃ it z, Tryd.prog.info? 83 = some it ∧ it.zero = some z ∧ z.cells = (Value.pointer none :: (bytesV (noughts 2560) ++ [.int .i64 0, .bool false])).toArray := by
  have e : ((Tryd.prog.info? 83).bind (·.zero)).map (·.cells) = some (Value.pointer none :: (bytesV (noughts 2560) ++ [.int .i64 0, .bool false])).toArray := by kernel_rfl
  cases hi : Tryd.prog.info? 83 with
  | none => rw [hi] at e; cases e
  | some it =>
    rw [hi] at e
    cases hz : it.zero with
    | none => simp [hz] at e
    | some z =>
      simp only [Option.bind_some, hz, Option.map_some, Option.some.injEq] at e
      exact ⟨it, z, rfl, hz, e⟩
theorem vault_built (g : Nat) : Tryd.prog.built 83 [(0, .pointer (some ⟨g, 0, none⟩))] = some (vtC g (padV []) 0 false).toArray := by
  obtain ⟨fields, hu, hp⟩ : ∃ fields, Tryd.prog.underlying 83 = some (.struct fields) ∧ fields.toList.mapM (fun f => (Tryd.prog.info? f.type).map fun i => (f.offset, i.size)) = some [(0, 1), (1, 2560), (2561, 1), (2562, 1)] := ⟨_, Tryd.underlying83, by kernel_rfl⟩
  obtain ⟨it, z, hi, hz, hc⟩ := vault_zero
  unfold Program.built
  simp only [hi, hz, hu, hp, hc]
  have h := fill_seq ([(0, 1), (1, 2560), (2561, 1), (2562, 1)].toArray[·]?) [.pointer (some ⟨g, 0, none⟩)] 0 [] [.pointer none] (bytesV (noughts 2560) ++ [.int .i64 0, .bool false]) (by refine ⟨?_, trivial⟩; rfl) rfl
  simpa [vtC, Value.cells, padV_nil] using h
theorem run_buildVault {ρ : Operand → Value} {o : Oper} {x : Operand} {g : Nat} (ho : o.op = .build 83 #[(0, x)]) (hx : ρ x = .pointer (some ⟨g, 0, none⟩)) (w : World) :
    (execOp ρ o).run Tryd.prog w = .ok (.value (.agg (vtC g (padV []) 0 false).toArray)) w := by
  have hr := Go.run_build (P := Tryd.prog) w 83 #[(0, .pointer (some ⟨g, 0, none⟩))] _ (vault_built g)
  obtain ⟨dst, op, ty', pos, after, guard⟩ := o
  simp only at ho
  subst ho
  unfold execOp
  simp only [List.map_toArray, List.map_cons, List.map_nil, hx, Sem.run_bind, hr, Result.andThen_ok, Sem.run_pure]
theorem vtOpen_down (S : Nat → Prop) (g : Nat) (d : DiskM) (w : World) (h : DkAt S w g d) (hd : d.down = true) :
    Calls Tryd.prog 24 #[.pointer (some ⟨g, 0, none⟩)] w fun e w' => e = .returned (.tuple #[.pointer none, .int .i64 9]) ∧ w' = w := by
  have hx := dkDown_any S g d w h
  rw [hd] at hx
  have HX := Lib.hid hx
  clear h hx hd
  go_enter Tryd.func24, Tryd.ntmps24
  go_wp2_with fail
  refine HX.out.mono ?_
  rintro e w1 ⟨rfl, rfl⟩
  go_wp2_with fail
  go_ret2
  exact ⟨rfl, rfl⟩
theorem VtIn.keep {S F : Nat → Prop} {w w' : World} {v g : Nat} {d : DiskM} {l : List SlotV} {dead : Bool} (h : VtIn S w v g d l dead) (hs : Stays F w w') (hF : ∀ k, F k → ¬ (S k ∨ k = v)) : VtIn S w' v g d l dead :=
  ⟨h.disk.keep hs (fun k f s => hF k f (Or.inl s)), (hs.block v h.lt (fun f => hF v f (Or.inr rfl))).trans h.vt, h.out, h.le, h.slots⟩
/-- What Open leaves. -/
def OpV (S : Nat → Prop) (w : World) (g : Nat) (d : DiskM) (l : List SlotV) (err : Int) (e : Ending) (w' : World) : Prop :=
  (err = 0 ∧ ∃ v S', e = .returned (.tuple #[.pointer (some ⟨v, 0, none⟩), .int .i64 0]) ∧ w.heap.size ≤ v ∧ VtIn S' w' v g d l false ∧ (∀ k, S' k → S k ∨ w.heap.size ≤ k) ∧ Stays S w w') ∨
  (err ≠ 0 ∧ ∃ S', e = .returned (.tuple #[.pointer none, .int .i64 err]) ∧ DkAt S' w' g d ∧ (∀ k, S' k → S k ∨ w.heap.size ≤ k) ∧ Stays S w w')
set_option maxRecDepth 100000 in
set_option maxHeartbeats 1000000 in
theorem vtOpen_any (S : Nat → Prop) (g : Nat) (d : DiskM) (w : World) (l : List SlotV) (r : List (BitVec 8)) (h : DkAt S w g d) (hd : d.down = false) (hc : d.count < 1000000000) (hV : VtOf (d.files 0).all l r) (hR : Rem w) (hRS : ¬ S 0) :
    Calls Tryd.prog 24 #[.pointer (some ⟨g, 0, none⟩)] w fun e w' => OpV S w g (openVt d l r).1 l (openVt d l r).2 e w' := by
  have hx := dkDown_any S g d w h
  rw [hd] at hx
  have HX := Lib.hid hx
  have HD := Lib.hid h
  have HC := Lib.hid hc
  have HV := Lib.hid hV
  have HR := Lib.hid hR
  have HRS := Lib.hid hRS
  have HS : Hid (∀ k, S k → k < w.heap.size) := show ∀ _, _ → _ from fun k s => by obtain ⟨⟨vs, hv⟩, -⟩ := h; exact hv.dom k s
  obtain ⟨C, hC⟩ : ∃ C, (vtC g (padV []) 0 false).toArray = C := ⟨_, rfl⟩
  have HBV : Hid (∀ {ρ : Operand → Value} {o : Oper} {x : Operand}, o.op = .build 83 #[(0, x)] → ρ x = .pointer (some ⟨g, 0, none⟩) → ∀ w : World, (execOp ρ o).run Tryd.prog w = .ok (.value (.agg C)) w) := by
    rw [← hC]
    exact fun ho hx w => run_buildVault ho hx w
  have HCC := Lib.hid hC
  have hlen := hV.length
  have hsm : (d.files 0).all.length ≤ 262144 := file_small h.2.1 0 (by omega)
  have HLN : Hid ((d.files 0).all.length = 40 * l.length + r.length ∧ (d.files 0).all.length ≤ 262144) := show _ ∧ _ from ⟨hlen, hsm⟩
  clear h hx hd hc hV hR hRS hC hlen hsm
  go_enter Tryd.func24, Tryd.ntmps24
  go_wp2_with fail
  refine HX.out.mono ?_
  rintro e w1 ⟨rfl, rfl⟩
  clear HX
  go_upto_region 4 with (show wpList _ _ _ (⟨_, .build 83 _, _, _, _, _⟩ :: _) _ _; refine wpList_runV (by rfl) (HBV.out (x := .tmp 9) rfl rfl _) ?_)
  refine wp_gen (fun A => Below w.heap.size w A ∧ A.heap[w.heap.size]? = some (.cells C 83 (0, 0))) ⟨(Below.refl _ _).alloc (Nat.le_refl _) _, heap_new_at rfl⟩ ?_
  rintro A ⟨bA, hA⟩
  rw [← HCC.out] at hA
  have hI : VtIn S A w.heap.size g d [] false := ⟨HD.out.below bA, hA, fun s => by have := HS.out _ s; omega, by decide, fun s hs => by cases hs⟩
  have HI := Lib.hid hI
  have HBA := Lib.hid bA
  obtain ⟨v, hv⟩ : ∃ v, v = w.heap.size := ⟨_, rfl⟩
  rw [← hv] at HI ⊢
  have HVV := Lib.hid hv
  have HRD := Lib.hid (dkRead_any S g d 0 A HI.out.disk)
  clear hA hI bA hv HBV HCC
  go_wp2_with fail
  refine HRD.out.mono ?_
  rintro e w2 ⟨sv, rfl, ho, hb⟩
  have hrd : d.read 0 = (d.files 0).all := by unfold DiskM.read; rw [if_pos (by omega)]; rfl
  rw [hrd] at ho
  obtain ⟨n, hn⟩ : ∃ n, (d.files 0).all.length = n := ⟨_, rfl⟩
  obtain ⟨p, c, rfl, hnc, -, -⟩ := ho.slP hn
  have HO := Lib.hid ho
  have HB2 := Lib.hid hb
  have HN := Lib.hid hn
  have HI2 := Lib.hid (HI.out.below hb)
  have hoff : ∀ k, (Value.slice p n c).ownBlock = some k → ¬ (S k ∨ k = v) := fun k hk f => by
    have h1 := (World.ownsRow.lt ho k hk).1
    have h2 := HI.out.dom k f
    omega
  have HOFF := Lib.hid hoff
  have HTK := Lib.hid (vtTake_any (d.files 0).all l r n c p w2 HI2.out hn hnc HV.out (fun w' hs => by
    obtain ⟨_, _, e, -, -, hl⟩ := Own.slP (show Own A.heap.size w' (d.files 0).all (.slice p n c) from ownsRow_stays ho hs hoff) hn
    cases e
    exact hl) (fun w' hs => by
    have h1 := HR.out.on (HBA.out.trans (hb.mono HBA.out.size))
    refine Rem.stay h1 hs ?_
    rintro (f | f)
    · exact HRS.out f
    · have := HR.out.size; have := HVV.out; omega))
  clear ho hb hn hoff hrd HRD HI
  go_wp2_with fail
  refine HTK.out.mono ?_
  rintro e w3 ⟨rfl, hg3⟩
  have HG3 := Lib.hid hg3
  obtain ⟨S3, hI3, hS3, hst3⟩ := hg3
  have ho3 : Own A.heap.size w3 (d.files 0).all (.slice p n c) := ownsRow_stays HO.out hst3 HOFF.out
  obtain ⟨w4, hcl, hst4⟩ := clear_own ho3 HN.out
  have hF4 : ∀ k, (Value.slice p n c).ownBlock = some k → ¬ (S3 k ∨ k = v) := fun k hk f => by
    have h1 := World.ownsRow.lt HO.out k hk
    have h2 := HOFF.out k hk
    rcases f with f | f
    · rcases hS3 k f with f | f
      · exact h2 (Or.inl f)
      · omega
    · exact h2 (Or.inr f)
  have HI4 := Lib.hid (hI3.keep hst4 hF4)
  have hst : Stays S w w4 := by
    have a1 : Stays S w w2 := Below.stays (HBA.out.trans (HB2.out.mono HBA.out.size))
    have a2 : Stays S w w3 := a1.trans hst3 (fun k f hk => by
      rcases f with f | f
      · exact f
      · have := HVV.out; omega)
    exact a2.trans hst4 (fun k f hk => by
      have h1 := (World.ownsRow.lt HO.out k f).1
      have h2 := HBA.out.size
      omega)
  have HST := Lib.hid hst
  have HS3 := Lib.hid hS3
  have hws : w.heap.size ≤ w2.heap.size := Nat.le_trans HBA.out.size HB2.out.size
  have HWS := Lib.hid (And.intro hws trivial)
  have HSET := Lib.hid (vtSettle_any r n w4 HI4.out HC.out (by have := HLN.out; have := HN.out; omega) (by have := HLN.out; have := HN.out; omega))
  clear hI3 hS3 hst3 hst4 hF4 hst hws ho3 HTK HG3
  obtain ⟨d5, e5, hop⟩ : ∃ d5 e5, openVt d l r = (d5, e5) := ⟨_, _, rfl⟩
  rw [hop] at HSET
  have HOP := Lib.hid hop
  clear hop
  go_wp2_with (go_at_call 47; fail)
  refine HSET.out.mono ?_
  rintro e w5 ⟨rfl, S5, hI5, hS5, hst5⟩
  have HFIN : Hid (e5 = 0 → OpV S w g (openVt d l r).1 l (openVt d l r).2 (.returned (.tuple #[.pointer (some ⟨v, 0, none⟩), .int .i64 0])) w5) := show _ → _ from fun h0 => by
    subst h0
    rw [HOP.out]
    refine Or.inl ⟨rfl, v, S5, rfl, by rw [HVV.out]; exact Nat.le_refl _, hI5, fun k s => ?_, ?_⟩
    · rcases hS5 k s with s | s
      · exact (HS3.out k s).imp id (fun h => Nat.le_trans HWS.out.1 h)
      · exact Or.inr (Nat.le_trans HST.out.size s)
    · exact HST.out.trans hst5 (fun k f hk => by
        rcases f with f | f
        · exact (HS3.out k f).elim id (fun h => by have := HWS.out.1; omega)
        · have := HVV.out; omega)
  have HERR : Hid (e5 ≠ 0 → OpV S w g (openVt d l r).1 l (openVt d l r).2 (.returned (.tuple #[.pointer none, .int .i64 e5])) w5) := show _ → _ from fun h0 => by
    rw [HOP.out]
    refine Or.inr ⟨h0, S5, rfl, hI5.disk, fun k s => ?_, ?_⟩
    · rcases hS5 k s with s | s
      · exact (HS3.out k s).imp id (fun h => Nat.le_trans HWS.out.1 h)
      · exact Or.inr (Nat.le_trans HST.out.size s)
    · exact HST.out.trans hst5 (fun k f hk => by
        rcases f with f | f
        · exact (HS3.out k f).elim id (fun h => by have := HWS.out.1; omega)
        · have := HVV.out; omega)
  clear hI5 hS5 hst5 HSET
  by_cases h0 : e5 = 0
  · have HFIN2 := Lib.hid (HFIN.out h0)
    subst h0
    clear HERR
    go_wp2_with fail
    go_ret2
    exact HFIN2.out
  · have HERR2 := Lib.hid (HERR.out h0)
    have q0 : (e5 == 0) = false := beq_eq_false_iff_ne.2 h0
    clear HFIN HERR h0
    go_wp2_with fail
    go_ret2
    exact HERR2.out
end Go.Proofs.YtoidjapenompiaaDoor

/-
  The document's slots: a number's four bytes, a slot's bytes.
-/
namespace Go.Proofs.YtoidjapenompiaaDoor
open Go.RowKit Go.Proofs.ShaWords
theorem be8_four (m : Nat) (hm : m < 4294967296) : (be8 (m : Int)).drop 4 = be4 (BitVec.ofNat 32 m) := by
  have h : ∀ k, k ≤ 24 → BitVec.ofInt 8 ((m : Int) / 2 ^ k) = lo8 (BitVec.ofNat 32 m >>> k) := fun k _ => by
    apply BitVec.eq_of_toNat_eq
    rw [ofInt8_toNat]
    unfold lo8
    rw [BitVec.toNat_setWidth, BitVec.toNat_ushiftRight, BitVec.toNat_ofNat, Nat.mod_eq_of_lt (show m < 2 ^ 32 by omega), Nat.shiftRight_eq_div_pow]
    have e : (m : Int) / 2 ^ k = ((m / 2 ^ k : Nat) : Int) := by rw [Int.natCast_ediv]; norm_cast
    rw [e]
    generalize m / 2 ^ k = q
    show ((q : Int) % 256).toNat = q % 256
    omega
  have h24 := h 24 (by omega)
  have h16 := h 16 (by omega)
  have h8 := h 8 (by omega)
  have h0 := h 0 (by omega)
  show [BitVec.ofInt 8 ((m : Int) / 2 ^ 24), BitVec.ofInt 8 ((m : Int) / 2 ^ 16), BitVec.ofInt 8 ((m : Int) / 2 ^ 8), BitVec.ofInt 8 ((m : Int) / 2 ^ 0)] = _
  rw [h24, h16, h8, h0]
  rfl
theorem lies_dropV {w : World} {p : Option Addr} {l : List (BitVec 8)} (h : Lies w p l) (k : Nat) (hk : k < l.length) : ∃ b off, p = some ⟨b, off, none⟩ ∧ Lies w (some ⟨b, off + k, none⟩) (l.drop k) := by
  rcases h with h0 | ⟨b, off, rfl, hr⟩
  · rw [h0] at hk; cases hk
  · refine ⟨b, off, rfl, Or.inr ⟨b, off + k, rfl, fun j v hv => ?_⟩⟩
    rw [show off + k + j = off + (k + j) by omega]
    refine hr (k + j) v ?_
    unfold bytesV at hv ⊢
    rw [List.map_drop, List.getElem?_drop] at hv
    exact hv
theorem int11 (m : Nat) (hm : m < 4294967296) (w : World) : Calls Tryd.prog 83 #[.slice none 0 0, .int .i64 (m : Int)] w fun e w' => ∃ b off c, e = .returned (.slice (some ⟨b, off, none⟩) 8 c) ∧ 8 ≤ c ∧ Lies w' (some ⟨b, off + 4, none⟩) (be4 (BitVec.ofNat 32 m)) ∧ Below w.heap.size w w' := by
  have h8 : ([] ++ be8 (m : Int) : List (BitVec 8)).length = 8 := be8_length _
  refine (intR_any (m : Int) [] 0 none 0 w rfl (by omega) (Or.inl rfl)).mono ?_
  rintro e w1 ⟨r, rfl, ho, hb⟩
  obtain ⟨p, c, rfl, h1, -, hl⟩ := ho.lies
  obtain ⟨b, off, rfl, hd⟩ := lies_dropV hl 4 (by omega)
  rw [h8] at h1 ⊢
  refine ⟨b, off, c, rfl, h1, ?_, hb⟩
  rw [← be8_four m hm]
  exact hd
theorem refFour11_any (m : Nat) (hm : m < 4294967296) (w : World) : Calls Tryd.prog 80 #[.int .i64 (m : Int)] w fun e w' => ∃ q c, e = .returned (.slice q 4 c) ∧ Lies w' q (be4 (BitVec.ofNat 32 m)) ∧ Below w.heap.size w w' := by
  have HI := Lib.hid (int11 m hm w)
  clear hm
  go_enter Tryd.func80, Tryd.ntmps80
  go_wp2_with (go_at_call 83; go_loud (refine HI.out.mono ?_; rintro e w1 ⟨b, off, c, rfl, hc, hd, hb⟩; have HD := Lib.hid hd; have HB := Lib.hid hb; clear hd hb))
  go_ret
  exact ⟨_, _, rfl, HD.out, HB.out⟩
theorem own_blockV {B g n : Nat} {w : World} {l : List (BitVec 8)} (hB : B ≤ g) (h : BytesAt w g 5 l) (hn : l.length = n) (hm : n ≤ maxLen) : Own B w l (.slice (some ⟨g, 0, none⟩) n n) := by
  subst hn
  exact ⟨by rw [bytesV_length, Nat.mul_one], Or.inr ⟨g, l.length, (bytesV l).toArray, rfl, hB, h, Nat.le_refl _, hm, by rw [bytesV_size _ _ rfl, Nat.mul_one], by rw [Nat.mul_one]; exact List.take_of_length_le (by show (bytesV l).length ≤ _; rw [bytesV_length]; exact Nat.le_refl _)⟩⟩
theorem wpList_make_bytesV {ops : Array Oper} {rest : List Oper} {o : Oper} {a : Act} {w : World} {Q : Exit → Act → World → Prop} (hg : o.guard = none) (l c : Operand) (hop : o.op = Op.makeSlice 37 l c) (n : Nat) (L : Int)
    (hl : a.eval l = .int .i64 L) (hc : a.eval c = .int .i64 L) (hL : L = (n : Int)) (b2 : n ≤ 140737488355327)
    (hK : ∀ w', Own w.heap.size w' (noughts n) (.slice (some ⟨w.heap.size, 0, none⟩) n n) → Below w.heap.size w w' → wpList Tryd.prog ops Q rest (a.put o.dst (.slice (some ⟨w.heap.size, 0, none⟩) n n)) w') : wpList Tryd.prog ops Q (o :: rest) a w := by
  obtain ⟨i, hi, hz, hsz, hby⟩ := info5'
  exact wpList_make_any hg l c 37 hop 5 i (.int .u8 0) Tryd.underlying37 hi hz hsz hby .i64 .i64 L L n n hl hc hL hL (Nat.le_refl _) (by omega) _ (made_noughts n) (fun w' h1 h2 => hK w' (own_blockV (Nat.le_refl _) h1 (noughts_length n) (by unfold maxLen; omega)) h2)
/-- A slot as the document has it. -/
def slotC (k : List (BitVec 8)) (g : Bool) : List Value := bytesV k ++ [.bool g]
theorem slotC_at {k : List (BitVec 8)} (g : Bool) (h : k.length = 32) : (slotC k g).length = 33 ∧ (slotC k g)[32]? = some (.bool g) ∧ ∀ j, (hj : j < 32) → (slotC k g)[j]? = some (.int .u8 (n8 (k[j]'(by omega)))) := by
  have hb : (bytesV k).length = 32 := by rw [bytesV_length, h]
  refine ⟨by unfold slotC; rw [List.length_append, hb]; rfl, ?_, fun j hj => ?_⟩
  · unfold slotC
    rw [List.getElem?_append_right (by omega), hb]; rfl
  · unfold slotC
    rw [List.getElem?_append_left (by omega)]
    unfold bytesV
    rw [List.getElem?_map, List.getElem?_eq_getElem (by omega)]
    rfl
theorem u32_conv (x : BitVec 32) : wrap64 (n32 x) = ((x.toNat : Nat) : Int) := by
  have := x.isLt
  unfold n32 wrap64
  omega
set_option maxHeartbeats 1000000 in
theorem rfBytes_any (k : List (BitVec 8)) (g : Bool) (n : Nat) (hk : k.length = 32) (hn : n < 4294967296) (w : World) :
    Calls Tryd.prog 70 #[.agg (slotC k g).toArray, .int .i64 (n : Int)] w fun e w' => ∃ v, e = .returned v ∧ Own w.heap.size w' (slotB (if g = true then none else some k) n) v ∧ Below w.heap.size w w' := by
  obtain ⟨hlen, hg, hby⟩ := slotC_at g hk
  obtain ⟨W, hW⟩ : ∃ W, W = w.alloc (.cells (slotC k g).toArray 86) := ⟨_, rfl⟩
  have hrow : W.heap[w.heap.size]? = some (.cells (slotC k g).toArray 86 (0, 0)) := by rw [hW]; exact heap_new_at rfl
  have hcell : ∀ j v, (slotC k g)[j]? = some v → W.cell? ⟨w.heap.size, j, none⟩ = some v := fun j v h => by
    rw [cell_of_row W w.heap.size j _ _ _ hrow]; simpa using h
  have hgone := hcell 32 _ hg
  have HBY := Lib.hid fun j hj => hcell j _ (hby j hj)
  have HB0 : Hid (Below w.heap.size w W) := show Below _ _ _ by rw [hW]; exact (Below.refl _ _).alloc (Nat.le_refl _) _
  have hsz : W.heap.size = w.heap.size + 1 := by rw [hW, size_alloc]
  have HSZ := Lib.hid hsz
  have hrow' := Lib.hid hrow
  have HWW := Lib.hid hW
  have HF := Lib.hid fun m hm w => refFour11_any m hm w
  clear hW hcell hby hg hrow hsz
  go_enter Tryd.func70, Tryd.ntmps70
  go_upto_region 1 with (fail)
  rw [← HWW.out]
  cases g with
  | true =>
    go_wp2_with (at_make; refine wpList_make_bytesV rfl _ _ rfl 40 _ rfl rfl rfl (by omega) ?_; intro w1 h1 b1; have HO1 := Lib.hid (show Own w.heap.size w1 (noughts 40) _ from h1.lower (by have := HSZ.out; omega)); have HB1 := Lib.hid (show Below w.heap.size w w1 from HB0.out.trans (b1.mono (by have := HSZ.out; omega))); clear h1 b1)
    go_ret
    exact ⟨_, rfl, HO1.out, HB1.out⟩
  | false =>
    go_wp2_with fail
    go_loopw [5, 6] (fun b i wr => ∃ j : Nat, j ≤ 32 ∧ i = .int .i64 (j : Int) ∧ Own W.heap.size wr (k.take j) b ∧ Below W.heap.size W wr) (fun _ i _ => 32 - (intOf i).toNat)
    case atStart => exact ⟨0, by omega, rfl, Own.nil _ _, Below.refl _ _⟩
    case round =>
      obtain ⟨j, hj, rfl, ho, hb⟩ := hrel
      have HO := Lib.hid ho; clear ho
      have HB := Lib.hid hb; clear hb
      have sz := HB.out.size
      by_cases hlt : j < 32
      · have q0 : (j : Int) < 32 := by omega
        have hc := (HB.out.block w.heap.size (by have := HSZ.out; omega)).trans hrow'.out
        have hcj : wr.cell? ⟨w.heap.size, j, none⟩ = some (.int .u8 (n8 (k[j]'(by omega)))) := by
          rw [cell_of_row wr w.heap.size j _ _ _ hc]; simpa using (slotC_at false hk).2.2 j hlt
        have HBT := Lib.hid (List.take_succ_eq_append_getElem (l := k) (i := j) (by omega))
        generalize k[j]'(by omega) = x at hcj HBT
        have HLE : Hid ((k.take j).length < 140737488355328) := show _ < _ by rw [List.length_take]; omega
        clear hc
        go_wp2_with (at_builtin; refine wpList_append_byte_big rfl (.tmp 14) (.tmp 19) rfl W.heap.size _ (k.take j) x rfl HO.out rfl HLE.out HB.out.size ?_; intro v' w' ho' hb'; rw [← HBT.out] at ho'; have HO' := Lib.hid ho'; have HB' := Lib.hid (HB.out.trans hb'); clear ho' hb')
        go_roundw
        case rel => exact ⟨j + 1, by omega, by go_num, HO'.out, HB'.out⟩
        case measure => simp [intOf]; omega
      · obtain rfl : j = 32 := by omega
        have hk32 : k.take 32 = k := List.take_of_length_le (by omega)
        rw [hk32] at HO
        have hs0 : w.heap.size ≤ W.heap.size := by have := HSZ.out; omega
        have HS0 := Lib.hid hs0
        have HN := Lib.hid hn
        have HK := Lib.hid hk
        clear hk32 hs0 hn HBY
        clear hk
        go_wp2_with (first
          | (go_at_call 80; refine (HF.out n HN.out wr).mono ?_; rintro e w2 ⟨q2, c2, rfl, l2, b2⟩; have HL2 := Lib.hid l2; have HO2 := Lib.hid (HO.out.below b2); have HB2 : Hid (Below W.heap.size W w2) := show Below _ _ _ from HB.out.trans (b2.mono sz); have hs2 := HB2.out.size; clear l2 b2)
          | (at_builtin; refine wpList_append_listB rfl (.tmp 21) (.tmp 23) rfl W.heap.size _ k (be4 (BitVec.ofNat 32 n)) _ _ rfl HO2.out rfl HL2.out (by rw [HK.out]; simp [be4_length]) hs2 ?_; intro v3 w3 h3 b3; have HO3 := Lib.hid h3; have HB3 := Lib.hid (HB2.out.trans b3); have hs3 := HB3.out.size; clear h3 b3))
        have h3 : Own W.heap.size w3 (slotH k n) v3 := HO3.out
        have hlen : (slotH k n).length = 36 := slotH_length HK.out n
        obtain ⟨q4, c4, rfl, -, -, l4⟩ := h3.lies
        have HO5 := Lib.hid h3
        rw [hlen]
        refine (refSum9_any (slotH k n) 36 q4 c4 w3 hlen (by omega) l4).mono ?_
        rintro e w5 ⟨rfl, rfl⟩
        rw [hlen] at HO5
        have HLEN := Lib.hid hlen
        have HCV := Lib.hid (u32_conv (crcOf (slotH k n)))
        have HCR : Hid (BitVec.ofNat 32 (crcOf (slotH k n)).toNat = crcOf (slotH k n)) := show _ = _ by simp
        have HLT := Lib.hid (crcOf (slotH k n)).isLt
        clear h3 l4 HO3 hlen
        have hbs : slotB (some k) n = slotH k n ++ be4 (crcOf (slotH k n)) := rfl
        have HBS := Lib.hid hbs; clear hbs
        have HRES := Lib.hid HB3.out
        generalize crcOf (slotH k n) = x at *
        go_wp2_with (first
          | (go_at_call 80; rw [HCV.out]; refine (HF.out x.toNat HLT.out w5).mono ?_; rintro e w6 ⟨q6, c6, rfl, l6, b6⟩; rw [HCR.out] at l6; have HL6 := Lib.hid l6; have HO6 := Lib.hid (HO5.out.below b6); have HB6 : Hid (Below W.heap.size W w6) := show Below _ _ _ from HB3.out.trans (b6.mono hs3); have hs6 := HB6.out.size; clear l6 b6)
          | (at_builtin; refine wpList_append_listB rfl (.tmp 25) (.tmp 29) rfl W.heap.size _ (slotH k n) (be4 x) _ _ rfl HO6.out rfl HL6.out (by rw [HLEN.out]; simp [be4_length]) hs6 ?_; intro v7 w7 h7 b7; have HO7 := Lib.hid h7; have HB7 := Lib.hid (HB6.out.trans b7); clear h7 b7))
        go_ret
        refine ⟨_, rfl, ?_, HB0.out.trans (HB7.out.mono HS0.out)⟩
        show Own w.heap.size _ (slotB (some k) n) _
        rw [HBS.out]
        exact HO7.out.lower HS0.out
end Go.Proofs.YtoidjapenompiaaDoor

/-
  The document's slot that forty bytes are.
-/
namespace Go.Proofs.YtoidjapenompiaaDoor
open Go.RowKit Go.Proofs.ShaWords
/-- The slot that forty bytes say, if they are a slot's. -/
def rdS (bs : List (BitVec 8)) : SlotV := if bs = noughts 40 then none else some (bs.take 32)
def rdOk (bs : List (BitVec 8)) (n : Nat) : Bool := decide (slotB (rdS bs) n = bs)
theorem rdS_ok {bs : List (BitVec 8)} (h : bs.length = 40) : SlotOk (rdS bs) := fun k e => by
  unfold rdS at e
  split at e
  · cases e
  · cases e; rw [List.length_take]; omega
theorem rdS_of {s : SlotV} (hs : SlotOk s) {n : Nat} (h1 : 1 ≤ n) (h2 : n < 4294967296) : rdS (slotB s n) = s := by
  unfold rdS
  cases s with
  | none => exact if_pos rfl
  | some k =>
    have h := slotB_key (hs k rfl) h1 h2
    rw [if_neg (show ¬ slotB (some k) n = noughts 40 from h), slotB_take (hs k rfl)]
theorem rdOk_of {s : SlotV} (hs : SlotOk s) {n : Nat} (h1 : 1 ≤ n) (h2 : n < 4294967296) : rdOk (slotB s n) n = true := by
  unfold rdOk
  rw [rdS_of hs h1 h2]
  exact decide_eq_true rfl
/-- A slot's key, 0 throughout where it was erased. -/
def vkeyOf (s : SlotV) : List (BitVec 8) := s.getD (noughts 32)
def slotRf (s : SlotV) : List Value := slotC (vkeyOf s) s.isNone
theorem slotRf_rd (bs : List (BitVec 8)) : slotC (bs.take 32) (decide (bs = noughts 40)) = slotRf (rdS bs) := by
  unfold slotRf rdS vkeyOf
  by_cases e : bs = noughts 40
  · rw [if_pos e, decide_eq_true e, e]
    rfl
  · rw [if_neg e, decide_eq_false e]
    rfl
/-- The first j bytes have been looked at. -/
def keyJ (bs : List (BitVec 8)) (j : Nat) : List (BitVec 8) := bs.take (min j 32) ++ noughts (32 - min j 32)
def goneJ (bs : List (BitVec 8)) (j : Nat) : Bool := decide (bs.take j = noughts j)
theorem keyJ_length {bs : List (BitVec 8)} (h : bs.length = 40) (j : Nat) : (keyJ bs j).length = 32 := by
  unfold keyJ
  rw [List.length_append, List.length_take, noughts_length]; omega
theorem keyJ_zero (bs : List (BitVec 8)) : keyJ bs 0 = noughts 32 := by unfold keyJ; simp
theorem keyJ_stay (bs : List (BitVec 8)) {j : Nat} (h : 32 ≤ j) : keyJ bs (j + 1) = keyJ bs j := by
  unfold keyJ
  rw [show min (j + 1) 32 = min j 32 by omega]
theorem keyJ_all {bs : List (BitVec 8)} : keyJ bs 40 = bs.take 32 := by
  unfold keyJ
  show bs.take 32 ++ noughts 0 = _
  simp [noughts]
theorem keyJ_step {bs : List (BitVec 8)} (h : bs.length = 40) {j : Nat} (hj : j < 32) : (keyJ bs j).set j (bs[j]'(by omega)) = keyJ bs (j + 1) := by
  unfold keyJ
  rw [Nat.min_eq_left (show j ≤ 32 by omega), Nat.min_eq_left (show j + 1 ≤ 32 by omega)]
  have hl : (bs.take j).length = j := by rw [List.length_take]; omega
  rw [List.set_append_right _ _ (by omega), hl, Nat.sub_self, List.take_succ_eq_append_getElem (by omega), List.append_assoc]
  congr 1
  unfold noughts
  rw [show 32 - j = (32 - (j + 1)) + 1 by omega, List.replicate_succ]
  rfl
theorem goneJ_step {bs : List (BitVec 8)} (h : bs.length = 40) {j : Nat} (hj : j < 40) : goneJ bs (j + 1) = (goneJ bs j && decide (bs[j]'(by omega) = 0#8)) := by
  unfold goneJ
  rw [List.take_succ_eq_append_getElem (by omega)]
  have e : noughts (j + 1) = noughts j ++ [0#8] := by unfold noughts; rw [List.replicate_succ']
  rw [e, Bool.eq_iff_iff, Bool.and_eq_true, decide_eq_true_iff, decide_eq_true_iff, decide_eq_true_iff]
  constructor
  · intro h2
    have h3 := List.append_inj h2 (by rw [List.length_take, noughts_length]; omega)
    exact ⟨h3.1, by simpa using h3.2⟩
  · rintro ⟨h1, h2⟩
    rw [h1, h2]
/-- The slot's block. -/
structure RdW (w1 : World) (A : Nat) (k : List (BitVec 8)) (g : Bool) (wr : World) : Prop where
  row : wr.heap[A]? = some (.cells (slotC k g).toArray 86 (0, 0))
  below : Below A w1 wr
theorem RdW.gone {w1 wr : World} {A : Nat} {k : List (BitVec 8)} {g : Bool} (h : RdW w1 A k g wr) (hk : k.length = 32) (g' : Bool) : RdW w1 A k g' (wr.setCell ⟨A, 32, none⟩ (.bool g')) := by
  refine ⟨?_, h.below.setCell (p := ⟨A, 32, none⟩) (Nat.le_refl _) _⟩
  have h1 := heap_setCell_same wr A 32 _ _ (.bool g') h.row
  rw [h1]
  congr 2
  unfold slotC
  rw [List.setIfInBounds_toArray, List.set_append_right _ _ (by rw [bytesV_length]; omega), bytesV_length, hk]
  rfl
theorem RdW.key {w1 wr : World} {A : Nat} {k : List (BitVec 8)} {g : Bool} (h : RdW w1 A k g wr) {j : Nat} (hj : j < k.length) (x : BitVec 8) : RdW w1 A (k.set j x) g (wr.setCell ⟨A, j, none⟩ (.int .u8 (n8 x))) := by
  refine ⟨?_, h.below.setCell (p := ⟨A, j, none⟩) (Nat.le_refl _) _⟩
  have h1 := heap_setCell_same wr A j _ _ (.int .u8 (n8 x)) h.row
  rw [h1]
  congr 2
  unfold slotC
  rw [List.setIfInBounds_toArray, List.set_append_left _ _ (by rw [bytesV_length]; omega)]
  unfold bytesV
  rw [List.map_set]
theorem RdW.cell {w1 wr : World} {A : Nat} {k : List (BitVec 8)} {g : Bool} (h : RdW w1 A k g wr) (hk : k.length = 32) : wr.cell? ⟨A, 32, none⟩ = some (.bool g) ∧ ∀ j, (hj : j < 32) → wr.cell? ⟨A, j, none⟩ = some (.int .u8 (n8 (k[j]'(by omega)))) := by
  obtain ⟨-, h1, h2⟩ := slotC_at g hk
  refine ⟨?_, fun j hj => ?_⟩
  · rw [cell_of_row wr A 32 _ _ _ h.row]; simpa using h1
  · rw [cell_of_row wr A j _ _ _ h.row]; simpa using h2 j hj
theorem RdW.thaw {w1 wr : World} {A : Nat} {k : List (BitVec 8)} {g : Bool} (h : RdW w1 A k g wr) (j : Nat) : wr.frozen? ⟨A, j, none⟩ = false := frozen_of_row _ _ _ _ _ h.row
theorem slotC_size {k : List (BitVec 8)} (h : k.length = 32) (g : Bool) : (slotC k g).toArray.size = 33 := (slotC_at g h).1
theorem slotC_ones (k : List (BitVec 8)) (g : Bool) : (slotC k g).toArray.all (·.oneCell') = true := by
  simp only [List.all_toArray, List.all_eq_true]
  intro x hx
  unfold slotC at hx
  rcases List.mem_append.1 hx with hx | hx
  · obtain ⟨b, -, rfl⟩ := List.mem_map.1 hx; rfl
  · rw [List.mem_singleton.1 hx]; rfl
theorem sizeSlot11 : (Tryd.prog.info? 86).map (·.size) = some 33 := by kernel_rfl
theorem size_slot {C : Array Value} (h : C.size = 33) : (Tryd.prog.info? 86).map (·.size) = some C.size := by rw [h]; exact sizeSlot11
theorem results_slot {tmps : Array Value} {w : World} {T : Nat} {C : Array Value} {x : Value} (hp : tmps.getD 4 undef = .pointer (some ⟨T, 0, none⟩)) (hx : tmps.getD 5 undef = x) (hC : w.heap[T]? = some (.cells C 86 (0, 0))) (hs : C.size = 33) :
    (results Tryd.f64 tmps).run Tryd.prog w = .ok (.tuple #[.agg C, x]) w := by
  rw [results_cell_tmp Tryd.results64, hp, hx]
  have h := run_loadVar_row (P := Tryd.prog) w T 86 86 C (0, 0) _ hC Tryd.underlying86 rfl (size_slot hs)
  simp only [asAddr, Sem.run_pure, Result.andThen_ok, h]
theorem zeroSlot_built : Tryd.prog.built 86 [] = some (slotC (noughts 32) false).toArray := by kernel_rfl
/-- What read tells. -/
def rdV (bs : List (BitVec 8)) (n : Nat) : Value := .tuple #[.agg (if rdOk bs n = true then slotRf (rdS bs) else slotC (noughts 32) false).toArray, .bool (rdOk bs n)]
theorem rdV_yes {bs : List (BitVec 8)} {n : Nat} (h : rdOk bs n = true) : rdV bs n = .tuple #[.agg (slotRf (rdS bs)).toArray, .bool true] := by unfold rdV; rw [h]; rfl
theorem rdV_no {bs : List (BitVec 8)} {n : Nat} (h : rdOk bs n = false) : rdV bs n = .tuple #[.agg (slotC (noughts 32) false).toArray, .bool false] := by unfold rdV; rw [h]; rfl
attribute [local irreducible] rdV in
set_option maxRecDepth 100000 in
set_option maxHeartbeats 2000000 in
theorem rfRead11_any (bs : List (BitVec 8)) (n : Nat) (p : Option Addr) (c : Nat) (hb : bs.length = 40) (hn : n < 4294967296) (w : World) (hp : Lies w p bs) :
    Calls Tryd.prog 64 #[.slice p 40 c, .int .i64 (n : Int)] w fun e w' => e = .returned (rdV bs n) ∧ Below w.heap.size w w' := by
  have HP := Lib.hid hp; clear hp
  go_enter Tryd.func64, Tryd.ntmps64
  have HB := Lib.hid hb
  have HNN := Lib.hid hn
  clear hn
  obtain ⟨W0, hW0⟩ : ∃ W0, W0 = w.alloc (.cells (slotC (noughts 32) false).toArray 86) := ⟨_, rfl⟩
  have HW0 : Hid (W0.heap.size = w.heap.size + 1 ∧ Below w.heap.size w W0 ∧ W0.heap[w.heap.size]? = some (.cells (slotC (noughts 32) false).toArray 86 (0, 0))) := show _ ∧ _ ∧ _ from ⟨by rw [hW0, size_alloc], by rw [hW0]; exact (Below.refl _ _).alloc (Nat.le_refl _) _, by rw [hW0]; exact heap_new_at rfl⟩
  have H0 : Hid (RdW W0 (w.heap.size + 1) (keyJ bs 0) (goneJ bs 0) (W0.alloc (.cells (slotC (noughts 32) true).toArray 86))) := show RdW _ _ _ _ _ from by
    have e : goneJ bs 0 = true := by unfold goneJ; simp [noughts]
    rw [keyJ_zero, e]
    exact ⟨heap_new_at HW0.out.1, (Below.refl _ _).alloc (Nat.le_of_eq HW0.out.1.symm) _⟩
  rw [hW0] at H0
  have HW := Lib.hid hW0
  clear hW0
  go_wp2_with fail
  go_loopw [7] (fun i wr => ∃ j : Nat, j ≤ 40 ∧ i = .int .i64 (j : Int) ∧ RdW W0 (w.heap.size + 1) (keyJ bs j) (goneJ bs j) wr) (fun i _ => 40 - (intOf i).toNat)
  case atStart => exact ⟨0, by omega, rfl, by rw [HW.out]; exact H0.out⟩
  case round =>
    clear H0
    obtain ⟨j, hj, rfl, hR⟩ := hrel
    have hkl := keyJ_length HB.out j
    have HR := Lib.hid hR
    have hw0 := HW0.out.1
    have hbel : Below w.heap.size w wr := HW0.out.2.1.trans (hR.below.mono (by omega))
    by_cases hlt : j < 40
    · have hlt' : j < bs.length := by omega
      have q0 : (j : Int) < 40 := by omega
      have hv : (bytesV bs)[j]? = some (.int .u8 (n8 bs[j])) := by simp [bytesV, hlt']
      rcases HP.out with h0 | ⟨b, off, rfl, hr⟩
      · exfalso; rw [h0] at hlt'; simp at hlt'
      have hbl := World.block_lt_of_cell? w _ (hr j _ hv)
      have hc := (hbel.cell (p := ⟨b, off + j, none⟩) hbl).trans (hr j _ hv)
      have hg := (hR.cell hkl).1
      have ht := hR.thaw 32
      have hne : w.heap.size + 1 ≠ b := by have : b < w.heap.size := hbl; omega
      have HGS := Lib.hid (goneJ_step HB.out hlt)
      have HKS : Hid (∀ h32 : j < 32, (keyJ bs j).set j bs[j] = keyJ bs (j + 1)) := show ∀ _, _ from fun h32 => keyJ_step HB.out h32
      have HKT : Hid (¬ j < 32 → keyJ bs (j + 1) = keyJ bs j) := show _ → _ from fun h32 => keyJ_stay bs (by omega)
      generalize bs[j] = x at hc hv HGS HKS
      have HG : Hid (∀ g', RdW W0 (w.heap.size + 1) (keyJ bs j) g' (wr.setCell ⟨w.heap.size + 1, 32, none⟩ (.bool g'))) := show ∀ _, _ from fun g' => hR.gone hkl g'
      have hc2 : ∀ g', (wr.setCell ⟨w.heap.size + 1, 32, none⟩ (.bool g')).cell? ⟨b, off + j, none⟩ = some (.int .u8 (n8 x)) := fun g' => by
        rw [World.cell?_setCell_far _ _ _ _ hne]; exact hc
      have ht2 : ∀ g', (wr.setCell ⟨w.heap.size + 1, 32, none⟩ (.bool g')).frozen? ⟨w.heap.size + 1, j, none⟩ = false := fun g' => (hR.gone hkl g').thaw j
      have hk2 : ∀ g', (h32 : j < 32) → (wr.setCell ⟨w.heap.size + 1, 32, none⟩ (.bool g')).cell? ⟨w.heap.size + 1, j, none⟩ = some (.int .u8 (n8 ((keyJ bs j)[j]'(by omega)))) := fun g' h32 => ((hR.gone hkl g').cell hkl).2 j h32
      clear hR hv hr hbel hne hbl hlt' hw0
      generalize goneJ bs j = g at *
      have hfin : ∀ g', g' = (g && decide (x = 0#8)) → ∀ w2, w2 = wr.setCell ⟨w.heap.size + 1, 32, none⟩ (.bool g') → (j < 32 → RdW W0 (w.heap.size + 1) (keyJ bs (j + 1)) (goneJ bs (j + 1)) (w2.setCell ⟨w.heap.size + 1, j, none⟩ (.int .u8 (n8 x)))) ∧ (¬ j < 32 → RdW W0 (w.heap.size + 1) (keyJ bs (j + 1)) (goneJ bs (j + 1)) w2) := fun g' e w2 hw2 => by
        rw [HGS.out, ← e, hw2]
        exact ⟨fun h32 => by rw [← HKS.out h32]; exact (HG.out g').key (by rw [hkl]; exact h32) x, fun h32 => by rw [HKT.out h32]; exact HG.out g'⟩
      have HFIN := Lib.hid hfin
      clear hfin
      by_cases h32 : j < 32
      · have q32 : (j : Int) < 32 := by omega
        cases g with
        | false =>
          have hcf := hc2 false
          have htf := ht2 false
          have hkf := hk2 false h32
          generalize (keyJ bs j)[j]'(by omega) = y at hkf
          clear hc2 ht2 hk2
          go_wp2_with fail
          go_roundw
          case rel => exact ⟨j + 1, by omega, by go_num, (HFIN.out false rfl _ rfl).1 h32⟩
          case measure => simp [intOf]; omega
        | true =>
          by_cases hx : x = 0#8
          · subst hx
            have hcf := hc2 true
            have htf := ht2 true
            have hkf := hk2 true h32
            generalize (keyJ bs j)[j]'(by omega) = y at hkf
            have hn0 : n8 0#8 = 0 := rfl
            rw [hn0] at hc hcf
            clear hc2 ht2 hk2
            go_wp2_with fail
            go_roundw
            case rel => exact ⟨j + 1, by omega, by go_num, (HFIN.out true rfl _ rfl).1 h32⟩
            case measure => simp [intOf]; omega
          · have hcf := hc2 false
            have htf := ht2 false
            have hkf := hk2 false h32
            generalize (keyJ bs j)[j]'(by omega) = y at hkf
            have hn0 : (n8 x == 0) = false := beq_eq_false_iff_ne.2 (show n8 x ≠ 0 from n8_eq hx)
            have HE : Hid (false = (true && decide (x = 0#8))) := show _ = _ by rw [decide_eq_false hx]; rfl
            clear hc2 ht2 hk2 hx
            go_wp2_with fail
            go_roundw
            case rel => exact ⟨j + 1, by omega, by go_num, (HFIN.out false HE.out _ rfl).1 h32⟩
            case measure => simp [intOf]; omega
      · have q32 : ¬ (j : Int) < 32 := by omega
        clear ht2 hk2
        cases g with
        | false =>
          have hcf := hc2 false
          clear hc2
          go_wp2_with fail
          go_roundw
          case rel => exact ⟨j + 1, by omega, by go_num, (HFIN.out false rfl _ rfl).2 h32⟩
          case measure => simp [intOf]; omega
        | true =>
          by_cases hx : x = 0#8
          · subst hx
            have hcf := hc2 true
            have hn0 : n8 0#8 = 0 := rfl
            rw [hn0] at hc hcf
            clear hc2
            go_wp2_with fail
            go_roundw
            case rel => exact ⟨j + 1, by omega, by go_num, (HFIN.out true rfl _ rfl).2 h32⟩
            case measure => simp [intOf]; omega
          · have hcf := hc2 false
            have hn0 : (n8 x == 0) = false := beq_eq_false_iff_ne.2 (show n8 x ≠ 0 from n8_eq hx)
            have HE : Hid (false = (true && decide (x = 0#8))) := show _ = _ by rw [decide_eq_false hx]; rfl
            clear hc2 hx
            go_wp2_with fail
            go_roundw
            case rel => exact ⟨j + 1, by omega, by go_num, (HFIN.out false HE.out _ rfl).2 h32⟩
            case measure => simp [intOf]; omega
    · obtain rfl : j = 40 := by omega
      have hk32 : (bs.take 32).length = 32 := by rw [List.length_take]; omega
      have hge : goneJ bs 40 = decide (bs = noughts 40) := by unfold goneJ; rw [List.take_of_length_le (by omega)]
      rw [keyJ_all, hge] at hR
      have HROW := Lib.hid hR.row
      have HCS := Lib.hid (slotC_size hk32 (decide (bs = noughts 40)))
      have HIO := Lib.hid (size_slot HCS.out)
      have HBY := Lib.hid (rfBytes_any (bs.take 32) (decide (bs = noughts 40)) n hk32 HNN.out wr)
      have hS : (if decide (bs = noughts 40) = true then none else some (bs.take 32)) = rdS bs := by
        unfold rdS
        by_cases e : bs = noughts 40
        · rw [if_pos e, if_pos (decide_eq_true e)]
        · rw [if_neg e, if_neg (by rw [decide_eq_false e]; decide)]
      have HS := Lib.hid hS
      have HRF := Lib.hid (slotRf_rd bs)
      have HWB := Lib.hid hbel
      have HSL : Hid ((slotB (rdS bs) n).length = 40) := show _ = _ from slotB_length (rdS_ok HB.out) n
      have HA0 : Hid (wr.heap[w.heap.size]? = some (.cells (slotC (noughts 32) false).toArray 86 (0, 0))) := show _ = _ from (hR.below.block _ (by omega)).trans HW0.out.2.2
      have HAlt : Hid (w.heap.size < wr.heap.size ∧ w.heap.size + 1 < wr.heap.size) := show _ ∧ _ from ⟨(Array.getElem?_eq_some_iff.1 HA0.out).1, (Array.getElem?_eq_some_iff.1 hR.row).1⟩
      clear hR hS hge HR hkl hbel hw0 HW hk32
      go_wp2_with (first
        | (refine wpList_load_row rfl 86 (.tmp 6) rfl (w.heap.size + 1) rfl 86 (slotC (bs.take 32) (decide (bs = noughts 40))).toArray (0, 0) _ HROW.out Tryd.underlying86 rfl HIO.out ?_)
        | (go_at_call 70; refine HBY.out.mono ?_; rintro e w2 ⟨v, rfl, ho, hb2⟩; rw [HS.out] at ho; obtain ⟨q, cq, rfl, -, -, lq⟩ := ho.lies; rw [HSL.out]; have HLQ := Lib.hid lq; have HB2 := Lib.hid hb2; clear ho lq hb2))
      have HL2 : Hid (Lies w2 p bs) := show Lies _ _ _ from HP.out.below (HWB.out.trans (HB2.out.mono HWB.out.size))
      have HA2 : Hid (w2.heap[w.heap.size]? = some (.cells (slotC (noughts 32) false).toArray 86 (0, 0)) ∧ w2.heap[w.heap.size + 1]? = some (.cells (slotC (bs.take 32) (decide (bs = noughts 40))).toArray 86 (0, 0))) := show _ ∧ _ from
        ⟨(HB2.out.block _ HAlt.out.1).trans HA0.out, (HB2.out.block _ HAlt.out.2).trans HROW.out⟩
      have HWZ : Hid (Below w.heap.size w w2) := show Below _ _ _ from HWB.out.trans (HB2.out.mono HWB.out.size)
      have HZS := Lib.hid (slotC_size (noughts_length 32) false)
      have HZI := Lib.hid (size_slot HZS.out)
      have HEND : Hid (∀ (C : Array Value) (w2 w3 : World), w2.heap[w.heap.size]? = some (.cells (slotC (noughts 32) false).toArray 86 (0, 0)) → Below w.heap.size w w2 → w3 = w2.setRow w.heap.size C → w3.heap[w.heap.size]? = some (.cells C 86 (0, 0)) ∧ Below w.heap.size w w3) := show ∀ _ _ _, _ from fun C w2 w3 hA hB hw3 => by
        rw [hw3]
        exact ⟨setRow_heap w2 w.heap.size _ C _ _ hA, below_setRow hB (Nat.le_refl _) C⟩
      clear HP HBY HB2 HWB HROW HA0 HAlt
      clear hlt hj
      go_loopw [9] (fun i wr2 => ∃ k : Nat, k ≤ 40 ∧ i = .int .i64 (k : Int) ∧ bs.take k = (slotB (rdS bs) n).take k ∧ Below w2.heap.size w2 wr2) (fun i _ => 40 - (intOf i).toNat)
      case atStart => exact ⟨0, by omega, rfl, by rw [List.take_zero, List.take_zero], Below.refl _ _⟩
      case round =>
        obtain ⟨k, hk, rfl, ht, hb3⟩ := hrel
        have HB3 := Lib.hid hb3
        have HL3 := Lib.hid (HL2.out.below hb3)
        have HLQ3 := Lib.hid (HLQ.out.below hb3)
        have HA3 := Lib.hid (And.intro ((hb3.block _ (Array.getElem?_eq_some_iff.1 HA2.out.1).1).trans HA2.out.1) ((hb3.block _ (Array.getElem?_eq_some_iff.1 HA2.out.2).1).trans HA2.out.2))
        have HBW : Hid (Below w.heap.size w wr) := show Below _ _ _ from HWZ.out.trans (hb3.mono HWZ.out.size)
        clear hb3
        by_cases hlt : k < 40
        · have k1 : k < bs.length := by rw [HB.out]; exact hlt
          have k2 : k < (slotB (rdS bs) n).length := by rw [HSL.out]; exact hlt
          have hv : (bytesV bs)[k]? = some (.int .u8 (n8 bs[k])) := by simp [bytesV, k1]
          have hv2 : (bytesV (slotB (rdS bs) n))[k]? = some (.int .u8 (n8 (slotB (rdS bs) n)[k])) := by simp [bytesV, k2]
          rcases HL3.out with h0 | ⟨b, off, rfl, hr⟩
          · exfalso; rw [h0] at k1; simp at k1
          rcases HLQ3.out with h0 | ⟨b2, off2, rfl, hr2⟩
          · exfalso; rw [h0] at k2; simp at k2
          have hc := hr k _ hv
          have hc2 := hr2 k _ hv2
          have HN : Hid (bs[k] = (slotB (rdS bs) n)[k] → bs.take (k + 1) = (slotB (rdS bs) n).take (k + 1)) := show _ → _ from fun he => take_next k1 k2 ht he
          have HX : Hid (bs[k] ≠ (slotB (rdS bs) n)[k] → rdOk bs n = false) := show _ → _ from fun hne => by
            unfold rdOk
            refine decide_eq_false fun e => hne ?_
            have e2 : (slotB (rdS bs) n)[k]? = bs[k]? := by rw [e]
            rw [List.getElem?_eq_getElem k1, List.getElem?_eq_getElem k2] at e2
            exact (Option.some.inj e2).symm
          generalize bs[k] = x at hc hv HN HX
          generalize (slotB (rdS bs) n)[k] = y at hc2 hv2 HN HX
          clear hr hr2 hv hv2 k1 k2 ht
          have q0 : (k : Int) < 40 := by omega
          by_cases hxy : x = y
          · subst hxy
            have HN' := Lib.hid (HN.out rfl); clear HN HX
            go_wp2_with fail
            go_quiet (fail)
            go_wp2_with fail
            go_roundw
            case rel => exact ⟨k + 1, by omega, by go_num, HN'.out, HB3.out.trans ⟨rfl, rfl, rfl, Nat.le_refl _, fun _ _ => rfl⟩⟩
            case measure => simp [intOf]; omega
          · have q1 : (n8 x == n8 y) = false := by simpa using n8_eq hxy
            have HX' := Lib.hid (HX.out hxy); clear HN HX
            go_wp2_with fail
            go_quiet (fail)
            go_wp2_with (first
              | (refine wpList_buildTo rfl 86 #[] rfl _ rfl _ zeroSlot_built ?_)
              | (show wpList _ _ _ (⟨_, .store _ _ _, _, _, _, _⟩ :: _) _ _; go_loud (refine wpList_store_rowTo rfl 86 (.tmp 4) (.tmp 50) rfl rfl w.heap.size (slotC (noughts 32) false).toArray rfl rfl 86 _ HA3.out.1 HZI.out rfl (slotC_ones _ _) ?_)))
            obtain ⟨hrow, hbel⟩ := HEND.out (slotC (noughts 32) false).toArray (wr.drewN nq) _ HA3.out.1 (HBW.out.trans ⟨rfl, rfl, rfl, Nat.le_refl _, fun _ _ => rfl⟩) rfl
            generalize (wr.drewN nq).setRow w.heap.size (slotC (noughts 32) false).toArray = wz at hrow hbel ⊢
            refine bodyPost_ret (v := .tuple #[.agg (slotC (noughts 32) false).toArray, .bool false]) (results_slot rfl rfl hrow HZS.out) rfl ⟨?_, hbel⟩
            rw [rdV_no HX'.out]
        · obtain rfl : k = 40 := by omega
          have HX : Hid (rdOk bs n = true) := show _ = _ from by
            unfold rdOk
            rw [List.take_of_length_le (by rw [HB.out]; exact Nat.le_refl _), List.take_of_length_le (by rw [HSL.out]; exact Nat.le_refl _)] at ht
            exact decide_eq_true ht.symm
          go_wp2_with (first
            | (refine wpList_load_row rfl 86 (.tmp 6) rfl (w.heap.size + 1) rfl 86 (slotC (bs.take 32) (decide (bs = noughts 40))).toArray (0, 0) _ HA3.out.2 Tryd.underlying86 rfl HIO.out ?_)
            | (show wpList _ _ _ (⟨_, .store _ _ _, _, _, _, _⟩ :: _) _ _; go_loud (refine wpList_store_rowTo rfl 86 (.tmp 4) (.tmp 51) rfl rfl w.heap.size (slotC (bs.take 32) (decide (bs = noughts 40))).toArray rfl rfl 86 _ HA3.out.1 HIO.out (by rw [HZS.out, HCS.out]) (slotC_ones _ _) ?_)))
          obtain ⟨hrow, hbel⟩ := HEND.out (slotC (bs.take 32) (decide (bs = noughts 40))).toArray wr _ HA3.out.1 HBW.out rfl
          generalize wr.setRow w.heap.size (slotC (bs.take 32) (decide (bs = noughts 40))).toArray = wz at hrow hbel ⊢
          refine bodyPost_ret (v := .tuple #[.agg (slotC (bs.take 32) (decide (bs = noughts 40))).toArray, .bool true]) (results_slot rfl rfl hrow HCS.out) rfl ⟨?_, hbel⟩
          rw [rdV_yes HX.out, HRF.out]
end Go.Proofs.YtoidjapenompiaaDoor

/-
  The document's vault in memory; Len, Get.
-/
namespace Go.Proofs.YtoidjapenompiaaDoor
open Go.RowKit Go.Proofs.ShaWords
theorem flat_at {α : Type} (f : α → List Value) (N : Nat) : ∀ (l : List α) (i j : Nat), (∀ s ∈ l, (f s).length = N) → (hi : i < l.length) → j < N → (l.flatMap f)[i * N + j]? = (f l[i])[j]?
  | [], i, j, _, hi, _ => by simp at hi
  | s :: l, 0, j, h, _, hj => by
    rw [List.flatMap_cons, Nat.zero_mul, Nat.zero_add, List.getElem?_append_left (by rw [h s List.mem_cons_self]; exact hj)]
    rfl
  | s :: l, i + 1, j, h, hi, hj => by
    have hs := h s List.mem_cons_self
    have hm : (i + 1) * N = N + i * N := by rw [Nat.add_mul, Nat.one_mul, Nat.add_comm]
    rw [List.flatMap_cons, List.getElem?_append_right (by omega), hs, show (i + 1) * N + j - N = i * N + j by omega]
    exact flat_at f N l i j (fun x hx => h x (List.mem_cons_of_mem _ hx)) (by simpa using hi) hj
theorem flat_len {α : Type} (f : α → List Value) (N : Nat) : ∀ (l : List α), (∀ s ∈ l, (f s).length = N) → (l.flatMap f).length = l.length * N
  | [], _ => by simp
  | s :: l, h => by
    rw [List.flatMap_cons, List.length_append, h s List.mem_cons_self, flat_len f N l (fun x hx => h x (List.mem_cons_of_mem _ hx)), List.length_cons, Nat.add_mul, Nat.one_mul, Nat.add_comm]
theorem vkeyOf_length {s : SlotV} (h : SlotOk s) : (vkeyOf s).length = 32 := by
  cases s with
  | none => exact noughts_length 32
  | some k => exact h k rfl
theorem slotRf_length {s : SlotV} (h : SlotOk s) : (slotRf s).length = 33 := (slotC_at _ (vkeyOf_length h)).1
/-- Cells of a row of one's own. -/
theorem own_cell {w : World} {B N n : Nat} {t : TypeId} {v : Value} {xs : List Value} (h : w.ownsRow B t N v n xs) {j : Nat} (hj : j < n * N) : ∃ b cap, v = .slice (some ⟨b, 0, none⟩) n cap ∧ n ≤ cap ∧ v.ownBlock = some b ∧ ∀ k, k < n * N → w.cell? ⟨b, k, none⟩ = xs[k]? := by
  rcases h.2 with ⟨rfl, h0⟩ | ⟨b, cap, cur, rfl, hb, hh, hc, hm, hs, ht⟩
  · subst h0; simp at hj
  · refine ⟨b, cap, rfl, hc, rfl, fun k hk => ?_⟩
    rw [cell_of_row w b k _ _ _ hh, ← ht, List.getElem?_take_of_lt hk]
    simp
/-- The document's vault: its block, its disk, its slots; U: all its blocks, the disk's among them. -/
structure RvV (U T : Nat → Prop) (w : World) (v x : Nat) (d : DiskM) (l : List SlotV) (dead : Bool) (sv : Value) : Prop where
  disk : RefAt T w x d
  sub : ∀ k, T k → U k
  here : U v
  off : ¬ T v
  block : w.heap[v]? = some (.cells #[.pointer (some ⟨x, 0, none⟩), sv, .bool dead] 78 (0, 0))
  rows : w.ownsRow 0 86 33 sv l.length (l.flatMap slotRf)
  apart : sv.ownBlock ≠ some v
  clear : ∀ k, sv.ownBlock = some k → ¬ T k ∧ U k
  dom : ∀ k, U k → k < w.heap.size
  le : l.length ≤ 64
  slots : ∀ s ∈ l, SlotOk s
def RvAt (U : Nat → Prop) (w : World) (v x : Nat) (d : DiskM) (l : List SlotV) (dead : Bool) : Prop := ∃ T sv, RvV U T w v x d l dead sv
section
variable {U T F : Nat → Prop} {w w' : World} {v x : Nat} {d : DiskM} {l : List SlotV} {dead : Bool} {sv : Value}
theorem RvV.keep (h : RvV U T w v x d l dead sv) (hs : Stays F w w') (hF : ∀ k, F k → ¬ U k) : RvV U T w' v x d l dead sv :=
  ⟨h.disk.keep hs (fun k f t => hF k f (h.sub k t)), h.sub, h.here, h.off, (hs.block v (h.dom v h.here) (fun f => hF v f h.here)).trans h.block, ownsRow_stays h.rows hs (fun k hk f => hF k f (h.clear k hk).2), h.apart, h.clear, fun k u => Nat.lt_of_lt_of_le (h.dom k u) hs.size, h.le, h.slots⟩
theorem RvAt.keep (h : RvAt U w v x d l dead) (hs : Stays F w w') (hF : ∀ k, F k → ¬ U k) : RvAt U w' v x d l dead := by
  obtain ⟨T, sv, h⟩ := h
  exact ⟨T, sv, h.keep hs hF⟩
theorem RvAt.below (h : RvAt U w v x d l dead) (hb : Below w.heap.size w w') : RvAt U w' v x d l dead := h.keep (F := fun _ => False) (Below.stays hb) (fun _ f => f.elim)
theorem RvV.cell (h : RvV U T w v x d l dead sv) : w.cell? ⟨v, 0, none⟩ = some (.pointer (some ⟨x, 0, none⟩)) ∧ w.cell? ⟨v, 1, none⟩ = some sv ∧ w.cell? ⟨v, 2, none⟩ = some (.bool dead) := by
  refine ⟨?_, ?_, ?_⟩ <;> rw [cell_of_row w v _ _ _ _ h.block] <;> rfl
theorem RvV.thaw (h : RvV U T w v x d l dead sv) (j : Nat) : w.frozen? ⟨v, j, none⟩ = false := frozen_of_row _ _ _ _ _ h.block
theorem RvV.slice (h : RvV U T w v x d l dead sv) : ∃ p c, sv = .slice p l.length c := by
  rcases h.rows.2 with ⟨h0, h1⟩ | ⟨b, cap, cur, h0, -⟩
  · exact ⟨none, 0, by rw [h0, h1]⟩
  · exact ⟨_, _, h0⟩
/-- A slot's cells. -/
theorem RvV.slot (h : RvV U T w v x d l dead sv) {i : Nat} (hi : i < l.length) : ∃ b cap, sv = .slice (some ⟨b, 0, none⟩) l.length cap ∧ sv.ownBlock = some b ∧ w.rangeAt b (i * 33) (slotRf l[i]) := by
  obtain ⟨b, cap, h1, -, h2, h3⟩ := own_cell h.rows (j := 0) (by omega)
  refine ⟨b, cap, h1, h2, fun j u hu => ?_⟩
  have hj : j < 33 := by have := (List.getElem?_eq_some_iff.1 hu).1; rwa [slotRf_length (h.slots _ (List.getElem_mem hi))] at this
  rw [h3 _ (by have : (i + 1) * 33 ≤ l.length * 33 := Nat.mul_le_mul_right 33 hi; omega), flat_at slotRf 33 l i j (fun s hs => slotRf_length (h.slots s hs)) hi hj]
  exact hu
theorem rvLen_any (h : RvAt U w v x d l dead) : Calls Tryd.prog 21 #[.pointer (some ⟨v, 0, none⟩)] w fun e w' => e = .returned (.int .i64 (l.length : Int)) ∧ w = w' := by
  obtain ⟨T, sv, h⟩ := h
  obtain ⟨p, c, rfl⟩ := h.slice
  have hc := h.cell.2.1
  clear h
  go_enter Tryd.func21, Tryd.ntmps21
  go_wp2_with fail
  go_ret
  first | done | exact ⟨rfl, rfl⟩ | rfl
end
/-- What Get tells. -/
def gvV (l : List SlotV) (z : Int) : Value := .tuple #[.agg (bytesV (getVt l z).1).toArray, .int .i64 (getVt l z).2]
theorem gvV_none {l : List SlotV} {z : Int} (h : z < 1 ∨ (l.length : Int) < z) : gvV l z = .tuple #[.agg (bytesV (noughts 32)).toArray, .int .i64 12] := by unfold gvV; rw [getVt_none h]; rfl
theorem gvV_gone {l : List SlotV} {i : Nat} (h : i < l.length) (e : l[i] = none) : gvV l ((i : Int) + 1) = .tuple #[.agg (bytesV (noughts 32)).toArray, .int .i64 17] := by unfold gvV; rw [getVt_at h, e]; rfl
theorem gvV_key {l : List SlotV} {i : Nat} (h : i < l.length) {k : List (BitVec 8)} (e : l[i] = some k) : gvV l ((i : Int) + 1) = .tuple #[.agg (bytesV k).toArray, .int .i64 0] := by unfold gvV; rw [getVt_at h, e]
theorem results_keyR {tmps : Array Value} {w : World} {T : Nat} {C : Array Value} {x : Value} (hp : tmps.getD 4 undef = .pointer (some ⟨T, 0, none⟩)) (hx : tmps.getD 5 undef = x) (hC : w.heap[T]? = some (.cells C 36 (0, 0))) (hs : (Tryd.prog.info? 36).map (·.size) = some C.size) :
    (results Tryd.f23 tmps).run Tryd.prog w = .ok (.tuple #[.agg C, x]) w := by
  rw [results_cell_tmp Tryd.results23, hp, hx]
  have h := run_loadVar_row (P := Tryd.prog) w T 36 36 C (0, 0) _ hC Tryd.underlying36 rfl hs
  simp only [asAddr, Sem.run_pure, Result.andThen_ok, h]
theorem zeroKey_built : Tryd.prog.built 36 [] = some (bytesV (noughts 32)).toArray := by kernel_rfl
theorem keyV_ones (k : List (BitVec 8)) : (bytesV k).toArray.all (·.oneCell') = true := by
  simp only [List.all_toArray, List.all_eq_true]
  intro x hx
  obtain ⟨b, -, rfl⟩ := List.mem_map.1 hx
  rfl
theorem run_ixSlot {ρ : Operand → Value} {o : Oper} {x y : Operand} {b n c i : Nat} (ho : o.op = .indexAddr 76 x y) (hx : ρ x = .slice (some ⟨b, 0, none⟩) n c) (hy : ρ y = .int .i64 (i : Int)) (hi : i < n) (w : World) :
    (execOp ρ o).run Tryd.prog w = .ok (.value (.pointer (some ⟨b, i * 33, none⟩))) w := by
  obtain ⟨dst, op, ty', pos, after, guard⟩ := o
  simp only at ho
  subst ho
  have q : (i : Int) < (n : Int) := by omega
  go_simp
attribute [local irreducible] gvV in
set_option maxRecDepth 100000 in
set_option maxHeartbeats 1000000 in
theorem rvGet_any {U : Nat → Prop} {v x : Nat} {d : DiskM} {l : List SlotV} {dead : Bool} (z : Int) (w : World) (h : RvAt U w v x d l dead) :
    Calls Tryd.prog 23 #[.pointer (some ⟨v, 0, none⟩), .int .i64 z] w fun e w' => e = .returned (gvV l z) ∧ Below w.heap.size w w' := by
  have HK32 := Lib.hid (infoKey (noughts 32) (noughts_length 32))
  obtain ⟨W, hW⟩ : ∃ W, W = w.alloc (.cells (bytesV (noughts 32)).toArray 36) := ⟨_, rfl⟩
  have hrow : W.heap[w.heap.size]? = some (.cells (bytesV (noughts 32)).toArray 36 (0, 0)) := by rw [hW]; exact heap_new_at rfl
  have hB0 : Below w.heap.size w W := by rw [hW]; exact (Below.refl _ _).alloc (Nat.le_refl _) _
  obtain ⟨T, sv, hV⟩ := h.below hB0
  have hlt : v < w.heap.size := by obtain ⟨_, _, h⟩ := h; exact h.dom v h.here
  have HEND : Hid (∀ C : Array Value, ∀ w3, w3 = W.setRow w.heap.size C → w3.heap[w.heap.size]? = some (.cells C 36 (0, 0)) ∧ Below w.heap.size w w3) := show ∀ _ _, _ from fun C w3 hw3 => by
    rw [hw3]
    exact ⟨setRow_heap W w.heap.size _ C _ _ hrow, below_setRow hB0 (Nat.le_refl _) C⟩
  have hWL := hW
  rw [show (bytesV (noughts 32)).toArray = _ from noughts32] at hWL
  have HWW := Lib.hid hWL
  clear hWL
  have HROW := Lib.hid hrow
  obtain ⟨hc0, hc1, hc2⟩ := hV.cell
  clear h hW hrow hB0 hlt
  by_cases h1 : z < 1
  · have HG := Lib.hid (gvV_none (l := l) (Or.inl h1))
    clear hV
    go_enter Tryd.func23, Tryd.ntmps23
    go_upto_region 1 with (fail)
    rw [← HWW.out]
    go_wp2_with (first
      | (refine wpList_buildTo rfl 36 #[] rfl _ rfl _ zeroKey_built ?_)
      | (refine wpList_store_rowTo rfl 36 (.tmp 4) (.tmp 17) rfl rfl w.heap.size (bytesV (noughts 32)).toArray rfl rfl 36 _ HROW.out HK32.out rfl (keyV_ones _) ?_))
    obtain ⟨hrow, hbel⟩ := HEND.out _ _ rfl
    generalize W.setRow w.heap.size (bytesV (noughts 32)).toArray = wz at hrow hbel ⊢
    exact bodyPost_ret (v := .tuple #[.agg (bytesV (noughts 32)).toArray, .int .i64 12]) (results_keyR rfl rfl hrow HK32.out) rfl ⟨by rw [HG.out], hbel⟩
  · obtain ⟨p, c, hsv⟩ := hV.slice
    by_cases h2 : (l.length : Int) < z
    · have HG := Lib.hid (gvV_none (l := l) (Or.inr h2))
      clear hV
      subst hsv
      go_enter Tryd.func23, Tryd.ntmps23
      go_upto_region 1 with (fail)
      rw [← HWW.out]
      go_wp2_with (first
        | (refine wpList_buildTo rfl 36 #[] rfl _ rfl _ zeroKey_built ?_)
        | (refine wpList_store_rowTo rfl 36 (.tmp 4) (.tmp 17) rfl rfl w.heap.size (bytesV (noughts 32)).toArray rfl rfl 36 _ HROW.out HK32.out rfl (keyV_ones _) ?_))
      obtain ⟨hrow, hbel⟩ := HEND.out _ _ rfl
      generalize W.setRow w.heap.size (bytesV (noughts 32)).toArray = wz at hrow hbel ⊢
      exact bodyPost_ret (v := .tuple #[.agg (bytesV (noughts 32)).toArray, .int .i64 12]) (results_keyR rfl rfl hrow HK32.out) rfl ⟨by rw [HG.out], hbel⟩
    · obtain ⟨i, rfl⟩ : ∃ i : Nat, z = (i : Int) + 1 := ⟨(z - 1).toNat, by omega⟩
      have hi : i < l.length := by omega
      have hso := hV.slots _ (List.getElem_mem hi)
      obtain ⟨b, cap, hsv2, -, hr⟩ := hV.slot hi
      have hkl := vkeyOf_length hso
      have hgone : W.cell? ⟨b, i * 33 + 32, none⟩ = some (.bool l[i].isNone) := hr 32 _ (slotC_at _ hkl).2.1
      have hkr : W.rangeAt b (i * 33) (bytesV (vkeyOf l[i])) := fun j u hu => hr j u (by
        unfold slotRf slotC
        rw [List.getElem?_append_left (List.getElem?_eq_some_iff.1 hu).1]; exact hu)
      rw [hsv2] at hc1
      have HWI : Hid (wrap64 (i : Int) = (i : Int)) := show _ = _ by have := hV.le; unfold wrap64; omega
      clear hr hV hsv hsv2 hc2
      cases hs : l[i] with
      | none =>
        have HG := Lib.hid (gvV_gone hi hs)
        rw [hs] at hgone
        clear hkr
        go_enter Tryd.func23, Tryd.ntmps23
        go_upto_region 1 with (fail)
        rw [← HWW.out]
        go_wp2_with (first
          | (refine wpList_run (by rfl) (run_ixSlot (x := .tmp 21) (y := .tmp 23) (i := i) rfl rfl (congrArg (Value.int .i64) HWI.out) hi _) ?_)
          | (refine wpList_buildTo rfl 36 #[] rfl _ rfl _ zeroKey_built ?_)
          | (refine wpList_store_rowTo rfl 36 (.tmp 4) (.tmp 27) rfl rfl w.heap.size (bytesV (noughts 32)).toArray rfl rfl 36 _ HROW.out HK32.out rfl (keyV_ones _) ?_))
        obtain ⟨hrow, hbel⟩ := HEND.out _ _ rfl
        generalize W.setRow w.heap.size (bytesV (noughts 32)).toArray = wz at hrow hbel ⊢
        exact bodyPost_ret (v := .tuple #[.agg (bytesV (noughts 32)).toArray, .int .i64 17]) (results_keyR rfl rfl hrow HK32.out) rfl ⟨by rw [HG.out], hbel⟩
      | some k =>
        have HG := Lib.hid (gvV_key hi hs)
        rw [hs] at hgone hkr hkl
        have HKR := Lib.hid (show W.rangeAt b (i * 33) (bytesV k) from hkr)
        have HKL := Lib.hid (show k.length = 32 from hkl)
        have HIK := Lib.hid (infoKey k HKL.out)
        have HIL : Hid ((Tryd.prog.info? 36).map (·.size) = some (bytesV k).length) := show _ = _ by rw [bytesV_length, HKL.out]; kernel_rfl
        have HSZ : Hid ((bytesV (noughts 32)).toArray.size = (bytesV k).toArray.size) := show _ = _ by rw [bytesV_size _ 32 (noughts_length 32), bytesV_size _ 32 HKL.out]
        clear hkr hkl
        go_enter Tryd.func23, Tryd.ntmps23
        go_upto_region 1 with (fail)
        rw [← HWW.out]
        go_wp2_with (first
          | (refine wpList_run (by rfl) (run_ixSlot (x := .tmp 21) (y := .tmp 23) (i := i) rfl rfl (congrArg (Value.int .i64) HWI.out) hi _) ?_)
          | (refine wpList_run (by rfl) (run_ixSlot (x := .tmp 31) (y := .tmp 33) (i := i) rfl rfl (congrArg (Value.int .i64) HWI.out) hi _) ?_)
          | (refine wpList_run (by rfl) (run_loadArr (x := .tmp 35) rfl rfl Tryd.underlying36 HIL.out HKR.out) ?_)
          | (refine wpList_store_rowTo rfl 36 (.tmp 4) (.tmp 36) rfl rfl w.heap.size (bytesV k).toArray rfl rfl 36 _ HROW.out HIK.out HSZ.out (keyV_ones _) ?_))
        obtain ⟨hrow, hbel⟩ := HEND.out _ _ rfl
        generalize W.setRow w.heap.size (bytesV k).toArray = wz at hrow hbel ⊢
        exact bodyPost_ret (v := .tuple #[.agg (bytesV k).toArray, .int .i64 0]) (results_keyR rfl rfl hrow HIK.out) rfl ⟨by rw [HG.out], hbel⟩
end Go.Proofs.YtoidjapenompiaaDoor

/-
  The program's Get.
-/
namespace Go.Proofs.YtoidjapenompiaaDoor
open Go.RowKit Go.Proofs.ShaWords
theorem results_keyP {tmps : Array Value} {w : World} {T : Nat} {C : Array Value} {x : Value} (hp : tmps.getD 4 undef = .pointer (some ⟨T, 0, none⟩)) (hx : tmps.getD 5 undef = x) (hC : w.heap[T]? = some (.cells C 36 (0, 0))) (hs : (Tryd.prog.info? 36).map (·.size) = some C.size) :
    (results Tryd.f22 tmps).run Tryd.prog w = .ok (.tuple #[.agg C, x]) w := by
  rw [results_cell_tmp Tryd.results22, hp, hx]
  have h := run_loadVar_row (P := Tryd.prog) w T 36 36 C (0, 0) _ hC Tryd.underlying36 rfl hs
  simp only [asAddr, Sem.run_pure, Result.andThen_ok, h]
theorem run_ixSlotV {ρ : Operand → Value} {o : Oper} {x y : Operand} {b i : Nat} (ho : o.op = .indexAddr 81 x y) (hx : ρ x = .pointer (some ⟨b, 1, none⟩)) (hy : ρ y = .int .i64 (i : Int)) (hi : i < 64) (w : World) :
    (execOp ρ o).run Tryd.prog w = .ok (.value (.pointer (some ⟨b, 1 + i * 40, none⟩))) w := by
  obtain ⟨dst, op, ty', pos, after, guard⟩ := o
  simp only at ho
  subst ho
  have q : (i : Int) < 64 := by omega
  go_simp
theorem run_eqSlotT {ρ : Operand → Value} {o : Oper} {x y : Operand} {l m : List (BitVec 8)} {ty : TypeId} {b : Bool} (ho : o.op = .binOp .eql 80 x y ty) (hl : l.length = 40) (hm : m.length = 40) (hx : ρ x = .agg (bytesV l).toArray) (hy : ρ y = .agg (bytesV m).toArray) (hb : decide (l = m) = b) (w : World) :
    (execOp ρ o).run Tryd.prog w = .ok (.value (.bool b)) w := by
  rw [← hb]; exact run_eqSlot ho hl hm hx hy w
attribute [local irreducible] gvV in
set_option maxRecDepth 100000 in
set_option maxHeartbeats 1000000 in
theorem vtGet_any {S : Nat → Prop} {v g : Nat} {d : DiskM} {l : List SlotV} {dead : Bool} (z : Int) (w : World) (h : VtIn S w v g d l dead) :
    Calls Tryd.prog 22 #[.pointer (some ⟨v, 0, none⟩), .int .i64 z] w fun e w' => e = .returned (gvV l z) ∧ Below w.heap.size w w' := by
  have HK32 := Lib.hid (infoKey (noughts 32) (noughts_length 32))
  obtain ⟨W, hW⟩ : ∃ W, W = w.alloc (.cells (bytesV (noughts 32)).toArray 36) := ⟨_, rfl⟩
  have hrow : W.heap[w.heap.size]? = some (.cells (bytesV (noughts 32)).toArray 36 (0, 0)) := by rw [hW]; exact heap_new_at rfl
  have hB0 : Below w.heap.size w W := by rw [hW]; exact (Below.refl _ _).alloc (Nat.le_refl _) _
  have hV := h.below hB0
  have HEND : Hid (∀ C : Array Value, ∀ w2 w3, w2.heap[w.heap.size]? = some (.cells (bytesV (noughts 32)).toArray 36 (0, 0)) → Below w.heap.size w w2 → w3 = w2.setRow w.heap.size C → w3.heap[w.heap.size]? = some (.cells C 36 (0, 0)) ∧ Below w.heap.size w w3) := show ∀ _ _ _, _ → _ → _ from fun C w2 w3 h1 h2 hw3 => by
    rw [hw3]
    exact ⟨setRow_heap w2 w.heap.size _ C _ _ h1, below_setRow h2 (Nat.le_refl _) C⟩
  have hWL := hW
  rw [show (bytesV (noughts 32)).toArray = _ from noughts32] at hWL
  have HWW := Lib.hid hWL
  clear hWL
  have HROW := Lib.hid hrow
  have HB0 := Lib.hid hB0
  have HHAS := Lib.hid (vtHas_any z W hV)
  clear hW hrow hB0
  by_cases h1 : 1 ≤ z ∧ z ≤ (l.length : Int)
  · obtain ⟨i, rfl⟩ : ∃ i : Nat, z = (i : Int) + 1 := ⟨(z - 1).toNat, by omega⟩
    have hi : i < l.length := by omega
    have hle := hV.le
    have hso := hV.slots _ (List.getElem_mem hi)
    have hrg := hV.slot i hi
    have HH := Lib.hid (decide_eq_true h1)
    rw [HH.out] at HHAS
    have HWI : Hid (wrap64 (i : Int) = (i : Int)) := show _ = _ by unfold wrap64; omega
    have HI64 : Hid (i < 64 ∧ True) := show _ ∧ _ from ⟨by omega, trivial⟩
    have hx40 := slotB_length hso (i + 1)
    clear h hV HH
    cases hs : l[i] with
    | none =>
      have HG := Lib.hid (gvV_gone hi hs)
      rw [hs] at hrg hx40
      have hxz : slotB none (i + 1) = noughts 40 := rfl
      generalize slotB none (i + 1) = x at hrg hx40 hxz
      have HRG := Lib.hid hrg
      have HX40 := Lib.hid hx40
      have HXZ := Lib.hid hxz
      have HIS := Lib.hid (infoSlot _ HX40.out)
      have HOLD : Hid ((bytesV (noughts 40)).toArray.size = (bytesV x).toArray.size) := show _ = _ by rw [bytesV_size _ 40 HX40.out, bytesV_size _ 40 (noughts_length 40)]
      have HONE := Lib.hid (bytesV_one x)
      clear hrg hx40 hxz hle hi hs hso h1
      have HZ : Hid (decide (x = noughts 40) = true) := show _ = _ from decide_eq_true HXZ.out
      go_enter Tryd.func22, Tryd.ntmps22
      go_upto_region 1 with (fail)
      rw [← HWW.out]
      go_upto_region 4 with (first
        | (go_at_call 44; refine HHAS.out.mono ?_; rintro e w1 ⟨rfl, rfl⟩)
        | (refine wpList_runV (by rfl) (run_ixSlotV (x := .tmp 16) (y := .tmp 14) (i := i) rfl rfl (congrArg (Value.int .i64) HWI.out) HI64.out.1 _) ?_)
        | (refine wpList_runV (by rfl) (run_loadSlotV (x := .tmp 17) rfl rfl HX40.out HRG.out) ?_)
        | (refine wpList_store_new rfl 80 (.tmp 6) (.tmp 18) rfl w1.heap.size rfl (bytesV x).toArray rfl rfl HIS.out (by exact HOLD.out) HONE.out ?_; intro w2 h2 b2; have HT2 := Lib.hid h2; have HB2 := Lib.hid b2; clear h2 b2))
      have HROW2 : Hid (w2.heap[w.heap.size]? = some (.cells (bytesV (noughts 32)).toArray 36 (0, 0))) := show _ = _ from (HB2.out.block _ (Array.getElem?_eq_some_iff.1 HROW.out).1).trans HROW.out
      have HBZ : Hid (Below w.heap.size w w2) := show Below _ _ _ from HB0.out.trans (HB2.out.mono HB0.out.size)
      have HRT := Lib.hid (range_bytesV HT2.out)
      clear HB2 HROW HB0 HRG HHAS
      generalize w1.heap.size = T at HT2 HRT ⊢
      go_wp2_with (first
        | (show wpList _ _ _ (⟨_, .load 80 _, _, _, _, _⟩ :: _) _ _; refine wpList_runV (by rfl) (run_loadSlotV (x := .tmp 6) rfl rfl HX40.out HRT.out) ?_)
        | (show wpList _ _ _ (⟨_, .build 80 _, _, _, _, _⟩ :: _) _ _; refine wpList_runV (by rfl) (run_bldSlot0 rfl _) ?_)
        | (refine wpList_runV (by rfl) (run_eqSlotT (x := .tmp 19) (y := .tmp 20) rfl HX40.out (noughts_length 40) rfl rfl HZ.out _) ?_)
        | (refine wpList_buildTo rfl 36 #[] rfl _ rfl _ zeroKey_built ?_)
        | (refine wpList_store_rowTo rfl 36 (.tmp 4) (.tmp 22) rfl rfl w.heap.size (bytesV (noughts 32)).toArray rfl rfl 36 _ HROW2.out HK32.out rfl (keyV_ones _) ?_))
      obtain ⟨hrow, hbel⟩ := HEND.out (bytesV (noughts 32)).toArray w2 _ HROW2.out HBZ.out rfl
      generalize w2.setRow w.heap.size (bytesV (noughts 32)).toArray = wz at hrow hbel ⊢
      exact bodyPost_ret (v := .tuple #[.agg (bytesV (noughts 32)).toArray, .int .i64 17]) (results_keyP rfl rfl hrow HK32.out) rfl ⟨by rw [HG.out], hbel⟩
    | some k =>
      have HG := Lib.hid (gvV_key hi hs)
      rw [hs] at hrg hx40 hso
      have hk := hso k rfl
      have hxn : slotB (some k) (i + 1) ≠ noughts 40 := slotB_key hk (by omega) (by omega)
      have hxk : (slotB (some k) (i + 1)).take 32 = k := slotB_take hk _
      generalize slotB (some k) (i + 1) = x at hrg hx40 hxn hxk
      have HRG := Lib.hid hrg
      have HX40 := Lib.hid hx40
      have HXN := Lib.hid hxn
      have HXK := Lib.hid hxk
      have HIS := Lib.hid (infoSlot _ HX40.out)
      have HOLD : Hid ((bytesV (noughts 40)).toArray.size = (bytesV x).toArray.size) := show _ = _ by rw [bytesV_size _ 40 HX40.out, bytesV_size _ 40 (noughts_length 40)]
      have HONE := Lib.hid (bytesV_one x)
      have HIK := Lib.hid (infoKey k hk)
      have HSZ : Hid ((bytesV (noughts 32)).toArray.size = (bytesV k).toArray.size) := show _ = _ by rw [bytesV_size _ 32 (noughts_length 32), bytesV_size _ 32 hk]
      clear hrg hx40 hxn hxk hle hi hs hso h1 hk
      have HZ : Hid (decide (x = noughts 40) = false) := show _ = _ from decide_eq_false HXN.out
      go_enter Tryd.func22, Tryd.ntmps22
      go_upto_region 1 with (fail)
      rw [← HWW.out]
      go_upto_region 4 with (first
        | (go_at_call 44; refine HHAS.out.mono ?_; rintro e w1 ⟨rfl, rfl⟩)
        | (refine wpList_runV (by rfl) (run_ixSlotV (x := .tmp 16) (y := .tmp 14) (i := i) rfl rfl (congrArg (Value.int .i64) HWI.out) HI64.out.1 _) ?_)
        | (refine wpList_runV (by rfl) (run_loadSlotV (x := .tmp 17) rfl rfl HX40.out HRG.out) ?_)
        | (refine wpList_store_new rfl 80 (.tmp 6) (.tmp 18) rfl w1.heap.size rfl (bytesV x).toArray rfl rfl HIS.out (by exact HOLD.out) HONE.out ?_; intro w2 h2 b2; have HT2 := Lib.hid h2; have HB2 := Lib.hid b2; clear h2 b2))
      have HROW2 : Hid (w2.heap[w.heap.size]? = some (.cells (bytesV (noughts 32)).toArray 36 (0, 0))) := show _ = _ from (HB2.out.block _ (Array.getElem?_eq_some_iff.1 HROW.out).1).trans HROW.out
      have HBZ : Hid (Below w.heap.size w w2) := show Below _ _ _ from HB0.out.trans (HB2.out.mono HB0.out.size)
      have HRT := Lib.hid (range_bytesV HT2.out)
      clear HB2 HROW HB0 HRG HHAS
      generalize w1.heap.size = T at HT2 HRT ⊢
      go_wp2_with (first
        | (show wpList _ _ _ (⟨_, .load 80 _, _, _, _, _⟩ :: _) _ _; refine wpList_runV (by rfl) (run_loadSlotV (x := .tmp 6) rfl rfl HX40.out HRT.out) ?_)
        | (show wpList _ _ _ (⟨_, .build 80 _, _, _, _, _⟩ :: _) _ _; refine wpList_runV (by rfl) (run_bldSlot0 rfl _) ?_)
        | (refine wpList_runV (by rfl) (run_eqSlotT (x := .tmp 19) (y := .tmp 20) rfl HX40.out (noughts_length 40) rfl rfl HZ.out _) ?_)
        | (go_at_call 45; fail))
      refine (vtKey_any x HX40.out w2).mono ?_
      rintro e w3 ⟨rfl, b3⟩
      rw [HXK.out]
      have HROW3 : Hid (w3.heap[w.heap.size]? = some (.cells (bytesV (noughts 32)).toArray 36 (0, 0))) := show _ = _ from (b3.block _ (Array.getElem?_eq_some_iff.1 HROW2.out).1).trans HROW2.out
      have HB3 : Hid (Below w.heap.size w w3) := show Below _ _ _ from HBZ.out.trans (b3.mono HBZ.out.size)
      clear b3
      go_wp2_with (refine wpList_store_rowTo rfl 36 (.tmp 4) (.tmp 24) rfl rfl w.heap.size (bytesV k).toArray rfl rfl 36 _ HROW3.out HIK.out HSZ.out (keyV_ones _) ?_)
      obtain ⟨hrow, hbel⟩ := HEND.out (bytesV k).toArray w3 _ HROW3.out HB3.out rfl
      generalize w3.setRow w.heap.size (bytesV k).toArray = wz at hrow hbel ⊢
      exact bodyPost_ret (v := .tuple #[.agg (bytesV k).toArray, .int .i64 0]) (results_keyP rfl rfl hrow HIK.out) rfl ⟨by rw [HG.out], hbel⟩
  · have HG := Lib.hid (gvV_none (l := l) (z := z) (by omega))
    have HH := Lib.hid (decide_eq_false h1)
    rw [HH.out] at HHAS
    clear hV h h1
    go_enter Tryd.func22, Tryd.ntmps22
    go_upto_region 1 with (fail)
    rw [← HWW.out]
    go_wp2_with (first
      | (go_at_call 44; refine HHAS.out.mono ?_; rintro e w1 ⟨rfl, rfl⟩)
      | (refine wpList_buildTo rfl 36 #[] rfl _ rfl _ zeroKey_built ?_)
      | (refine wpList_store_rowTo rfl 36 (.tmp 4) (.tmp 11) rfl rfl w.heap.size (bytesV (noughts 32)).toArray rfl rfl 36 _ HROW.out HK32.out rfl (keyV_ones _) ?_))
    obtain ⟨hrow, hbel⟩ := HEND.out (bytesV (noughts 32)).toArray w1 _ HROW.out HB0.out rfl
    generalize w1.setRow w.heap.size (bytesV (noughts 32)).toArray = wz at hrow hbel ⊢
    exact bodyPost_ret (v := .tuple #[.agg (bytesV (noughts 32)).toArray, .int .i64 12]) (results_keyP rfl rfl hrow HK32.out) rfl ⟨by rw [HG.out], hbel⟩
end Go.Proofs.YtoidjapenompiaaDoor

/-
  A vault's disk as plain data while nothing is armed: each call, and a crash.
-/
namespace Go.Proofs.YtoidjapenompiaaDoor
open Go.Proofs.ShaWords
structure VtCalm (d : DiskM) (l : List SlotV) (room cnt : Nat) : Prop where
  ok : d.Ok
  calm : d.Calm
  room : d.room = room
  file : (d.files 0).all = slotsB l
  dur : (d.files 0).dur = 40 * l.length
  others : ∀ f, f ≠ 0 → (d.files f).all = []
  slots : ∀ s ∈ l, SlotOk s
  le : l.length ≤ 64
  count : d.count = cnt
theorem vtCalm_new (room : Int) : VtCalm (DiskM.new room) [] (min (max room 0) 262144).toNat 0 :=
  ⟨DiskM.new_ok room, calm_new room, rfl, rfl, rfl, fun _ _ => rfl, (fun s hs => by cases hs), by decide, rfl⟩
theorem openVt_none0 {d : DiskM} {l : List SlotV} (h : l.length = 0) : openVt d l [] = (d, 0) := by unfold openVt; rw [if_neg (fun e => e rfl), if_neg (fun e => e (List.length_eq_zero_iff.1 h))]
theorem openVt_sync0 {d : DiskM} {l : List SlotV} (h : 0 < l.length) : openVt d l [] = d.sync 0 := by unfold openVt; rw [if_neg (fun e => e rfl), if_pos (fun e => by rw [e] at h; exact absurd h (by decide))]
section
variable {d : DiskM} {l : List SlotV} {room cnt : Nat}
theorem VtCalm.of (h : VtCalm d l room cnt) : VtOf (d.files 0).all l [] := by rw [h.file]; exact vt_all h.slots h.le
theorem VtCalm.used (h : VtCalm d l room cnt) : d.used = 40 * l.length := by
  unfold DiskM.used
  rw [sumTo_one h.others 32, h.file, slotsB_length h.slots]
theorem VtCalm.len (h : VtCalm d l room cnt) : (d.files 0).all.length = 40 * l.length := by rw [h.file, slotsB_length h.slots]
theorem VtCalm.open (h : VtCalm d l room cnt) : (openVt d l []).2 = 0 ∧ ∃ c, VtCalm (openVt d l []).1 l room c ∧ c ≤ cnt + 1 := by
  obtain ⟨h1, h2⟩ := openVt_calm h.calm h.ok h.of
  refine ⟨h1, _, ⟨h2.ok, h2.calm, h2.room.trans h.room, h2.file, h2.dur, fun f hf => by rw [h2.others f hf]; exact h.others f hf, h.slots, h.le, rfl⟩, ?_⟩
  by_cases hl : l.length = 0
  · rw [openVt_none0 hl, h.count]; exact Nat.le_succ _
  · rw [openVt_sync0 (by omega), h.calm.sync (by omega)]
    show d.count + 1 ≤ _
    rw [h.count]; exact Nat.le_refl _
theorem VtCalm.put (h : VtCalm d l room cnt) {k : List (BitVec 8)} (hk : k.length = 32) (hl : l.length < 64) (hr : 40 * l.length + 40 ≤ room) :
    ∃ d', putVt d l false k = ⟨d', l ++ [some k], false, 0⟩ ∧ VtCalm d' (l ++ [some k]) room (cnt + 2) := by
  have hso := slotOk_some hk
  have hb := slotB_length hso (l.length + 1)
  have hw := h.calm.write (f := 0) (by omega) (slotB (some k) (l.length + 1)) (by rw [h.used, h.room, hb]; exact hr)
  have hok1 := DiskM.write_ok h.ok 0 (slotB (some k) (l.length + 1))
  rw [hw] at hok1
  generalize hD : ({ d with files := writeF (0 : Int).toNat (slotB (some k) (l.length + 1)) d.files, count := d.count + 1 } : DiskM) = D at hw hok1
  have hDc : D.Calm := by rw [← hD]; exact ⟨h.calm.down, h.calm.left⟩
  have hs := hDc.sync (f := 0) (by omega)
  have hok2 := DiskM.sync_ok hok1 0
  rw [hs] at hok2
  have hD0 : (D.files 0).all = slotsB (l ++ [some k]) := by
    rw [← hD, slotsB_snoc, ← h.file]
    show (setF d.files 0 _ 0).all = _
    rw [setF_same]
    rfl
  refine ⟨_, by unfold putVt; rw [if_neg (by decide), if_neg (by omega), hw, if_neg (fun h => h rfl)]; dsimp only; rw [hs, if_neg (fun h => h rfl)], ⟨hok2, ⟨hDc.down, hDc.left⟩, ?_, ?_, ?_, fun f hf => ?_, okSnoc h.slots hso, by rw [List.length_append]; show l.length + 1 ≤ 64; omega, ?_⟩⟩
  · show D.room = room
    rw [← hD]; exact h.room
  · show (setF D.files 0 _ 0).all = _
    rw [setF_same]; exact hD0
  · show (setF D.files 0 _ 0).dur = _
    rw [setF_same]
    show (D.files 0).all.length = _
    rw [hD0, slotsB_length (okSnoc h.slots hso)]
  · show (setF D.files 0 _ f).all = []
    rw [setF_other _ _ hf, ← hD]
    show (setF d.files 0 _ f).all = []
    rw [setF_other _ _ hf]; exact h.others f hf
  · show D.count + 1 = _
    rw [← hD]
    show d.count + 1 + 1 = _
    rw [h.count]
theorem VtCalm.zero (h : VtCalm d l room cnt) {i : Nat} (hi : i < l.length) (hs : l[i] ≠ none) :
    ∃ d', zeroVt d l false ((i : Int) + 1) = ⟨d', l.set i none, false, 0⟩ ∧ VtCalm d' (l.set i none) room (cnt + 1) := by
  have ho := h.calm.over (f := 0) (k := 40 * (i : Int)) (by omega) (List.replicate 40 0#8) (by rw [List.length_replicate]; show _ ∧ _ ≤ ((d.files 0).dur : Int) - _; rw [h.dur]; omega)
  have hok := DiskM.over_ok h.ok 0 (40 * (i : Int)) (List.replicate 40 0#8)
  rw [ho] at hok
  refine ⟨_, by unfold zeroVt; rw [if_neg (by decide), if_neg (by omega), show (i : Int) + 1 - 1 = (i : Int) by omega, Int.toNat_natCast, getD_atV hi, if_neg hs, ho, if_neg (fun h => h rfl)], ⟨hok, ⟨h.calm.down, h.calm.left⟩, h.room, ?_, ?_, fun f hf => ?_, okSet h.slots i, by rw [List.length_set]; exact h.le, ?_⟩⟩
  · show (setF d.files 0 _ 0).all = _
    rw [setF_same]
    show layOver (d.files 0).all (40 * (i : Int)).toNat _ = _
    rw [h.file, show (40 * (i : Int)).toNat = 40 * i by omega]
    exact slotsB_over h.slots i hi
  · show (setF d.files 0 _ 0).dur = _
    rw [setF_same, List.length_set]
    exact h.dur
  · show (setF d.files 0 _ f).all = []
    rw [setF_other _ _ hf]; exact h.others f hf
  · show d.count + 1 = _
    rw [h.count]
theorem VtCalm.crash (h : VtCalm d l room cnt) (keep : List Int) : VtCalm (d.crash keep) l room cnt := by
  have hall : ∀ f, f < 33 → (d.files f).dur = (d.files f).all.length := fun f hf => by
    by_cases h0 : f = 0
    · subst h0; rw [h.dur, h.len]
    · have := h.ok.dur f hf
      rw [h.others f h0] at this ⊢
      exact Nat.le_zero.1 this
  have hst : ∀ n, n ≤ 33 → crashTo d.files keep n = (d.files, keep) := fun n => by
    induction n with
    | zero => exact fun _ => rfl
    | succ n ih =>
      intro hn
      unfold crashTo
      dsimp only
      rw [ih (by omega), if_pos (hall n (by omega)).symm]
  have hf : (d.crash keep).files = d.files := by
    show (crashTo d.files keep 33).1 = _
    rw [hst 33 (Nat.le_refl _)]
  exact ⟨DiskM.crash_ok h.ok keep, calm_crash d keep, h.room, by rw [hf]; exact h.file, by rw [hf]; exact h.dur, fun f h0 => by rw [hf]; exact h.others f h0, h.slots, h.le, h.count⟩
end
end Go.Proofs.YtoidjapenompiaaDoor
