/-
  What other texts lean on: DkRef, DkRefCalls, DkRefOps, DkRefDo, DkRefCut, DkRefOver, DkRefWr, DkRefCr, DkRefNew, KitInts, DkBoth, DkDoes.
-/
import Derived.Test.YtoidjapenompiaaDoorPkA
import Derived.Test.YtoidjapenompiaaDoorPkY
import Derived.Test.YtoidjapenompiaaDoorPkZ
import Derived.BigQuiet
/-
  The document's disk (the reference) in memory: one block of 71 cells, and the blocks that its slices lead to; what it says, as the plain disk.
-/
namespace Go.Proofs.YtoidjapenompiaaDoor
open Go.RowKit Go.Proofs.ShaWords
def rfCell (us : Nat → Value × Value) (d : DiskM) (lf : Int) (j : Nat) : Value :=
  if j = 0 then .int .i64 (d.room : Int) else if j < 67 then (if j % 2 = 1 then (us ((j - 1) / 2)).1 else (us ((j - 1) / 2)).2) else if j = 67 then .bool d.down else if j = 68 then .bool (decide (0 ≤ d.left)) else if j = 69 then .int .i64 lf else .int .i64 (d.count : Int)
/-- A slice whose bytes lie in a block of T, another one than g. -/
def SlT (T : Nat → Prop) (g : Nat) (w : World) (l : List (BitVec 8)) (v : Value) : Prop := ∃ q c, v = .slice q l.length c ∧ l.length ≤ c ∧ (l = [] ∨ ∃ b off, q = some ⟨b, off, none⟩ ∧ T b ∧ b ≠ g ∧ b < w.heap.size ∧ w.rangeAt b off (bytesV l))
theorem SlT.keep {T T' F : Nat → Prop} {g : Nat} {w w' : World} {l : List (BitVec 8)} {v : Value} (h : SlT T g w l v) (hT : ∀ k, T k → T' k) (hs : Stays F w w') (hF : ∀ k, F k → T k → k = g) : SlT T' g w' l v := by
  obtain ⟨q, c, h1, h2, h3⟩ := h
  refine ⟨q, c, h1, h2, h3.imp id ?_⟩
  rintro ⟨b, off, e, t, hne, hlt, hr⟩
  exact ⟨b, off, e, hT b t, hne, Nat.lt_of_lt_of_le hlt hs.size, range_of_block hr (hs.block b hlt (fun f => hne (hF b f t)))⟩
theorem SlT.lies {T : Nat → Prop} {g : Nat} {w : World} {l : List (BitVec 8)} {v : Value} (h : SlT T g w l v) : ∃ q c, v = .slice q l.length c ∧ l.length ≤ c ∧ Lies w q l := by
  obtain ⟨q, c, h1, h2, h3⟩ := h
  exact ⟨q, c, h1, h2, h3.imp id (fun ⟨b, off, e, _, _, _, hr⟩ => ⟨b, off, e, hr⟩)⟩
theorem SlT.nil (T : Nat → Prop) (g : Nat) (w : World) : SlT T g w [] (.slice none 0 0) := ⟨none, 0, rfl, Nat.le_refl _, Or.inl rfl⟩
theorem SlT.own {T : Nat → Prop} {g B : Nat} {w : World} {l : List (BitVec 8)} {v : Value} (h : Own B w l v) (hg : g < B) (hT : ∀ k, B ≤ k → k < w.heap.size → T k) : SlT T g w l v := by
  rcases h.2 with ⟨rfl, h0⟩ | ⟨b, cap, cur, rfl, hb, hh, hc, _⟩
  · have : l = [] := List.length_eq_zero_iff.1 h0
    subst this
    exact SlT.nil _ _ _
  · obtain ⟨q, c, e, h1, -, hl⟩ := h.lies
    cases e
    have hlt := (Array.getElem?_eq_some_iff.1 hh).1
    refine ⟨_, _, rfl, hc, hl.imp id ?_⟩
    rintro ⟨b2, off, e2, hr⟩
    cases e2
    exact ⟨b, 0, rfl, hT b hb hlt, by omega, hlt, hr⟩
theorem SlT.take {T : Nat → Prop} {g : Nat} {w : World} {l : List (BitVec 8)} {q : Option Addr} {n c : Nat} (h : SlT T g w l (.slice q n c)) (k : Nat) (hk : k ≤ l.length) : SlT T g w (l.take k) (.slice q k c) := by
  obtain ⟨q', c', e, h2, h3⟩ := h
  cases e
  refine ⟨q, c, by rw [List.length_take, Nat.min_eq_left hk], by rw [List.length_take]; omega, ?_⟩
  rcases h3 with h0 | ⟨b, off, e, t, hne, hlt, hr⟩
  · exact Or.inl (by rw [h0]; simp)
  · refine Or.inr ⟨b, off, e, t, hne, hlt, fun j v hv => hr j v ?_⟩
    rw [bytesV_take, List.getElem?_take] at hv
    split at hv
    · exact hv
    · cases hv
structure RefV (T : Nat → Prop) (w : World) (g : Nat) (us : Nat → Value × Value) (d : DiskM) (lf : Int) : Prop where
  row : ∃ cs, w.heap[g]? = some (.cells cs 71 (0, 0)) ∧ cs.size = 71 ∧ ∀ j, j < 71 → cs[j]? = some (rfCell us d lf j)
  lf : 0 ≤ d.left → lf = d.left
  here : T g
  sl : ∀ f, f < 33 → SlT T g w ((d.files f).all.take (d.files f).dur) (us f).1
  so : ∀ f, f < 33 → SlT T g w ((d.files f).all.drop (d.files f).dur) (us f).2
  dom : ∀ k, T k → k < w.heap.size
def RefAt (T : Nat → Prop) (w : World) (g : Nat) (d : DiskM) : Prop := ∃ us lf, RefV T w g us d lf
section
variable {T T' F : Nat → Prop} {w w' : World} {g : Nat} {us us' : Nat → Value × Value} {d d' : DiskM} {lf lf' : Int}
theorem RefV.cell (h : RefV T w g us d lf) (j : Nat) (hj : j < 71) : w.cell? ⟨g, j, none⟩ = some (rfCell us d lf j) := by
  obtain ⟨cs, h1, h2, h3⟩ := h.row
  rw [cell_of_row w g j cs _ _ h1]; exact h3 j hj
theorem RefV.thaw (h : RefV T w g us d lf) (j : Nat) : w.frozen? ⟨g, j, none⟩ = false := by
  obtain ⟨cs, h1, -⟩ := h.row
  exact frozen_of_row _ _ _ _ _ h1
theorem RefV.lt (h : RefV T w g us d lf) : g < w.heap.size := h.dom g h.here
theorem RefV.room (h : RefV T w g us d lf) : w.cell? ⟨g, 0, none⟩ = some (.int .i64 (d.room : Int)) := h.cell 0 (by omega)
theorem RefV.las (h : RefV T w g us d lf) (f : Nat) (hf : f < 33) : w.cell? ⟨g, 1 + f * 2, none⟩ = some (us f).1 := by
  rw [h.cell _ (by omega), rfCell, if_neg (by omega), if_pos (by omega), if_pos (by omega), show (1 + f * 2 - 1) / 2 = f by omega]
theorem RefV.loo (h : RefV T w g us d lf) (f : Nat) (hf : f < 33) : w.cell? ⟨g, 1 + f * 2 + 1, none⟩ = some (us f).2 := by
  rw [h.cell _ (by omega), rfCell, if_neg (by omega), if_pos (by omega), if_neg (by omega), show (1 + f * 2 + 1 - 1) / 2 = f by omega]
theorem RefV.off (h : RefV T w g us d lf) : w.cell? ⟨g, 67, none⟩ = some (.bool d.down) := h.cell 67 (by omega)
theorem RefV.arm (h : RefV T w g us d lf) : w.cell? ⟨g, 68, none⟩ = some (.bool (decide (0 ≤ d.left))) := h.cell 68 (by omega)
theorem RefV.left (h : RefV T w g us d lf) : w.cell? ⟨g, 69, none⟩ = some (.int .i64 lf) := h.cell 69 (by omega)
theorem RefV.count (h : RefV T w g us d lf) : w.cell? ⟨g, 70, none⟩ = some (.int .i64 (d.count : Int)) := h.cell 70 (by omega)
theorem RefV.keep (h : RefV T w g us d lf) (hT : ∀ k, T k → T' k) (hdom : ∀ k, T' k → k < w'.heap.size) (hs : Stays F w w') (hF : ∀ k, F k → ¬ T k) : RefV T' w' g us d lf := by
  obtain ⟨cs, h1, h2⟩ := h.row
  exact ⟨⟨cs, (hs.block g h.lt (fun f => hF g f h.here)).trans h1, h2⟩, h.lf, hT g h.here, fun f hf => (h.sl f hf).keep hT hs (fun k fk t => absurd t (hF k fk)), fun f hf => (h.so f hf).keep hT hs (fun k fk t => absurd t (hF k fk)), hdom⟩
theorem RefAt.keep (h : RefAt T w g d) (hs : Stays F w w') (hF : ∀ k, F k → ¬ T k) : RefAt T w' g d := by
  obtain ⟨us, lf, h⟩ := h
  exact ⟨us, lf, h.keep (fun _ t => t) (fun k t => Nat.lt_of_lt_of_le (h.dom k t) hs.size) hs hF⟩
theorem RefAt.below (h : RefAt T w g d) (hb : Below w.heap.size w w') : RefAt T w' g d := h.keep (F := fun _ => False) (Below.stays hb) (fun _ f => f.elim)
/-- A cell of the block is written. -/
theorem RefV.put (h : RefV T w g us d lf) {j : Nat} (hj : j < 71) {v : Value} (hcell : ∀ i, i < 71 → rfCell us' d' lf' i = if i = j then v else rfCell us d lf i) (hlf : 0 ≤ d'.left → lf' = d'.left)
    (hsl : ∀ f, f < 33 → SlT T g w ((d'.files f).all.take (d'.files f).dur) (us' f).1) (hso : ∀ f, f < 33 → SlT T g w ((d'.files f).all.drop (d'.files f).dur) (us' f).2) : RefV T (w.setCell ⟨g, j, none⟩ v) g us' d' lf' := by
  obtain ⟨cs, h1, h2, h3⟩ := h.row
  have hs := stays_set w g j v
  refine ⟨⟨cs.setIfInBounds j v, heap_setCell_same w g j cs _ v h1, by rw [Array.size_setIfInBounds]; exact h2, fun i hi => ?_⟩, hlf, h.here, fun f hf => (hsl f hf).keep (fun _ t => t) hs (fun k fk _ => fk), fun f hf => (hso f hf).keep (fun _ t => t) hs (fun k fk _ => fk), fun k t => Nat.lt_of_lt_of_le (h.dom k t) hs.size⟩
  rw [hcell i hi]
  by_cases e : i = j
  · subst e
    rw [if_pos rfl, Array.getElem?_setIfInBounds_self_of_lt (by omega)]
  · rw [if_neg e, Array.getElem?_setIfInBounds_ne (Ne.symm e)]; exact h3 i hi
theorem RefV.putOff (h : RefV T w g us d lf) (b : Bool) : RefV T (w.setCell ⟨g, 67, none⟩ (.bool b)) g us { d with down := b } lf :=
  h.put (by omega) (fun i _ => by
    unfold rfCell
    by_cases e : i = 67
    · subst e; rfl
    · rw [if_neg (show ¬ i = 67 from e)]; simp only [if_neg e]) h.lf h.sl h.so
theorem RefV.putArm (h : RefV T w g us d lf) (n : Int) (hn : 0 ≤ n → lf = n) : RefV T (w.setCell ⟨g, 68, none⟩ (.bool (decide (0 ≤ n)))) g us { d with left := n } lf :=
  h.put (by omega) (fun i _ => by
    unfold rfCell
    by_cases e : i = 68
    · subst e; rfl
    · rw [if_neg (show ¬ i = 68 from e)]; simp only [if_neg e]) hn h.sl h.so
theorem RefV.putLeft (h : RefV T w g us d lf) (n : Int) (hn : 0 ≤ d.left ↔ 0 ≤ n) : RefV T (w.setCell ⟨g, 69, none⟩ (.int .i64 n)) g us { d with left := n } n :=
  h.put (by omega) (fun i _ => by
    unfold rfCell
    by_cases e : i = 69
    · subst e; rfl
    · rw [if_neg (show ¬ i = 69 from e)]
      simp only [if_neg e]
      rw [show decide (0 ≤ n) = decide (0 ≤ d.left) from decide_eq_decide.2 hn.symm]) (fun _ => rfl) h.sl h.so
theorem RefV.setLf (h : RefV T w g us d lf) (hd : ¬ 0 ≤ d.left) (n : Int) : RefV T (w.setCell ⟨g, 69, none⟩ (.int .i64 n)) g us d n :=
  h.put (by omega) (fun i _ => by
    unfold rfCell
    by_cases e : i = 69
    · subst e; rfl
    · rw [if_neg (show ¬ i = 69 from e)]; simp only [if_neg e]) (fun h0 => absurd h0 hd) h.sl h.so
theorem RefV.setArm (h : RefV T w g us d lf) (b : Bool) (n : Int) (hn : decide (0 ≤ n) = b) (hl : 0 ≤ n → lf = n) : RefV T (w.setCell ⟨g, 68, none⟩ (.bool b)) g us { d with left := n } lf := by
  rw [← hn]; exact h.putArm n hl
/-- Armed anew: that it is armed, and how many go well, in two stores (between them the second number is another one's). -/
theorem RefV.armTwo (h : RefV T w g us d lf) (n : Int) (hn : 0 ≤ n) : RefV T ((w.setCell ⟨g, 68, none⟩ (.bool true)).setCell ⟨g, 69, none⟩ (.int .i64 n)) g us { d with left := n } n := by
  obtain ⟨cs, h1, h2, h3⟩ := h.row
  have s1 := stays_set w g 68 (.bool true)
  have s2 := stays_set (w.setCell ⟨g, 68, none⟩ (.bool true)) g 69 (.int .i64 n)
  have hs := s1.trans s2 (G := fun k => k = g) (fun _ f _ => f)
  refine ⟨⟨_, heap_setCell_same _ g 69 _ _ _ (heap_setCell_same w g 68 cs _ _ h1), by rw [Array.size_setIfInBounds, Array.size_setIfInBounds]; exact h2, fun i hi => ?_⟩, fun _ => rfl, h.here, fun f hf => (h.sl f hf).keep (fun _ t => t) hs (fun k fk _ => fk), fun f hf => (h.so f hf).keep (fun _ t => t) hs (fun k fk _ => fk), fun k t => Nat.lt_of_lt_of_le (h.dom k t) hs.size⟩
  by_cases e : i = 69
  · subst e
    rw [Array.getElem?_setIfInBounds_self_of_lt (by rw [Array.size_setIfInBounds]; omega)]; rfl
  · rw [Array.getElem?_setIfInBounds_ne (Ne.symm e)]
    by_cases e2 : i = 68
    · subst e2
      rw [Array.getElem?_setIfInBounds_self_of_lt (by omega)]
      unfold rfCell
      simp [hn]
    · rw [Array.getElem?_setIfInBounds_ne (Ne.symm e2), h3 i hi]
      unfold rfCell
      simp only [if_neg e, if_neg e2]
theorem RefV.putCount (h : RefV T w g us d lf) (n : Nat) : RefV T (w.setCell ⟨g, 70, none⟩ (.int .i64 (n : Int))) g us { d with count := n } lf :=
  h.put (by omega) (fun i hi => by
    unfold rfCell
    by_cases e : i = 70
    · subst e; rfl
    · rw [if_neg (show ¬ i = 70 from e)]
      by_cases h0 : i = 0
      · simp only [if_pos h0]
      by_cases h1 : i < 67
      · simp only [if_neg h0, if_pos h1]
      by_cases h2 : i = 67
      · simp only [if_neg h0, if_neg h1, if_pos h2]
      by_cases h3 : i = 68
      · simp only [if_neg h0, if_neg h1, if_neg h2, if_pos h3]
      · simp only [if_neg h0, if_neg h1, if_neg h2, if_neg h3, if_pos (show i = 69 by omega)]) h.lf h.sl h.so
/-- What lasts of a file is another slice; what is loose. -/
theorem RefV.putLasts (h : RefV T w g us d lf) (f : Nat) (hf : f < 33) {l : List (BitVec 8)} {v : Value} (hv : SlT T g w l v) :
    RefV T (w.setCell ⟨g, 1 + f * 2, none⟩ v) g (fun k => if k = f then (v, (us f).2) else us k) { d with files := setF d.files f ⟨l ++ (d.files f).all.drop (d.files f).dur, l.length⟩ } lf :=
  h.put (by omega) (fun i hi => by
    unfold rfCell
    by_cases e : i = 1 + f * 2
    · subst e
      rw [if_pos rfl, if_neg (by omega), if_pos (by omega), if_pos (by omega), show (1 + f * 2 - 1) / 2 = f by omega]; dsimp only; rw [if_pos rfl]
    · rw [if_neg e]
      by_cases h0 : i = 0
      · simp only [if_pos h0]
      by_cases h1 : i < 67
      · simp only [if_neg h0, if_pos h1]
        by_cases h2 : (i - 1) / 2 = f
        · rw [if_pos h2, if_neg (by omega), if_neg (by omega), h2]
        · rw [if_neg h2]
      · simp only [if_neg h0, if_neg h1]) h.lf
    (fun k hk => by
      show SlT T g w ((setF d.files f _ k).all.take (setF d.files f _ k).dur) (if k = f then _ else _ : Value × Value).1
      by_cases e : k = f
      · subst e; rw [setF_same, if_pos rfl]; dsimp only; rw [List.take_left]; exact hv
      · rw [setF_other _ _ e, if_neg e]; exact h.sl k hk)
    (fun k hk => by
      show SlT T g w ((setF d.files f _ k).all.drop (setF d.files f _ k).dur) (if k = f then _ else _ : Value × Value).2
      by_cases e : k = f
      · subst e; rw [setF_same, if_pos rfl]; dsimp only; rw [List.drop_left]; exact h.so k hk
      · rw [setF_other _ _ e, if_neg e]; exact h.so k hk)
theorem RefV.putLoose (h : RefV T w g us d lf) (f : Nat) (hf : f < 33) (hd : (d.files f).dur ≤ (d.files f).all.length) {l : List (BitVec 8)} {v : Value} (hv : SlT T g w l v) :
    RefV T (w.setCell ⟨g, 1 + f * 2 + 1, none⟩ v) g (fun k => if k = f then ((us f).1, v) else us k) { d with files := setF d.files f ⟨(d.files f).all.take (d.files f).dur ++ l, (d.files f).dur⟩ } lf := by
  have hlen : ((d.files f).all.take (d.files f).dur).length = (d.files f).dur := by rw [List.length_take]; omega
  exact h.put (by omega) (fun i hi => by
    unfold rfCell
    by_cases e : i = 1 + f * 2 + 1
    · subst e
      rw [if_pos rfl, if_neg (by omega), if_pos (by omega), if_neg (by omega), show (1 + f * 2 + 1 - 1) / 2 = f by omega]; dsimp only; rw [if_pos rfl]
    · rw [if_neg e]
      by_cases h0 : i = 0
      · simp only [if_pos h0]
      by_cases h1 : i < 67
      · simp only [if_neg h0, if_pos h1]
        by_cases h2 : (i - 1) / 2 = f
        · rw [if_pos h2, if_pos (by omega), if_pos (by omega), h2]
        · rw [if_neg h2]
      · simp only [if_neg h0, if_neg h1]) h.lf
    (fun k hk => by
      show SlT T g w ((setF d.files f _ k).all.take (setF d.files f _ k).dur) (if k = f then _ else _ : Value × Value).1
      by_cases e : k = f
      · subst e; rw [setF_same, if_pos rfl]; dsimp only
        conv => arg 4; arg 1; rw [← hlen]
        rw [List.take_left]; exact h.sl k hk
      · rw [setF_other _ _ e, if_neg e]; exact h.sl k hk)
    (fun k hk => by
      show SlT T g w ((setF d.files f _ k).all.drop (setF d.files f _ k).dur) (if k = f then _ else _ : Value × Value).2
      by_cases e : k = f
      · subst e; rw [setF_same, if_pos rfl]; dsimp only
        conv => arg 4; arg 1; rw [← hlen]
        rw [List.drop_left]; exact hv
      · rw [setF_other _ _ e, if_neg e]; exact h.so k hk)
/-- A call of the reference: its block alone changes, of those that were there. -/
def RefGo (T : Nat → Prop) (g : Nat) (d : DiskM) (w w' : World) : Prop := ∃ T', RefAt T' w' g d ∧ (∀ k, T' k → T k ∨ w.heap.size ≤ k) ∧ Stays (fun k => k = g) w w'
theorem RefAt.stay (h : RefAt T w g d) : RefGo T g d w w := ⟨T, h, fun _ t => Or.inl t, Below.stays (Below.refl _ _)⟩
/-- The set with all blocks that were made. -/
theorem RefV.wide (h : RefV T w g us d lf) (hb : Below w.heap.size w w') : RefV (fun k => T k ∨ (w.heap.size ≤ k ∧ k < w'.heap.size)) w' g us d lf :=
  h.keep (fun _ t => Or.inl t) (fun k t => t.elim (fun t => Nat.lt_of_lt_of_le (h.dom k t) hb.size) (fun h => h.2)) (F := fun _ => False) (Below.stays hb) (fun _ f => f.elim)
end
end Go.Proofs.YtoidjapenompiaaDoor

/-
  The document's disk: New, Room, Count, Down, Used, Arm; is an operation struck; settle.
-/
namespace Go.Proofs.YtoidjapenompiaaDoor
open Go.RowKit Go.Proofs.ShaWords
/-- A number held within bounds. -/
theorem cutZ_any (n : Int) (m : Nat) (w : World) : Calls Tryd.prog 34 #[.int .i64 n, .int .i64 0, .int .i64 (m : Int)] w fun e w' => e = .returned (.int .i64 (min (max n 0) (m : Int))) ∧ w = w' := by
  by_cases h1 : n < 0
  · have e1 : min (max n 0) (m : Int) = 0 := by omega
    rw [e1]
    go_enter Tryd.func34, Tryd.ntmps34
    go_wp2_with fail
    go_ret
    exact ⟨rfl, rfl⟩
  · by_cases h2 : n > (m : Int)
    · have e1 : min (max n 0) (m : Int) = m := by omega
      rw [e1]
      by_cases h3 : m = 0
      · subst h3
        go_enter Tryd.func34, Tryd.ntmps34
        go_wp2_with fail
        go_ret
        exact ⟨rfl, rfl⟩
      · have q : 0 < m := by omega
        go_enter Tryd.func34, Tryd.ntmps34
        go_wp2_with fail
        go_ret
        exact ⟨rfl, rfl⟩
    · have e1 : min (max n 0) (m : Int) = n := by omega
      rw [e1]
      by_cases h3 : n = 0
      · subst h3
        clear h1 h2 e1
        by_cases h4 : m = 0
        · subst h4
          go_enter Tryd.func34, Tryd.ntmps34
          go_wp2_with fail
          go_ret
          exact ⟨rfl, rfl⟩
        · have q : 0 < m := by omega
          have q2 : ¬ m < 0 := by omega
          go_enter Tryd.func34, Tryd.ntmps34
          go_wp2_with fail
          go_ret
          exact ⟨rfl, rfl⟩
      · have q : 0 < n := by omega
        have q2 : ¬ n ≤ 0 := by omega
        go_enter Tryd.func34, Tryd.ntmps34
        go_wp2_with fail
        go_ret
        exact ⟨rfl, rfl⟩
section
variable (T : Nat → Prop) (g : Nat) (d : DiskM) (w : World)
theorem rfCount_any (h : RefAt T w g d) : Calls Tryd.prog 20 #[.pointer (some ⟨g, 0, none⟩)] w fun e w' => e = .returned (.int .i64 (d.count : Int)) ∧ w = w' := by
  obtain ⟨us, lf, h⟩ := h
  have c := h.count
  clear h
  go_enter Tryd.func20, Tryd.ntmps20
  go_wp2_with fail
  go_ret
  exact ⟨rfl, rfl⟩
theorem rfDown_any (h : RefAt T w g d) : Calls Tryd.prog 18 #[.pointer (some ⟨g, 0, none⟩)] w fun e w' => e = .returned (.bool d.down) ∧ w = w' := by
  obtain ⟨us, lf, h⟩ := h
  have c := h.off
  clear h
  go_enter Tryd.func18, Tryd.ntmps18
  go_wp2_with fail
  go_ret
  exact ⟨rfl, rfl⟩
set_option maxRecDepth 100000 in
theorem rfArm_any (n : Int) (h : RefAt T w g d) : Calls Tryd.prog 37 #[.pointer (some ⟨g, 0, none⟩), .int .i64 n] w fun e w' => e = .returned (.tuple #[]) ∧ RefGo T g (d.arm n) w w' := by
  obtain ⟨us, lf, h⟩ := h
  have c8 := h.arm
  have t8 := h.thaw 68
  have HD : Hid (RefGo T g (d.arm n) w ((w.setCell ⟨g, 68, none⟩ (.bool (decide (0 ≤ n)))).setCell ⟨g, 69, none⟩ (.int .i64 n))) := show RefGo _ _ _ _ _ by
    have e : d.arm n = { d with left := max n (-1) } := rfl
    by_cases hn : 0 ≤ n
    · have e2 : max n (-1) = n := by omega
      rw [e, e2]
      have h1 := h.armTwo n hn
      rw [decide_eq_true hn]
      exact ⟨T, ⟨us, n, h1⟩, fun _ t => Or.inl t, (stays_set w g 68 _).trans (stays_set _ g 69 _) (fun _ f _ => f)⟩
    · have h1 := h.putArm (max n (-1)) (fun h0 => by omega)
      rw [show decide (0 ≤ max n (-1)) = decide (0 ≤ n) from decide_eq_decide.2 (by omega)] at h1
      have h2 := h1.setLf (by show ¬ 0 ≤ max n (-1); omega) n
      exact ⟨T, ⟨us, n, h2⟩, fun _ t => Or.inl t, (stays_set w g 68 _).trans (stays_set _ g 69 _) (fun _ f _ => f)⟩
  have c9 := h.left
  have t9 := h.thaw 69
  have hg := h.lt
  obtain ⟨b, hb⟩ : ∃ b, b = decide (0 ≤ n) := ⟨_, rfl⟩
  by_cases hn : 0 ≤ n
  · rw [show decide (0 ≤ n) = true from decide_eq_true hn] at HD
    have q : n ≥ 0 := hn
    generalize decide (0 ≤ d.left) = bb at c8
    clear h hn hb
    go_enter Tryd.func37, Tryd.ntmps37
    go_wp2_with fail
    go_end0
    exact ⟨rfl, HD.out⟩
  · rw [show decide (0 ≤ n) = false from decide_eq_false hn] at HD
    have q : ¬ n ≥ 0 := hn
    generalize decide (0 ≤ d.left) = bb at c8
    clear h hn hb
    go_enter Tryd.func37, Tryd.ntmps37
    go_wp2_with fail
    go_end0
    exact ⟨rfl, HD.out⟩
/-- Is an operation struck, that is not refused? -/
theorem rfStrikes_any (h : RefAt T w g d) (hd : d.down = false) (hl : -1 ≤ d.left ∧ d.left < 9223372036854775808) : Calls Tryd.prog 68 #[.pointer (some ⟨g, 0, none⟩)] w fun e w' => e = .returned (.bool (decide (d.left = 0))) ∧ RefAt T w' g d.tick ∧ Stays (fun k => k = g) w w' := by
  obtain ⟨us, lf, h⟩ := h
  have HK : Hid (d.tick = { d with down := decide (d.left = 0), left := max (d.left - 1) (-1) }) := show _ = _ from rfl
  have c8 := h.arm
  have t8 := h.thaw 68
  have c9 := h.left
  have t9 := h.thaw 69
  have c7 := h.off
  have t7 := h.thaw 67
  by_cases h0 : 0 ≤ d.left
  · have e9 := h.lf h0
    rw [decide_eq_true h0] at c8
    by_cases h1 : d.left = 0
    · have HG : Hid (RefAt T ((w.setCell ⟨g, 68, none⟩ (.bool false)).setCell ⟨g, 67, none⟩ (.bool true)) g d.tick) := show RefAt _ _ _ _ by
        have h1' := h.putArm (-1) (fun x => by omega)
        rw [show decide (0 ≤ (-1 : Int)) = false from rfl] at h1'
        have h2 := h1'.putOff true
        rw [HK.out, decide_eq_true h1, show max (d.left - 1) (-1) = -1 by omega]
        exact ⟨us, lf, h2⟩
      rw [e9, h1] at c9
      rw [decide_eq_true h1]
      generalize d.down = dn at c7
      have hs : Hid (Stays (fun k => k = g) w ((w.setCell ⟨g, 68, none⟩ (.bool false)).setCell ⟨g, 67, none⟩ (.bool true))) := show Stays _ _ _ from (stays_set w g 68 _).trans (stays_set _ g 67 _) (fun _ f _ => f)
      clear h HK hd hl h0 h1 e9
      go_enter Tryd.func68, Tryd.ntmps68
      go_wp2_with fail
      go_ret
      exact ⟨rfl, HG.out, hs.out⟩
    · have HG : Hid (RefAt T (w.setCell ⟨g, 69, none⟩ (.int .i64 (d.left - 1))) g d.tick) := show RefAt _ _ _ _ by
        have h1' := h.putLeft (d.left - 1) (by omega)
        rw [HK.out, decide_eq_false h1, show max (d.left - 1) (-1) = d.left - 1 by omega, ← hd]
        exact ⟨us, _, h1'⟩
      rw [e9] at c9
      rw [decide_eq_false h1]
      have hs : Hid (Stays (fun k => k = g) w (w.setCell ⟨g, 69, none⟩ (.int .i64 (d.left - 1)))) := show Stays _ _ _ from stays_set w g 69 _
      have q1 : d.left > 0 := by omega
      have q2 : d.left < 9223372036854775808 := hl.2
      clear h HK hd hl h0 h1 e9 c7 t7
      generalize d.left = L at *
      go_enter Tryd.func68, Tryd.ntmps68
      go_wp2_with fail
      go_ret
      exact ⟨rfl, HG.out, hs.out⟩
  · rw [decide_eq_false h0] at c8
    have HG : Hid (RefAt T w g d.tick) := show RefAt _ _ _ _ by
      rw [HK.out, decide_eq_false (by omega), show max (d.left - 1) (-1) = d.left by omega, ← hd]
      exact ⟨us, lf, h⟩
    rw [decide_eq_false (by omega : ¬ d.left = 0)]
    clear h HK hd hl h0 c9 t9 c7 t7
    go_enter Tryd.func68, Tryd.ntmps68
    go_wp2_with fail
    go_ret
    exact ⟨rfl, HG.out, Below.stays (Below.refl _ _)⟩
end
end Go.Proofs.YtoidjapenompiaaDoor

/-
  The document's disk: New, Used, Read, settle.
-/
namespace Go.Proofs.YtoidjapenompiaaDoor
open Go.RowKit Go.Proofs.ShaWords
section
variable {ρ : Operand → Value} {o : Oper} {x y : Operand}
theorem run_ixFile {g k : Nat} (ho : o.op = .indexAddr 69 x y) (hx : ρ x = .pointer (some ⟨g, 1, none⟩)) (hy : ρ y = .int .i64 (k : Int)) (hk : k < 33) (w : World) : (execOp ρ o).run Tryd.prog w = .ok (.value (.pointer (some ⟨g, 1 + k * 2, none⟩))) w := by
  obtain ⟨dst, op, ty', pos, after, guard⟩ := o
  simp only at ho
  subst ho
  have q : (k : Int) < 33 := by omega
  go_simp
theorem run_fieldFile0 {b off : Nat} (ho : o.op = .fieldAddr 68 x 0) (hx : ρ x = .pointer (some ⟨b, off, none⟩)) (w : World) : (execOp ρ o).run Tryd.prog w = .ok (.value (.pointer (some ⟨b, off, none⟩))) w := by
  obtain ⟨dst, op, ty', pos, after, guard⟩ := o
  simp only at ho
  subst ho
  go_simp
theorem run_fieldFile1 {b off : Nat} (ho : o.op = .fieldAddr 68 x 1) (hx : ρ x = .pointer (some ⟨b, off, none⟩)) (w : World) : (execOp ρ o).run Tryd.prog w = .ok (.value (.pointer (some ⟨b, off + 1, none⟩))) w := by
  obtain ⟨dst, op, ty', pos, after, guard⟩ := o
  simp only at ho
  subst ho
  go_simp
end
theorem m_append {ops : Array Oper} {Q : Exit → Act → World → Prop} {S E : World → Prop} {r : List (Nat × Met)} {i : Nat} {o : Oper} {d : Option Tmp} {a : Act} {w : World} {s x : Operand} {v : Value} {p : Option Addr} {k c : Nat} (ho : ops[i]? = some o) (hd : o.dst = d) (hw : Region.wanted o (yielded ops a.tmps) = true)
    (q : o.op = .call { callee := .builtin .append, args := #[s, x], argTypes := #[37, 37] }) (hs : a.eval s = v) (hx : a.eval x = .slice p k c)
    (B : Nat) (l m : List (BitVec 8)) (hown : Own B w l v) (hk : m.length = k) (hm : Lies w p m) (hl : l.length + k < 140737488355328) (hB : B ≤ w.heap.size)
    (h : ∀ v' w', Own B w' (l ++ m) v' → Below B w w' → S w' ∧ wpE Tryd.prog ops Q S E r (a.put d v') w') : wpE Tryd.prog ops Q S E ((i, .behind) :: r) a w := by
  obtain ⟨v', w', hr, h1, h2, h3⟩ := run_appendAt (ρ := a.eval) q hs hx B l m hown hk hm hl hB
  refine m_value ho hd hw hr (h v' w' h1 ((Below.refl B w).grown h2 hB (fun k hk => ?_)))
  exact (World.ownsRow.lt hown k hk).1
theorem RefV.files (T : Nat → Prop) {w : World} {g : Nat} {us : Nat → Value × Value} {d : DiskM} {lf : Int} (h : RefV T w g us d lf) (f : Nat) (hf : f < 33) :
    ∃ q1 c1 q2 c2, w.cell? ⟨g, 1 + f * 2, none⟩ = some (.slice q1 ((d.files f).all.take (d.files f).dur).length c1) ∧ w.cell? ⟨g, 1 + f * 2 + 1, none⟩ = some (.slice q2 ((d.files f).all.drop (d.files f).dur).length c2) ∧
      SlT T g w ((d.files f).all.take (d.files f).dur) (.slice q1 ((d.files f).all.take (d.files f).dur).length c1) ∧ SlT T g w ((d.files f).all.drop (d.files f).dur) (.slice q2 ((d.files f).all.drop (d.files f).dur).length c2) := by
  obtain ⟨q1, c1, e1, -, -⟩ := h.sl f hf
  obtain ⟨q2, c2, e2, -, -⟩ := h.so f hf
  exact ⟨q1, c1, q2, c2, e1 ▸ h.las f hf, e2 ▸ h.loo f hf, e1 ▸ h.sl f hf, e2 ▸ h.so f hf⟩
theorem file_small {d : DiskM} (h : d.Ok) (f : Nat) (hf : f < 33) : (d.files f).all.length ≤ 262144 := by
  have h1 := sumTo_le d.files f 33 hf
  have h2 := h.used
  have h3 := h.room
  unfold DiskM.used at h2
  omega
theorem sumTo_up (F : Nat → FileM) : ∀ n m, n ≤ m → sumTo F n ≤ sumTo F m := fun n m hnm => by
  induction m with
  | zero => have : n = 0 := by omega
            subst this; exact Nat.le_refl _
  | succ m ih =>
    by_cases e : n = m + 1
    · subst e; exact Nat.le_refl _
    · exact Nat.le_trans (ih (by omega)) (by show _ ≤ sumTo F m + _; omega)
section
variable (T : Nat → Prop) (g : Nat) (d : DiskM) (w : World)
set_option maxRecDepth 100000 in
set_option maxHeartbeats 2000000 in
theorem rfUsed_any (h : RefAt T w g d) (hok : d.Ok) : Calls Tryd.prog 67 #[.pointer (some ⟨g, 0, none⟩)] w fun e w' => e = .returned (.int .i64 (d.used : Int)) ∧ Below w.heap.size w w' := by
  have HD := Lib.hid h
  have HOK := Lib.hid hok
  clear h hok
  have HS : Hid (sumTo d.files 0 = 0) := show _ = _ from rfl
  go_enter Tryd.func67, Tryd.ntmps67
  go_wp2_with fail
  go_loopw [3, 4] (fun n i wr => ∃ k : Nat, k ≤ 33 ∧ i = .int .i64 (k : Int) ∧ n = .int .i64 ((sumTo d.files k : Nat) : Int) ∧ Below w.heap.size w wr) (fun _ i _ => 33 - (intOf i).toNat)
  case atStart => exact ⟨0, by omega, rfl, rfl, Below.refl _ _⟩
  case round =>
    obtain ⟨k, hk, rfl, rfl, hb⟩ := hrel
    have HB := Lib.hid hb
    by_cases hlt : k < 33
    · have hd0 : Below wr.heap.size wr wr.drew := (Below.refl _ _).drew
      have HBD : Hid (Below w.heap.size w wr.drew) := show Below _ _ _ from hb.trans (hd0.mono hb.size)
      have HRD := Lib.hid (HD.out.below HBD.out)
      obtain ⟨us, lf, hv⟩ := HRD.out
      obtain ⟨qa1, ca1, qa2, ca2, e1, e2, -, -⟩ := hv.files T k hlt
      have hdur := HOK.out.dur k hlt
      obtain ⟨n1, hn1⟩ : ∃ n, ((d.files k).all.take (d.files k).dur).length = n := ⟨_, rfl⟩
      obtain ⟨n2, hn2⟩ : ∃ n, ((d.files k).all.drop (d.files k).dur).length = n := ⟨_, rfl⟩
      rw [hn1] at e1
      rw [hn2] at e2
      rw [List.length_take] at hn1
      rw [List.length_drop] at hn2
      have HN : Hid (sumTo d.files (k + 1) = sumTo d.files k + n1 + n2) := show _ = _ by
        show sumTo d.files k + (d.files k).all.length = _
        omega
      have hle : sumTo d.files (k + 1) ≤ 262144 := Nat.le_trans (sumTo_up d.files _ 33 (by omega)) (Nat.le_trans HOK.out.used HOK.out.room)
      rw [HN.out] at hle
      have HE : Hid (wr.drew.cell? ⟨g, 1 + k * 2, none⟩ = some (.slice qa1 n1 ca1) ∧ wr.drew.cell? ⟨g, 1 + k * 2 + 1, none⟩ = some (.slice qa2 n2 ca2)) := show _ ∧ _ from ⟨e1, e2⟩
      clear hv e1 e2 hdur hn1 hn2 hb hd0
      generalize sumTo d.files k = m at HN hle ⊢
      have HLE := Lib.hid hle; have HLT := Lib.hid hlt
      clear hle hlt
      have q1 : (k : Int) ≤ 32 := by have := HLT.out; omega
      go_upto_region 5 with fail
      refine region_phase (fun w' => w'.cell? ⟨g, 1 + k * 2, none⟩ = some (.slice qa1 n1 ca1) ∧ w'.cell? ⟨g, 1 + k * 2 + 1, none⟩ = some (.slice qa2 n2 ca2)) (fun _ => True) 99 (HE.out) trivial [(0, .free), (1, .free), (2, .free), (3, .free), (4, .free), (5, .free), (6, .free), (7, .free), (8, .free), (9, .free), (10, .free), (11, .free), (12, .free), (13, .free), (14, .free), (15, .free), (16, .free), (17, .free), (18, .free), (19, .free)] (by kernel_rfl) (by kernel_rfl) (by kernel_rfl) (by kernel_rfl) (fun ops hops A hA => ?_)
      have hsz : A.tmps.size = 29 := by rw [hA]; rfl
      have base0 : A.eval (.tmp 0) = .pointer (some ⟨g, 0, none⟩) := by rw [hA]; rfl
      have base3 : A.eval (.tmp 3) = .int .i64 (m : Int) := by rw [hA]; rfl
      have base4 : A.eval (.tmp 4) = .int .i64 (k : Int) := by rw [hA]; rfl
      have HAA := Lib.hid hA; clear hA
      obtain ⟨o0, po0, q0, d0, gd0⟩ : ∃ o, ops[0]? = some o ∧ o.op = .move (.tmp 3) ∧ o.dst = some 9 ∧ o.guard = none := ⟨_, by rw [hops]; rfl, rfl, rfl, rfl⟩
      obtain ⟨o1, po1, q1, d1, gd1⟩ : ∃ o, ops[1]? = some o ∧ o.op = .move (.tmp 0) ∧ o.dst = some 10 ∧ o.guard = none := ⟨_, by rw [hops]; rfl, rfl, rfl, rfl⟩
      obtain ⟨o2, po2, q2, d2, gd2⟩ : ∃ o, ops[2]? = some o ∧ o.op = .move (.tmp 4) ∧ o.dst = some 11 ∧ o.guard = none := ⟨_, by rw [hops]; rfl, rfl, rfl, rfl⟩
      obtain ⟨o3, po3, q3, d3, gd3⟩ : ∃ o, ops[3]? = some o ∧ o.op = .nilCheck (.tmp 10) ∧ o.dst = some 12 ∧ o.guard = none := ⟨_, by rw [hops]; rfl, rfl, rfl, rfl⟩
      obtain ⟨o4, po4, q4, d4, gd4⟩ : ∃ o, ops[4]? = some o ∧ o.op = .fieldAddr 71 (.tmp 12) 1 ∧ o.dst = some 13 ∧ o.guard = none := ⟨_, by rw [hops]; rfl, rfl, rfl, rfl⟩
      obtain ⟨o5, po5, q5, d5, gd5⟩ : ∃ o, ops[5]? = some o ∧ o.op = .indexAddr 69 (.tmp 13) (.tmp 11) ∧ o.dst = some 14 ∧ o.guard = none := ⟨_, by rw [hops]; rfl, rfl, rfl, rfl⟩
      obtain ⟨o6, po6, q6, d6, gd6⟩ : ∃ o, ops[6]? = some o ∧ o.op = .fieldAddr 68 (.tmp 14) 0 ∧ o.dst = some 15 ∧ o.guard = none := ⟨_, by rw [hops]; rfl, rfl, rfl, rfl⟩
      obtain ⟨o7, po7, q7, d7, gd7⟩ : ∃ o, ops[7]? = some o ∧ o.op = .load 37 (.tmp 15) ∧ o.dst = some 16 ∧ o.guard = none := ⟨_, by rw [hops]; rfl, rfl, rfl, rfl⟩
      obtain ⟨o8, po8, q8, d8, gd8⟩ : ∃ o, ops[8]? = some o ∧ o.op = .call { callee := .builtin .len, args := #[.tmp 16], argTypes := #[37] } ∧ o.dst = some 17 ∧ o.guard = none := ⟨_, by rw [hops]; rfl, rfl, rfl, rfl⟩
      obtain ⟨o9, po9, q9, d9, gd9⟩ : ∃ o, ops[9]? = some o ∧ o.op = .binOp .add 3 (.tmp 9) (.tmp 17) 3 ∧ o.dst = some 18 ∧ o.guard = none := ⟨_, by rw [hops]; rfl, rfl, rfl, rfl⟩
      obtain ⟨o10, po10, q10, d10, gd10⟩ : ∃ o, ops[10]? = some o ∧ o.op = .move (.tmp 0) ∧ o.dst = some 19 ∧ o.guard = none := ⟨_, by rw [hops]; rfl, rfl, rfl, rfl⟩
      obtain ⟨o11, po11, q11, d11, gd11⟩ : ∃ o, ops[11]? = some o ∧ o.op = .move (.tmp 4) ∧ o.dst = some 20 ∧ o.guard = none := ⟨_, by rw [hops]; rfl, rfl, rfl, rfl⟩
      obtain ⟨o12, po12, q12, d12, gd12⟩ : ∃ o, ops[12]? = some o ∧ o.op = .nilCheck (.tmp 19) ∧ o.dst = some 21 ∧ o.guard = none := ⟨_, by rw [hops]; rfl, rfl, rfl, rfl⟩
      obtain ⟨o13, po13, q13, d13, gd13⟩ : ∃ o, ops[13]? = some o ∧ o.op = .fieldAddr 71 (.tmp 21) 1 ∧ o.dst = some 22 ∧ o.guard = none := ⟨_, by rw [hops]; rfl, rfl, rfl, rfl⟩
      obtain ⟨o14, po14, q14, d14, gd14⟩ : ∃ o, ops[14]? = some o ∧ o.op = .indexAddr 69 (.tmp 22) (.tmp 20) ∧ o.dst = some 23 ∧ o.guard = none := ⟨_, by rw [hops]; rfl, rfl, rfl, rfl⟩
      obtain ⟨o15, po15, q15, d15, gd15⟩ : ∃ o, ops[15]? = some o ∧ o.op = .fieldAddr 68 (.tmp 23) 1 ∧ o.dst = some 24 ∧ o.guard = none := ⟨_, by rw [hops]; rfl, rfl, rfl, rfl⟩
      obtain ⟨o16, po16, q16, d16, gd16⟩ : ∃ o, ops[16]? = some o ∧ o.op = .load 37 (.tmp 24) ∧ o.dst = some 25 ∧ o.guard = none := ⟨_, by rw [hops]; rfl, rfl, rfl, rfl⟩
      obtain ⟨o17, po17, q17, d17, gd17⟩ : ∃ o, ops[17]? = some o ∧ o.op = .call { callee := .builtin .len, args := #[.tmp 25], argTypes := #[37] } ∧ o.dst = some 26 ∧ o.guard = none := ⟨_, by rw [hops]; rfl, rfl, rfl, rfl⟩
      obtain ⟨o18, po18, q18, d18, gd18⟩ : ∃ o, ops[18]? = some o ∧ o.op = .binOp .add 3 (.tmp 18) (.tmp 26) 3 ∧ o.dst = some 27 ∧ o.guard = none := ⟨_, by rw [hops]; rfl, rfl, rfl, rfl⟩
      obtain ⟨o19, po19, q19, d19, gd19⟩ : ∃ o, ops[19]? = some o ∧ o.op = .assign (.tmp 27) ∧ o.dst = some 3 ∧ o.guard = none := ⟨_, by rw [hops]; rfl, rfl, rfl, rfl⟩
      clear hops
      refine met_free po0 d0 (wanted_of gd0) (fun w' h' => run_move q0 base3 w') ?_
      refine met_free po1 d1 (wanted_of gd1) (fun w' h' => run_move q1 ((eval_other _ 9 0 _ (by decide)).trans base0) w') ?_
      refine met_free po2 d2 (wanted_of gd2) (fun w' h' => run_move q2 ((eval_other _ 10 4 _ (by decide)).trans ((eval_other _ 9 4 _ (by decide)).trans base4)) w') ?_
      refine met_free po3 d3 (wanted_of gd3) (fun w' h' => run_nilCheck q3 ((eval_other _ 11 10 _ (by decide)).trans (eval_same _ _ _ (by simp only [put_size, hsz]; decide))) w') ?_
      refine met_free po4 d4 (wanted_of gd4) (fun w' h' => run_fieldT (off := 1) q4 (fun _ => by kernel_rfl) (eval_same _ _ _ (by simp only [put_size, hsz]; decide)) w') ?_
      refine met_free po5 d5 (wanted_of gd5) (fun w' h' => run_ixFile q5 (eval_same _ _ _ (by simp only [put_size, hsz]; decide)) ((eval_other _ 13 11 _ (by decide)).trans ((eval_other _ 12 11 _ (by decide)).trans (eval_same _ _ _ (by simp only [put_size, hsz]; decide)))) HLT.out w') ?_
      refine met_free po6 d6 (wanted_of gd6) (fun w' h' => run_fieldFile0 q6 (eval_same _ _ _ (by simp only [put_size, hsz]; decide)) w') ?_
      refine met_free po7 d7 (wanted_of gd7) (fun w' h' => run_loadBs q7 (eval_same _ _ _ (by simp only [put_size, hsz]; decide)) h'.1) ?_
      refine met_free po8 d8 (wanted_of gd8) (fun w' h' => run_len26 q8 (eval_same _ _ _ (by simp only [put_size, hsz]; decide)) w') ?_
      refine met_free po9 d9 (wanted_of gd9) (fun w' h' => run_addI q9 ((eval_other _ 17 9 _ (by decide)).trans ((eval_other _ 16 9 _ (by decide)).trans ((eval_other _ 15 9 _ (by decide)).trans ((eval_other _ 14 9 _ (by decide)).trans ((eval_other _ 13 9 _ (by decide)).trans ((eval_other _ 12 9 _ (by decide)).trans ((eval_other _ 11 9 _ (by decide)).trans ((eval_other _ 10 9 _ (by decide)).trans (eval_same _ _ _ (by rw [hsz]; decide)))))))))) (eval_same _ _ _ (by simp only [put_size, hsz]; decide)) (by have := HLE.out; omega) w') ?_
      refine met_free po10 d10 (wanted_of gd10) (fun w' h' => run_move q10 ((eval_other _ 18 0 _ (by decide)).trans ((eval_other _ 17 0 _ (by decide)).trans ((eval_other _ 16 0 _ (by decide)).trans ((eval_other _ 15 0 _ (by decide)).trans ((eval_other _ 14 0 _ (by decide)).trans ((eval_other _ 13 0 _ (by decide)).trans ((eval_other _ 12 0 _ (by decide)).trans ((eval_other _ 11 0 _ (by decide)).trans ((eval_other _ 10 0 _ (by decide)).trans ((eval_other _ 9 0 _ (by decide)).trans base0)))))))))) w') ?_
      refine met_free po11 d11 (wanted_of gd11) (fun w' h' => run_move q11 ((eval_other _ 19 4 _ (by decide)).trans ((eval_other _ 18 4 _ (by decide)).trans ((eval_other _ 17 4 _ (by decide)).trans ((eval_other _ 16 4 _ (by decide)).trans ((eval_other _ 15 4 _ (by decide)).trans ((eval_other _ 14 4 _ (by decide)).trans ((eval_other _ 13 4 _ (by decide)).trans ((eval_other _ 12 4 _ (by decide)).trans ((eval_other _ 11 4 _ (by decide)).trans ((eval_other _ 10 4 _ (by decide)).trans ((eval_other _ 9 4 _ (by decide)).trans base4))))))))))) w') ?_
      refine met_free po12 d12 (wanted_of gd12) (fun w' h' => run_nilCheck q12 ((eval_other _ 20 19 _ (by decide)).trans (eval_same _ _ _ (by simp only [put_size, hsz]; decide))) w') ?_
      refine met_free po13 d13 (wanted_of gd13) (fun w' h' => run_fieldT (off := 1) q13 (fun _ => by kernel_rfl) (eval_same _ _ _ (by simp only [put_size, hsz]; decide)) w') ?_
      refine met_free po14 d14 (wanted_of gd14) (fun w' h' => run_ixFile q14 (eval_same _ _ _ (by simp only [put_size, hsz]; decide)) ((eval_other _ 22 20 _ (by decide)).trans ((eval_other _ 21 20 _ (by decide)).trans (eval_same _ _ _ (by simp only [put_size, hsz]; decide)))) HLT.out w') ?_
      refine met_free po15 d15 (wanted_of gd15) (fun w' h' => run_fieldFile1 q15 (eval_same _ _ _ (by simp only [put_size, hsz]; decide)) w') ?_
      refine met_free po16 d16 (wanted_of gd16) (fun w' h' => run_loadBs q16 (eval_same _ _ _ (by simp only [put_size, hsz]; decide)) h'.2) ?_
      refine met_free po17 d17 (wanted_of gd17) (fun w' h' => run_len26 q17 (eval_same _ _ _ (by simp only [put_size, hsz]; decide)) w') ?_
      refine met_free po18 d18 (wanted_of gd18) (fun w' h' => run_addI q18 ((eval_other _ 26 18 _ (by decide)).trans ((eval_other _ 25 18 _ (by decide)).trans ((eval_other _ 24 18 _ (by decide)).trans ((eval_other _ 23 18 _ (by decide)).trans ((eval_other _ 22 18 _ (by decide)).trans ((eval_other _ 21 18 _ (by decide)).trans ((eval_other _ 20 18 _ (by decide)).trans ((eval_other _ 19 18 _ (by decide)).trans (eval_same _ _ _ (by simp only [put_size, hsz]; decide)))))))))) (eval_same _ _ _ (by simp only [put_size, hsz]; decide)) (by have := HLE.out; omega) w') ?_
      refine met_free po19 d19 (wanted_of gd19) (fun w' h' => run_assign q19 (eval_same _ _ _ (by simp only [put_size, hsz]; decide)) w') ?_
      show NoPanic _ .normal _ _
      refine NoPanic.normal ?_
      rw [HAA.out]
      go_frame
      clear HAA
      clear HE HRD
      generalize wr.drew = w2 at *
      have q2 : (m : Int) + (n1 : Int) + (n2 : Int) ≤ 262144 := by have := HLE.out; omega
      go_wp2_with fail
      go_roundw
      case rel => exact ⟨k + 1, by have := HLT.out; omega, by go_num, by rw [HN.out]; go_num, HBD.out⟩
      case measure => have := HLT.out; simp [intOf]; omega
    · obtain rfl : k = 33 := by omega
      have q1 : ¬ ((33 : Nat) : Int) ≤ 32 := by omega
      clear hb
      go_wp2_with fail
      go_ret
      exact ⟨rfl, HB.out⟩
set_option maxRecDepth 100000 in
set_option maxHeartbeats 2000000 in
theorem rfRead_any (f : Int) (h : RefAt T w g d) (hok : d.Ok) : Calls Tryd.prog 16 #[.pointer (some ⟨g, 0, none⟩), .int .i64 f] w fun e w' => ∃ v, e = .returned v ∧ Own w.heap.size w' (d.read f) v ∧ Below w.heap.size w w' := by
  by_cases hf : 0 ≤ f ∧ f ≤ 32
  · obtain ⟨k, rfl⟩ : ∃ k : Nat, f = (k : Int) := ⟨f.toNat, by omega⟩
    have hk : k < 33 := by omega
    have q1 : ¬ (k : Int) < 0 := by omega
    have q2 : ¬ (k : Int) > 32 := by omega
    have hrd : d.read (k : Int) = (d.files k).all.take (d.files k).dur ++ (d.files k).all.drop (d.files k).dur := by unfold DiskM.read; rw [if_pos hf, Int.toNat_natCast, List.take_append_drop]
    have hsm := file_small hok k hk
    rw [hrd]
    have hlt := (by obtain ⟨us, lf, hv⟩ := h; exact hv.lt : g < w.heap.size)
    have HD := Lib.hid (h.below (Below.refl w.heap.size w).drew)
    clear h hf hok hrd
    obtain ⟨us, lf, hv⟩ := HD.out
    obtain ⟨qa1, ca1, qa2, ca2, e1, e2, s1, s2⟩ := hv.files T k hk
    have l1 : ((d.files k).all.take (d.files k).dur).length ≤ 262144 := by rw [List.length_take]; omega
    have l2 : ((d.files k).all.drop (d.files k).dur).length ≤ 262144 := by rw [List.length_drop]; omega
    generalize (d.files k).all.take (d.files k).dur = a1 at *
    generalize (d.files k).all.drop (d.files k).dur = a2 at *
    obtain ⟨n1, hn1⟩ : ∃ n, a1.length = n := ⟨_, rfl⟩
    obtain ⟨n2, hn2⟩ : ∃ n, a2.length = n := ⟨_, rfl⟩
    obtain ⟨_, _, he1, -, L1⟩ := s1.lies
    cases he1
    obtain ⟨_, _, he2, -, L2⟩ := s2.lies
    cases he2
    rw [hn1] at e1 l1
    rw [hn2] at e2 l2
    have HN1 := Lib.hid hn1; have HN2 := Lib.hid hn2; have HL1 := Lib.hid L1; have HL2 := Lib.hid L2
    have HLL : Hid (n1 ≤ 262144 ∧ n2 ≤ 262144) := show _ ∧ _ from ⟨l1, l2⟩
    have HE : Hid (w.drew.cell? ⟨g, 1 + k * 2, none⟩ = some (.slice qa1 n1 ca1) ∧ w.drew.cell? ⟨g, 1 + k * 2 + 1, none⟩ = some (.slice qa2 n2 ca2)) := show _ ∧ _ from ⟨e1, e2⟩
    have HHK := Lib.hid hk; have HGT := Lib.hid hlt
    clear hv hn1 hn2 L1 L2 l1 l2 e1 e2 s1 s2 hsm hk hlt
    go_enter Tryd.func16, Tryd.ntmps16
    go_upto_region 3 with fail
    refine region_phase (fun w' => w'.cell? ⟨g, 1 + k * 2, none⟩ = some (.slice qa1 n1 ca1) ∧ w'.cell? ⟨g, 1 + k * 2 + 1, none⟩ = some (.slice qa2 n2 ca2)) (fun _ => True) 7 (HE.out) trivial [(0, .free), (1, .free), (2, .free), (3, .free), (4, .free), (5, .free), (6, .free), (8, .free), (9, .free), (10, .free), (11, .free), (12, .free), (13, .free), (14, .free), (7, .behind), (15, .behind), (16, .free)] (by kernel_rfl) (by kernel_rfl) (by kernel_rfl) (by kernel_rfl) (fun ops hops A hA => ?_)
    have hsz : A.tmps.size = 27 := by rw [hA]; rfl
    have base0 : A.eval (.tmp 0) = .pointer (some ⟨g, 0, none⟩) := by rw [hA]; rfl
    have base1 : A.eval (.tmp 1) = .int .i64 (k : Int) := by rw [hA]; rfl
    have HAA := Lib.hid hA; clear hA
    obtain ⟨o0, po0, q0, d0, gd0⟩ : ∃ o, ops[0]? = some o ∧ o.op = .move (.tmp 0) ∧ o.dst = some 11 ∧ o.guard = none := ⟨_, by rw [hops]; rfl, rfl, rfl, rfl⟩
    obtain ⟨o1, po1, q1, d1, gd1⟩ : ∃ o, ops[1]? = some o ∧ o.op = .move (.tmp 1) ∧ o.dst = some 12 ∧ o.guard = none := ⟨_, by rw [hops]; rfl, rfl, rfl, rfl⟩
    obtain ⟨o2, po2, q2, d2, gd2⟩ : ∃ o, ops[2]? = some o ∧ o.op = .nilCheck (.tmp 11) ∧ o.dst = some 13 ∧ o.guard = none := ⟨_, by rw [hops]; rfl, rfl, rfl, rfl⟩
    obtain ⟨o3, po3, q3, d3, gd3⟩ : ∃ o, ops[3]? = some o ∧ o.op = .fieldAddr 71 (.tmp 13) 1 ∧ o.dst = some 14 ∧ o.guard = none := ⟨_, by rw [hops]; rfl, rfl, rfl, rfl⟩
    obtain ⟨o4, po4, q4, d4, gd4⟩ : ∃ o, ops[4]? = some o ∧ o.op = .indexAddr 69 (.tmp 14) (.tmp 12) ∧ o.dst = some 15 ∧ o.guard = none := ⟨_, by rw [hops]; rfl, rfl, rfl, rfl⟩
    obtain ⟨o5, po5, q5, d5, gd5⟩ : ∃ o, ops[5]? = some o ∧ o.op = .fieldAddr 68 (.tmp 15) 0 ∧ o.dst = some 16 ∧ o.guard = none := ⟨_, by rw [hops]; rfl, rfl, rfl, rfl⟩
    obtain ⟨o6, po6, q6, d6, gd6⟩ : ∃ o, ops[6]? = some o ∧ o.op = .load 37 (.tmp 16) ∧ o.dst = some 17 ∧ o.guard = none := ⟨_, by rw [hops]; rfl, rfl, rfl, rfl⟩
    obtain ⟨o7, po7, q7, d7, gd7⟩ : ∃ o, ops[7]? = some o ∧ o.op = .call { callee := .value (.func 33), args := #[.tmp 17], argTypes := #[37] } ∧ o.dst = some 18 ∧ o.guard = none := ⟨_, by rw [hops]; rfl, rfl, rfl, rfl⟩
    obtain ⟨o8, po8, q8, d8, gd8⟩ : ∃ o, ops[8]? = some o ∧ o.op = .move (.tmp 0) ∧ o.dst = some 19 ∧ o.guard = none := ⟨_, by rw [hops]; rfl, rfl, rfl, rfl⟩
    obtain ⟨o9, po9, q9, d9, gd9⟩ : ∃ o, ops[9]? = some o ∧ o.op = .move (.tmp 1) ∧ o.dst = some 20 ∧ o.guard = none := ⟨_, by rw [hops]; rfl, rfl, rfl, rfl⟩
    obtain ⟨o10, po10, q10, d10, gd10⟩ : ∃ o, ops[10]? = some o ∧ o.op = .nilCheck (.tmp 19) ∧ o.dst = some 21 ∧ o.guard = none := ⟨_, by rw [hops]; rfl, rfl, rfl, rfl⟩
    obtain ⟨o11, po11, q11, d11, gd11⟩ : ∃ o, ops[11]? = some o ∧ o.op = .fieldAddr 71 (.tmp 21) 1 ∧ o.dst = some 22 ∧ o.guard = none := ⟨_, by rw [hops]; rfl, rfl, rfl, rfl⟩
    obtain ⟨o12, po12, q12, d12, gd12⟩ : ∃ o, ops[12]? = some o ∧ o.op = .indexAddr 69 (.tmp 22) (.tmp 20) ∧ o.dst = some 23 ∧ o.guard = none := ⟨_, by rw [hops]; rfl, rfl, rfl, rfl⟩
    obtain ⟨o13, po13, q13, d13, gd13⟩ : ∃ o, ops[13]? = some o ∧ o.op = .fieldAddr 68 (.tmp 23) 1 ∧ o.dst = some 24 ∧ o.guard = none := ⟨_, by rw [hops]; rfl, rfl, rfl, rfl⟩
    obtain ⟨o14, po14, q14, d14, gd14⟩ : ∃ o, ops[14]? = some o ∧ o.op = .load 37 (.tmp 24) ∧ o.dst = some 25 ∧ o.guard = none := ⟨_, by rw [hops]; rfl, rfl, rfl, rfl⟩
    obtain ⟨o15, po15, q15, d15, gd15⟩ : ∃ o, ops[15]? = some o ∧ o.op = .call { callee := .builtin .append, args := #[.tmp 18, .tmp 25], argTypes := #[37, 37] } ∧ o.dst = some 26 ∧ o.guard = none := ⟨_, by rw [hops]; rfl, rfl, rfl, rfl⟩
    obtain ⟨o16, po16, q16, d16, gd16⟩ : ∃ o, ops[16]? = some o ∧ o.op = .assign (.tmp 26) ∧ o.dst = some 4 ∧ o.guard = none := ⟨_, by rw [hops]; rfl, rfl, rfl, rfl⟩
    clear hops
    refine met_free po0 d0 (wanted_of gd0) (fun w' h' => run_move q0 base0 w') ?_
    refine met_free po1 d1 (wanted_of gd1) (fun w' h' => run_move q1 ((eval_other _ 11 1 _ (by decide)).trans base1) w') ?_
    refine met_free po2 d2 (wanted_of gd2) (fun w' h' => run_nilCheck q2 ((eval_other _ 12 11 _ (by decide)).trans (eval_same _ _ _ (by rw [hsz]; decide))) w') ?_
    refine met_free po3 d3 (wanted_of gd3) (fun w' h' => run_fieldT (off := 1) q3 (fun _ => by kernel_rfl) (eval_same _ _ _ (by simp only [put_size, hsz]; decide)) w') ?_
    refine met_free po4 d4 (wanted_of gd4) (fun w' h' => run_ixFile q4 (eval_same _ _ _ (by simp only [put_size, hsz]; decide)) ((eval_other _ 14 12 _ (by decide)).trans ((eval_other _ 13 12 _ (by decide)).trans (eval_same _ _ _ (by simp only [put_size, hsz]; decide)))) HHK.out w') ?_
    refine met_free po5 d5 (wanted_of gd5) (fun w' h' => run_fieldFile0 q5 (eval_same _ _ _ (by simp only [put_size, hsz]; decide)) w') ?_
    refine met_free po6 d6 (wanted_of gd6) (fun w' h' => run_loadBs q6 (eval_same _ _ _ (by simp only [put_size, hsz]; decide)) h'.1) ?_
    refine met_free po8 d8 (wanted_of gd8) (fun w' h' => run_move q8 ((eval_other _ 17 0 _ (by decide)).trans ((eval_other _ 16 0 _ (by decide)).trans ((eval_other _ 15 0 _ (by decide)).trans ((eval_other _ 14 0 _ (by decide)).trans ((eval_other _ 13 0 _ (by decide)).trans ((eval_other _ 12 0 _ (by decide)).trans ((eval_other _ 11 0 _ (by decide)).trans base0))))))) w') ?_
    refine met_free po9 d9 (wanted_of gd9) (fun w' h' => run_move q9 ((eval_other _ 19 1 _ (by decide)).trans ((eval_other _ 17 1 _ (by decide)).trans ((eval_other _ 16 1 _ (by decide)).trans ((eval_other _ 15 1 _ (by decide)).trans ((eval_other _ 14 1 _ (by decide)).trans ((eval_other _ 13 1 _ (by decide)).trans ((eval_other _ 12 1 _ (by decide)).trans ((eval_other _ 11 1 _ (by decide)).trans base1)))))))) w') ?_
    refine met_free po10 d10 (wanted_of gd10) (fun w' h' => run_nilCheck q10 ((eval_other _ 20 19 _ (by decide)).trans (eval_same _ _ _ (by simp only [put_size, hsz]; decide))) w') ?_
    refine met_free po11 d11 (wanted_of gd11) (fun w' h' => run_fieldT (off := 1) q11 (fun _ => by kernel_rfl) (eval_same _ _ _ (by simp only [put_size, hsz]; decide)) w') ?_
    refine met_free po12 d12 (wanted_of gd12) (fun w' h' => run_ixFile q12 (eval_same _ _ _ (by simp only [put_size, hsz]; decide)) ((eval_other _ 22 20 _ (by decide)).trans ((eval_other _ 21 20 _ (by decide)).trans (eval_same _ _ _ (by simp only [put_size, hsz]; decide)))) HHK.out w') ?_
    refine met_free po13 d13 (wanted_of gd13) (fun w' h' => run_fieldFile1 q13 (eval_same _ _ _ (by simp only [put_size, hsz]; decide)) w') ?_
    refine met_free po14 d14 (wanted_of gd14) (fun w' h' => run_loadBs q14 (eval_same _ _ _ (by simp only [put_size, hsz]; decide)) h'.2) ?_
    refine m_enter po7 d7 (wanted_of gd7) (run_callf1 q7 rfl ((eval_other _ 25 17 _ (by decide)).trans ((eval_other _ 24 17 _ (by decide)).trans ((eval_other _ 23 17 _ (by decide)).trans ((eval_other _ 22 17 _ (by decide)).trans ((eval_other _ 21 17 _ (by decide)).trans ((eval_other _ 20 17 _ (by decide)).trans ((eval_other _ 19 17 _ (by decide)).trans (eval_same _ _ _ (by simp only [put_size, hsz]; decide))))))))) Tryd.func33 (by kernel_rfl) _) (copy_bigL a1 n1 qa1 ca1 w.drew HN1.out (by have := HLL.out; omega) HL1.out) ?_
    rintro e w3 ⟨v3, rfl, ho, hb⟩
    have HO3 := Lib.hid ho; have HB3 := Lib.hid hb; clear ho hb
    refine ⟨_, rfl, ⟨(HB3.out.cell HGT.out).trans HE.out.1, (HB3.out.cell HGT.out).trans HE.out.2⟩, ?_⟩
    refine m_append po15 d15 (wanted_of gd15) q15 (eval_same _ _ _ (by simp only [put_size, hsz]; decide)) ((eval_other _ 18 25 _ (by decide)).trans (eval_same _ _ _ (by simp only [put_size, hsz]; decide))) w.heap.size a1 a2 HO3.out HN2.out (HL2.out.below HB3.out) (by rw [HN1.out]; have := HLL.out; omega) HB3.out.size ?_
    intro v4 w4 ho hb
    have HO := Lib.hid ho
    have HB4 := Lib.hid hb
    have HB : Hid (Below w.heap.size w w4) := show Below _ _ _ from ((Below.refl w.heap.size w).drew.trans HB3.out).trans hb
    clear ho hb
    refine ⟨⟨(HB4.out.cell HGT.out).trans ((HB3.out.cell HGT.out).trans HE.out.1), (HB4.out.cell HGT.out).trans ((HB3.out.cell HGT.out).trans HE.out.2)⟩, ?_⟩
    refine met_free po16 d16 (wanted_of gd16) (fun w' h' => run_assign q16 (eval_same _ _ _ (by simp only [put_size, hsz]; decide)) w') ?_
    show NoPanic _ .normal _ _
    refine NoPanic.normal ?_
    rw [HAA.out]
    go_frame
    clear HAA
    clear HE
    go_wp2_with fail
    go_ret
    exact ⟨_, rfl, HO.out, HB.out⟩
  · have hrd : d.read f = [] := if_neg hf
    rw [hrd]
    clear hrd h hok
    by_cases h1 : f < 0
    · clear hf
      go_enter Tryd.func16, Tryd.ntmps16
      go_wp2_with fail
      go_ret
      exact ⟨_, rfl, Own.nil _ _, Below.refl _ _⟩
    · have h2 : f > 32 := by omega
      clear hf
      go_enter Tryd.func16, Tryd.ntmps16
      go_wp2_with fail
      go_ret
      exact ⟨_, rfl, Own.nil _ _, Below.refl _ _⟩
def setE (d : DiskM) (right : Bool) : Int := if d.down = true then 9 else if right = false then 1 else if d.left = 0 then 9 else 0
def setD (d : DiskM) (right : Bool) : DiskM := if d.down = true then d else if right = false then d else if d.left = 0 then d.tick else { d.tick with count := d.count + 1 }
set_option maxRecDepth 100000 in
theorem rfSettle_any (right : Bool) (h : RefAt T w g d) (hok : d.Ok) (hc : d.count < 1000000000) : Calls Tryd.prog 79 #[.pointer (some ⟨g, 0, none⟩), .bool right] w fun e w' => e = .returned (.int .i64 (setE d right)) ∧ RefAt T w' g (setD d right) ∧ Stays (fun k => k = g) w w' := by
  have c7 := (by obtain ⟨us, lf, hv⟩ := h; exact hv.off : w.cell? ⟨g, 67, none⟩ = some (.bool d.down))
  have HD := Lib.hid h
  clear h
  cases hd : d.down with
  | true =>
    rw [hd] at c7
    have e1 : setE d right = 9 := if_pos hd
    have e2 : setD d right = d := if_pos hd
    rw [e1, e2]
    clear e1 e2 hd hok hc
    go_enter Tryd.func79, Tryd.ntmps79
    go_wp2_with fail
    go_ret
    exact ⟨rfl, HD.out, Below.stays (Below.refl _ _)⟩
  | false =>
    rw [hd] at c7
    have hdn : ¬ d.down = true := by rw [hd]; decide
    cases right with
    | false =>
      have e1 : setE d false = 1 := by unfold setE; rw [if_neg hdn, if_pos rfl]
      have e2 : setD d false = d := by unfold setD; rw [if_neg hdn, if_pos rfl]
      rw [e1, e2]
      clear e1 e2 hd hok hc hdn
      go_enter Tryd.func79, Tryd.ntmps79
      go_wp2_with fail
      go_ret
      exact ⟨rfl, HD.out, Below.stays (Below.refl _ _)⟩
    | true =>
      have HST := Lib.hid (rfStrikes_any T g d w HD.out hd hok.left)
      by_cases h0 : d.left = 0
      · have e1 : setE d true = 9 := by unfold setE; rw [if_neg hdn, if_neg (by decide), if_pos h0]
        have e2 : setD d true = d.tick := by unfold setD; rw [if_neg hdn, if_neg (by decide), if_pos h0]
        rw [e1, e2]
        rw [decide_eq_true h0] at HST
        clear e1 e2 hd hok hc hdn h0
        go_enter Tryd.func79, Tryd.ntmps79
        go_wp2_with fail
        refine HST.out.mono ?_
        rintro e w1 ⟨rfl, hr, hs⟩
        have HR := Lib.hid hr; have HS := Lib.hid hs; clear hr hs HST HD c7
        go_wp2_with fail
        go_ret
        exact ⟨rfl, HR.out, HS.out⟩
      · have e1 : setE d true = 0 := by unfold setE; rw [if_neg hdn, if_neg (by decide), if_neg h0]
        have e2 : setD d true = { d.tick with count := d.count + 1 } := by unfold setD; rw [if_neg hdn, if_neg (by decide), if_neg h0]
        rw [e1, e2]
        rw [decide_eq_false h0] at HST
        clear e1 e2 hd hok hdn h0
        go_enter Tryd.func79, Tryd.ntmps79
        go_wp2_with fail
        refine HST.out.mono ?_
        rintro e w1 ⟨rfl, hr, hs⟩
        obtain ⟨us, lf, hv⟩ := hr
        have cc : w1.cell? ⟨g, 70, none⟩ = some (.int .i64 (d.count : Int)) := hv.count
        have tc := hv.thaw 70
        have HR : Hid (RefAt T (w1.setCell ⟨g, 70, none⟩ (.int .i64 ((d.count + 1 : Nat) : Int))) g { d.tick with count := d.count + 1 }) := show RefAt _ _ _ _ from ⟨us, lf, hv.putCount (d.count + 1)⟩
        have HS : Hid (Stays (fun k => k = g) w (w1.setCell ⟨g, 70, none⟩ (.int .i64 ((d.count + 1 : Nat) : Int)))) := show Stays _ _ _ from hs.trans (stays_set _ g 70 _) (fun _ f _ => f)
        clear hv hs HST HD c7
        have zc : ((d.count + 1 : Nat) : Int) = (d.count : Int) + 1 := by omega
        rw [zc] at HR HS
        clear zc
        go_wp2_with fail
        go_ret
        exact ⟨rfl, HR.out, HS.out⟩
end
end Go.Proofs.YtoidjapenompiaaDoor

/-
  The document's disk: Write, Sync, Cut.
-/
namespace Go.Proofs.YtoidjapenompiaaDoor
open Go.RowKit Go.Proofs.ShaWords
section
variable {ρ : Operand → Value} {o : Oper} {x y : Operand}
theorem run_buildFile {p : Option Addr} {n c : Nat} (ho : o.op = .build 68 #[(0, x)]) (hx : ρ x = .slice p n c) (w : World) : (execOp ρ o).run Tryd.prog w = .ok (.value (.agg #[.slice p n c, .slice none 0 0])) w := by
  obtain ⟨dst, op, ty', pos, after, guard⟩ := o
  simp only at ho
  subst ho
  go_simp
theorem run_storeFile {g off : Nat} {p : Option Addr} {n c : Nat} {w : World} (ho : o.op = .store 68 x y) (hx : ρ x = .pointer (some ⟨g, off, none⟩)) (hy : ρ y = .agg #[.slice p n c, .slice none 0 0]) (ht : w.there g off 2) :
    (execOp ρ o).run Tryd.prog w = .ok .skip ((w.setCell ⟨g, off, none⟩ (.slice p n c)).setCell ⟨g, off + 1, none⟩ (.slice none 0 0)) := by
  unfold execOp
  simp only [ho, hx, hy, Sem.run_bind, run_storeAt_mid (P := Tryd.prog) w g off 68 #[.slice p n c, .slice none 0 0] ht (by kernel_rfl) (by rw [Array.all_eq_true_iff_forall_mem]; intro u hu; simp at hu; rcases hu with rfl | rfl <;> rfl), Result.andThen_ok, Sem.run_pure]
  rfl
end
theorem RefV.there {T : Nat → Prop} {w : World} {g : Nat} {us : Nat → Value × Value} {d : DiskM} {lf : Int} (h : RefV T w g us d lf) (k : Nat) (hk : k < 33) : w.there g (1 + k * 2) 2 := fun j hj => by
  rw [h.cell (1 + k * 2 + j) (by omega)]
  exact ⟨rfl, h.thaw _⟩
theorem RefV.file {T : Nat → Prop} {w : World} {g : Nat} {us : Nat → Value × Value} {d : DiskM} {lf : Int} (h : RefV T w g us d lf) (k : Nat) (hk : k < 33) {l : List (BitVec 8)} {v : Value} (hv : SlT T g w l v) :
    ∃ us', RefV T ((w.setCell ⟨g, 1 + k * 2, none⟩ v).setCell ⟨g, 1 + k * 2 + 1, none⟩ (.slice none 0 0)) g us' { d with files := setF d.files k ⟨l, l.length⟩ } lf := by
  have h1 := h.putLasts k hk hv
  have h2 := h1.putLoose k hk (by show (setF d.files k _ k).dur ≤ (setF d.files k _ k).all.length; rw [setF_same]; dsimp only; rw [List.length_append]; omega) (SlT.nil _ _ _)
  have e : setF (setF d.files k ⟨l ++ (d.files k).all.drop (d.files k).dur, l.length⟩) k ⟨((setF d.files k ⟨l ++ (d.files k).all.drop (d.files k).dur, l.length⟩ k).all.take (setF d.files k ⟨l ++ (d.files k).all.drop (d.files k).dur, l.length⟩ k).dur) ++ [], (setF d.files k ⟨l ++ (d.files k).all.drop (d.files k).dur, l.length⟩ k).dur⟩ = setF d.files k ⟨l, l.length⟩ := by
    rw [setF_twice, setF_same]
    dsimp only
    rw [List.take_left, List.append_nil]
  dsimp only at h2
  rw [e] at h2
  exact ⟨_, h2⟩
section
variable (T : Nat → Prop) (g : Nat) (d : DiskM) (w : World)
/-- What a contract of settle leaves, with a file put in place behind it. -/
theorem goFile {T : Nat → Prop} {g k : Nat} {d1 d2 : DiskM} {w w1 w2 : World} (hs : Stays (fun k => k = g) w w1) (h : RefAt T w1 g d1) (hb : Below w1.heap.size w1 w2) (hk : k < 33) {l : List (BitVec 8)} {v : Value}
    (hv : ∀ T', (∀ k, T k → T' k) → (∀ k, w1.heap.size ≤ k → k < w2.heap.size → T' k) → SlT T' g w2 l v) (hd : d2 = { d1 with files := setF d1.files k ⟨l, l.length⟩ }) :
    RefGo T g d2 w ((w2.setCell ⟨g, 1 + k * 2, none⟩ v).setCell ⟨g, 1 + k * 2 + 1, none⟩ (.slice none 0 0)) := by
  obtain ⟨us, lf, h⟩ := h
  obtain ⟨us', h2⟩ := (h.wide hb).file k hk (hv _ (fun k t => Or.inl t) (fun k a b => Or.inr ⟨a, b⟩))
  refine ⟨_, ⟨us', lf, hd ▸ h2⟩, fun k t => t.elim Or.inl (fun h => Or.inr (Nat.le_trans hs.size h.1)), ?_⟩
  exact ((hs.trans (G := fun k => k = g) (Below.stays hb) (fun _ f _ => f)).trans (G := fun k => k = g) (stays_set _ g _ _) (fun _ f _ => f)).trans (stays_set _ g _ _) (fun _ f _ => f)
set_option maxRecDepth 100000 in
set_option maxHeartbeats 2000000 in
theorem rfSync_any (f : Int) (h : RefAt T w g d) (hok : d.Ok) (hc : d.count < 1000000000) : Calls Tryd.prog 66 #[.pointer (some ⟨g, 0, none⟩), .int .i64 f] w fun e w' => e = .returned (.int .i64 (d.sync f).2) ∧ RefGo T g (d.sync f).1 w w' := by
  have HS := Lib.hid (fun b => rfSettle_any T g d w b h hok hc)
  by_cases hf : 0 ≤ f ∧ f ≤ 32
  · obtain ⟨k, rfl⟩ : ∃ k : Nat, f = (k : Int) := ⟨f.toNat, by omega⟩
    have hk : k < 33 := by omega
    have q1 : (k : Int) ≥ 0 := by omega
    have q2 : (k : Int) ≤ 32 := by omega
    have HST := Lib.hid (HS.out true)
    by_cases h0 : setE d true = 0
    · have hdn : d.down = false := by
        cases hd : d.down with
        | false => rfl
        | true => unfold setE at h0; rw [if_pos hd] at h0; cases h0
      have hdn' : ¬ d.down = true := by rw [hdn]; decide
      have hl : ¬ d.left = 0 := fun e => by unfold setE at h0; rw [if_neg hdn', if_neg (by decide), if_pos e] at h0; cases h0
      have e2 : setD d true = { d.tick with count := d.count + 1 } := by unfold setD; rw [if_neg hdn', if_neg (by decide), if_neg hl]
      have e3 : d.sync (k : Int) = ({ d.tick with files := syncF k d.files, count := d.count + 1 }, 0) := by
        unfold DiskM.sync
        have eo : d.openE (k : Int) = 0 := by unfold DiskM.openE; rw [if_neg hdn', if_pos hf]
        rw [if_neg (by rw [eo]; decide), Int.toNat_natCast]
        unfold DiskM.exec DiskM.execE
        rw [if_pos (by simp [hl]), if_neg hl]
      rw [e3]
      rw [h0, e2] at HST
      have HOK : Hid (({ d.tick with count := d.count + 1 } : DiskM).Ok) := show DiskM.Ok _ from by
        have h1 := DiskM.tick_ok hok
        exact ⟨h1.dur, h1.used, h1.room, h1.left⟩
      have hrd : ({ d.tick with count := d.count + 1 } : DiskM).read (k : Int) = (d.files k).all := by unfold DiskM.read; rw [if_pos hf, Int.toNat_natCast]; rfl
      have HRD := Lib.hid hrd
      have HHK := Lib.hid hk
      have HL : Hid ((⟨(d.files k).all, (d.files k).all.length⟩ : FileM) = ⟨(d.files k).all, (d.files k).all.length⟩) := show _ = _ from rfl
      clear HS h0 hdn hdn' hl e2 e3 hf hrd hok hc h
      go_enter Tryd.func66, Tryd.ntmps66
      go_wp2_with fail
      refine HST.out.mono ?_
      rintro e w1 ⟨rfl, hr, hs⟩
      have HR1 := Lib.hid hr; have HS1 := Lib.hid hs; clear hr hs HST
      have HR2 : Hid (RefAt T w1.drew g { d.tick with count := d.count + 1 }) := show RefAt _ _ _ _ from HR1.out.below (Below.refl _ _).drew
      have HGT : Hid (g < w1.heap.size) := show _ < _ by obtain ⟨us, lf, hv⟩ := HR1.out; exact hv.lt
      have HT : Hid (w1.drew.there g (1 + k * 2) 2) := show World.there _ _ _ _ by obtain ⟨us, lf, hv⟩ := HR2.out; exact hv.there k HHK.out
      go_upto_region 3 with fail
      refine region_phase (fun _ => True) (fun _ => True) 4 (trivial) trivial [(0, .free), (1, .free), (2, .free), (3, .free), (6, .free), (7, .free), (4, .behind), (5, .free), (8, .free), (9, .behind)] (by kernel_rfl) (by kernel_rfl) (by kernel_rfl) (by kernel_rfl) (fun ops hops A hA => ?_)
      have hsz : A.tmps.size = 26 := by rw [hA]; rfl
      have base0 : A.eval (.tmp 0) = .pointer (some ⟨g, 0, none⟩) := by rw [hA]; rfl
      have base1 : A.eval (.tmp 1) = .int .i64 (k : Int) := by rw [hA]; rfl
      have HAA := Lib.hid hA; clear hA
      obtain ⟨o0, po0, q0, d0, gd0⟩ : ∃ o, ops[0]? = some o ∧ o.op = .move (.tmp 0) ∧ o.dst = some 16 ∧ o.guard = none := ⟨_, by rw [hops]; rfl, rfl, rfl, rfl⟩
      obtain ⟨o1, po1, q1, d1, gd1⟩ : ∃ o, ops[1]? = some o ∧ o.op = .move (.tmp 1) ∧ o.dst = some 17 ∧ o.guard = none := ⟨_, by rw [hops]; rfl, rfl, rfl, rfl⟩
      obtain ⟨o2, po2, q2, d2, gd2⟩ : ∃ o, ops[2]? = some o ∧ o.op = .move (.tmp 0) ∧ o.dst = some 18 ∧ o.guard = none := ⟨_, by rw [hops]; rfl, rfl, rfl, rfl⟩
      obtain ⟨o3, po3, q3, d3, gd3⟩ : ∃ o, ops[3]? = some o ∧ o.op = .move (.tmp 1) ∧ o.dst = some 19 ∧ o.guard = none := ⟨_, by rw [hops]; rfl, rfl, rfl, rfl⟩
      obtain ⟨o4, po4, q4, d4, gd4⟩ : ∃ o, ops[4]? = some o ∧ o.op = .call { callee := .value (.func 16), args := #[.tmp 18, .tmp 19], argTypes := #[26, 3] } ∧ o.dst = some 20 ∧ o.guard = none := ⟨_, by rw [hops]; rfl, rfl, rfl, rfl⟩
      obtain ⟨o5, po5, q5, d5, gd5⟩ : ∃ o, ops[5]? = some o ∧ o.op = .build 68 #[(0, (.tmp 20))] ∧ o.dst = some 21 ∧ o.guard = none := ⟨_, by rw [hops]; rfl, rfl, rfl, rfl⟩
      obtain ⟨o6, po6, q6, d6, gd6⟩ : ∃ o, ops[6]? = some o ∧ o.op = .nilCheck (.tmp 16) ∧ o.dst = some 22 ∧ o.guard = none := ⟨_, by rw [hops]; rfl, rfl, rfl, rfl⟩
      obtain ⟨o7, po7, q7, d7, gd7⟩ : ∃ o, ops[7]? = some o ∧ o.op = .fieldAddr 71 (.tmp 22) 1 ∧ o.dst = some 23 ∧ o.guard = none := ⟨_, by rw [hops]; rfl, rfl, rfl, rfl⟩
      obtain ⟨o8, po8, q8, d8, gd8⟩ : ∃ o, ops[8]? = some o ∧ o.op = .indexAddr 69 (.tmp 23) (.tmp 17) ∧ o.dst = some 24 ∧ o.guard = none := ⟨_, by rw [hops]; rfl, rfl, rfl, rfl⟩
      obtain ⟨o9, po9, q9, d9, gd9⟩ : ∃ o, ops[9]? = some o ∧ o.op = .store 68 (.tmp 24) (.tmp 21) ∧ o.dst = none ∧ o.guard = none := ⟨_, by rw [hops]; rfl, rfl, rfl, rfl⟩
      clear hops
      refine met_free po0 d0 (wanted_of gd0) (fun w' h' => run_move q0 base0 w') ?_
      refine met_free po1 d1 (wanted_of gd1) (fun w' h' => run_move q1 ((eval_other _ 16 1 _ (by decide)).trans base1) w') ?_
      refine met_free po2 d2 (wanted_of gd2) (fun w' h' => run_move q2 ((eval_other _ 17 0 _ (by decide)).trans ((eval_other _ 16 0 _ (by decide)).trans base0)) w') ?_
      refine met_free po3 d3 (wanted_of gd3) (fun w' h' => run_move q3 ((eval_other _ 18 1 _ (by decide)).trans ((eval_other _ 17 1 _ (by decide)).trans ((eval_other _ 16 1 _ (by decide)).trans base1))) w') ?_
      refine met_free po6 d6 (wanted_of gd6) (fun w' h' => run_nilCheck q6 ((eval_other _ 19 16 _ (by decide)).trans ((eval_other _ 18 16 _ (by decide)).trans ((eval_other _ 17 16 _ (by decide)).trans (eval_same _ _ _ (by rw [hsz]; decide))))) w') ?_
      refine met_free po7 d7 (wanted_of gd7) (fun w' h' => run_fieldT (off := 1) q7 (fun _ => by kernel_rfl) (eval_same _ _ _ (by simp only [put_size, hsz]; decide)) w') ?_
      refine m_enter po4 d4 (wanted_of gd4) (run_callf2 q4 rfl ((eval_other _ 23 18 _ (by decide)).trans ((eval_other _ 22 18 _ (by decide)).trans ((eval_other _ 19 18 _ (by decide)).trans (eval_same _ _ _ (by simp only [put_size, hsz]; decide))))) ((eval_other _ 23 19 _ (by decide)).trans ((eval_other _ 22 19 _ (by decide)).trans (eval_same _ _ _ (by simp only [put_size, hsz]; decide)))) Tryd.func16 (by kernel_rfl) _) (rfRead_any T g _ w1.drew (k : Int) HR2.out HOK.out) ?_
      rintro e w3 ⟨v3, rfl, ho, hb⟩
      rw [HRD.out] at ho
      have HO3 := Lib.hid ho; have HB3 := Lib.hid hb
      obtain ⟨p3, c3, he3, -, -, -⟩ := ho.lies
      generalize hln : (d.files k).all.length = ln at he3
      have HLN := Lib.hid hln
      subst he3
      clear ho hb hln
      refine ⟨_, rfl, trivial, ?_⟩
      refine met_free po5 d5 (wanted_of gd5) (fun w' h' => run_buildFile q5 (eval_same _ _ _ (by simp only [put_size, hsz]; decide)) w') ?_
      refine met_free po8 d8 (wanted_of gd8) (fun w' h' => run_ixFile q8 ((eval_other _ 21 23 _ (by decide)).trans ((eval_other _ 20 23 _ (by decide)).trans (eval_same _ _ _ (by simp only [put_size, hsz]; decide)))) ((eval_other _ 21 17 _ (by decide)).trans ((eval_other _ 20 17 _ (by decide)).trans ((eval_other _ 23 17 _ (by decide)).trans ((eval_other _ 22 17 _ (by decide)).trans ((eval_other _ 19 17 _ (by decide)).trans ((eval_other _ 18 17 _ (by decide)).trans (eval_same _ _ _ (by simp only [put_size, hsz]; decide)))))))) HHK.out w') ?_
      have HG : Hid (RefGo T g { d.tick with files := syncF k d.files, count := d.count + 1 } w ((w3.setCell ⟨g, 1 + k * 2, none⟩ (.slice p3 ln c3)).setCell ⟨g, 1 + k * 2 + 1, none⟩ (.slice none 0 0))) := show RefGo _ _ _ _ _ from goFile HS1.out HR1.out ((Below.refl w1.heap.size w1).drew.trans HB3.out) HHK.out (fun T' _ hT => SlT.own HO3.out HGT.out hT) rfl
      have HT3 : Hid (w3.there g (1 + k * 2) 2) := show World.there _ _ _ _ from by obtain ⟨us, lf, hv⟩ := HR2.out.below HB3.out; exact hv.there k HHK.out
      refine met_skip po9 d9 (wanted_of gd9) (run_storeFile q9 (eval_same _ _ _ (by simp only [put_size, hsz]; decide)) ((eval_other _ 24 21 _ (by decide)).trans (eval_same _ _ _ (by simp only [put_size, hsz]; decide))) HT3.out) trivial ?_
      show NoPanic _ .normal _ _
      refine NoPanic.normal ?_
      rw [HAA.out]
      go_frame
      clear HAA
      go_wp2_with fail
      go_ret
      exact ⟨rfl, HG.out⟩
    · have e3 : d.sync (k : Int) = (setD d true, setE d true) := by
        unfold DiskM.sync setD setE
        cases hd : d.down with
        | true =>
          have eo : d.openE (k : Int) = 9 := by unfold DiskM.openE; rw [if_pos hd]
          rw [if_pos (by rw [eo]; decide), eo]; simp
        | false =>
          have hdn' : ¬ d.down = true := by rw [hd]; decide
          have eo : d.openE (k : Int) = 0 := by unfold DiskM.openE; rw [if_neg hdn', if_pos hf]
          have hl : d.left = 0 := by
            cases Decidable.em (d.left = 0) with
            | inl h => exact h
            | inr h => exfalso; apply h0; unfold setE; rw [if_neg hdn', if_neg (by decide), if_neg h]
          rw [if_neg (by rw [eo]; decide)]
          unfold DiskM.exec DiskM.execE
          simp [hl]
      have hne : setE d true = 9 := by
        unfold setE at h0 ⊢
        by_cases a1 : d.down = true
        · rw [if_pos a1]
        · rw [if_neg a1, if_neg (by decide)] at h0 ⊢
          by_cases a2 : d.left = 0
          · rw [if_pos a2]
          · rw [if_neg a2] at h0; exact absurd rfl h0
      rw [e3]
      rw [hne] at HST ⊢
      clear HS h0 e3 hf hne hok hc h hk
      go_enter Tryd.func66, Tryd.ntmps66
      go_wp2_with fail
      refine HST.out.mono ?_
      rintro e w1 ⟨rfl, hr, hs⟩
      have HG : Hid (RefGo T g (setD d true) w w1) := show RefGo _ _ _ _ _ from ⟨T, hr, fun _ t => Or.inl t, hs⟩
      clear hr hs HST
      go_wp2_with fail
      go_ret
      exact ⟨rfl, HG.out⟩
  · have HST := Lib.hid (HS.out false)
    have e3 : d.sync f = (setD d false, setE d false) := by
      unfold DiskM.sync setD setE
      cases hd : d.down with
      | true =>
        have eo : d.openE f = 9 := by unfold DiskM.openE; rw [if_pos hd]
        rw [if_pos (by rw [eo]; decide), eo]; simp
      | false =>
        have hdn' : ¬ d.down = true := by rw [hd]; decide
        have eo : d.openE f = 1 := by unfold DiskM.openE; rw [if_neg hdn', if_neg hf]
        rw [if_pos (by rw [eo]; decide), eo]; simp
    have hne : ¬ setE d false = 0 := by
      unfold setE
      by_cases a1 : d.down = true
      · rw [if_pos a1]; decide
      · rw [if_neg a1, if_pos rfl]; decide
    rw [e3]
    generalize setE d false = E at HST hne ⊢
    generalize setD d false = D at HST ⊢
    by_cases h1 : f < 0
    · have q1 : ¬ f ≥ 0 := by omega
      clear HS e3 hf hok hc h
      go_enter Tryd.func66, Tryd.ntmps66
      go_wp2_with fail
      refine HST.out.mono ?_
      rintro e w1 ⟨rfl, hr, hs⟩
      have HG : Hid (RefGo T g D w w1) := show RefGo _ _ _ _ _ from ⟨T, hr, fun _ t => Or.inl t, hs⟩
      clear hr hs HST
      go_wp2_with fail
      go_ret
      exact ⟨rfl, HG.out⟩
    · have q1 : f ≥ 0 := by omega
      have q2 : ¬ f ≤ 32 := by omega
      clear HS e3 hf hok hc h
      go_enter Tryd.func66, Tryd.ntmps66
      go_wp2_with fail
      refine HST.out.mono ?_
      rintro e w1 ⟨rfl, hr, hs⟩
      have HG : Hid (RefGo T g D w w1) := show RefGo _ _ _ _ _ from ⟨T, hr, fun _ t => Or.inl t, hs⟩
      clear hr hs HST
      go_wp2_with fail
      go_ret
      exact ⟨rfl, HG.out⟩
end
end Go.Proofs.YtoidjapenompiaaDoor

/-
  The document's disk: New, Cut.
-/
namespace Go.Proofs.YtoidjapenompiaaDoor
open Go.RowKit Go.Proofs.ShaWords
/-- What an operation but a write does, by settle's words. -/
def doD (d : DiskM) (right : Bool) (eff : (Nat → FileM) → Nat → FileM) : DiskM × Int := (if setE d right = 0 then { d.tick with files := eff d.files, count := d.count + 1 } else setD d right, setE d right)
theorem doD_eq (d : DiskM) (f : Int) (C : Prop) [Decidable C] (eff : (Nat → FileM) → Nat → FileM) :
    (if d.openE f ≠ 0 then (d, d.openE f) else if ¬ C then (d, 1) else (d.exec eff false, d.execE)) = doD d (decide ((0 ≤ f ∧ f ≤ 32) ∧ C)) eff := by
  unfold doD setE setD
  cases hd : d.down with
  | true =>
    have eo : d.openE f = 9 := if_pos hd
    rw [if_pos (by rw [eo]; decide), eo]
    simp
  | false =>
    have hdn' : ¬ d.down = true := by rw [hd]; decide
    by_cases hf : 0 ≤ f ∧ f ≤ 32
    · have eo : d.openE f = 0 := by unfold DiskM.openE; rw [if_neg hdn', if_pos hf]
      rw [if_neg (by rw [eo]; decide)]
      by_cases hC : C
      · rw [if_neg (fun h => h hC), decide_eq_true ⟨hf, hC⟩]
        unfold DiskM.exec DiskM.execE
        by_cases h0 : d.left = 0
        · simp [h0]
        · simp [h0]
      · rw [if_pos hC, decide_eq_false (fun h => hC h.2)]
        simp
    · have eo : d.openE f = 1 := by unfold DiskM.openE; rw [if_neg hdn', if_neg hf]
      rw [if_pos (by rw [eo]; decide), eo, decide_eq_false (fun h => hf h.1)]
      simp
theorem doD_ne {d : DiskM} {right : Bool} {eff : (Nat → FileM) → Nat → FileM} (h : ¬ setE d right = 0) : doD d right eff = (setD d right, setE d right) := by unfold doD; rw [if_neg h]
theorem doD_zero {d : DiskM} {right : Bool} {eff : (Nat → FileM) → Nat → FileM} (h : setE d right = 0) : doD d right eff = ({ d.tick with files := eff d.files, count := d.count + 1 }, 0) ∧ right = true ∧ setD d right = { d.tick with count := d.count + 1 } := by
  unfold doD
  rw [if_pos h, h]
  unfold setE at h
  unfold setD
  by_cases h1 : d.down = true
  · rw [if_pos h1] at h; cases h
  · rw [if_neg h1] at h ⊢
    cases right with
    | false => rw [if_pos rfl] at h; cases h
    | true =>
      rw [if_neg (by decide)] at h ⊢
      by_cases h0 : d.left = 0
      · rw [if_pos h0] at h; cases h
      · rw [if_neg h0]; exact ⟨rfl, rfl, rfl⟩
theorem RefGo.before {T T1 : Nat → Prop} {g : Nat} {d : DiskM} {w w1 w' : World} (h : RefGo T1 g d w1 w') (hb : Below w.heap.size w w1) (hT : ∀ k, T1 k → T k ∨ w.heap.size ≤ k) : RefGo T g d w w' := by
  obtain ⟨T', h1, h2, h3⟩ := h
  exact ⟨T', h1, fun k t => (h2 k t).elim (hT k) (fun h => Or.inr (Nat.le_trans hb.size h)), (Below.stays (F := fun k => k = g) hb).trans h3 (fun _ f _ => f)⟩
theorem run_toRef {ρ : Operand → Value} {o : Oper} {x y : Operand} {p : Option Addr} {n cp k : Nat} (ho : o.op = .slice 37 x none (some y) none) (hk : k ≤ cp) (hx : ρ x = .slice p n cp) (hy : ρ y = .int .i64 (k : Int)) (w : World) :
    (execOp ρ o).run Tryd.prog w = .ok (.value (.slice p k cp)) w := by
  obtain ⟨dst, op, ty', pos, after, guard⟩ := o
  simp only at ho
  subst ho
  have h0 : (0 : Int) ≤ (k : Int) := by omega
  have h1 : (k : Int) ≤ (cp : Int) := by omega
  cases p <;> go_simp
theorem cut_do (d : DiskM) (f n : Int) : d.cut f n = doD d (decide ((0 ≤ f ∧ f ≤ 32) ∧ (0 ≤ n ∧ n ≤ ((d.read f).length : Int)))) (cutF f.toNat n.toNat) := by
  by_cases hf : 0 ≤ f ∧ f ≤ 32
  · have hr : (d.read f) = (d.files f.toNat).all := by unfold DiskM.read; rw [if_pos hf]
    rw [hr, ← doD_eq d f]
    unfold DiskM.cut
    by_cases eo : d.openE f ≠ 0
    · rw [if_pos eo, if_pos eo]
    rw [if_neg eo, if_neg eo]
    by_cases hC : 0 ≤ n ∧ n ≤ ((d.files f.toNat).all.length : Int)
    · rw [if_neg (show ¬ (n < 0 ∨ ((d.files f.toNat).all.length : Int) < n) by omega), if_neg (fun h => h hC)]
    · rw [if_pos (show (n < 0 ∨ ((d.files f.toNat).all.length : Int) < n) by omega), if_pos hC]
  · rw [decide_eq_false (fun h => hf h.1), ← decide_eq_false (fun h : (0 ≤ f ∧ f ≤ 32) ∧ True => hf h.1), ← doD_eq d f]
    have eo : d.openE f ≠ 0 := by unfold DiskM.openE; split <;> simp_all
    unfold DiskM.cut
    rw [if_pos eo, if_pos eo]
section
variable (T : Nat → Prop) (g : Nat) (d : DiskM) (w : World)
set_option maxRecDepth 100000 in
set_option maxHeartbeats 16000000 in
theorem rfCut_any (f n : Int) (h : RefAt T w g d) (hok : d.Ok) (hc : d.count < 1000000000) : Calls Tryd.prog 65 #[.pointer (some ⟨g, 0, none⟩), .int .i64 f, .int .i64 n] w fun e w' => e = .returned (.int .i64 (d.cut f n).2) ∧ RefGo T g (d.cut f n).1 w w' := by
  have HD := Lib.hid h
  have HGT : Hid (g < w.heap.size) := show _ < _ by obtain ⟨us, lf, hv⟩ := h; exact hv.lt
  have HRD := Lib.hid (rfRead_any T g d w f h hok)
  have HSE := Lib.hid (fun T1 w1 (h1 : RefAt T1 w1 g d) b => rfSettle_any T1 g d w1 b h1 hok hc)
  have HCT := Lib.hid (cut_do d f n)
  rw [HCT.out]
  have hrl : (d.read f).length ≤ 262144 := by
    unfold DiskM.read
    split
    · exact file_small hok _ (by omega)
    · simp
  have hrf : 0 ≤ f ∧ f ≤ 32 → d.read f = (d.files f.toNat).all := fun hf => by unfold DiskM.read; rw [if_pos hf]
  obtain ⟨R, hR⟩ : ∃ R, d.read f = R := ⟨_, rfl⟩
  rw [hR] at HRD hrl hrf ⊢
  obtain ⟨rl, hrl2⟩ : ∃ rl, R.length = rl := ⟨_, rfl⟩
  rw [hrl2] at hrl ⊢
  have HRL := Lib.hid hrl2
  clear h hok hc HCT hrl2 hR
  by_cases hall : (0 ≤ f ∧ f ≤ 32) ∧ (0 ≤ n ∧ n ≤ (rl : Int))
  · rw [decide_eq_true hall]
    obtain ⟨⟨f0, f1⟩, n0, n1⟩ := hall
    obtain ⟨k, rfl⟩ : ∃ k : Nat, f = (k : Int) := ⟨f.toNat, by omega⟩
    obtain ⟨m, rfl⟩ : ∃ m : Nat, n = (m : Int) := ⟨n.toNat, by omega⟩
    rw [Int.toNat_natCast, Int.toNat_natCast]
    have HHK : Hid (k < 33) := show _ < _ by omega
    have HRF := Lib.hid (hrf ⟨f0, f1⟩)
    rw [Int.toNat_natCast] at HRF
    have q1 : (k : Int) ≥ 0 := by omega
    have q2 : (k : Int) ≤ 32 := f1
    have q3 : (m : Int) ≥ 0 := by omega
    have q4 : (m : Int) ≤ (rl : Int) := n1
    by_cases h0 : setE d true = 0
    · obtain ⟨e1, -, e2⟩ := doD_zero (eff := cutF k m) h0
      rw [e1]
      have HE2 := Lib.hid e2; have HE0 := Lib.hid h0
      clear e1 e2 h0 hrf f0 f1 n0 hrl
      go_enter Tryd.func65, Tryd.ntmps65
      go_wp2_with fail
      refine HRD.out.mono ?_
      rintro e w1 ⟨v1, rfl, ho, hb⟩
      obtain ⟨p1, c1, rfl, hc1, -, -⟩ := ho.lies
      rw [HRL.out] at hc1 ho ⊢
      have HO1 := Lib.hid ho; have HB1 := Lib.hid hb; have HC1 := Lib.hid hc1
      have hr1 : RefAt (fun k => T k ∨ (w.heap.size ≤ k ∧ k < w1.heap.size)) w1 g d := by obtain ⟨us, lf, hv⟩ := HD.out; exact ⟨us, lf, hv.wide hb⟩
      have HST := Lib.hid (HSE.out _ _ hr1 true)
      have HSL : Hid (SlT (fun k => T k ∨ (w.heap.size ≤ k ∧ k < w1.heap.size)) g w1 R (.slice p1 rl c1)) := show SlT _ _ _ _ _ from SlT.own HO1.out HGT.out (fun k a b => Or.inr ⟨a, b⟩)
      clear ho hb hc1 hr1 HSE HRD
      go_wp2_with fail
      refine HST.out.mono ?_
      rintro e w2 ⟨rfl, hr, hs⟩
      rw [HE2.out] at hr
      rw [HE0.out]
      have HR2 := Lib.hid hr; have HS2 := Lib.hid hs
      have HR3 : Hid (RefAt (fun k => T k ∨ (w.heap.size ≤ k ∧ k < w1.heap.size)) w2.drew g { d.tick with count := d.count + 1 }) := show RefAt _ _ _ _ from hr.below (Below.refl _ _).drew
      have HT : Hid (w2.drew.there g (1 + k * 2) 2) := show World.there _ _ _ _ by obtain ⟨us, lf, hv⟩ := HR3.out; exact hv.there k HHK.out
      have HG : Hid (RefGo T g { d.tick with files := cutF k m d.files, count := d.count + 1 } w ((w2.drew.setCell ⟨g, 1 + k * 2, none⟩ (.slice p1 m c1)).setCell ⟨g, 1 + k * 2 + 1, none⟩ (.slice none 0 0))) := show RefGo _ _ _ _ _ from by
        have hsl := (HSL.out.keep (T' := fun k => T k ∨ (w.heap.size ≤ k ∧ k < w1.heap.size)) (fun _ t => t) hs (fun _ e _ => e)).take m (by rw [HRL.out]; omega)
        have hmm : (R.take m).length = m := by rw [List.length_take, HRL.out]; omega
        have hgo := goFile (k := k) (w2 := w2.drew) (d2 := { d.tick with files := cutF k m d.files, count := d.count + 1 }) hs hr (Below.refl w2.heap.size w2).drew HHK.out (l := R.take m) (v := .slice p1 m c1) (fun T' h1 _ => hsl.keep h1 (Below.stays (F := fun k => k = g) (Below.refl w2.heap.size w2).drew) (fun _ e _ => e)) (by
          show ({ d.tick with files := setF d.files k ⟨(d.files k).all.take m, m⟩, count := d.count + 1 } : DiskM) = { ({ d.tick with count := d.count + 1 } : DiskM) with files := setF d.files k ⟨R.take m, (R.take m).length⟩ }
          rw [hmm, HRF.out])
        exact hgo.before HB1.out (fun k t => t.elim Or.inl (fun h => Or.inr h.1))
      have q5 : m ≤ c1 := by have := HC1.out; omega
      have HMC := Lib.hid q5
      clear hr hs HST HR2 HR3 HSL q5 q4
      go_upto_region 4 with fail
      refine region_phase (fun _ => True) (fun _ => True) 9 (trivial) trivial [(0, .free), (1, .free), (2, .free), (3, .free), (4, .free), (5, .free), (6, .free), (7, .free), (8, .free), (9, .behind)] (by kernel_rfl) (by kernel_rfl) (by kernel_rfl) (by kernel_rfl) (fun ops hops A hA => ?_)
      have hsz : A.tmps.size = 42 := by rw [hA]; rfl
      have base0 : A.eval (.tmp 0) = .pointer (some ⟨g, 0, none⟩) := by rw [hA]; rfl
      have base1 : A.eval (.tmp 1) = .int .i64 (k : Int) := by rw [hA]; rfl
      have base2 : A.eval (.tmp 2) = .int .i64 (m : Int) := by rw [hA]; rfl
      have base7 : A.eval (.tmp 7) = .slice p1 rl c1 := by rw [hA]; rfl
      have HAA := Lib.hid hA; clear hA
      obtain ⟨o0, po0, q0, d0, gd0⟩ : ∃ o, ops[0]? = some o ∧ o.op = .move (.tmp 0) ∧ o.dst = some 32 ∧ o.guard = none := ⟨_, by rw [hops]; rfl, rfl, rfl, rfl⟩
      obtain ⟨o1, po1, q1, d1, gd1⟩ : ∃ o, ops[1]? = some o ∧ o.op = .move (.tmp 1) ∧ o.dst = some 33 ∧ o.guard = none := ⟨_, by rw [hops]; rfl, rfl, rfl, rfl⟩
      obtain ⟨o2, po2, q2, d2, gd2⟩ : ∃ o, ops[2]? = some o ∧ o.op = .move (.tmp 7) ∧ o.dst = some 34 ∧ o.guard = none := ⟨_, by rw [hops]; rfl, rfl, rfl, rfl⟩
      obtain ⟨o3, po3, q3, d3, gd3⟩ : ∃ o, ops[3]? = some o ∧ o.op = .move (.tmp 2) ∧ o.dst = some 35 ∧ o.guard = none := ⟨_, by rw [hops]; rfl, rfl, rfl, rfl⟩
      obtain ⟨o4, po4, q4, d4, gd4⟩ : ∃ o, ops[4]? = some o ∧ o.op = .slice 37 (.tmp 34) none (some (.tmp 35)) none ∧ o.dst = some 36 ∧ o.guard = none := ⟨_, by rw [hops]; rfl, rfl, rfl, rfl⟩
      obtain ⟨o5, po5, q5, d5, gd5⟩ : ∃ o, ops[5]? = some o ∧ o.op = .build 68 #[(0, (.tmp 36))] ∧ o.dst = some 37 ∧ o.guard = none := ⟨_, by rw [hops]; rfl, rfl, rfl, rfl⟩
      obtain ⟨o6, po6, q6, d6, gd6⟩ : ∃ o, ops[6]? = some o ∧ o.op = .nilCheck (.tmp 32) ∧ o.dst = some 38 ∧ o.guard = none := ⟨_, by rw [hops]; rfl, rfl, rfl, rfl⟩
      obtain ⟨o7, po7, q7, d7, gd7⟩ : ∃ o, ops[7]? = some o ∧ o.op = .fieldAddr 71 (.tmp 38) 1 ∧ o.dst = some 39 ∧ o.guard = none := ⟨_, by rw [hops]; rfl, rfl, rfl, rfl⟩
      obtain ⟨o8, po8, q8, d8, gd8⟩ : ∃ o, ops[8]? = some o ∧ o.op = .indexAddr 69 (.tmp 39) (.tmp 33) ∧ o.dst = some 40 ∧ o.guard = none := ⟨_, by rw [hops]; rfl, rfl, rfl, rfl⟩
      obtain ⟨o9, po9, q9, d9, gd9⟩ : ∃ o, ops[9]? = some o ∧ o.op = .store 68 (.tmp 40) (.tmp 37) ∧ o.dst = none ∧ o.guard = none := ⟨_, by rw [hops]; rfl, rfl, rfl, rfl⟩
      clear hops
      refine met_free po0 d0 (wanted_of gd0) (fun w' h' => run_move q0 base0 w') ?_
      refine met_free po1 d1 (wanted_of gd1) (fun w' h' => run_move q1 ((eval_other _ 32 1 _ (by decide)).trans base1) w') ?_
      refine met_free po2 d2 (wanted_of gd2) (fun w' h' => run_move q2 ((eval_other _ 33 7 _ (by decide)).trans ((eval_other _ 32 7 _ (by decide)).trans base7)) w') ?_
      refine met_free po3 d3 (wanted_of gd3) (fun w' h' => run_move q3 ((eval_other _ 34 2 _ (by decide)).trans ((eval_other _ 33 2 _ (by decide)).trans ((eval_other _ 32 2 _ (by decide)).trans base2))) w') ?_
      refine met_free po4 d4 (wanted_of gd4) (fun w' h' => run_toRef q4 HMC.out ((eval_other _ 35 34 _ (by decide)).trans (eval_same _ _ _ (by simp only [put_size, hsz]; decide))) (eval_same _ _ _ (by simp only [put_size, hsz]; decide)) w') ?_
      refine met_free po5 d5 (wanted_of gd5) (fun w' h' => run_buildFile q5 (eval_same _ _ _ (by simp only [put_size, hsz]; decide)) w') ?_
      refine met_free po6 d6 (wanted_of gd6) (fun w' h' => run_nilCheck q6 ((eval_other _ 37 32 _ (by decide)).trans ((eval_other _ 36 32 _ (by decide)).trans ((eval_other _ 35 32 _ (by decide)).trans ((eval_other _ 34 32 _ (by decide)).trans ((eval_other _ 33 32 _ (by decide)).trans (eval_same _ _ _ (by rw [hsz]; decide))))))) w') ?_
      refine met_free po7 d7 (wanted_of gd7) (fun w' h' => run_fieldT (off := 1) q7 (fun _ => by kernel_rfl) (eval_same _ _ _ (by simp only [put_size, hsz]; decide)) w') ?_
      refine met_free po8 d8 (wanted_of gd8) (fun w' h' => run_ixFile q8 (eval_same _ _ _ (by simp only [put_size, hsz]; decide)) ((eval_other _ 39 33 _ (by decide)).trans ((eval_other _ 38 33 _ (by decide)).trans ((eval_other _ 37 33 _ (by decide)).trans ((eval_other _ 36 33 _ (by decide)).trans ((eval_other _ 35 33 _ (by decide)).trans ((eval_other _ 34 33 _ (by decide)).trans (eval_same _ _ _ (by simp only [put_size, hsz]; decide)))))))) HHK.out w') ?_
      refine met_skip po9 d9 (wanted_of gd9) (run_storeFile q9 (eval_same _ _ _ (by simp only [put_size, hsz]; decide)) ((eval_other _ 40 37 _ (by decide)).trans ((eval_other _ 39 37 _ (by decide)).trans ((eval_other _ 38 37 _ (by decide)).trans (eval_same _ _ _ (by simp only [put_size, hsz]; decide))))) HT.out) trivial ?_
      show NoPanic _ .normal _ _
      refine NoPanic.normal ?_
      rw [HAA.out]
      go_frame
      clear HAA
      go_wp2_with fail
      go_ret
      exact ⟨rfl, HG.out⟩
    · rw [doD_ne h0]
      have HSE1 := Lib.hid (fun T1 w1 h1 => HSE.out T1 w1 h1 true)
      generalize setE d true = E at h0 HSE1 ⊢
      generalize setD d true = D at HSE1 ⊢
      clear hrf f0 f1 n0 HSE hrl HRF HHK
      go_enter Tryd.func65, Tryd.ntmps65
      go_wp2_with fail
      refine HRD.out.mono ?_
      rintro e w1 ⟨v1, rfl, ho, hb⟩
      obtain ⟨p1, c1, rfl, hc1, -, -⟩ := ho.lies
      rw [HRL.out]
      have HB1 := Lib.hid hb
      have HST := Lib.hid (HSE1.out T w1 (HD.out.below hb))
      clear ho hb hc1 HSE1 HRD
      go_wp2_with fail
      refine HST.out.mono ?_
      rintro e w2 ⟨rfl, hr, hs⟩
      have HG : Hid (RefGo T g D w w2) := show RefGo _ _ _ _ _ from ⟨T, hr, fun _ t => Or.inl t, (Below.stays (F := fun k => k = g) HB1.out).trans hs (fun _ f _ => f)⟩
      clear hr hs HST
      go_wp2_with fail
      go_ret
      exact ⟨rfl, HG.out⟩
  · rw [decide_eq_false hall]
    have h0 : ¬ setE d false = 0 := by
      unfold setE
      by_cases a1 : d.down = true
      · rw [if_pos a1]; decide
      · rw [if_neg a1, if_pos rfl]; decide
    rw [doD_ne h0]
    have HSE1 := Lib.hid (fun T1 w1 h1 => HSE.out T1 w1 h1 false)
    generalize setE d false = E at h0 HSE1 ⊢
    generalize setD d false = D at HSE1 ⊢
    clear hrf HSE hrl
    by_cases a1 : f ≥ 0
    · by_cases a2 : f ≤ 32
      · by_cases a3 : n ≥ 0
        · have a4 : ¬ n ≤ (rl : Int) := fun h => hall ⟨⟨a1, a2⟩, a3, h⟩
          clear hall
          obtain ⟨m, rfl⟩ : ∃ m : Nat, n = (m : Int) := ⟨n.toNat, by omega⟩
          have a5 : ¬ m ≤ rl := by omega
          have a6 : rl < m := by omega
          go_enter Tryd.func65, Tryd.ntmps65
          go_wp2_with fail
          refine HRD.out.mono ?_
          rintro e w1 ⟨v1, rfl, ho, hb⟩
          obtain ⟨p1, c1, rfl, hc1, -, -⟩ := ho.lies
          rw [HRL.out]
          have HB1 := Lib.hid hb
          have HST := Lib.hid (HSE1.out T w1 (HD.out.below hb))
          clear ho hb hc1 HSE1 HRD
          go_wp2_with fail
          refine HST.out.mono ?_
          rintro e w2 ⟨rfl, hr, hs⟩
          have HG : Hid (RefGo T g D w w2) := show RefGo _ _ _ _ _ from ⟨T, hr, fun _ t => Or.inl t, (Below.stays (F := fun k => k = g) HB1.out).trans hs (fun _ f _ => f)⟩
          clear hr hs HST
          go_wp2_with fail
          go_ret
          exact ⟨rfl, HG.out⟩
        · clear hall
          go_enter Tryd.func65, Tryd.ntmps65
          go_wp2_with fail
          refine HRD.out.mono ?_
          rintro e w1 ⟨v1, rfl, ho, hb⟩
          obtain ⟨p1, c1, rfl, hc1, -, -⟩ := ho.lies
          rw [HRL.out]
          have HB1 := Lib.hid hb
          have HST := Lib.hid (HSE1.out T w1 (HD.out.below hb))
          clear ho hb hc1 HSE1 HRD
          go_wp2_with fail
          refine HST.out.mono ?_
          rintro e w2 ⟨rfl, hr, hs⟩
          have HG : Hid (RefGo T g D w w2) := show RefGo _ _ _ _ _ from ⟨T, hr, fun _ t => Or.inl t, (Below.stays (F := fun k => k = g) HB1.out).trans hs (fun _ f _ => f)⟩
          clear hr hs HST
          go_wp2_with fail
          go_ret
          exact ⟨rfl, HG.out⟩
      · clear hall
        go_enter Tryd.func65, Tryd.ntmps65
        go_wp2_with fail
        refine HRD.out.mono ?_
        rintro e w1 ⟨v1, rfl, ho, hb⟩
        obtain ⟨p1, c1, rfl, hc1, -, -⟩ := ho.lies
        rw [HRL.out]
        have HB1 := Lib.hid hb
        have HST := Lib.hid (HSE1.out T w1 (HD.out.below hb))
        clear ho hb hc1 HSE1 HRD
        go_wp2_with fail
        refine HST.out.mono ?_
        rintro e w2 ⟨rfl, hr, hs⟩
        have HG : Hid (RefGo T g D w w2) := show RefGo _ _ _ _ _ from ⟨T, hr, fun _ t => Or.inl t, (Below.stays (F := fun k => k = g) HB1.out).trans hs (fun _ f _ => f)⟩
        clear hr hs HST
        go_wp2_with fail
        go_ret
        exact ⟨rfl, HG.out⟩
    · clear hall
      go_enter Tryd.func65, Tryd.ntmps65
      go_wp2_with fail
      refine HRD.out.mono ?_
      rintro e w1 ⟨v1, rfl, ho, hb⟩
      obtain ⟨p1, c1, rfl, hc1, -, -⟩ := ho.lies
      rw [HRL.out]
      have HB1 := Lib.hid hb
      have HST := Lib.hid (HSE1.out T w1 (HD.out.below hb))
      clear ho hb hc1 HSE1 HRD
      go_wp2_with fail
      refine HST.out.mono ?_
      rintro e w2 ⟨rfl, hr, hs⟩
      have HG : Hid (RefGo T g D w w2) := show RefGo _ _ _ _ _ from ⟨T, hr, fun _ t => Or.inl t, (Below.stays (F := fun k => k = g) HB1.out).trans hs (fun _ f _ => f)⟩
      clear hr hs HST
      go_wp2_with fail
      go_ret
      exact ⟨rfl, HG.out⟩
end
end Go.Proofs.YtoidjapenompiaaDoor

/-
  The document's disk: Over.
-/
namespace Go.Proofs.YtoidjapenompiaaDoor
open Go.RowKit Go.Proofs.ShaWords
theorem over_do (d : DiskM) (f k : Int) (b : List (BitVec 8)) : d.over f k b = doD d (decide ((0 ≤ f ∧ f ≤ 32) ∧ (0 ≤ k ∧ (b.length : Int) ≤ ((d.files f.toNat).dur : Int) - k))) (overF f.toNat k.toNat b) := by
  rw [← doD_eq d f]
  unfold DiskM.over
  by_cases eo : d.openE f ≠ 0
  · rw [if_pos eo, if_pos eo]
  rw [if_neg eo, if_neg eo]
  by_cases hC : 0 ≤ k ∧ (b.length : Int) ≤ ((d.files f.toNat).dur : Int) - k
  · rw [if_neg (show ¬ (k < 0 ∨ ((d.files f.toNat).dur : Int) - k < (b.length : Int)) by omega), if_neg (fun h => h hC)]
  · rw [if_pos (show (k < 0 ∨ ((d.files f.toNat).dur : Int) - k < (b.length : Int)) by omega), if_pos hC]
theorem setE_false (d : DiskM) : ¬ setE d false = 0 := by
  unfold setE
  by_cases a1 : d.down = true
  · rw [if_pos a1]; decide
  · rw [if_neg a1, if_pos rfl]; decide
/-- The first j bytes are laid over. -/
theorem lay_get (l m : List (BitVec 8)) (a i : Nat) (h : a + m.length ≤ l.length) : (layOver l a m)[i]? = if i < a then l[i]? else if i < a + m.length then m[i - a]? else l[i]? := by
  unfold layOver
  have e0 : (l.take a).length = a := by rw [List.length_take]; omega
  have e1 : (l.take a ++ m).length = a + m.length := by rw [List.length_append, e0]
  by_cases h1 : i < a
  · rw [if_pos h1, List.getElem?_append_left (by rw [e1]; omega), List.getElem?_append_left (by rw [e0]; omega), List.getElem?_take, if_pos h1]
  · rw [if_neg h1]
    by_cases h2 : i < a + m.length
    · rw [if_pos h2, List.getElem?_append_left (by rw [e1]; omega), List.getElem?_append_right (by rw [e0]; omega), e0]
    · rw [if_neg h2, List.getElem?_append_right (by rw [e1]; omega), e1, List.getElem?_drop]
      congr 1; omega
theorem lay_step (l b : List (BitVec 8)) (a j : Nat) (hj : j < b.length) (h : a + b.length ≤ l.length) : (layOver l a (b.take j)).set (a + j) b[j] = layOver l a (b.take (j + 1)) := by
  have e1 : (b.take j).length = j := by rw [List.length_take]; omega
  have e2 : (b.take (j + 1)).length = j + 1 := by rw [List.length_take]; omega
  have hlen : (layOver l a (b.take j)).length = l.length := layOver_length (by rw [e1]; omega)
  apply List.ext_getElem?
  intro i
  rw [List.getElem?_set, lay_get l _ a i (by rw [e1]; omega), lay_get l _ a i (by rw [e2]; omega), e1, e2, hlen, List.getElem?_take, List.getElem?_take]
  by_cases hi : a + j = i
  · subst hi
    rw [if_pos rfl, if_pos (by omega), if_neg (by omega), if_pos (by omega), show a + j - a = j by omega, if_pos (by omega), List.getElem?_eq_getElem hj]
  · rw [if_neg hi]
    by_cases h1 : i < a
    · rw [if_pos h1, if_pos h1]
    · rw [if_neg h1, if_neg h1]
      by_cases h2 : i < a + j
      · rw [if_pos h2, if_pos (by omega), if_pos (by omega), if_pos (by omega)]
      · rw [if_neg h2, if_neg (by omega)]
theorem lay_zero (l b : List (BitVec 8)) (a : Nat) : layOver l a (b.take 0) = l := by unfold layOver; simp
theorem lay_split (l b : List (BitVec 8)) (a m : Nat) (h : a + b.length ≤ m) (_hm : m ≤ l.length) : layOver (l.take m) a b ++ l.drop m = layOver l a b := by
  unfold layOver
  rw [List.take_take, Nat.min_eq_left (by omega), List.append_assoc, List.append_assoc, List.append_assoc]
  congr 2
  rw [List.drop_take]
  conv => rhs; rw [← List.take_append_drop (m - (a + b.length)) (l.drop (a + b.length)), List.drop_drop, show a + b.length + (m - (a + b.length)) = m by omega]
section
variable (T : Nat → Prop) (g : Nat) (d : DiskM) (w : World)
set_option maxRecDepth 100000 in
set_option maxHeartbeats 16000000 in
theorem rfOver_any (f at_ : Int) (b : List (BitVec 8)) (n c : Nat) (p : Option Addr) (h : RefAt T w g d) (hok : d.Ok) (hc : d.count < 1000000000) (h64 : -9223372036854775808 ≤ at_ ∧ at_ ≤ 9223372036854775807) (hb : b.length = n) (hn : n ≤ 1000000) (hL : ∀ w', Stays (fun k => k = g) w w' → Lies w' p b) :
    Calls Tryd.prog 71 #[.pointer (some ⟨g, 0, none⟩), .int .i64 f, .int .i64 at_, .slice p n c] w fun e w' => e = .returned (.int .i64 (d.over f at_ b).2) ∧ RefGo T g (d.over f at_ b).1 w w' := by
  have HSE := Lib.hid (fun b => rfSettle_any T g d w b h hok hc)
  have HL := Lib.hid hL
  have HBN := Lib.hid hb
  have HCT := Lib.hid (over_do d f at_ b)
  rw [HCT.out, HBN.out]
  have HD := Lib.hid h
  clear h hc hL hb HCT
  by_cases hf : 0 ≤ f ∧ f ≤ 32
  · obtain ⟨k, rfl⟩ : ∃ k : Nat, f = (k : Int) := ⟨f.toNat, by omega⟩
    have hk : k < 33 := by omega
    have q0 : (k : Int) < 33 := by omega
    have q1 : (k : Int) ≥ 0 := by omega
    have q2 : (k : Int) ≤ 32 := by omega
    rw [Int.toNat_natCast]
    have hdur := hok.dur k hk
    have hsm := file_small hok k hk
    obtain ⟨us, lf, hv⟩ := HD.out
    obtain ⟨qa1, ca1, qa2, ca2, e1, -, s1, -⟩ := hv.files T k hk
    have hn1 : ((d.files k).all.take (d.files k).dur).length = (d.files k).dur := by rw [List.length_take]; omega
    rw [hn1] at e1
    have HDUR := Lib.hid hdur; have HSM := Lib.hid hsm; have HN1 := Lib.hid hn1; have HHK := Lib.hid hk
    clear s1 hv hn1 hdur
    obtain ⟨dr, hdr⟩ : ∃ dr, (d.files k).dur = dr := ⟨_, rfl⟩
    rw [hdr] at e1 ⊢
    have HDR := Lib.hid hdr
    have hdl : dr ≤ 262144 := by have := HDUR.out; omega
    clear hdr hsm
    by_cases ha : at_ ≥ 0
    · obtain ⟨a, rfl⟩ : ∃ a : Nat, at_ = (a : Int) := ⟨at_.toNat, by omega⟩
      rw [Int.toNat_natCast]
      clear ha h64
      by_cases ha2 : a ≤ dr
      · have z1b : (dr : Int) - (a : Int) = ((dr - a : Nat) : Int) := by omega
        have z1 : IntKind.i64.wrap ((dr : Int) - (a : Int)) = ((dr - a : Nat) : Int) := by rw [IntWalk.i64_in _ (by omega)]; exact z1b
        by_cases ha3 : n ≤ dr - a
        · rw [decide_eq_true (⟨hf, by omega, by omega⟩ : (0 ≤ (k : Int) ∧ (k : Int) ≤ 32) ∧ (0 ≤ (a : Int) ∧ (n : Int) ≤ (dr : Int) - (a : Int)))]
          by_cases h0 : setE d true = 0
          · obtain ⟨f1, -, f2⟩ := doD_zero (eff := overF k a b) h0
            rw [f1]
            have hst := HSE.out true
            rw [h0, f2] at hst
            have HST := Lib.hid hst
            have HAN : Hid (a + n ≤ dr) := show _ ≤ _ by omega
            have HDL : Hid (dr ≤ 262144) := show _ ≤ _ from hdl
            clear f1 f2 h0 hst HSE hf hok
            go_enter Tryd.func71, Tryd.ntmps71
            go_wp2_with fail
            refine HST.out.mono ?_
            rintro e w1 ⟨rfl, hr, hs⟩
            have HR1 := Lib.hid hr; have HS1 := Lib.hid hs
            have hgt : g < w1.heap.size := by obtain ⟨us, lf, hv⟩ := hr; exact hv.lt
            have HGT := Lib.hid hgt
            clear hr hs HST e1 hgt us lf
            obtain ⟨us, lf, hv⟩ := HR1.out
            obtain ⟨qa1, ca1, qa2, ca2, e1, -, s1, -⟩ := hv.files T k HHK.out
            have hA : (({ d.tick with count := d.count + 1 } : DiskM).files k) = d.files k := rfl
            rw [hA, HN1.out, HDR.out] at e1
            obtain ⟨_, _, he1, -, L1⟩ := s1.lies
            rw [hA, HN1.out, HDR.out] at he1
            cases he1
            rw [hA] at L1
            have HN1d : Hid (((d.files k).all.take (d.files k).dur).length = dr) := show _ = _ from HN1.out.trans HDR.out
            have HL1 := Lib.hid L1; have HV := Lib.hid hv
            clear hv s1 L1 hA
            go_wp2_with fail
            refine (copy_bigL ((d.files k).all.take (d.files k).dur) dr qa1 ca1 w1 HN1d.out (by have := HDL.out; omega) HL1.out).mono ?_
            rintro e w2 ⟨v2, rfl, ho, hb⟩
            obtain ⟨q2', c2, rfl, hc2, -, -⟩ := ho.lies
            rw [HN1d.out] at hc2 ho ⊢
            have HO2 := Lib.hid ho; have HB2 := Lib.hid hb; have HC2 := Lib.hid hc2
            clear ho hb hc2 e1 z1 z1b
            have HZ : Hid (Own w1.heap.size w2 (layOver ((d.files k).all.take (d.files k).dur) a (b.take 0)) (.slice q2' dr c2)) := show Own _ _ _ _ by rw [lay_zero]; exact HO2.out
            go_wp2_with fail
            go_loopw [12] (fun i wr => ∃ j : Nat, j ≤ n ∧ i = .int .i64 (j : Int) ∧ Own w1.heap.size wr (layOver ((d.files k).all.take (d.files k).dur) a (b.take j)) (.slice q2' dr c2) ∧ Below w1.heap.size w1 wr) (fun i _ => n - (intOf i).toNat)
            case atStart => exact ⟨0, by omega, rfl, HZ.out, HB2.out⟩
            case round =>
              clear HZ HO2 HB2
              obtain ⟨j, hj, rfl, ho, hb⟩ := hrel
              have HO := Lib.hid ho; have HB := Lib.hid hb
              clear hb
              by_cases hlt : j < n
              · have q4 : (j : Int) < (n : Int) := by omega
                have hjt : j < b.length := by rw [HBN.out]; exact hlt
                have hlz := HL.out wr (HS1.out.trans (G := fun k => k = g) (Below.stays HB.out) (fun _ f _ => f))
                obtain ⟨bb, off, rfl, hr⟩ : ∃ bb off, p = some ⟨bb, off, none⟩ ∧ wr.rangeAt bb off (bytesV b) := by
                  rcases hlz with h | h
                  · rw [h] at hjt; simp at hjt
                  · exact h
                have fk : wr.cell? ⟨bb, off + j, none⟩ = some (.int .u8 (n8 b[j])) := hr j _ (by simp [bytesV, hjt])
                have hll : (layOver ((d.files k).all.take (d.files k).dur) a (b.take j)).length = dr := by rw [layOver_length (by rw [HN1d.out, List.length_take]; have := HAN.out; omega), HN1d.out]
                obtain ⟨gg, cc, he, hgg, -, -, -, hcell, hfr⟩ := ho.form8 (by rw [hll]; have := HAN.out; omega)
                rw [hll] at he hcell
                cases he
                have hcl := hcell (a + j) (by have := HAN.out; omega)
                have hft := hfr (a + j)
                generalize (layOver ((d.files k).all.take (d.files k).dur) a (b.take j)).getD (a + j) 0#8 = ox at hcl
                have hst := HO.out.put (a + j) b[j]
                rw [lay_step _ _ _ _ hjt (by rw [HN1d.out, HBN.out]; exact HAN.out)] at hst
                have HST := Lib.hid hst
                have HBS := Lib.hid (HB.out.setCell (p := ⟨gg, a + j, none⟩) hgg (.int .u8 (n8 b[j])))
                generalize b[j] = bx at fk HST HBS
                clear hlz hr hcell hfr hst ho hll hjt HO HB hgg
                have z0 := HAN.out
                have z2 := HDL.out
                have z4 : (a : Int) + (j : Int) < (dr : Int) := by omega
                have z5 : (dr : Int) ≤ 262144 := by omega
                have z6 : ((a : Int) + (j : Int)).toNat = a + j := by omega
                have z7 : (0 : Int) ≤ (a : Int) + (j : Int) := by omega
                clear z0 z2
                go_wp2_with fail
                go_roundw
                case rel => exact ⟨j + 1, by omega, by go_num, HST.out, HBS.out⟩
                case measure => simp [intOf]; omega
              · obtain rfl : j = n := by omega
                have q4 : ¬ (j : Int) < (j : Int) := by omega
                have hbj : b.take j = b := List.take_of_length_le (by rw [HBN.out]; exact Nat.le_refl _)
                rw [hbj] at HO
                have HVW := Lib.hid (HV.out.wide HB.out)
                have hll : (layOver ((d.files k).all.take (d.files k).dur) a b).length = dr := by rw [layOver_length (by rw [HN1d.out, HBN.out]; exact HAN.out), HN1d.out]
                have HSL : Hid (SlT (fun k => T k ∨ (w1.heap.size ≤ k ∧ k < wr.heap.size)) g wr (layOver ((d.files k).all.take (d.files k).dur) a b) (.slice q2' dr c2)) := show SlT _ _ _ _ _ from SlT.own HO.out HGT.out (fun k a b => Or.inr ⟨a, b⟩)
                have HG : Hid (RefGo T g { d.tick with files := overF k a b d.files, count := d.count + 1 } w (wr.setCell ⟨g, 1 + k * 2, none⟩ (.slice q2' dr c2))) := show RefGo _ _ _ _ _ from by
                  have h1 := HVW.out.putLasts k HHK.out HSL.out
                  have e : (⟨layOver ((d.files k).all.take (d.files k).dur) a b ++ (d.files k).all.drop (d.files k).dur, (layOver ((d.files k).all.take (d.files k).dur) a b).length⟩ : FileM) = ⟨layOver (d.files k).all a b, (d.files k).dur⟩ := by
                    rw [lay_split _ _ _ _ (by rw [HBN.out, HDR.out]; exact HAN.out) HDUR.out, hll, HDR.out]
                  have h2 : RefV (fun k => T k ∨ (w1.heap.size ≤ k ∧ k < wr.heap.size)) (wr.setCell ⟨g, 1 + k * 2, none⟩ (.slice q2' dr c2)) g _ { d.tick with files := setF d.files k ⟨layOver ((d.files k).all.take (d.files k).dur) a b ++ (d.files k).all.drop (d.files k).dur, (layOver ((d.files k).all.take (d.files k).dur) a b).length⟩, count := d.count + 1 } lf := h1
                  rw [e] at h2
                  exact ⟨_, ⟨_, lf, h2⟩, fun k t => t.elim Or.inl (fun h => Or.inr (Nat.le_trans HS1.out.size h.1)), (HS1.out.trans (G := fun k => k = g) (Below.stays HB.out) (fun _ f _ => f)).trans (stays_set _ g _ _) (fun _ f _ => f)⟩
                have cc := HVW.out.las k HHK.out
                have ct := HVW.out.thaw (1 + k * 2)
                clear HVW HSL hll hbj HO HB ho hlt hj
                go_wp2_with fail
                go_ret
                exact ⟨rfl, HG.out⟩
          · rw [doD_ne h0]
            have HST := Lib.hid (HSE.out true)
            generalize setE d true = E at h0 HST ⊢
            generalize setD d true = D at HST ⊢
            clear HSE hf hok
            go_enter Tryd.func71, Tryd.ntmps71
            go_wp2_with fail
            refine HST.out.mono ?_
            rintro e w1 ⟨rfl, hr, hs⟩
            have HG : Hid (RefGo T g D w w1) := show RefGo _ _ _ _ _ from ⟨T, hr, fun _ t => Or.inl t, hs⟩
            clear hr hs HST
            go_wp2_with fail
            go_ret
            exact ⟨rfl, HG.out⟩
        · rw [decide_eq_false (fun h => by have := h.2.2; omega)]
          have h0 := setE_false d
          rw [doD_ne h0]
          have HST := Lib.hid (HSE.out false)
          generalize setE d false = E at h0 HST ⊢
          generalize setD d false = D at HST ⊢
          clear HSE hf hok
          go_enter Tryd.func71, Tryd.ntmps71
          go_wp2_with fail
          refine HST.out.mono ?_
          rintro e w1 ⟨rfl, hr, hs⟩
          have HG : Hid (RefGo T g D w w1) := show RefGo _ _ _ _ _ from ⟨T, hr, fun _ t => Or.inl t, hs⟩
          clear hr hs HST
          go_wp2_with fail
          go_ret
          exact ⟨rfl, HG.out⟩
      · rw [decide_eq_false (fun h => by have := h.2.2; omega)]
        have h0 := setE_false d
        rw [doD_ne h0]
        have HST := Lib.hid (HSE.out false)
        generalize setE d false = E at h0 HST ⊢
        generalize setD d false = D at HST ⊢
        clear HSE hf hok
        go_enter Tryd.func71, Tryd.ntmps71
        go_wp2_with fail
        refine HST.out.mono ?_
        rintro e w1 ⟨rfl, hr, hs⟩
        have HG : Hid (RefGo T g D w w1) := show RefGo _ _ _ _ _ from ⟨T, hr, fun _ t => Or.inl t, hs⟩
        clear hr hs HST
        go_wp2_with fail
        go_ret
        exact ⟨rfl, HG.out⟩
    · rw [decide_eq_false (fun h => ha h.2.1)]
      have h0 := setE_false d
      rw [doD_ne h0]
      have HST := Lib.hid (HSE.out false)
      generalize setE d false = E at h0 HST ⊢
      generalize setD d false = D at HST ⊢
      clear HSE hf hok
      go_enter Tryd.func71, Tryd.ntmps71
      go_wp2_with fail
      refine HST.out.mono ?_
      rintro e w1 ⟨rfl, hr, hs⟩
      have HG : Hid (RefGo T g D w w1) := show RefGo _ _ _ _ _ from ⟨T, hr, fun _ t => Or.inl t, hs⟩
      clear hr hs HST
      go_wp2_with fail
      go_ret
      exact ⟨rfl, HG.out⟩
  · rw [decide_eq_false (fun h => hf h.1)]
    have h0 := setE_false d
    rw [doD_ne h0]
    have HST := Lib.hid (HSE.out false)
    generalize setE d false = E at h0 HST ⊢
    generalize setD d false = D at HST ⊢
    by_cases a1 : f ≥ 0
    · have a2 : ¬ f ≤ 32 := fun h => hf ⟨a1, h⟩
      clear HSE hf hok
      go_enter Tryd.func71, Tryd.ntmps71
      go_wp2_with fail
      refine HST.out.mono ?_
      rintro e w1 ⟨rfl, hr, hs⟩
      have HG : Hid (RefGo T g D w w1) := show RefGo _ _ _ _ _ from ⟨T, hr, fun _ t => Or.inl t, hs⟩
      clear hr hs HST
      go_wp2_with fail
      go_ret
      exact ⟨rfl, HG.out⟩
    · clear HSE hf hok
      go_enter Tryd.func71, Tryd.ntmps71
      go_wp2_with fail
      refine HST.out.mono ?_
      rintro e w1 ⟨rfl, hr, hs⟩
      have HG : Hid (RefGo T g D w w1) := show RefGo _ _ _ _ _ from ⟨T, hr, fun _ t => Or.inl t, hs⟩
      clear hr hs HST
      go_wp2_with fail
      go_ret
      exact ⟨rfl, HG.out⟩
end
end Go.Proofs.YtoidjapenompiaaDoor

/-
  The document's disk: Write.
-/
namespace Go.Proofs.YtoidjapenompiaaDoor
open Go.RowKit Go.Proofs.ShaWords
section
variable (T : Nat → Prop) (g : Nat) (d : DiskM) (w : World)
set_option maxRecDepth 100000 in
set_option maxHeartbeats 2000000 in
theorem rfWrite_any (f : Int) (b : List (BitVec 8)) (n c : Nat) (p : Option Addr) (h : RefAt T w g d) (hok : d.Ok) (hc : d.count < 1000000000) (hb : b.length = n) (hn : n ≤ 1000000) (hL : ∀ w', Stays (fun k => k = g) w w' → Lies w' p b) :
    Calls Tryd.prog 39 #[.pointer (some ⟨g, 0, none⟩), .int .i64 f, .slice p n c] w fun e w' => e = .returned (.int .i64 (d.write f b).2) ∧ RefGo T g (d.write f b).1 w w' := by
  have HD := Lib.hid h
  have HL := Lib.hid hL
  have HBN := Lib.hid hb
  have c7 := (by obtain ⟨us, lf, hv⟩ := h; exact hv.off : w.cell? ⟨g, 67, none⟩ = some (.bool d.down))
  have HGT : Hid (g < w.heap.size) := show _ < _ by obtain ⟨us, lf, hv⟩ := h; exact hv.lt
  clear h hL hb
  cases hd : d.down with
  | true =>
    have e3 : d.write f b = (d, 9) := by unfold DiskM.write; rw [show d.openE f = 9 from if_pos hd]; rfl
    rw [e3]
    rw [hd] at c7
    clear e3 hok hc hd
    go_enter Tryd.func39, Tryd.ntmps39
    go_wp2_with fail
    go_ret
    exact ⟨rfl, HD.out.stay⟩
  | false =>
    rw [hd] at c7
    have hdn' : ¬ d.down = true := by rw [hd]; decide
    by_cases hf : 0 ≤ f ∧ f ≤ 32
    · obtain ⟨k, rfl⟩ : ∃ k : Nat, f = (k : Int) := ⟨f.toNat, by omega⟩
      have hk : k < 33 := by omega
      have q1 : ¬ (k : Int) < 0 := by omega
      have q2 : ¬ (k : Int) > 32 := by omega
      have eo : d.openE (k : Int) = 0 := by unfold DiskM.openE; rw [if_neg hdn', if_pos hf]
      have HU := Lib.hid (rfUsed_any T g d w.drew (HD.out.below (Below.refl _ _).drew) hok)
      have CR : Hid (w.drew.cell? ⟨g, 0, none⟩ = some (.int .i64 (d.room : Int))) := show _ = _ by obtain ⟨us, lf, hv⟩ := HD.out.below (Below.refl w.heap.size w).drew; exact hv.room
      have HUB : Hid (d.used ≤ 262144 ∧ n ≤ 1000000) := show _ ∧ _ from ⟨Nat.le_trans hok.used hok.room, hn⟩
      by_cases hfit : d.room < d.used + n
      · have e3 : d.write (k : Int) b = (d, 8) := by unfold DiskM.write; rw [if_neg (by rw [eo]; decide), if_pos (by rw [HBN.out]; exact hfit)]
        rw [e3]
        have HFT := Lib.hid hfit
        clear e3 hok hc hd hdn' hf hk eo hfit hn
        go_enter Tryd.func39, Tryd.ntmps39
        go_upto_region 5 with fail
        refine region_phase (fun w' => w'.cell? ⟨g, 0, none⟩ = some (.int .i64 (d.room : Int))) (fun _ => True) 1 (CR.out) trivial [(0, .free), (2, .free), (3, .free), (5, .free), (6, .free), (7, .free), (8, .free), (1, .behind), (4, .free), (9, .free)] (by kernel_rfl) (by kernel_rfl) (by kernel_rfl) (by kernel_rfl) (fun ops hops A hA => ?_)
        have hsz : A.tmps.size = 55 := by rw [hA]; rfl
        have base0 : A.eval (.tmp 0) = .pointer (some ⟨g, 0, none⟩) := by rw [hA]; rfl
        have base1 : A.eval (.tmp 1) = .int .i64 (k : Int) := by rw [hA]; rfl
        have base2 : A.eval (.tmp 2) = .slice p n c := by rw [hA]; rfl
        have HAA := Lib.hid hA; clear hA
        obtain ⟨o0, po0, q0, d0, gd0⟩ : ∃ o, ops[0]? = some o ∧ o.op = .move (.tmp 0) ∧ o.dst = some 18 ∧ o.guard = none := ⟨_, by rw [hops]; rfl, rfl, rfl, rfl⟩
        obtain ⟨o1, po1, q1, d1, gd1⟩ : ∃ o, ops[1]? = some o ∧ o.op = .call { callee := .value (.func 67), args := #[.tmp 18], argTypes := #[26] } ∧ o.dst = some 19 ∧ o.guard = none := ⟨_, by rw [hops]; rfl, rfl, rfl, rfl⟩
        obtain ⟨o2, po2, q2, d2, gd2⟩ : ∃ o, ops[2]? = some o ∧ o.op = .move (.tmp 2) ∧ o.dst = some 20 ∧ o.guard = none := ⟨_, by rw [hops]; rfl, rfl, rfl, rfl⟩
        obtain ⟨o3, po3, q3, d3, gd3⟩ : ∃ o, ops[3]? = some o ∧ o.op = .call { callee := .builtin .len, args := #[.tmp 20], argTypes := #[37] } ∧ o.dst = some 21 ∧ o.guard = none := ⟨_, by rw [hops]; rfl, rfl, rfl, rfl⟩
        obtain ⟨o4, po4, q4, d4, gd4⟩ : ∃ o, ops[4]? = some o ∧ o.op = .binOp .add 3 (.tmp 19) (.tmp 21) 3 ∧ o.dst = some 22 ∧ o.guard = none := ⟨_, by rw [hops]; rfl, rfl, rfl, rfl⟩
        obtain ⟨o5, po5, q5, d5, gd5⟩ : ∃ o, ops[5]? = some o ∧ o.op = .move (.tmp 0) ∧ o.dst = some 23 ∧ o.guard = none := ⟨_, by rw [hops]; rfl, rfl, rfl, rfl⟩
        obtain ⟨o6, po6, q6, d6, gd6⟩ : ∃ o, ops[6]? = some o ∧ o.op = .nilCheck (.tmp 23) ∧ o.dst = some 24 ∧ o.guard = none := ⟨_, by rw [hops]; rfl, rfl, rfl, rfl⟩
        obtain ⟨o7, po7, q7, d7, gd7⟩ : ∃ o, ops[7]? = some o ∧ o.op = .fieldAddr 71 (.tmp 24) 0 ∧ o.dst = some 25 ∧ o.guard = none := ⟨_, by rw [hops]; rfl, rfl, rfl, rfl⟩
        obtain ⟨o8, po8, q8, d8, gd8⟩ : ∃ o, ops[8]? = some o ∧ o.op = .load 3 (.tmp 25) ∧ o.dst = some 26 ∧ o.guard = none := ⟨_, by rw [hops]; rfl, rfl, rfl, rfl⟩
        obtain ⟨o9, po9, q9, d9, gd9⟩ : ∃ o, ops[9]? = some o ∧ o.op = .binOp .gtr 3 (.tmp 22) (.tmp 26) 3 ∧ o.dst = some 27 ∧ o.guard = none := ⟨_, by rw [hops]; rfl, rfl, rfl, rfl⟩
        clear hops
        refine met_free po0 d0 (wanted_of gd0) (fun w' h' => run_move q0 base0 w') ?_
        refine met_free po2 d2 (wanted_of gd2) (fun w' h' => run_move q2 ((eval_other _ 18 2 _ (by decide)).trans base2) w') ?_
        refine met_free po3 d3 (wanted_of gd3) (fun w' h' => run_len26 q3 (eval_same _ _ _ (by simp only [put_size, hsz]; decide)) w') ?_
        refine met_free po5 d5 (wanted_of gd5) (fun w' h' => run_move q5 ((eval_other _ 21 0 _ (by decide)).trans ((eval_other _ 20 0 _ (by decide)).trans ((eval_other _ 18 0 _ (by decide)).trans base0))) w') ?_
        refine met_free po6 d6 (wanted_of gd6) (fun w' h' => run_nilCheck q6 (eval_same _ _ _ (by simp only [put_size, hsz]; decide)) w') ?_
        refine met_free po7 d7 (wanted_of gd7) (fun w' h' => run_fieldT (off := 0) q7 (fun _ => by kernel_rfl) (eval_same _ _ _ (by simp only [put_size, hsz]; decide)) w') ?_
        refine met_free po8 d8 (wanted_of gd8) (fun w' h' => run_loadIn q8 (eval_same _ _ _ (by simp only [put_size, hsz]; decide)) h') ?_
        refine m_enter po1 d1 (wanted_of gd1) (run_callf1 q1 rfl ((eval_other _ 26 18 _ (by decide)).trans ((eval_other _ 25 18 _ (by decide)).trans ((eval_other _ 24 18 _ (by decide)).trans ((eval_other _ 23 18 _ (by decide)).trans ((eval_other _ 21 18 _ (by decide)).trans ((eval_other _ 20 18 _ (by decide)).trans (eval_same _ _ _ (by rw [hsz]; decide)))))))) Tryd.func67 (by kernel_rfl) _) (HU.out) ?_
        rintro e w5 ⟨rfl, hb⟩
        have HB5 : Hid (Below w.heap.size w w5) := show Below _ _ _ from (Below.refl w.heap.size w).drew.trans hb
        have hcr : w5.cell? ⟨g, 0, none⟩ = some (.int .i64 (d.room : Int)) := (hb.cell HGT.out).trans CR.out
        clear hb
        refine ⟨_, rfl, hcr, ?_⟩
        refine met_free po4 d4 (wanted_of gd4) (fun w' h' => run_addI q4 (eval_same _ _ _ (by simp only [put_size, hsz]; decide)) ((eval_other _ 19 21 _ (by decide)).trans ((eval_other _ 26 21 _ (by decide)).trans ((eval_other _ 25 21 _ (by decide)).trans ((eval_other _ 24 21 _ (by decide)).trans ((eval_other _ 23 21 _ (by decide)).trans (eval_same _ _ _ (by simp only [put_size, hsz]; decide))))))) (by have := HUB.out; omega) w') ?_
        refine met_free po9 d9 (wanted_of gd9) (fun w' h' => run_gtrT q9 (eval_same _ _ _ (by simp only [put_size, hsz]; decide)) ((eval_other _ 22 26 _ (by decide)).trans ((eval_other _ 19 26 _ (by decide)).trans (eval_same _ _ _ (by simp only [put_size, hsz]; decide)))) (by have := HFT.out; omega) w') ?_
        show NoPanic _ .normal _ _
        refine NoPanic.normal ?_
        rw [HAA.out]
        go_frame
        clear HAA
        clear hcr CR HU
        go_wp2_with fail
        go_ret
        exact ⟨rfl, T, HD.out.below HB5.out, fun _ t => Or.inl t, Below.stays HB5.out⟩
      · have e3 : d.write (k : Int) b = ({ d.tick with files := writeF k b d.files, count := d.count + 1 }, if d.left = 0 then 9 else 0) := by
          unfold DiskM.write
          rw [if_neg (by rw [eo]; decide), if_neg (by rw [HBN.out]; exact hfit), Int.toNat_natCast]
          unfold DiskM.exec DiskM.execE
          rw [if_pos (by simp)]
        rw [e3]
        obtain ⟨E, hE⟩ : ∃ E : Int, (if d.left = 0 then (9 : Int) else 0) = E := ⟨_, rfl⟩
        rw [hE]
        have HEE := Lib.hid hE
        clear hE
        have HFT := Lib.hid hfit
        have HHK := Lib.hid hk
        have HOK := Lib.hid hok
        have HST := Lib.hid (fun w1 h1 => rfStrikes_any T g d w1 h1 hd hok.left)
        have HSM := Lib.hid (file_small hok k hk)
        clear e3 hok hd hdn' hf hk eo hfit hn
        go_enter Tryd.func39, Tryd.ntmps39
        go_upto_region 5 with fail
        refine region_phase (fun w' => w'.cell? ⟨g, 0, none⟩ = some (.int .i64 (d.room : Int))) (fun _ => True) 1 (CR.out) trivial [(0, .free), (2, .free), (3, .free), (5, .free), (6, .free), (7, .free), (8, .free), (1, .behind), (4, .free), (9, .free)] (by kernel_rfl) (by kernel_rfl) (by kernel_rfl) (by kernel_rfl) (fun ops hops A hA => ?_)
        have hsz : A.tmps.size = 55 := by rw [hA]; rfl
        have base0 : A.eval (.tmp 0) = .pointer (some ⟨g, 0, none⟩) := by rw [hA]; rfl
        have base1 : A.eval (.tmp 1) = .int .i64 (k : Int) := by rw [hA]; rfl
        have base2 : A.eval (.tmp 2) = .slice p n c := by rw [hA]; rfl
        have HAA := Lib.hid hA; clear hA
        obtain ⟨o0, po0, q0, d0, gd0⟩ : ∃ o, ops[0]? = some o ∧ o.op = .move (.tmp 0) ∧ o.dst = some 18 ∧ o.guard = none := ⟨_, by rw [hops]; rfl, rfl, rfl, rfl⟩
        obtain ⟨o1, po1, q1, d1, gd1⟩ : ∃ o, ops[1]? = some o ∧ o.op = .call { callee := .value (.func 67), args := #[.tmp 18], argTypes := #[26] } ∧ o.dst = some 19 ∧ o.guard = none := ⟨_, by rw [hops]; rfl, rfl, rfl, rfl⟩
        obtain ⟨o2, po2, q2, d2, gd2⟩ : ∃ o, ops[2]? = some o ∧ o.op = .move (.tmp 2) ∧ o.dst = some 20 ∧ o.guard = none := ⟨_, by rw [hops]; rfl, rfl, rfl, rfl⟩
        obtain ⟨o3, po3, q3, d3, gd3⟩ : ∃ o, ops[3]? = some o ∧ o.op = .call { callee := .builtin .len, args := #[.tmp 20], argTypes := #[37] } ∧ o.dst = some 21 ∧ o.guard = none := ⟨_, by rw [hops]; rfl, rfl, rfl, rfl⟩
        obtain ⟨o4, po4, q4, d4, gd4⟩ : ∃ o, ops[4]? = some o ∧ o.op = .binOp .add 3 (.tmp 19) (.tmp 21) 3 ∧ o.dst = some 22 ∧ o.guard = none := ⟨_, by rw [hops]; rfl, rfl, rfl, rfl⟩
        obtain ⟨o5, po5, q5, d5, gd5⟩ : ∃ o, ops[5]? = some o ∧ o.op = .move (.tmp 0) ∧ o.dst = some 23 ∧ o.guard = none := ⟨_, by rw [hops]; rfl, rfl, rfl, rfl⟩
        obtain ⟨o6, po6, q6, d6, gd6⟩ : ∃ o, ops[6]? = some o ∧ o.op = .nilCheck (.tmp 23) ∧ o.dst = some 24 ∧ o.guard = none := ⟨_, by rw [hops]; rfl, rfl, rfl, rfl⟩
        obtain ⟨o7, po7, q7, d7, gd7⟩ : ∃ o, ops[7]? = some o ∧ o.op = .fieldAddr 71 (.tmp 24) 0 ∧ o.dst = some 25 ∧ o.guard = none := ⟨_, by rw [hops]; rfl, rfl, rfl, rfl⟩
        obtain ⟨o8, po8, q8, d8, gd8⟩ : ∃ o, ops[8]? = some o ∧ o.op = .load 3 (.tmp 25) ∧ o.dst = some 26 ∧ o.guard = none := ⟨_, by rw [hops]; rfl, rfl, rfl, rfl⟩
        obtain ⟨o9, po9, q9, d9, gd9⟩ : ∃ o, ops[9]? = some o ∧ o.op = .binOp .gtr 3 (.tmp 22) (.tmp 26) 3 ∧ o.dst = some 27 ∧ o.guard = none := ⟨_, by rw [hops]; rfl, rfl, rfl, rfl⟩
        clear hops
        refine met_free po0 d0 (wanted_of gd0) (fun w' h' => run_move q0 base0 w') ?_
        refine met_free po2 d2 (wanted_of gd2) (fun w' h' => run_move q2 ((eval_other _ 18 2 _ (by decide)).trans base2) w') ?_
        refine met_free po3 d3 (wanted_of gd3) (fun w' h' => run_len26 q3 (eval_same _ _ _ (by simp only [put_size, hsz]; decide)) w') ?_
        refine met_free po5 d5 (wanted_of gd5) (fun w' h' => run_move q5 ((eval_other _ 21 0 _ (by decide)).trans ((eval_other _ 20 0 _ (by decide)).trans ((eval_other _ 18 0 _ (by decide)).trans base0))) w') ?_
        refine met_free po6 d6 (wanted_of gd6) (fun w' h' => run_nilCheck q6 (eval_same _ _ _ (by simp only [put_size, hsz]; decide)) w') ?_
        refine met_free po7 d7 (wanted_of gd7) (fun w' h' => run_fieldT (off := 0) q7 (fun _ => by kernel_rfl) (eval_same _ _ _ (by simp only [put_size, hsz]; decide)) w') ?_
        refine met_free po8 d8 (wanted_of gd8) (fun w' h' => run_loadIn q8 (eval_same _ _ _ (by simp only [put_size, hsz]; decide)) h') ?_
        refine m_enter po1 d1 (wanted_of gd1) (run_callf1 q1 rfl ((eval_other _ 26 18 _ (by decide)).trans ((eval_other _ 25 18 _ (by decide)).trans ((eval_other _ 24 18 _ (by decide)).trans ((eval_other _ 23 18 _ (by decide)).trans ((eval_other _ 21 18 _ (by decide)).trans ((eval_other _ 20 18 _ (by decide)).trans (eval_same _ _ _ (by rw [hsz]; decide)))))))) Tryd.func67 (by kernel_rfl) _) (HU.out) ?_
        rintro e w5 ⟨rfl, hb⟩
        have HB5 : Hid (Below w.heap.size w w5) := show Below _ _ _ from (Below.refl w.heap.size w).drew.trans hb
        have hcr : w5.cell? ⟨g, 0, none⟩ = some (.int .i64 (d.room : Int)) := (hb.cell HGT.out).trans CR.out
        clear hb
        refine ⟨_, rfl, hcr, ?_⟩
        refine met_free po4 d4 (wanted_of gd4) (fun w' h' => run_addI q4 (eval_same _ _ _ (by simp only [put_size, hsz]; decide)) ((eval_other _ 19 21 _ (by decide)).trans ((eval_other _ 26 21 _ (by decide)).trans ((eval_other _ 25 21 _ (by decide)).trans ((eval_other _ 24 21 _ (by decide)).trans ((eval_other _ 23 21 _ (by decide)).trans (eval_same _ _ _ (by simp only [put_size, hsz]; decide))))))) (by have := HUB.out; omega) w') ?_
        refine met_free po9 d9 (wanted_of gd9) (fun w' h' => run_gtrF q9 (eval_same _ _ _ (by simp only [put_size, hsz]; decide)) ((eval_other _ 22 26 _ (by decide)).trans ((eval_other _ 19 26 _ (by decide)).trans (eval_same _ _ _ (by simp only [put_size, hsz]; decide)))) (by have := HFT.out; omega) w') ?_
        show NoPanic _ .normal _ _
        refine NoPanic.normal ?_
        rw [HAA.out]
        go_frame
        clear HAA
        clear hcr CR HU
        have HD5 := Lib.hid (HD.out.below HB5.out)
        clear HD c7
        go_wp2_with fail
        refine (HST.out w5 HD5.out).mono ?_
        rintro e w6 ⟨rfl, hr, hs⟩
        have HS6 : Hid (Stays (fun k => k = g) w w6) := show Stays _ _ _ from (Below.stays (F := fun k => k = g) HB5.out).trans hs (fun _ f _ => f)
        have HR6 := Lib.hid hr
        have HGT6 : Hid (g < w6.heap.size) := show _ < _ by obtain ⟨us, lf, hv⟩ := hr; exact hv.lt
        clear hr hs HST HD5 HB5
        have HB6 : Hid (Below w6.heap.size w6 w6.drew) := show Below _ _ _ from (Below.refl _ _).drew
        obtain ⟨us, lf, hv⟩ := HR6.out
        have hvd := hv.keep (w' := w6.drew) (T' := T) (F := fun _ => False) (fun _ t => t) (fun k t => hv.dom k t) (Below.stays HB6.out) (fun _ f => f.elim)
        obtain ⟨qa1, ca1, qa2, ca2, -, e2, -, s2⟩ := hvd.files T k HHK.out
        obtain ⟨_, _, he2, -, L2⟩ := s2.lies
        cases he2
        have HV := Lib.hid hv
        have HA2 : Hid ((d.tick.files k).all.drop (d.tick.files k).dur = (d.files k).all.drop (d.files k).dur) := show _ = _ from rfl
        rw [HA2.out] at e2 L2
        obtain ⟨n2, hn2⟩ : ∃ n2, ((d.files k).all.drop (d.files k).dur).length = n2 := ⟨_, rfl⟩
        rw [hn2] at e2
        have HN2 := Lib.hid hn2; have HL2 := Lib.hid L2; have HE2 := Lib.hid e2
        have HN2L : Hid (n2 ≤ 262144) := show _ ≤ _ by rw [← hn2, List.length_drop]; have := HSM.out; omega
        clear hv hvd e2 s2 L2 hn2
        go_upto_region 8 with fail
        refine region_phase (fun _ => True) (fun w' => w'.cell? ⟨g, 1 + k * 2 + 1, none⟩ = some (.slice qa2 n2 ca2)) 16 (trivial) HE2.out [(0, .free), (1, .free), (2, .free), (3, .free), (4, .free), (5, .free), (6, .free), (7, .free), (10, .free), (12, .free), (13, .free), (8, .early), (9, .before), (11, .before), (14, .free), (15, .free), (16, .behind)] (by kernel_rfl) (by kernel_rfl) (by kernel_rfl) (by kernel_rfl) (fun ops hops A hA => ?_)
        have hsz : A.tmps.size = 55 := by rw [hA]; rfl
        have base0 : A.eval (.tmp 0) = .pointer (some ⟨g, 0, none⟩) := by rw [hA]; rfl
        have base1 : A.eval (.tmp 1) = .int .i64 (k : Int) := by rw [hA]; rfl
        have base2 : A.eval (.tmp 2) = .slice p n c := by rw [hA]; rfl
        have HAA := Lib.hid hA; clear hA
        obtain ⟨o0, po0, q0, d0, gd0⟩ : ∃ o, ops[0]? = some o ∧ o.op = .move (.tmp 0) ∧ o.dst = some 30 ∧ o.guard = none := ⟨_, by rw [hops]; rfl, rfl, rfl, rfl⟩
        obtain ⟨o1, po1, q1, d1, gd1⟩ : ∃ o, ops[1]? = some o ∧ o.op = .move (.tmp 1) ∧ o.dst = some 31 ∧ o.guard = none := ⟨_, by rw [hops]; rfl, rfl, rfl, rfl⟩
        obtain ⟨o2, po2, q2, d2, gd2⟩ : ∃ o, ops[2]? = some o ∧ o.op = .move (.tmp 0) ∧ o.dst = some 32 ∧ o.guard = none := ⟨_, by rw [hops]; rfl, rfl, rfl, rfl⟩
        obtain ⟨o3, po3, q3, d3, gd3⟩ : ∃ o, ops[3]? = some o ∧ o.op = .move (.tmp 1) ∧ o.dst = some 33 ∧ o.guard = none := ⟨_, by rw [hops]; rfl, rfl, rfl, rfl⟩
        obtain ⟨o4, po4, q4, d4, gd4⟩ : ∃ o, ops[4]? = some o ∧ o.op = .nilCheck (.tmp 32) ∧ o.dst = some 34 ∧ o.guard = none := ⟨_, by rw [hops]; rfl, rfl, rfl, rfl⟩
        obtain ⟨o5, po5, q5, d5, gd5⟩ : ∃ o, ops[5]? = some o ∧ o.op = .fieldAddr 71 (.tmp 34) 1 ∧ o.dst = some 35 ∧ o.guard = none := ⟨_, by rw [hops]; rfl, rfl, rfl, rfl⟩
        obtain ⟨o6, po6, q6, d6, gd6⟩ : ∃ o, ops[6]? = some o ∧ o.op = .indexAddr 69 (.tmp 35) (.tmp 33) ∧ o.dst = some 36 ∧ o.guard = none := ⟨_, by rw [hops]; rfl, rfl, rfl, rfl⟩
        obtain ⟨o7, po7, q7, d7, gd7⟩ : ∃ o, ops[7]? = some o ∧ o.op = .fieldAddr 68 (.tmp 36) 1 ∧ o.dst = some 37 ∧ o.guard = none := ⟨_, by rw [hops]; rfl, rfl, rfl, rfl⟩
        obtain ⟨o8, po8, q8, d8, gd8⟩ : ∃ o, ops[8]? = some o ∧ o.op = .load 37 (.tmp 37) ∧ o.dst = some 38 ∧ o.guard = none := ⟨_, by rw [hops]; rfl, rfl, rfl, rfl⟩
        obtain ⟨o9, po9, q9, d9, gd9⟩ : ∃ o, ops[9]? = some o ∧ o.op = .call { callee := .value (.func 33), args := #[.tmp 38], argTypes := #[37] } ∧ o.dst = some 39 ∧ o.guard = none := ⟨_, by rw [hops]; rfl, rfl, rfl, rfl⟩
        obtain ⟨o10, po10, q10, d10, gd10⟩ : ∃ o, ops[10]? = some o ∧ o.op = .move (.tmp 2) ∧ o.dst = some 40 ∧ o.guard = none := ⟨_, by rw [hops]; rfl, rfl, rfl, rfl⟩
        obtain ⟨o11, po11, q11, d11, gd11⟩ : ∃ o, ops[11]? = some o ∧ o.op = .call { callee := .builtin .append, args := #[.tmp 39, .tmp 40], argTypes := #[37, 37] } ∧ o.dst = some 41 ∧ o.guard = none := ⟨_, by rw [hops]; rfl, rfl, rfl, rfl⟩
        obtain ⟨o12, po12, q12, d12, gd12⟩ : ∃ o, ops[12]? = some o ∧ o.op = .nilCheck (.tmp 30) ∧ o.dst = some 42 ∧ o.guard = none := ⟨_, by rw [hops]; rfl, rfl, rfl, rfl⟩
        obtain ⟨o13, po13, q13, d13, gd13⟩ : ∃ o, ops[13]? = some o ∧ o.op = .fieldAddr 71 (.tmp 42) 1 ∧ o.dst = some 43 ∧ o.guard = none := ⟨_, by rw [hops]; rfl, rfl, rfl, rfl⟩
        obtain ⟨o14, po14, q14, d14, gd14⟩ : ∃ o, ops[14]? = some o ∧ o.op = .indexAddr 69 (.tmp 43) (.tmp 31) ∧ o.dst = some 44 ∧ o.guard = none := ⟨_, by rw [hops]; rfl, rfl, rfl, rfl⟩
        obtain ⟨o15, po15, q15, d15, gd15⟩ : ∃ o, ops[15]? = some o ∧ o.op = .fieldAddr 68 (.tmp 44) 1 ∧ o.dst = some 45 ∧ o.guard = none := ⟨_, by rw [hops]; rfl, rfl, rfl, rfl⟩
        obtain ⟨o16, po16, q16, d16, gd16⟩ : ∃ o, ops[16]? = some o ∧ o.op = .store 37 (.tmp 45) (.tmp 41) ∧ o.dst = none ∧ o.guard = none := ⟨_, by rw [hops]; rfl, rfl, rfl, rfl⟩
        clear hops
        refine met_free po0 d0 (wanted_of gd0) (fun w' h' => run_move q0 base0 w') ?_
        refine met_free po1 d1 (wanted_of gd1) (fun w' h' => run_move q1 ((eval_other _ 30 1 _ (by decide)).trans base1) w') ?_
        refine met_free po2 d2 (wanted_of gd2) (fun w' h' => run_move q2 ((eval_other _ 31 0 _ (by decide)).trans ((eval_other _ 30 0 _ (by decide)).trans base0)) w') ?_
        refine met_free po3 d3 (wanted_of gd3) (fun w' h' => run_move q3 ((eval_other _ 32 1 _ (by decide)).trans ((eval_other _ 31 1 _ (by decide)).trans ((eval_other _ 30 1 _ (by decide)).trans base1))) w') ?_
        refine met_free po4 d4 (wanted_of gd4) (fun w' h' => run_nilCheck q4 ((eval_other _ 33 32 _ (by decide)).trans (eval_same _ _ _ (by simp only [put_size, hsz]; decide))) w') ?_
        refine met_free po5 d5 (wanted_of gd5) (fun w' h' => run_fieldT (off := 1) q5 (fun _ => by kernel_rfl) (eval_same _ _ _ (by simp only [put_size, hsz]; decide)) w') ?_
        refine met_free po6 d6 (wanted_of gd6) (fun w' h' => run_ixFile q6 (eval_same _ _ _ (by simp only [put_size, hsz]; decide)) ((eval_other _ 35 33 _ (by decide)).trans ((eval_other _ 34 33 _ (by decide)).trans (eval_same _ _ _ (by simp only [put_size, hsz]; decide)))) HHK.out w') ?_
        refine met_free po7 d7 (wanted_of gd7) (fun w' h' => run_fieldFile1 q7 (eval_same _ _ _ (by simp only [put_size, hsz]; decide)) w') ?_
        refine met_free po10 d10 (wanted_of gd10) (fun w' h' => run_move q10 ((eval_other _ 37 2 _ (by decide)).trans ((eval_other _ 36 2 _ (by decide)).trans ((eval_other _ 35 2 _ (by decide)).trans ((eval_other _ 34 2 _ (by decide)).trans ((eval_other _ 33 2 _ (by decide)).trans ((eval_other _ 32 2 _ (by decide)).trans ((eval_other _ 31 2 _ (by decide)).trans ((eval_other _ 30 2 _ (by decide)).trans base2)))))))) w') ?_
        refine met_free po12 d12 (wanted_of gd12) (fun w' h' => run_nilCheck q12 ((eval_other _ 40 30 _ (by decide)).trans ((eval_other _ 37 30 _ (by decide)).trans ((eval_other _ 36 30 _ (by decide)).trans ((eval_other _ 35 30 _ (by decide)).trans ((eval_other _ 34 30 _ (by decide)).trans ((eval_other _ 33 30 _ (by decide)).trans ((eval_other _ 32 30 _ (by decide)).trans ((eval_other _ 31 30 _ (by decide)).trans (eval_same _ _ _ (by rw [hsz]; decide)))))))))) w') ?_
        refine met_free po13 d13 (wanted_of gd13) (fun w' h' => run_fieldT (off := 1) q13 (fun _ => by kernel_rfl) (eval_same _ _ _ (by simp only [put_size, hsz]; decide)) w') ?_
        refine met_early po8 d8 (wanted_of gd8) (fun w' h' h2' => run_loadBs q8 ((eval_other _ 43 37 _ (by decide)).trans ((eval_other _ 42 37 _ (by decide)).trans ((eval_other _ 40 37 _ (by decide)).trans (eval_same _ _ _ (by simp only [put_size, hsz]; decide))))) h2') ?_
        refine mb_enter po9 d9 (wanted_of gd9) (run_callf1 q9 rfl (eval_same _ _ _ (by simp only [put_size, hsz]; decide)) Tryd.func33 (by kernel_rfl) _) (copy_bigL ((d.files k).all.drop (d.files k).dur) n2 qa2 ca2 w6.drew HN2.out (by have := HN2L.out; omega) HL2.out) ?_
        rintro e w7 ⟨v7, rfl, ho, hb⟩
        have HO7 := Lib.hid ho; have HB7 := Lib.hid hb; clear ho hb
        refine ⟨_, rfl, ⟨trivial, (HB7.out.cell HGT6.out).trans HE2.out⟩, ?_⟩
        refine mb_append po11 d11 (wanted_of gd11) q11 (eval_same _ _ _ (by simp only [put_size, hsz]; decide)) ((eval_other _ 39 40 _ (by decide)).trans ((eval_other _ 38 40 _ (by decide)).trans ((eval_other _ 43 40 _ (by decide)).trans ((eval_other _ 42 40 _ (by decide)).trans (eval_same _ _ _ (by simp only [put_size, hsz]; decide)))))) w6.heap.size ((d.files k).all.drop (d.files k).dur) b HO7.out HBN.out (HL.out _ (HS6.out.trans (G := fun k => k = g) (Below.stays (HB6.out.trans HB7.out)) (fun _ f _ => f))) (by rw [HN2.out]; have := HN2L.out; have := HUB.out; omega) HB7.out.size ?_
        intro v9 w9 ho hgr _
        have HB8 : Hid (Below w6.heap.size w7 w9) := show Below _ _ _ from (Below.refl w6.heap.size w7).grown hgr HB7.out.size (fun k hk => (World.ownsRow.lt HO7.out k hk).1)
        have HO9 := Lib.hid ho
        have HB9 : Hid (Below w6.heap.size w6 w9) := show Below _ _ _ from (HB6.out.trans HB7.out).trans HB8.out
        obtain ⟨p9, c9, he9, -, -, -⟩ := ho.lies
        generalize hln : ((d.files k).all.drop (d.files k).dur ++ b).length = n9 at he9
        subst he9
        clear ho hgr hln
        refine ⟨⟨trivial, (HB8.out.cell HGT6.out).trans ((HB7.out.cell HGT6.out).trans HE2.out)⟩, ?_⟩
        refine met_free po14 d14 (wanted_of gd14) (fun w' h' => run_ixFile q14 ((eval_other _ 41 43 _ (by decide)).trans ((eval_other _ 39 43 _ (by decide)).trans ((eval_other _ 38 43 _ (by decide)).trans (eval_same _ _ _ (by simp only [put_size, hsz]; decide))))) ((eval_other _ 41 31 _ (by decide)).trans ((eval_other _ 39 31 _ (by decide)).trans ((eval_other _ 38 31 _ (by decide)).trans ((eval_other _ 43 31 _ (by decide)).trans ((eval_other _ 42 31 _ (by decide)).trans ((eval_other _ 40 31 _ (by decide)).trans ((eval_other _ 37 31 _ (by decide)).trans ((eval_other _ 36 31 _ (by decide)).trans ((eval_other _ 35 31 _ (by decide)).trans ((eval_other _ 34 31 _ (by decide)).trans ((eval_other _ 33 31 _ (by decide)).trans ((eval_other _ 32 31 _ (by decide)).trans (eval_same _ _ _ (by simp only [put_size, hsz]; decide)))))))))))))) HHK.out w') ?_
        refine met_free po15 d15 (wanted_of gd15) (fun w' h' => run_fieldFile1 q15 (eval_same _ _ _ (by simp only [put_size, hsz]; decide)) w') ?_
        have HVW := Lib.hid (HV.out.wide HB9.out)
        have HSL : Hid (SlT (fun k => T k ∨ (w6.heap.size ≤ k ∧ k < w9.heap.size)) g w9 ((d.files k).all.drop (d.files k).dur ++ b) (.slice p9 n9 c9)) := show SlT _ _ _ _ _ from SlT.own HO9.out HGT6.out (fun k a b => Or.inr ⟨a, b⟩)
        have HG : Hid (∃ us', RefV (fun k => T k ∨ (w6.heap.size ≤ k ∧ k < w9.heap.size)) (w9.setCell ⟨g, 1 + k * 2 + 1, none⟩ (.slice p9 n9 c9)) g us' { d.tick with files := writeF k b d.files } lf) := show ∃ _, _ from by
          have h1 := HVW.out.putLoose k HHK.out (HOK.out.dur k HHK.out) HSL.out
          have e : (⟨(d.tick.files k).all.take (d.tick.files k).dur ++ ((d.files k).all.drop (d.files k).dur ++ b), (d.tick.files k).dur⟩ : FileM) = ⟨(d.files k).all ++ b, (d.files k).dur⟩ := by show (⟨(d.files k).all.take (d.files k).dur ++ ((d.files k).all.drop (d.files k).dur ++ b), (d.files k).dur⟩ : FileM) = _; rw [← List.append_assoc, List.take_append_drop]
          rw [e] at h1
          exact ⟨_, h1⟩
        have hcl : w9.cell? ⟨g, 1 + k * 2 + 1, none⟩ = some _ := HVW.out.loo k HHK.out
        have hft := HVW.out.thaw (1 + k * 2 + 1)
        refine met_skip po16 d16 (wanted_of gd16) (run_storeBs q16 (eval_same _ _ _ (by simp only [put_size, hsz]; decide)) ((eval_other _ 45 41 _ (by decide)).trans ((eval_other _ 44 41 _ (by decide)).trans (eval_same _ _ _ (by simp only [put_size, hsz]; decide)))) hcl hft) trivial ?_
        show NoPanic _ .normal _ _
        refine NoPanic.normal ?_
        rw [HAA.out]
        go_frame
        clear HAA
        clear hcl hft HVW HSL HO9 HO7 HB7 HB8
        obtain ⟨us', hgo⟩ := HG.out
        have HG2 : Hid (RefGo T g { d.tick with files := writeF k b d.files, count := d.count + 1 } w ((w9.setCell ⟨g, 1 + k * 2 + 1, none⟩ (.slice p9 n9 c9)).setCell ⟨g, 70, none⟩ (.int .i64 ((d.count + 1 : Nat) : Int)))) := show RefGo _ _ _ _ _ from by
          refine ⟨_, ⟨us', lf, hgo.putCount (d.count + 1)⟩, fun k t => t.elim Or.inl (fun h => Or.inr (Nat.le_trans HS6.out.size h.1)), ?_⟩
          exact ((HS6.out.trans (G := fun k => k = g) (Below.stays HB9.out) (fun _ f _ => f)).trans (G := fun k => k = g) (stays_set _ g _ _) (fun _ f _ => f)).trans (stays_set _ g _ _) (fun _ f _ => f)
        have cc : (w9.setCell ⟨g, 1 + k * 2 + 1, none⟩ (.slice p9 n9 c9)).cell? ⟨g, 70, none⟩ = some (.int .i64 (d.count : Int)) := hgo.count
        have tc := hgo.thaw 70
        have zc : ((d.count + 1 : Nat) : Int) = (d.count : Int) + 1 := by omega
        rw [zc] at HG2
        clear zc hgo HG HV HA2 HN2 HL2 HE2 HR6 HS6 HB6 HB9
        generalize w9.setCell ⟨g, 1 + k * 2 + 1, none⟩ (.slice p9 n9 c9) = w10 at cc tc HG2 ⊢
        by_cases h0 : d.left = 0
        · obtain rfl : E = 9 := by rw [← HEE.out, if_pos h0]
          rw [decide_eq_true h0]
          clear h0 HEE
          go_wp2_with fail
          go_ret
          exact ⟨rfl, HG2.out⟩
        · obtain rfl : E = 0 := by rw [← HEE.out, if_neg h0]
          rw [decide_eq_false h0]
          clear h0 HEE
          go_wp2_with fail
          go_ret
          exact ⟨rfl, HG2.out⟩
    · have e3 : d.write f b = (d, 1) := by
        unfold DiskM.write
        have eo : d.openE f = 1 := by unfold DiskM.openE; rw [if_neg hdn', if_neg hf]
        rw [if_pos (by rw [eo]; decide), eo]
      rw [e3]
      by_cases h1 : f < 0
      · clear e3 hok hc hd hdn' hf
        go_enter Tryd.func39, Tryd.ntmps39
        go_wp2_with fail
        go_ret
        exact ⟨rfl, HD.out.stay⟩
      · have h2 : f > 32 := by omega
        clear e3 hok hc hd hdn' hf
        go_enter Tryd.func39, Tryd.ntmps39
        go_wp2_with fail
        go_ret
        exact ⟨rfl, HD.out.stay⟩
end
end Go.Proofs.YtoidjapenompiaaDoor

/-
  The document's disk: Crash.
-/
namespace Go.Proofs.YtoidjapenompiaaDoor
open Go.RowKit Go.Proofs.ShaWords
theorem RefGo.next {T T1 : Nat → Prop} {g : Nat} {d2 : DiskM} {w w1 w' : World} (hT : ∀ k, T1 k → T k ∨ w.heap.size ≤ k) (hs : Stays (fun k => k = g) w w1) (h : RefGo T1 g d2 w1 w') : RefGo T g d2 w w' := by
  obtain ⟨T', h1, h2, h3⟩ := h
  exact ⟨T', h1, fun k t => (h2 k t).elim (hT k) (fun h => Or.inr (Nat.le_trans hs.size h)), hs.trans h3 (fun _ f _ => f)⟩
theorem run_toCr {ρ : Operand → Value} {o : Oper} {x y : Operand} {p : Option Addr} {n cp k : Nat} (ho : o.op = .slice 37 x none (some y) none) (hk : k ≤ cp) (hx : ρ x = .slice p n cp) (hy : ρ y = .int .i64 (k : Int)) (w : World) :
    (execOp ρ o).run Tryd.prog w = .ok (.value (.slice p k cp)) w := by
  obtain ⟨dst, op, ty', pos, after, guard⟩ := o
  simp only at ho
  subst ho
  have h0 : (0 : Int) ≤ (k : Int) := by omega
  have h1 : (k : Int) ≤ (cp : Int) := by omega
  cases p <;> go_simp
theorem crash_step (d : DiskM) (keep : List Int) (k m : Nat) (hz : ¬ (d.files k).all.length = (d.files k).dur) (hd : (d.files k).dur ≤ (d.files k).all.length) (hm : (m : Int) = min (max ((crashTo d.files keep k).2.headD 0) 0) (((d.files k).all.length - (d.files k).dur : Nat) : Int)) :
    crashD d keep (k + 1) = { crashD d keep k with files := setF (crashD d keep k).files k ⟨(d.files k).all.take (d.files k).dur ++ ((d.files k).all.drop (d.files k).dur).take m, ((d.files k).all.take (d.files k).dur ++ ((d.files k).all.drop (d.files k).dur).take m).length⟩ } := by
  have e1 : crashD d keep (k + 1) = { d with files := setF (crashTo d.files keep k).1 k (cutTo (d.files k) ((crashTo d.files keep k).2.headD 0)) } := by
    unfold crashD
    rw [crash_cut d keep k hz]
  rw [e1]
  have e2 : cutTo (d.files k) ((crashTo d.files keep k).2.headD 0) = ⟨(d.files k).all.take (d.files k).dur ++ ((d.files k).all.drop (d.files k).dur).take m, ((d.files k).all.take (d.files k).dur ++ ((d.files k).all.drop (d.files k).dur).take m).length⟩ := by
    unfold cutTo
    rw [← hm, Int.toNat_natCast, ← List.take_add, List.length_take, Nat.min_eq_left (by omega)]
  rw [e2]
  rfl
section
variable (T : Nat → Prop) (g : Nat) (d : DiskM) (w : World)
set_option maxRecDepth 100000 in
set_option maxHeartbeats 16000000 in
theorem rfCrash_any (keep : List Int) (n c : Nat) (p : Option Addr) (h : RefAt T w g d) (hok : d.Ok) (hn : keep.length = n) (hL : ∀ w', Stays (fun k => k = g) w w' → LiesZ w' p keep) :
    Calls Tryd.prog 38 #[.pointer (some ⟨g, 0, none⟩), .slice p n c] w fun e w' => e = .returned (.tuple #[]) ∧ RefGo T g (d.crash keep) w w' := by
  have HOK := Lib.hid hok
  have HL := Lib.hid hL
  have HN := Lib.hid hn
  have HG0 : Hid (RefGo T g (crashD d keep 0) w w) := show RefGo _ _ _ _ _ from h.stay
  have HK0 : Hid ((crashTo d.files keep 0).2 = keep.drop 0) := show _ = _ from rfl
  clear h hok hL hn
  go_enter Tryd.func38, Tryd.ntmps38
  go_wp2_with fail
  go_loopw [4, 5] (fun kv i wr => ∃ k kk : Nat, k ≤ 33 ∧ kk ≤ k ∧ i = .int .i64 (k : Int) ∧ kv = .int .i64 (kk : Int) ∧ (crashTo d.files keep k).2 = keep.drop kk ∧ RefGo T g (crashD d keep k) w wr) (fun _ i _ => 33 - (intOf i).toNat)
  case atStart => exact ⟨0, 0, by omega, by omega, rfl, rfl, HK0.out, HG0.out⟩
  case round =>
    clear HG0 HK0
    obtain ⟨k, kk, hk, hkk, rfl, rfl, hkd, hgo⟩ := hrel
    obtain ⟨T1, ⟨us, lf, hv⟩, hT1, hs1⟩ := hgo
    have HV := Lib.hid hv; have HT1 := Lib.hid hT1; have HS1 := Lib.hid hs1; have HKD := Lib.hid hkd
    clear hT1 hs1 hkd
    by_cases hlt : k < 33
    · have q1 : (k : Int) ≤ 32 := by omega
      have q0 : (k : Int) < 33 := by omega
      have hdur := HOK.out.dur k hlt
      have hsm := file_small HOK.out k hlt
      obtain ⟨qa1, ca1, qa2, ca2, e1, e2, s1, s2⟩ := hv.files T1 k hlt
      rw [crashD_at] at e1 e2 s1 s2
      obtain ⟨n1, hn1⟩ : ∃ n, ((d.files k).all.take (d.files k).dur).length = n := ⟨_, rfl⟩
      obtain ⟨n2, hn2⟩ : ∃ n, ((d.files k).all.drop (d.files k).dur).length = n := ⟨_, rfl⟩
      have hn2' := hn2
      rw [List.length_drop] at hn2'
      rw [hn1] at e1 s1
      rw [hn2] at e2 s2
      have l1 : n1 ≤ 262144 := by rw [← hn1, List.length_take]; omega
      have l2 : n2 ≤ 262144 := by omega
      have HN1 := Lib.hid hn1; have HN2 := Lib.hid hn2; have HS2 := Lib.hid s2; have HS1' := Lib.hid s1; have HN2' := Lib.hid hn2'
      have HLL : Hid (n1 ≤ 262144 ∧ n2 ≤ 262144) := show _ ∧ _ from ⟨l1, l2⟩
      have HDR := Lib.hid hdur; have HHK := Lib.hid hlt
      have HE1 := Lib.hid e1
      clear hn1 hn2 hn2' s1 s2 l1 l2 hdur hsm e1
      by_cases hz : n2 = 0
      · subst hz
        have HR : Hid (RefGo T g (crashD d keep (k + 1)) w wr ∧ (crashTo d.files keep (k + 1)).2 = keep.drop kk) := show _ ∧ _ from by
          have e := crash_same d keep k (by have := HN2'.out; have := HDR.out; omega)
          unfold crashD
          rw [e]
          exact ⟨⟨T1, ⟨us, lf, hv⟩, HT1.out, HS1.out⟩, HKD.out⟩
        clear hv HV HT1 HS1 HKD HS2 HS1' HE1
        go_wp2_with fail
        go_roundw
        case rel => exact ⟨k + 1, kk, by omega, by omega, by go_num, rfl, HR.out.2, HR.out.1⟩
        case measure => simp [intOf]; omega
      · have q2 : ¬ (n2 : Int) = 0 := by omega
        have hne : ¬ (d.files k).all.length = (d.files k).dur := by have := HN2'.out; omega
        have HNE := Lib.hid hne
        clear hne hz hv
        by_cases hkn : kk < n
        · have q3 : (kk : Int) < (n : Int) := by omega
          have hkt : kk < keep.length := by rw [HN.out]; exact hkn
          have hlz := HL.out wr HS1.out
          obtain ⟨b, off, rfl, hr⟩ : ∃ b off, p = some ⟨b, off, none⟩ ∧ wr.rangeAt b off (intsV keep) := by
            rcases hlz with h | h
            · rw [h] at hkt; simp at hkt
            · exact h
          have fk : wr.cell? ⟨b, off + kk, none⟩ = some (.int .i64 keep[kk]) := hr kk _ (by simp [intsV, hkt])
          have HHD : Hid ((crashTo d.files keep k).2.headD 0 = keep[kk]) := show _ = _ by rw [HKD.out, List.drop_eq_getElem_cons hkt]; rfl
          have HTL : Hid ((crashTo d.files keep k).2.tail = keep.drop (kk + 1)) := show _ = _ by rw [HKD.out, List.tail_drop]
          clear hlz hr
          generalize keep[kk] = av at fk HHD
          clear hkt
          obtain ⟨m, hm⟩ : ∃ m : Nat, (m : Int) = min (max av 0) (n2 : Int) := ⟨(min (max av 0) (n2 : Int)).toNat, by omega⟩
          have HM := Lib.hid hm
          have HM2 : Hid (m ≤ n2) := show _ ≤ _ by omega
          have hct := cutZ_any av n2 wr
          rw [← hm] at hct
          have HCT := Lib.hid hct
          clear hm hct hkn
          go_upto_region 10 with (go_at_call 34; refine HCT.out.mono ?_; rintro e w2 ⟨rfl, rfl⟩)
          have HB6 : Hid (Below wr.heap.size wr wr.drew) := show Below _ _ _ from (Below.refl _ _).drew
          have HGT : Hid (g < wr.heap.size) := show _ < _ from HV.out.lt
          have HE1d : Hid (wr.drew.cell? ⟨g, 1 + k * 2, none⟩ = some (.slice qa1 n1 ca1)) := show _ = _ from (HB6.out.cell HGT.out).trans HE1.out
          have HC2 : Hid (n2 ≤ ca2) := show _ ≤ _ by obtain ⟨_, _, he, hcc, -⟩ := HS2.out; rw [HN2.out] at he hcc; cases he; exact hcc
          have HL1 : Hid (Lies wr.drew qa1 ((d.files k).all.take (d.files k).dur)) := show Lies _ _ _ by obtain ⟨_, _, he, -, hl⟩ := HS1'.out.lies; rw [HN1.out] at he; cases he; exact hl.below HB6.out
          have HL2 : Hid (Lies wr.drew qa2 (((d.files k).all.drop (d.files k).dur).take (m))) := show Lies _ _ _ by obtain ⟨_, _, he, -, hl⟩ := HS2.out.lies; rw [HN2.out] at he; cases he; exact lies_takeB (hl.below HB6.out) _
          have HML : Hid ((((d.files k).all.drop (d.files k).dur).take (m)).length = m) := show _ = _ by rw [List.length_take, HN2.out]; have := HM2.out; omega
          refine region_phase (fun _ => True) (fun w' => w'.cell? ⟨g, 1 + k * 2, none⟩ = some (.slice qa1 n1 ca1)) 18 (trivial) HE1d.out [(0, .free), (1, .free), (2, .free), (3, .free), (4, .free), (5, .free), (6, .free), (7, .free), (10, .free), (11, .free), (12, .free), (15, .free), (16, .free), (8, .early), (9, .before), (13, .before), (14, .free), (17, .free), (18, .behind)] (by kernel_rfl) (by kernel_rfl) (by kernel_rfl) (by kernel_rfl) (fun ops hops A hA => ?_)
          have hsz : A.tmps.size = 59 := by rw [hA]; rfl
          have base0 : A.eval (.tmp 0) = .pointer (some ⟨g, 0, none⟩) := by rw [hA]; rfl
          have base5 : A.eval (.tmp 5) = .int .i64 (k : Int) := by rw [hA]; rfl
          have base6 : A.eval (.tmp 6) = .slice qa2 n2 ca2 := by rw [hA]; rfl
          have base7 : A.eval (.tmp 7) = .int .i64 ((m : Nat) : Int) := by rw [hA]; rfl
          have HAA := Lib.hid hA; clear hA
          obtain ⟨o0, po0, q0, d0, gd0⟩ : ∃ o, ops[0]? = some o ∧ o.op = .move (.tmp 0) ∧ o.dst = some 35 ∧ o.guard = none := ⟨_, by rw [hops]; rfl, rfl, rfl, rfl⟩
          obtain ⟨o1, po1, q1, d1, gd1⟩ : ∃ o, ops[1]? = some o ∧ o.op = .move (.tmp 5) ∧ o.dst = some 36 ∧ o.guard = none := ⟨_, by rw [hops]; rfl, rfl, rfl, rfl⟩
          obtain ⟨o2, po2, q2, d2, gd2⟩ : ∃ o, ops[2]? = some o ∧ o.op = .move (.tmp 0) ∧ o.dst = some 37 ∧ o.guard = none := ⟨_, by rw [hops]; rfl, rfl, rfl, rfl⟩
          obtain ⟨o3, po3, q3, d3, gd3⟩ : ∃ o, ops[3]? = some o ∧ o.op = .move (.tmp 5) ∧ o.dst = some 38 ∧ o.guard = none := ⟨_, by rw [hops]; rfl, rfl, rfl, rfl⟩
          obtain ⟨o4, po4, q4, d4, gd4⟩ : ∃ o, ops[4]? = some o ∧ o.op = .nilCheck (.tmp 37) ∧ o.dst = some 39 ∧ o.guard = none := ⟨_, by rw [hops]; rfl, rfl, rfl, rfl⟩
          obtain ⟨o5, po5, q5, d5, gd5⟩ : ∃ o, ops[5]? = some o ∧ o.op = .fieldAddr 71 (.tmp 39) 1 ∧ o.dst = some 40 ∧ o.guard = none := ⟨_, by rw [hops]; rfl, rfl, rfl, rfl⟩
          obtain ⟨o6, po6, q6, d6, gd6⟩ : ∃ o, ops[6]? = some o ∧ o.op = .indexAddr 69 (.tmp 40) (.tmp 38) ∧ o.dst = some 41 ∧ o.guard = none := ⟨_, by rw [hops]; rfl, rfl, rfl, rfl⟩
          obtain ⟨o7, po7, q7, d7, gd7⟩ : ∃ o, ops[7]? = some o ∧ o.op = .fieldAddr 68 (.tmp 41) 0 ∧ o.dst = some 42 ∧ o.guard = none := ⟨_, by rw [hops]; rfl, rfl, rfl, rfl⟩
          obtain ⟨o8, po8, q8, d8, gd8⟩ : ∃ o, ops[8]? = some o ∧ o.op = .load 37 (.tmp 42) ∧ o.dst = some 43 ∧ o.guard = none := ⟨_, by rw [hops]; rfl, rfl, rfl, rfl⟩
          obtain ⟨o9, po9, q9, d9, gd9⟩ : ∃ o, ops[9]? = some o ∧ o.op = .call { callee := .value (.func 33), args := #[.tmp 43], argTypes := #[37] } ∧ o.dst = some 44 ∧ o.guard = none := ⟨_, by rw [hops]; rfl, rfl, rfl, rfl⟩
          obtain ⟨o10, po10, q10, d10, gd10⟩ : ∃ o, ops[10]? = some o ∧ o.op = .move (.tmp 6) ∧ o.dst = some 45 ∧ o.guard = none := ⟨_, by rw [hops]; rfl, rfl, rfl, rfl⟩
          obtain ⟨o11, po11, q11, d11, gd11⟩ : ∃ o, ops[11]? = some o ∧ o.op = .move (.tmp 7) ∧ o.dst = some 46 ∧ o.guard = none := ⟨_, by rw [hops]; rfl, rfl, rfl, rfl⟩
          obtain ⟨o12, po12, q12, d12, gd12⟩ : ∃ o, ops[12]? = some o ∧ o.op = .slice 37 (.tmp 45) none (some (.tmp 46)) none ∧ o.dst = some 47 ∧ o.guard = none := ⟨_, by rw [hops]; rfl, rfl, rfl, rfl⟩
          obtain ⟨o13, po13, q13, d13, gd13⟩ : ∃ o, ops[13]? = some o ∧ o.op = .call { callee := .builtin .append, args := #[.tmp 44, .tmp 47], argTypes := #[37, 37] } ∧ o.dst = some 48 ∧ o.guard = none := ⟨_, by rw [hops]; rfl, rfl, rfl, rfl⟩
          obtain ⟨o14, po14, q14, d14, gd14⟩ : ∃ o, ops[14]? = some o ∧ o.op = .build 68 #[(0, (.tmp 48))] ∧ o.dst = some 49 ∧ o.guard = none := ⟨_, by rw [hops]; rfl, rfl, rfl, rfl⟩
          obtain ⟨o15, po15, q15, d15, gd15⟩ : ∃ o, ops[15]? = some o ∧ o.op = .nilCheck (.tmp 35) ∧ o.dst = some 50 ∧ o.guard = none := ⟨_, by rw [hops]; rfl, rfl, rfl, rfl⟩
          obtain ⟨o16, po16, q16, d16, gd16⟩ : ∃ o, ops[16]? = some o ∧ o.op = .fieldAddr 71 (.tmp 50) 1 ∧ o.dst = some 51 ∧ o.guard = none := ⟨_, by rw [hops]; rfl, rfl, rfl, rfl⟩
          obtain ⟨o17, po17, q17, d17, gd17⟩ : ∃ o, ops[17]? = some o ∧ o.op = .indexAddr 69 (.tmp 51) (.tmp 36) ∧ o.dst = some 52 ∧ o.guard = none := ⟨_, by rw [hops]; rfl, rfl, rfl, rfl⟩
          obtain ⟨o18, po18, q18, d18, gd18⟩ : ∃ o, ops[18]? = some o ∧ o.op = .store 68 (.tmp 52) (.tmp 49) ∧ o.dst = none ∧ o.guard = none := ⟨_, by rw [hops]; rfl, rfl, rfl, rfl⟩
          clear hops
          refine met_free po0 d0 (wanted_of gd0) (fun w' h' => run_move q0 base0 w') ?_
          refine met_free po1 d1 (wanted_of gd1) (fun w' h' => run_move q1 ((eval_other _ 35 5 _ (by decide)).trans base5) w') ?_
          refine met_free po2 d2 (wanted_of gd2) (fun w' h' => run_move q2 ((eval_other _ 36 0 _ (by decide)).trans ((eval_other _ 35 0 _ (by decide)).trans base0)) w') ?_
          refine met_free po3 d3 (wanted_of gd3) (fun w' h' => run_move q3 ((eval_other _ 37 5 _ (by decide)).trans ((eval_other _ 36 5 _ (by decide)).trans ((eval_other _ 35 5 _ (by decide)).trans base5))) w') ?_
          refine met_free po4 d4 (wanted_of gd4) (fun w' h' => run_nilCheck q4 ((eval_other _ 38 37 _ (by decide)).trans (eval_same _ _ _ (by simp only [put_size, hsz]; decide))) w') ?_
          refine met_free po5 d5 (wanted_of gd5) (fun w' h' => run_fieldT (off := 1) q5 (fun _ => by kernel_rfl) (eval_same _ _ _ (by simp only [put_size, hsz]; decide)) w') ?_
          refine met_free po6 d6 (wanted_of gd6) (fun w' h' => run_ixFile q6 (eval_same _ _ _ (by simp only [put_size, hsz]; decide)) ((eval_other _ 40 38 _ (by decide)).trans ((eval_other _ 39 38 _ (by decide)).trans (eval_same _ _ _ (by simp only [put_size, hsz]; decide)))) HHK.out w') ?_
          refine met_free po7 d7 (wanted_of gd7) (fun w' h' => run_fieldFile0 q7 (eval_same _ _ _ (by simp only [put_size, hsz]; decide)) w') ?_
          refine met_free po10 d10 (wanted_of gd10) (fun w' h' => run_move q10 ((eval_other _ 42 6 _ (by decide)).trans ((eval_other _ 41 6 _ (by decide)).trans ((eval_other _ 40 6 _ (by decide)).trans ((eval_other _ 39 6 _ (by decide)).trans ((eval_other _ 38 6 _ (by decide)).trans ((eval_other _ 37 6 _ (by decide)).trans ((eval_other _ 36 6 _ (by decide)).trans ((eval_other _ 35 6 _ (by decide)).trans base6)))))))) w') ?_
          refine met_free po11 d11 (wanted_of gd11) (fun w' h' => run_move q11 ((eval_other _ 45 7 _ (by decide)).trans ((eval_other _ 42 7 _ (by decide)).trans ((eval_other _ 41 7 _ (by decide)).trans ((eval_other _ 40 7 _ (by decide)).trans ((eval_other _ 39 7 _ (by decide)).trans ((eval_other _ 38 7 _ (by decide)).trans ((eval_other _ 37 7 _ (by decide)).trans ((eval_other _ 36 7 _ (by decide)).trans ((eval_other _ 35 7 _ (by decide)).trans base7))))))))) w') ?_
          refine met_free po12 d12 (wanted_of gd12) (fun w' h' => run_toCr q12 (by have := HC2.out; have := HM2.out; omega) ((eval_other _ 46 45 _ (by decide)).trans (eval_same _ _ _ (by simp only [put_size, hsz]; decide))) (eval_same _ _ _ (by simp only [put_size, hsz]; decide)) w') ?_
          refine met_free po15 d15 (wanted_of gd15) (fun w' h' => run_nilCheck q15 ((eval_other _ 47 35 _ (by decide)).trans ((eval_other _ 46 35 _ (by decide)).trans ((eval_other _ 45 35 _ (by decide)).trans ((eval_other _ 42 35 _ (by decide)).trans ((eval_other _ 41 35 _ (by decide)).trans ((eval_other _ 40 35 _ (by decide)).trans ((eval_other _ 39 35 _ (by decide)).trans ((eval_other _ 38 35 _ (by decide)).trans ((eval_other _ 37 35 _ (by decide)).trans ((eval_other _ 36 35 _ (by decide)).trans (eval_same _ _ _ (by rw [hsz]; decide)))))))))))) w') ?_
          refine met_free po16 d16 (wanted_of gd16) (fun w' h' => run_fieldT (off := 1) q16 (fun _ => by kernel_rfl) (eval_same _ _ _ (by simp only [put_size, hsz]; decide)) w') ?_
          refine met_early po8 d8 (wanted_of gd8) (fun w' h' h2' => run_loadBs q8 ((eval_other _ 51 42 _ (by decide)).trans ((eval_other _ 50 42 _ (by decide)).trans ((eval_other _ 47 42 _ (by decide)).trans ((eval_other _ 46 42 _ (by decide)).trans ((eval_other _ 45 42 _ (by decide)).trans (eval_same _ _ _ (by simp only [put_size, hsz]; decide))))))) h2') ?_
          refine mb_enter po9 d9 (wanted_of gd9) (run_callf1 q9 rfl (eval_same _ _ _ (by simp only [put_size, hsz]; decide)) Tryd.func33 (by kernel_rfl) _) (copy_bigL ((d.files k).all.take (d.files k).dur) n1 qa1 ca1 wr.drew HN1.out (by have := HLL.out; omega) HL1.out) ?_
          rintro e w7 ⟨v7, rfl, ho, hb⟩
          have HO7 := Lib.hid ho; have HB7 := Lib.hid hb; clear ho hb
          refine ⟨_, rfl, ⟨trivial, (HB7.out.cell HGT.out).trans HE1d.out⟩, ?_⟩
          refine mb_append po13 d13 (wanted_of gd13) q13 (eval_same _ _ _ (by simp only [put_size, hsz]; decide)) ((eval_other _ 44 47 _ (by decide)).trans ((eval_other _ 43 47 _ (by decide)).trans ((eval_other _ 51 47 _ (by decide)).trans ((eval_other _ 50 47 _ (by decide)).trans (eval_same _ _ _ (by simp only [put_size, hsz]; decide)))))) wr.heap.size ((d.files k).all.take (d.files k).dur) (((d.files k).all.drop (d.files k).dur).take (m)) HO7.out HML.out (HL2.out.below HB7.out) (by rw [HN1.out]; have := HLL.out; have := HM2.out; omega) HB7.out.size ?_
          intro v9 w9 ho hgr _
          have HB8 : Hid (Below wr.heap.size w7 w9) := show Below _ _ _ from (Below.refl wr.heap.size w7).grown hgr HB7.out.size (fun k hk => (World.ownsRow.lt HO7.out k hk).1)
          have HO9 := Lib.hid ho
          have HB9 : Hid (Below wr.heap.size wr w9) := show Below _ _ _ from (HB6.out.trans HB7.out).trans HB8.out
          obtain ⟨p9, c9, he9, -, -, -⟩ := ho.lies
          generalize hln : ((d.files k).all.take (d.files k).dur ++ ((d.files k).all.drop (d.files k).dur).take (m)).length = n9 at he9
          subst he9
          clear ho hgr hln
          refine ⟨⟨trivial, (HB8.out.cell HGT.out).trans ((HB7.out.cell HGT.out).trans HE1d.out)⟩, ?_⟩
          refine met_free po14 d14 (wanted_of gd14) (fun w' h' => run_buildFile q14 (eval_same _ _ _ (by simp only [put_size, hsz]; decide)) w') ?_
          refine met_free po17 d17 (wanted_of gd17) (fun w' h' => run_ixFile q17 ((eval_other _ 49 51 _ (by decide)).trans ((eval_other _ 48 51 _ (by decide)).trans ((eval_other _ 44 51 _ (by decide)).trans ((eval_other _ 43 51 _ (by decide)).trans (eval_same _ _ _ (by simp only [put_size, hsz]; decide)))))) ((eval_other _ 49 36 _ (by decide)).trans ((eval_other _ 48 36 _ (by decide)).trans ((eval_other _ 44 36 _ (by decide)).trans ((eval_other _ 43 36 _ (by decide)).trans ((eval_other _ 51 36 _ (by decide)).trans ((eval_other _ 50 36 _ (by decide)).trans ((eval_other _ 47 36 _ (by decide)).trans ((eval_other _ 46 36 _ (by decide)).trans ((eval_other _ 45 36 _ (by decide)).trans ((eval_other _ 42 36 _ (by decide)).trans ((eval_other _ 41 36 _ (by decide)).trans ((eval_other _ 40 36 _ (by decide)).trans ((eval_other _ 39 36 _ (by decide)).trans ((eval_other _ 38 36 _ (by decide)).trans ((eval_other _ 37 36 _ (by decide)).trans (eval_same _ _ _ (by simp only [put_size, hsz]; decide))))))))))))))))) HHK.out w') ?_
          have HG : Hid (RefGo T g (crashD d keep (k + 1)) w ((w9.setCell ⟨g, 1 + k * 2, none⟩ (.slice p9 n9 c9)).setCell ⟨g, 1 + k * 2 + 1, none⟩ (.slice none 0 0)) ∧ (crashTo d.files keep (k + 1)).2 = keep.drop (kk + 1)) := show _ ∧ _ from by
            refine ⟨RefGo.next HT1.out HS1.out (goFile (Below.stays (Below.refl _ _)) ⟨us, lf, HV.out⟩ HB9.out HHK.out (l := (d.files k).all.take (d.files k).dur ++ ((d.files k).all.drop (d.files k).dur).take (m)) (fun T' _ hT => SlT.own HO9.out HGT.out hT) ?_), ?_⟩
            · exact crash_step d keep k (m) HNE.out HDR.out (by rw [HHD.out, HN2'.out]; exact HM.out)
            · rw [crash_cut d keep k HNE.out]; exact HTL.out
          have HTH : Hid (w9.there g (1 + k * 2) 2) := show World.there _ _ _ _ from (HV.out.wide HB9.out).there k HHK.out
          refine met_skip po18 d18 (wanted_of gd18) (run_storeFile q18 (eval_same _ _ _ (by simp only [put_size, hsz]; decide)) ((eval_other _ 52 49 _ (by decide)).trans (eval_same _ _ _ (by simp only [put_size, hsz]; decide))) HTH.out) trivial ?_
          show NoPanic _ .normal _ _
          refine NoPanic.normal ?_
          rw [HAA.out]
          go_frame
          clear HAA
          clear HTH HB9 HB8 HB7 HB6 HO9 HO7 HL1 HL2 HML HE1d HV HT1 HS1 HKD
          go_wp2_with fail
          go_roundw
          case rel => exact ⟨k + 1, kk + 1, by omega, by omega, by go_num, by go_num, HG.out.2, HG.out.1⟩
          case measure => simp [intOf]; omega
        · have q3 : ¬ (kk : Int) < (n : Int) := by omega
          have HHD : Hid ((crashTo d.files keep k).2.headD 0 = 0) := show _ = _ by rw [HKD.out, List.drop_of_length_le (by rw [HN.out]; omega)]; rfl
          have HTL : Hid ((crashTo d.files keep k).2.tail = keep.drop (kk + 1)) := show _ = _ by rw [HKD.out, List.tail_drop]
          have HM : Hid (((0 : Nat) : Int) = min (max (0 : Int) 0) (n2 : Int)) := show _ = _ by omega
          have HM2 : Hid (0 ≤ n2) := show _ ≤ _ by omega
          clear hkn
          go_upto_region 10 with fail
          have HB6 : Hid (Below wr.heap.size wr wr.drew) := show Below _ _ _ from (Below.refl _ _).drew
          have HGT : Hid (g < wr.heap.size) := show _ < _ from HV.out.lt
          have HE1d : Hid (wr.drew.cell? ⟨g, 1 + k * 2, none⟩ = some (.slice qa1 n1 ca1)) := show _ = _ from (HB6.out.cell HGT.out).trans HE1.out
          have HC2 : Hid (n2 ≤ ca2) := show _ ≤ _ by obtain ⟨_, _, he, hcc, -⟩ := HS2.out; rw [HN2.out] at he hcc; cases he; exact hcc
          have HL1 : Hid (Lies wr.drew qa1 ((d.files k).all.take (d.files k).dur)) := show Lies _ _ _ by obtain ⟨_, _, he, -, hl⟩ := HS1'.out.lies; rw [HN1.out] at he; cases he; exact hl.below HB6.out
          have HL2 : Hid (Lies wr.drew qa2 (((d.files k).all.drop (d.files k).dur).take (0))) := show Lies _ _ _ by obtain ⟨_, _, he, -, hl⟩ := HS2.out.lies; rw [HN2.out] at he; cases he; exact lies_takeB (hl.below HB6.out) _
          have HML : Hid ((((d.files k).all.drop (d.files k).dur).take (0)).length = 0) := show _ = _ by rw [List.length_take, HN2.out]; have := HM2.out; omega
          refine region_phase (fun _ => True) (fun w' => w'.cell? ⟨g, 1 + k * 2, none⟩ = some (.slice qa1 n1 ca1)) 18 (trivial) HE1d.out [(0, .free), (1, .free), (2, .free), (3, .free), (4, .free), (5, .free), (6, .free), (7, .free), (10, .free), (11, .free), (12, .free), (15, .free), (16, .free), (8, .early), (9, .before), (13, .before), (14, .free), (17, .free), (18, .behind)] (by kernel_rfl) (by kernel_rfl) (by kernel_rfl) (by kernel_rfl) (fun ops hops A hA => ?_)
          have hsz : A.tmps.size = 59 := by rw [hA]; rfl
          have base0 : A.eval (.tmp 0) = .pointer (some ⟨g, 0, none⟩) := by rw [hA]; rfl
          have base5 : A.eval (.tmp 5) = .int .i64 (k : Int) := by rw [hA]; rfl
          have base6 : A.eval (.tmp 6) = .slice qa2 n2 ca2 := by rw [hA]; rfl
          have base7 : A.eval (.tmp 7) = .int .i64 ((0 : Nat) : Int) := by rw [hA]; rfl
          have HAA := Lib.hid hA; clear hA
          obtain ⟨o0, po0, q0, d0, gd0⟩ : ∃ o, ops[0]? = some o ∧ o.op = .move (.tmp 0) ∧ o.dst = some 35 ∧ o.guard = none := ⟨_, by rw [hops]; rfl, rfl, rfl, rfl⟩
          obtain ⟨o1, po1, q1, d1, gd1⟩ : ∃ o, ops[1]? = some o ∧ o.op = .move (.tmp 5) ∧ o.dst = some 36 ∧ o.guard = none := ⟨_, by rw [hops]; rfl, rfl, rfl, rfl⟩
          obtain ⟨o2, po2, q2, d2, gd2⟩ : ∃ o, ops[2]? = some o ∧ o.op = .move (.tmp 0) ∧ o.dst = some 37 ∧ o.guard = none := ⟨_, by rw [hops]; rfl, rfl, rfl, rfl⟩
          obtain ⟨o3, po3, q3, d3, gd3⟩ : ∃ o, ops[3]? = some o ∧ o.op = .move (.tmp 5) ∧ o.dst = some 38 ∧ o.guard = none := ⟨_, by rw [hops]; rfl, rfl, rfl, rfl⟩
          obtain ⟨o4, po4, q4, d4, gd4⟩ : ∃ o, ops[4]? = some o ∧ o.op = .nilCheck (.tmp 37) ∧ o.dst = some 39 ∧ o.guard = none := ⟨_, by rw [hops]; rfl, rfl, rfl, rfl⟩
          obtain ⟨o5, po5, q5, d5, gd5⟩ : ∃ o, ops[5]? = some o ∧ o.op = .fieldAddr 71 (.tmp 39) 1 ∧ o.dst = some 40 ∧ o.guard = none := ⟨_, by rw [hops]; rfl, rfl, rfl, rfl⟩
          obtain ⟨o6, po6, q6, d6, gd6⟩ : ∃ o, ops[6]? = some o ∧ o.op = .indexAddr 69 (.tmp 40) (.tmp 38) ∧ o.dst = some 41 ∧ o.guard = none := ⟨_, by rw [hops]; rfl, rfl, rfl, rfl⟩
          obtain ⟨o7, po7, q7, d7, gd7⟩ : ∃ o, ops[7]? = some o ∧ o.op = .fieldAddr 68 (.tmp 41) 0 ∧ o.dst = some 42 ∧ o.guard = none := ⟨_, by rw [hops]; rfl, rfl, rfl, rfl⟩
          obtain ⟨o8, po8, q8, d8, gd8⟩ : ∃ o, ops[8]? = some o ∧ o.op = .load 37 (.tmp 42) ∧ o.dst = some 43 ∧ o.guard = none := ⟨_, by rw [hops]; rfl, rfl, rfl, rfl⟩
          obtain ⟨o9, po9, q9, d9, gd9⟩ : ∃ o, ops[9]? = some o ∧ o.op = .call { callee := .value (.func 33), args := #[.tmp 43], argTypes := #[37] } ∧ o.dst = some 44 ∧ o.guard = none := ⟨_, by rw [hops]; rfl, rfl, rfl, rfl⟩
          obtain ⟨o10, po10, q10, d10, gd10⟩ : ∃ o, ops[10]? = some o ∧ o.op = .move (.tmp 6) ∧ o.dst = some 45 ∧ o.guard = none := ⟨_, by rw [hops]; rfl, rfl, rfl, rfl⟩
          obtain ⟨o11, po11, q11, d11, gd11⟩ : ∃ o, ops[11]? = some o ∧ o.op = .move (.tmp 7) ∧ o.dst = some 46 ∧ o.guard = none := ⟨_, by rw [hops]; rfl, rfl, rfl, rfl⟩
          obtain ⟨o12, po12, q12, d12, gd12⟩ : ∃ o, ops[12]? = some o ∧ o.op = .slice 37 (.tmp 45) none (some (.tmp 46)) none ∧ o.dst = some 47 ∧ o.guard = none := ⟨_, by rw [hops]; rfl, rfl, rfl, rfl⟩
          obtain ⟨o13, po13, q13, d13, gd13⟩ : ∃ o, ops[13]? = some o ∧ o.op = .call { callee := .builtin .append, args := #[.tmp 44, .tmp 47], argTypes := #[37, 37] } ∧ o.dst = some 48 ∧ o.guard = none := ⟨_, by rw [hops]; rfl, rfl, rfl, rfl⟩
          obtain ⟨o14, po14, q14, d14, gd14⟩ : ∃ o, ops[14]? = some o ∧ o.op = .build 68 #[(0, (.tmp 48))] ∧ o.dst = some 49 ∧ o.guard = none := ⟨_, by rw [hops]; rfl, rfl, rfl, rfl⟩
          obtain ⟨o15, po15, q15, d15, gd15⟩ : ∃ o, ops[15]? = some o ∧ o.op = .nilCheck (.tmp 35) ∧ o.dst = some 50 ∧ o.guard = none := ⟨_, by rw [hops]; rfl, rfl, rfl, rfl⟩
          obtain ⟨o16, po16, q16, d16, gd16⟩ : ∃ o, ops[16]? = some o ∧ o.op = .fieldAddr 71 (.tmp 50) 1 ∧ o.dst = some 51 ∧ o.guard = none := ⟨_, by rw [hops]; rfl, rfl, rfl, rfl⟩
          obtain ⟨o17, po17, q17, d17, gd17⟩ : ∃ o, ops[17]? = some o ∧ o.op = .indexAddr 69 (.tmp 51) (.tmp 36) ∧ o.dst = some 52 ∧ o.guard = none := ⟨_, by rw [hops]; rfl, rfl, rfl, rfl⟩
          obtain ⟨o18, po18, q18, d18, gd18⟩ : ∃ o, ops[18]? = some o ∧ o.op = .store 68 (.tmp 52) (.tmp 49) ∧ o.dst = none ∧ o.guard = none := ⟨_, by rw [hops]; rfl, rfl, rfl, rfl⟩
          clear hops
          refine met_free po0 d0 (wanted_of gd0) (fun w' h' => run_move q0 base0 w') ?_
          refine met_free po1 d1 (wanted_of gd1) (fun w' h' => run_move q1 ((eval_other _ 35 5 _ (by decide)).trans base5) w') ?_
          refine met_free po2 d2 (wanted_of gd2) (fun w' h' => run_move q2 ((eval_other _ 36 0 _ (by decide)).trans ((eval_other _ 35 0 _ (by decide)).trans base0)) w') ?_
          refine met_free po3 d3 (wanted_of gd3) (fun w' h' => run_move q3 ((eval_other _ 37 5 _ (by decide)).trans ((eval_other _ 36 5 _ (by decide)).trans ((eval_other _ 35 5 _ (by decide)).trans base5))) w') ?_
          refine met_free po4 d4 (wanted_of gd4) (fun w' h' => run_nilCheck q4 ((eval_other _ 38 37 _ (by decide)).trans (eval_same _ _ _ (by simp only [put_size, hsz]; decide))) w') ?_
          refine met_free po5 d5 (wanted_of gd5) (fun w' h' => run_fieldT (off := 1) q5 (fun _ => by kernel_rfl) (eval_same _ _ _ (by simp only [put_size, hsz]; decide)) w') ?_
          refine met_free po6 d6 (wanted_of gd6) (fun w' h' => run_ixFile q6 (eval_same _ _ _ (by simp only [put_size, hsz]; decide)) ((eval_other _ 40 38 _ (by decide)).trans ((eval_other _ 39 38 _ (by decide)).trans (eval_same _ _ _ (by simp only [put_size, hsz]; decide)))) HHK.out w') ?_
          refine met_free po7 d7 (wanted_of gd7) (fun w' h' => run_fieldFile0 q7 (eval_same _ _ _ (by simp only [put_size, hsz]; decide)) w') ?_
          refine met_free po10 d10 (wanted_of gd10) (fun w' h' => run_move q10 ((eval_other _ 42 6 _ (by decide)).trans ((eval_other _ 41 6 _ (by decide)).trans ((eval_other _ 40 6 _ (by decide)).trans ((eval_other _ 39 6 _ (by decide)).trans ((eval_other _ 38 6 _ (by decide)).trans ((eval_other _ 37 6 _ (by decide)).trans ((eval_other _ 36 6 _ (by decide)).trans ((eval_other _ 35 6 _ (by decide)).trans base6)))))))) w') ?_
          refine met_free po11 d11 (wanted_of gd11) (fun w' h' => run_move q11 ((eval_other _ 45 7 _ (by decide)).trans ((eval_other _ 42 7 _ (by decide)).trans ((eval_other _ 41 7 _ (by decide)).trans ((eval_other _ 40 7 _ (by decide)).trans ((eval_other _ 39 7 _ (by decide)).trans ((eval_other _ 38 7 _ (by decide)).trans ((eval_other _ 37 7 _ (by decide)).trans ((eval_other _ 36 7 _ (by decide)).trans ((eval_other _ 35 7 _ (by decide)).trans base7))))))))) w') ?_
          refine met_free po12 d12 (wanted_of gd12) (fun w' h' => run_toCr q12 (by have := HC2.out; have := HM2.out; omega) ((eval_other _ 46 45 _ (by decide)).trans (eval_same _ _ _ (by simp only [put_size, hsz]; decide))) (eval_same _ _ _ (by simp only [put_size, hsz]; decide)) w') ?_
          refine met_free po15 d15 (wanted_of gd15) (fun w' h' => run_nilCheck q15 ((eval_other _ 47 35 _ (by decide)).trans ((eval_other _ 46 35 _ (by decide)).trans ((eval_other _ 45 35 _ (by decide)).trans ((eval_other _ 42 35 _ (by decide)).trans ((eval_other _ 41 35 _ (by decide)).trans ((eval_other _ 40 35 _ (by decide)).trans ((eval_other _ 39 35 _ (by decide)).trans ((eval_other _ 38 35 _ (by decide)).trans ((eval_other _ 37 35 _ (by decide)).trans ((eval_other _ 36 35 _ (by decide)).trans (eval_same _ _ _ (by rw [hsz]; decide)))))))))))) w') ?_
          refine met_free po16 d16 (wanted_of gd16) (fun w' h' => run_fieldT (off := 1) q16 (fun _ => by kernel_rfl) (eval_same _ _ _ (by simp only [put_size, hsz]; decide)) w') ?_
          refine met_early po8 d8 (wanted_of gd8) (fun w' h' h2' => run_loadBs q8 ((eval_other _ 51 42 _ (by decide)).trans ((eval_other _ 50 42 _ (by decide)).trans ((eval_other _ 47 42 _ (by decide)).trans ((eval_other _ 46 42 _ (by decide)).trans ((eval_other _ 45 42 _ (by decide)).trans (eval_same _ _ _ (by simp only [put_size, hsz]; decide))))))) h2') ?_
          refine mb_enter po9 d9 (wanted_of gd9) (run_callf1 q9 rfl (eval_same _ _ _ (by simp only [put_size, hsz]; decide)) Tryd.func33 (by kernel_rfl) _) (copy_bigL ((d.files k).all.take (d.files k).dur) n1 qa1 ca1 wr.drew HN1.out (by have := HLL.out; omega) HL1.out) ?_
          rintro e w7 ⟨v7, rfl, ho, hb⟩
          have HO7 := Lib.hid ho; have HB7 := Lib.hid hb; clear ho hb
          refine ⟨_, rfl, ⟨trivial, (HB7.out.cell HGT.out).trans HE1d.out⟩, ?_⟩
          refine mb_append po13 d13 (wanted_of gd13) q13 (eval_same _ _ _ (by simp only [put_size, hsz]; decide)) ((eval_other _ 44 47 _ (by decide)).trans ((eval_other _ 43 47 _ (by decide)).trans ((eval_other _ 51 47 _ (by decide)).trans ((eval_other _ 50 47 _ (by decide)).trans (eval_same _ _ _ (by simp only [put_size, hsz]; decide)))))) wr.heap.size ((d.files k).all.take (d.files k).dur) (((d.files k).all.drop (d.files k).dur).take (0)) HO7.out HML.out (HL2.out.below HB7.out) (by rw [HN1.out]; have := HLL.out; have := HM2.out; omega) HB7.out.size ?_
          intro v9 w9 ho hgr _
          have HB8 : Hid (Below wr.heap.size w7 w9) := show Below _ _ _ from (Below.refl wr.heap.size w7).grown hgr HB7.out.size (fun k hk => (World.ownsRow.lt HO7.out k hk).1)
          have HO9 := Lib.hid ho
          have HB9 : Hid (Below wr.heap.size wr w9) := show Below _ _ _ from (HB6.out.trans HB7.out).trans HB8.out
          obtain ⟨p9, c9, he9, -, -, -⟩ := ho.lies
          generalize hln : ((d.files k).all.take (d.files k).dur ++ ((d.files k).all.drop (d.files k).dur).take (0)).length = n9 at he9
          subst he9
          clear ho hgr hln
          refine ⟨⟨trivial, (HB8.out.cell HGT.out).trans ((HB7.out.cell HGT.out).trans HE1d.out)⟩, ?_⟩
          refine met_free po14 d14 (wanted_of gd14) (fun w' h' => run_buildFile q14 (eval_same _ _ _ (by simp only [put_size, hsz]; decide)) w') ?_
          refine met_free po17 d17 (wanted_of gd17) (fun w' h' => run_ixFile q17 ((eval_other _ 49 51 _ (by decide)).trans ((eval_other _ 48 51 _ (by decide)).trans ((eval_other _ 44 51 _ (by decide)).trans ((eval_other _ 43 51 _ (by decide)).trans (eval_same _ _ _ (by simp only [put_size, hsz]; decide)))))) ((eval_other _ 49 36 _ (by decide)).trans ((eval_other _ 48 36 _ (by decide)).trans ((eval_other _ 44 36 _ (by decide)).trans ((eval_other _ 43 36 _ (by decide)).trans ((eval_other _ 51 36 _ (by decide)).trans ((eval_other _ 50 36 _ (by decide)).trans ((eval_other _ 47 36 _ (by decide)).trans ((eval_other _ 46 36 _ (by decide)).trans ((eval_other _ 45 36 _ (by decide)).trans ((eval_other _ 42 36 _ (by decide)).trans ((eval_other _ 41 36 _ (by decide)).trans ((eval_other _ 40 36 _ (by decide)).trans ((eval_other _ 39 36 _ (by decide)).trans ((eval_other _ 38 36 _ (by decide)).trans ((eval_other _ 37 36 _ (by decide)).trans (eval_same _ _ _ (by simp only [put_size, hsz]; decide))))))))))))))))) HHK.out w') ?_
          have HG : Hid (RefGo T g (crashD d keep (k + 1)) w ((w9.setCell ⟨g, 1 + k * 2, none⟩ (.slice p9 n9 c9)).setCell ⟨g, 1 + k * 2 + 1, none⟩ (.slice none 0 0)) ∧ (crashTo d.files keep (k + 1)).2 = keep.drop (kk + 1)) := show _ ∧ _ from by
            refine ⟨RefGo.next HT1.out HS1.out (goFile (Below.stays (Below.refl _ _)) ⟨us, lf, HV.out⟩ HB9.out HHK.out (l := (d.files k).all.take (d.files k).dur ++ ((d.files k).all.drop (d.files k).dur).take (0)) (fun T' _ hT => SlT.own HO9.out HGT.out hT) ?_), ?_⟩
            · exact crash_step d keep k (0) HNE.out HDR.out (by rw [HHD.out, HN2'.out]; exact HM.out)
            · rw [crash_cut d keep k HNE.out]; exact HTL.out
          have HTH : Hid (w9.there g (1 + k * 2) 2) := show World.there _ _ _ _ from (HV.out.wide HB9.out).there k HHK.out
          refine met_skip po18 d18 (wanted_of gd18) (run_storeFile q18 (eval_same _ _ _ (by simp only [put_size, hsz]; decide)) ((eval_other _ 52 49 _ (by decide)).trans (eval_same _ _ _ (by simp only [put_size, hsz]; decide))) HTH.out) trivial ?_
          show NoPanic _ .normal _ _
          refine NoPanic.normal ?_
          rw [HAA.out]
          go_frame
          clear HAA
          clear HTH HB9 HB8 HB7 HB6 HO9 HO7 HL1 HL2 HML HE1d HV HT1 HS1 HKD
          go_wp2_with fail
          go_roundw
          case rel => exact ⟨k + 1, kk + 1, by omega, by omega, by go_num, by go_num, HG.out.2, HG.out.1⟩
          case measure => simp [intOf]; omega
    · obtain rfl : k = 33 := by omega
      have q1 : ¬ ((33 : Nat) : Int) ≤ 32 := by omega
      have hs2 : Stays (fun k => k = g) w ((wr.setCell ⟨g, 67, none⟩ (.bool false)).setCell ⟨g, 68, none⟩ (.bool false)) := (HS1.out.trans (G := fun k => k = g) (stays_set _ g _ _) (fun _ f _ => f)).trans (stays_set _ g _ _) (fun _ f _ => f)
      have HG : Hid (RefGo T g (d.crash keep) w ((wr.setCell ⟨g, 67, none⟩ (.bool false)).setCell ⟨g, 68, none⟩ (.bool false))) := show RefGo _ _ _ _ _ from by
        have h1 := (hv.putOff false).setArm false (-1) (by decide) (fun h0 => by omega)
        exact ⟨T1, ⟨us, lf, h1⟩, HT1.out, hs2⟩
      have c7 := hv.off
      have t7 := hv.thaw 67
      have c8 := hv.arm
      have t8 := hv.thaw 68
      generalize decide (0 ≤ (crashD d keep 33).left) = bb at c8
      generalize (crashD d keep 33).down = bd at c7
      clear hv HV HT1 HS1 HKD hs2
      go_wp2_with fail
      go_end0
      exact ⟨rfl, HG.out⟩
end
end Go.Proofs.YtoidjapenompiaaDoor

/-
  The document's disk: New.
-/
namespace Go.Proofs.YtoidjapenompiaaDoor
open Go.RowKit Go.Proofs.ShaWords
def rfNewCells (room : Int) : List Value := [.int .i64 room] ++ (List.replicate 33 [Value.slice none 0 0, Value.slice none 0 0]).flatten ++ [.bool false, .bool false, .int .i64 0, .int .i64 0]
set_option maxRecDepth 100000 in
theorem rfNew_list (room : Int) : rfNewCells room = (List.range 71).map (rfCell (fun _ => (.slice none 0 0, .slice none 0 0)) ⟨fun _ => ⟨[], 0⟩, room.toNat, 0, false, -1⟩ 0) ∨ room < 0 := by
  by_cases h : room < 0
  · exact Or.inr h
  · left
    obtain ⟨k, rfl⟩ : ∃ k : Nat, room = (k : Int) := ⟨room.toNat, by omega⟩
    rw [Int.toNat_natCast]
    kernel_rfl
theorem rfNew_at (w w' : World) (g : Nat) (room : Int) (_hg : w.heap.size ≤ g) (h : w'.heap[g]? = some (.cells (rfNewCells (min (max room 0) 262144)).toArray 71 (0, 0))) : RefAt (fun k => k = g) w' g (DiskM.new room) := by
  refine ⟨fun _ => (.slice none 0 0, .slice none 0 0), 0, ⟨⟨_, h, ?_, fun j hj => ?_⟩, fun h0 => absurd h0 (by show ¬ (0 : Int) ≤ -1; omega), rfl, fun f _ => SlT.nil _ _ _, fun f _ => SlT.nil _ _ _, fun k e => e ▸ (Array.getElem?_eq_some_iff.1 h).1⟩⟩
  · rcases rfNew_list (min (max room 0) 262144) with e | e
    · rw [e]; simp
    · omega
  · rcases rfNew_list (min (max room 0) 262144) with e | e
    · rw [e, List.getElem?_toArray, List.getElem?_map, List.getElem?_range hj, Option.map_some]
      rfl
    · omega
set_option maxRecDepth 100000 in
theorem rfNew_any (room : Int) (w : World) : Calls Tryd.prog 8 #[.int .i64 room] w fun e w' => ∃ g, e = .returned (.pointer (some ⟨g, 0, none⟩)) ∧ w.heap.size ≤ g ∧ RefAt (fun k => k = g) w' g (DiskM.new room) ∧ Below w.heap.size w w' := by
  have HC := Lib.hid (cutZ_any room 262144 w)
  have HN : Hid (∀ n, n = min (max room 0) 262144 → RefAt (fun k => k = w.heap.size) (w.alloc (.cells (Tryd.zeroCells71.setIfInBounds 0 (.int .i64 n)) 71)) w.heap.size (DiskM.new room)) := show ∀ _, _ → RefAt _ _ _ _ from fun n e => by
    have hz : Tryd.zeroCells71.setIfInBounds 0 (.int .i64 n) = (rfNewCells n).toArray := by kernel_rfl
    rw [hz]
    subst e
    exact rfNew_at w _ _ room (Nat.le_refl _) (heap_alloc_new _ _)
  go_enter Tryd.func8, Tryd.ntmps8
  go_wp2_with fail
  refine HC.out.mono ?_
  rintro e w1 ⟨rfl, rfl⟩
  go_wp2_with fail
  go_ret
  exact ⟨_, rfl, Nat.le_refl _, HN.out _ rfl, (Below.refl _ _).alloc (Nat.le_refl _) _⟩
end Go.Proofs.YtoidjapenompiaaDoor

/-
  The kit's functions on lists of whole numbers: copied, lent with marks behind, compared, kept (gen_kitints.py, out of Bytes' text).
-/
namespace Go.Proofs.YtoidjapenompiaaDoor
open Go.RowKit Go.Proofs.ShaWords
/-- A slice of whole numbers of the call's own. -/
def OwnZ (B : Nat) (w : World) (l : List Int) (v : Value) : Prop := w.ownsRow B 3 1 v l.length (intsV l)
theorem OwnZ.nil (B : Nat) (w : World) : OwnZ B w [] (.slice none 0 0) := World.ownsRow_nil w B 3 1
theorem OwnZ.below {B : Nat} {w w' : World} {l : List Int} {v : Value} (h : OwnZ B w l v) (hb : Below w.heap.size w w') : OwnZ B w' l v :=
  World.ownsRow.kept h (grown_below hb (Nat.le_refl _) none) (by cases v.ownBlock <;> simp)
theorem OwnZ.lies {B : Nat} {w : World} {l : List Int} {v : Value} (h : OwnZ B w l v) : ∃ p cap, v = .slice p l.length cap ∧ l.length ≤ cap ∧ cap ≤ maxLen ∧ LiesZ w p l := by
  rcases h.2 with ⟨rfl, h0⟩ | ⟨g, cap, cur, rfl, hg, hh, hc, hm, hs, ht⟩
  · have : l = [] := List.length_eq_zero_iff.1 h0
    subst this
    exact ⟨none, 0, rfl, Nat.le_refl _, Nat.zero_le _, Or.inl rfl⟩
  · refine ⟨some ⟨g, 0, none⟩, cap, rfl, hc, hm, Or.inr ⟨g, 0, rfl, fun j v hv => ?_⟩⟩
    rw [Nat.zero_add, cell_of_row w g j cur 3 (0, 0) hh]
    rw [← ht, Nat.mul_one, List.getElem?_take] at hv
    split at hv
    · rw [← hv]; simp
    · cases hv
end Go.Proofs.YtoidjapenompiaaDoor

/-
  The program's disk and the document's, side by side, and blocks of others; Looks.
-/
namespace Go.Proofs.YtoidjapenompiaaDoor
open Go.RowKit Go.Proofs.ShaWords
def P2 (lo : Nat) (w : World) (g : Nat) (d : DiskM) (x : Nat) (dx : DiskM) (L : List (Nat × Obj)) : Prop := ∃ S T, DkAt S w g d ∧ RefAt T w x dx ∧ (∀ k, S k → ¬ T k) ∧ (∀ k, S k → lo ≤ k) ∧ (∀ k, T k → lo ≤ k) ∧ ∀ y ∈ L, ¬ S y.1 ∧ ¬ T y.1 ∧ w.heap[y.1]? = some y.2
theorem RefAt.dom {T : Nat → Prop} {w : World} {g : Nat} {d : DiskM} (h : RefAt T w g d) : ∀ k, T k → k < w.heap.size := by
  obtain ⟨us, lf, hv⟩ := h
  exact hv.dom
theorem DkAt.dom2 {S : Nat → Prop} {w : World} {g : Nat} {d : DiskM} (h : DkAt S w g d) : ∀ k, S k → k < w.heap.size := by
  obtain ⟨⟨vs, hv⟩, -⟩ := h
  exact hv.dom
theorem RefAt.own {T : Nat → Prop} {w : World} {g : Nat} {d : DiskM} (h : RefAt T w g d) : T g := by
  obtain ⟨us, lf, hv⟩ := h
  exact hv.here
section
variable {lo g x : Nat} {d d' dx dx' : DiskM} {w w' : World} {L : List (Nat × Obj)}
theorem P2.all (h : P2 lo w g d x dx L) : ∀ y ∈ L, w.heap[y.1]? = some y.2 := by
  obtain ⟨S, T, _, _, _, _, _, h⟩ := h
  exact fun y hy => (h y hy).2.2
theorem P2.ok (h : P2 lo w g d x dx L) : d.Ok := by obtain ⟨S, T, h1, _⟩ := h; exact h1.2.1
theorem P2.below (h : P2 lo w g d x dx L) (hb : Below w.heap.size w w') : P2 lo w' g d x dx L := by
  obtain ⟨S, T, h1, h2, h3, h4, h5, h6⟩ := h
  exact ⟨S, T, h1.below hb, h2.below hb, h3, h4, h5, fun y hy => ⟨(h6 y hy).1, (h6 y hy).2.1, (hb.block _ (Array.getElem?_eq_some_iff.1 (h6 y hy).2.2).1).trans (h6 y hy).2.2⟩⟩
theorem P2.add (h : P2 lo w g d x dx L) (hb : Below w.heap.size w w') {L' : List (Nat × Obj)} (hL : ∀ y ∈ L', w.heap.size ≤ y.1 ∧ w'.heap[y.1]? = some y.2) : P2 lo w' g d x dx (L' ++ L) := by
  obtain ⟨S, T, h1, h2, h3, h4, h5, h6⟩ := h
  refine ⟨S, T, h1.below hb, h2.below hb, h3, h4, h5, fun y hy => ?_⟩
  rcases List.mem_append.1 hy with hy | hy
  · exact ⟨fun s => by have := h1.dom2 _ s; have := (hL y hy).1; omega, fun s => by have := h2.dom _ s; have := (hL y hy).1; omega, (hL y hy).2⟩
  · exact ⟨(h6 y hy).1, (h6 y hy).2.1, (hb.block _ (Array.getElem?_eq_some_iff.1 (h6 y hy).2.2).1).trans (h6 y hy).2.2⟩
/-- A block of the list is written to; the list is let go. -/
theorem P2.drop (h : P2 lo w g d x dx L) {k : Nat} {o : Obj} (hk : (k, o) ∈ L) (hs : Stays (fun y => y = k) w w') : P2 lo w' g d x dx [] := by
  obtain ⟨S, T, h1, h2, h3, h4, h5, h6⟩ := h
  exact ⟨S, T, h1.keep hs (fun y e s => (h6 _ hk).1 (e ▸ s)), h2.keep hs (fun y e s => (h6 _ hk).2.1 (e ▸ s)), h3, h4, h5, fun y hy => absurd hy List.not_mem_nil⟩
theorem P2.fewer {L' : List (Nat × Obj)} (h : P2 lo w g d x dx L) (hL : ∀ y ∈ L', y ∈ L) : P2 lo w g d x dx L' := by
  obtain ⟨S, T, h1, h2, h3, h4, h5, h6⟩ := h
  exact ⟨S, T, h1, h2, h3, h4, h5, fun y hy => h6 y (hL y hy)⟩
end
end Go.Proofs.YtoidjapenompiaaDoor

/-
  DiskPlays: one call of both disks.
-/
namespace Go.Proofs.YtoidjapenompiaaDoor
open Go.RowKit Go.Proofs.ShaWords
theorem exec_count (d : DiskM) (eff : (Nat → FileM) → Nat → FileM) (b : Bool) : (d.exec eff b).count ≤ d.count + 1 := by
  unfold DiskM.exec
  split
  · exact Nat.le_refl _
  · exact Nat.le_succ _
theorem write_count (d : DiskM) (f : Int) (b : List (BitVec 8)) : (d.write f b).1.count ≤ d.count + 1 := by
  unfold DiskM.write
  split
  · exact Nat.le_succ _
  · split
    · exact Nat.le_succ _
    · exact exec_count _ _ _
theorem sync_count (d : DiskM) (f : Int) : (d.sync f).1.count ≤ d.count + 1 := by
  unfold DiskM.sync
  split
  · exact Nat.le_succ _
  · exact exec_count _ _ _
theorem cut_count (d : DiskM) (f n : Int) : (d.cut f n).1.count ≤ d.count + 1 := by
  unfold DiskM.cut
  split
  · exact Nat.le_succ _
  · split
    · exact Nat.le_succ _
    · exact exec_count _ _ _
theorem over_count (d : DiskM) (f n : Int) (b : List (BitVec 8)) : (d.over f n b).1.count ≤ d.count + 1 := by
  unfold DiskM.over
  split
  · exact Nat.le_succ _
  · split
    · exact Nat.le_succ _
    · exact exec_count _ _ _
end Go.Proofs.YtoidjapenompiaaDoor
