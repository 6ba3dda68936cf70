/-
  What other texts lean on: WaPure, WaDo, WaMem, WaLog, WaHead, WaFindW, WaFind, WaTrim, WaAppend, WaPut, WaOpen, WaFits.
-/
import Derived.Test.YteanjfcejpibaaaDoorPkA
import Derived.Test.YteanjfcejpibaaaDoorPkW
import Derived.Test.YteanjfcejpibaaaDoorPkY
import Derived.Test.YteanjfcejpibaaaDoorPkZ
import Derived.Test.YteanjfcejpibaaaDoorPkD
import Derived.Deep.LoopGhost
import Derived.OwnWalk
/-
  A log of rows as plain data: segments (files 1 to 32) of frames, each behind its head; what a log is of any files; what opening, a row more, a crash make of it.
-/
namespace Go.Proofs.YteanjfcejpibaaaDoor
open Go.Proofs.ShaWords
abbrev RowW : Type := BitVec 8 × List (BitVec 8)
/-- A segment's head. -/
def hdW (s : Nat) : RowW := (255#8, be8 (s : Int))
theorem hdW_ok (s : Nat) : (hdW s).1 ≠ 0#8 ∧ (hdW s).2.length ≤ 2039 := ⟨by show (255#8 : BitVec 8) ≠ 0#8; decide, by show (be8 (s : Int)).length ≤ 2039; rw [be8_length]; omega⟩
theorem hdW_length (s : Nat) : (frameB (hdW s).1 (hdW s).2).length = 17 := by rw [frameB_length]; show (be8 (s : Int)).length + 9 = 17; rw [be8_length]
theorem framesB_nil : framesB [] = [] := rfl
theorem framesB_one (f : RowW) : framesB [f] = frameB f.1 f.2 := by rw [framesB_cons, framesB_nil, List.append_nil]
theorem framesB_takeW {gs : List RowW} {j : Nat} (h : j < gs.length) : framesB (gs.take (j + 1)) = framesB (gs.take j) ++ frameB gs[j].1 gs[j].2 := by
  rw [List.take_succ_eq_append_getElem h, framesB_append, framesB_one]
theorem framesB_leW (gs : List RowW) (j : Nat) : (framesB (gs.take j)).length ≤ (framesB gs).length := by
  conv => rhs; rw [← List.take_append_drop j gs, framesB_append, List.length_append]
  omega
theorem framesB_mono (gs : List RowW) {i j : Nat} (h : i ≤ j) : (framesB (gs.take i)).length ≤ (framesB (gs.take j)).length := by
  have := framesB_leW (gs.take j) i
  rwa [List.take_take, Nat.min_eq_left h] at this
/-- The frames that are whole within so many bytes. -/
theorem framesB_place (gs : List RowW) (k : Nat) : ∃ j, j ≤ gs.length ∧ (framesB (gs.take j)).length ≤ k ∧ (j = gs.length ∨ k < (framesB (gs.take (j + 1))).length) := by
  have h : ∀ n, n ≤ gs.length → ∃ j, j ≤ n ∧ (framesB (gs.take j)).length ≤ k ∧ (j = n ∨ k < (framesB (gs.take (j + 1))).length) := fun n => by
    induction n with
    | zero => intro _; exact ⟨0, Nat.le_refl _, by simp [framesB], Or.inl rfl⟩
    | succ n ih =>
      intro hn
      obtain ⟨j, h1, h2, h3⟩ := ih (by omega)
      rcases h3 with h3 | h3
      · by_cases hk : (framesB (gs.take (n + 1))).length ≤ k
        · exact ⟨n + 1, Nat.le_refl _, hk, Or.inl rfl⟩
        · exact ⟨j, by omega, h2, Or.inr (by rw [h3]; omega)⟩
      · exact ⟨j, by omega, h2, Or.inr h3⟩
  exact h gs.length (Nat.le_refl _)
theorem scan_place {gs : List RowW} (hok : ∀ f ∈ gs, f.1 ≠ 0#8 ∧ f.2.length ≤ 2039) {j k : Nat} (hj : j ≤ gs.length) (h1 : (framesB (gs.take j)).length ≤ k) (h2 : j = gs.length ∨ k < (framesB (gs.take (j + 1))).length) (h3 : k ≤ (framesB gs).length) :
    ∃ r, ScanOf ((framesB gs).take k) (gs.take j) r := by
  by_cases he : j = gs.length
  · subst he
    rw [List.take_length] at h1 ⊢
    have e : k = (framesB gs).length := by omega
    rw [e, List.take_length]
    exact ⟨[], scan_all gs hok⟩
  · have hlt : j < gs.length := by omega
    have h2' := h2.resolve_left he
    have hs : gs = gs.take j ++ gs[j] :: gs.drop (j + 1) := by rw [← List.drop_eq_getElem_cons hlt, List.take_append_drop]
    rw [framesB_takeW hlt, List.length_append] at h2'
    have h := scan_cut (gs.take j) (gs.drop (j + 1)) gs[j] k (fun x hx => hok x (List.mem_of_mem_take hx)) (hok _ (List.getElem_mem hlt)) h1 h2'
    rw [← hs] at h
    exact ⟨_, h⟩
/-- The log of any files: it ends in E (0: in none), the rows of each segment, what stands behind its end there. -/
structure LogOf (F : Nat → List (BitVec 8)) (E : Nat) (segs : Nat → List RowW) (r : List (BitVec 8)) : Prop where
  le : E ≤ 32
  whole : ∀ s, 1 ≤ s → s < E → ScanOf (F s) (hdW s :: segs s) []
  last : 1 ≤ E → ScanOf (F E) (hdW E :: segs E) r
  none : E = 0 → r = []
  stop : E = 32 ∨ r ≠ [] ∨ ∀ g s, ¬ ScanOf (F (E + 1)) (hdW (E + 1) :: g) s
/-- All rows, in order. -/
def rowsW (segs : Nat → List RowW) : Nat → List RowW
  | 0 => []
  | n + 1 => rowsW segs n ++ segs (n + 1)
theorem rowsW_succ (segs : Nat → List RowW) (n : Nat) : rowsW segs (n + 1) = rowsW segs n ++ segs (n + 1) := rfl
theorem rowsW_congr {a b : Nat → List RowW} : ∀ n, (∀ s, 1 ≤ s → s ≤ n → a s = b s) → rowsW a n = rowsW b n
  | 0, _ => rfl
  | n + 1, h => by
    unfold rowsW
    rw [rowsW_congr n (fun s h1 h2 => h s h1 (by omega)), h (n + 1) (by omega) (Nat.le_refl _)]
def setW (segs : Nat → List RowW) (s : Nat) (l : List RowW) : Nat → List RowW := fun k => if k = s then l else segs k
theorem setW_same (segs : Nat → List RowW) (s : Nat) (l : List RowW) : setW segs s l s = l := if_pos rfl
theorem setW_other (segs : Nat → List RowW) {s k : Nat} (l : List RowW) (h : k ≠ s) : setW segs s l k = segs k := if_neg h
theorem rowsW_below (segs : Nat → List RowW) (s : Nat) (l : List RowW) {n : Nat} (h : n < s) : rowsW (setW segs s l) n = rowsW segs n :=
  rowsW_congr n fun k _ h2 => setW_other _ _ (by omega)
theorem rowsW_set (segs : Nat → List RowW) (n : Nat) (l : List RowW) : rowsW (setW segs (n + 1) l) (n + 1) = rowsW segs n ++ l := by
  rw [rowsW_succ, rowsW_below segs (n + 1) l (Nat.lt_succ_self n), setW_same]
/-- There is one. -/
theorem logOf_ex (F : Nat → List (BitVec 8)) : ∃ E segs r, LogOf F E segs r := by
  have h : ∀ n, n ≤ 32 → (∃ E segs r, LogOf F E segs r) ∨ ∃ segs : Nat → List RowW, ∀ s, 1 ≤ s → s ≤ n → ScanOf (F s) (hdW s :: segs s) [] := fun n => by
    induction n with
    | zero => intro _; exact Or.inr ⟨fun _ => [], fun s h1 h2 => by omega⟩
    | succ n ih =>
      intro hn
      rcases ih (by omega) with h | ⟨segs, h⟩
      · exact Or.inl h
      · by_cases hh : ∃ g r, ScanOf (F (n + 1)) (hdW (n + 1) :: g) r
        · obtain ⟨g, r, hs⟩ := hh
          by_cases hr : r = []
          · subst hr
            refine Or.inr ⟨setW segs (n + 1) g, fun s h1 h2 => ?_⟩
            by_cases e : s = n + 1
            · subst e; rw [setW_same]; exact hs
            · rw [setW_other _ _ e]; exact h s h1 (by omega)
          · refine Or.inl ⟨n + 1, setW segs (n + 1) g, r, hn, fun s h1 h2 => ?_, fun _ => by rw [setW_same]; exact hs, fun e => by omega, Or.inr (Or.inl hr)⟩
            rw [setW_other _ _ (by omega)]; exact h s h1 (by omega)
        · refine Or.inl ⟨n, segs, [], by omega, fun s h1 h2 => h s h1 (by omega), fun h1 => h n h1 (Nat.le_refl _), fun _ => rfl, Or.inr (Or.inr fun g s hs => hh ⟨g, s, hs⟩)⟩
  rcases h 32 (Nat.le_refl _) with h | ⟨segs, h⟩
  · exact h
  · exact ⟨32, segs, [], Nat.le_refl _, fun s h1 h2 => h s h1 (by omega), fun _ => h 32 (by omega) (Nat.le_refl _), fun e => by omega, Or.inl rfl⟩
/-- Files that are a log and nothing else. -/
structure LogFiles (F : Nat → List (BitVec 8)) (E : Nat) (segs : Nat → List RowW) : Prop where
  le : E ≤ 32
  seg : ∀ s, 1 ≤ s → s ≤ E → F s = framesB (hdW s :: segs s)
  ok : ∀ s, 1 ≤ s → s ≤ E → ∀ f ∈ segs s, f.1 ≠ 0#8 ∧ f.2.length ≤ 2039
  rest : ∀ s, E < s → s ≤ 32 → F s = []
theorem scan_nil {g : RowW} {gs : List RowW} {r : List (BitVec 8)} : ¬ ScanOf [] (g :: gs) r := fun h => by
  have e := congrArg List.length h.eq
  rw [framesB_cons, List.length_append, List.length_append, frameB_length] at e
  simp at e
  omega
theorem LogFiles.okAll {F : Nat → List (BitVec 8)} {E : Nat} {segs : Nat → List RowW} (h : LogFiles F E segs) {s : Nat} (h1 : 1 ≤ s) (h2 : s ≤ E) : ∀ f ∈ hdW s :: segs s, f.1 ≠ 0#8 ∧ f.2.length ≤ 2039 := fun f hf => by
  rcases List.mem_cons.1 hf with rfl | hf
  · exact hdW_ok s
  · exact h.ok s h1 h2 f hf
theorem LogFiles.log {F : Nat → List (BitVec 8)} {E : Nat} {segs : Nat → List RowW} (h : LogFiles F E segs) : LogOf F E segs [] :=
  ⟨h.le, fun s h1 h2 => by rw [h.seg s h1 (by omega)]; exact scan_all _ (h.okAll h1 (by omega)), fun h1 => by rw [h.seg E h1 (Nat.le_refl _)]; exact scan_all _ (h.okAll h1 (Nat.le_refl _)), fun _ => rfl, by
    by_cases e : E = 32
    · exact Or.inl e
    · refine Or.inr (Or.inr fun g s hs => ?_)
      rw [h.rest (E + 1) (by omega) (by have := h.le; omega)] at hs
      exact scan_nil hs⟩
theorem LogFiles.new : LogFiles (fun _ => []) 0 (fun _ => []) := ⟨by omega, fun s h1 h2 => by omega, fun s h1 h2 => by omega, fun _ _ _ => rfl⟩
/-- A row more in the segment in which it ends; a new segment. -/
theorem LogFiles.row {F G : Nat → List (BitVec 8)} {E : Nat} {segs : Nat → List RowW} (h : LogFiles F (E + 1) segs) (f : RowW) (hf : f.1 ≠ 0#8 ∧ f.2.length ≤ 2039) (hE : G (E + 1) = F (E + 1) ++ frameB f.1 f.2) (hG : ∀ s, 1 ≤ s → s ≤ 32 → s ≠ E + 1 → G s = F s) :
    LogFiles G (E + 1) (setW segs (E + 1) (segs (E + 1) ++ [f])) ∧ rowsW (setW segs (E + 1) (segs (E + 1) ++ [f])) (E + 1) = rowsW segs (E + 1) ++ [f] := by
  refine ⟨⟨h.le, fun s h1 h2 => ?_, fun s h1 h2 x hx => ?_, fun s h1 h2 => ?_⟩, ?_⟩
  · by_cases e : s = E + 1
    · subst e
      rw [hE, setW_same, h.seg (E + 1) h1 h2, ← List.cons_append, framesB_append, framesB_one]
    · rw [hG s h1 (by have := h.le; omega) e, setW_other _ _ e]; exact h.seg s h1 h2
  · by_cases e : s = E + 1
    · subst e
      rw [setW_same] at hx
      rcases List.mem_append.1 hx with hx | hx
      · exact h.ok _ h1 h2 x hx
      · rw [List.mem_singleton.1 hx]; exact hf
    · rw [setW_other _ _ e] at hx; exact h.ok s h1 h2 x hx
  · rw [hG s (by omega) h2 (by omega)]; exact h.rest s h1 h2
  · rw [rowsW_set, rowsW_succ, List.append_assoc]
theorem LogFiles.next {F G : Nat → List (BitVec 8)} {E : Nat} {segs : Nat → List RowW} (h : LogFiles F E segs) (l : List RowW) (hl : ∀ f ∈ l, f.1 ≠ 0#8 ∧ f.2.length ≤ 2039) (h32 : E < 32) (hE : G (E + 1) = framesB (hdW (E + 1) :: l)) (hG : ∀ s, 1 ≤ s → s ≤ 32 → s ≠ E + 1 → G s = F s) :
    LogFiles G (E + 1) (setW segs (E + 1) l) ∧ rowsW (setW segs (E + 1) l) (E + 1) = rowsW segs E ++ l := by
  refine ⟨⟨by omega, fun s h1 h2 => ?_, fun s h1 h2 x hx => ?_, fun s h1 h2 => ?_⟩, rowsW_set _ _ _⟩
  · by_cases e : s = E + 1
    · subst e; rw [hE, setW_same]
    · rw [hG s h1 (by omega) e, setW_other _ _ e]; exact h.seg s h1 (by omega)
  · by_cases e : s = E + 1
    · subst e; rw [setW_same] at hx; exact hl x hx
    · rw [setW_other _ _ e] at hx; exact h.ok s h1 (by omega) x hx
  · rw [hG s (by omega) h2 (by omega)]; exact h.rest s (by omega) h2
/-- What opening leaves: the segment in which the log ends is cut and synced, the later ones are emptied. -/
def openF (F : Nat → FileM) (E n : Nat) : Nat → FileM := fun s => if s = 0 ∨ s < E ∨ 32 < s then F s else if s = E then ⟨(F E).all.take n, n⟩ else ⟨[], 0⟩
theorem LogOf.opened {F : Nat → FileM} {E : Nat} {segs : Nat → List RowW} {r : List (BitVec 8)} (h : LogOf (fun s => (F s).all) E segs r) : LogFiles (fun s => (openF F E (framesB (hdW E :: segs E)).length s).all) E segs := by
  have hle := h.le
  refine ⟨hle, fun s h1 h2 => ?_, fun s h1 h2 f hf => ?_, fun s h1 h2 => ?_⟩
  · show (openF F E _ s).all = _
    unfold openF
    by_cases e : s < E
    · rw [if_pos (Or.inr (Or.inl e)), (h.whole s h1 e).eq, List.append_nil]
    · have e2 : s = E := by omega
      subst e2
      rw [if_neg (by omega), if_pos rfl]
      show (F s).all.take _ = _
      rw [(h.last h1).eq, List.take_append_of_le_length (Nat.le_refl _), List.take_length]
  · by_cases e : s < E
    · exact (h.whole s h1 e).ok f (List.mem_cons_of_mem _ hf)
    · have e2 : s = E := by omega
      subst e2
      exact (h.last h1).ok f (List.mem_cons_of_mem _ hf)
  · show (openF F E _ s).all = _
    unfold openF
    rw [if_neg (by omega), if_neg (by omega)]
theorem openF_dur {F : Nat → FileM} {E : Nat} {segs : Nat → List RowW} {r : List (BitVec 8)} (h : LogOf (fun s => (F s).all) E segs r) (hd : ∀ s, 1 ≤ s → s < E → (F s).dur = (F s).all.length) : ∀ s, 1 ≤ s → s ≤ 32 → (openF F E (framesB (hdW E :: segs E)).length s).dur = (openF F E (framesB (hdW E :: segs E)).length s).all.length := fun s h1 h2 => by
  unfold openF
  by_cases e : s < E
  · rw [if_pos (Or.inr (Or.inl e))]; exact hd s h1 e
  · rw [if_neg (by omega)]
    by_cases e2 : s = E
    · subst e2
      rw [if_pos rfl]
      show _ = ((F s).all.take _).length
      rw [(h.last h1).eq, List.take_append_of_le_length (Nat.le_refl _), List.take_length]
    · rw [if_neg e2]; rfl
/-- A log that is opened again stays as it is. -/
theorem openF_again {F : Nat → FileM} {E : Nat} {segs : Nat → List RowW} (h : LogFiles (fun s => (F s).all) E segs) (s : Nat) (hs : s ≤ 32) : (openF F E (framesB (hdW E :: segs E)).length s).all = (F s).all := by
  unfold openF
  by_cases e : s = 0 ∨ s < E ∨ 32 < s
  · rw [if_pos e]
  · rw [if_neg e]
    by_cases e2 : s = E
    · subst e2
      rw [if_pos rfl]
      show (F s).all.take _ = _
      rw [show (F s).all = framesB (hdW s :: segs s) from h.seg s (by omega) (Nat.le_refl _), List.take_length]
    · rw [if_neg e2]; exact (h.rest s (by omega) hs).symm
/-- What is durable of a log: all segments ahead of the last one; of the rows, at least so many. -/
structure LogDur (F : Nat → FileM) (E : Nat) (segs : Nat → List RowW) (must : Nat) : Prop where
  ahead : ∀ s, 1 ≤ s → s < E → (F s).dur = (F s).all.length
  must : must ≤ (rowsW segs (E - 1)).length ∨ 1 ≤ E ∧ ∃ j, j ≤ (segs E).length ∧ must ≤ (rowsW segs (E - 1)).length + j ∧ (framesB (hdW E :: (segs E).take j)).length ≤ (F E).dur
/-- Behind a crash there is a log that has at least what must be there, and of the others the first ones. -/
theorem LogDur.crash {F G : Nat → FileM} {E : Nat} {segs : Nat → List RowW} {must : Nat} (hF : LogFiles (fun s => (F s).all) E segs) (hD : LogDur F E segs must) (hG : ∀ s, s < 33 → ∃ k, G s = cutTo (F s) k) (hok : ∀ s, s < 33 → (F s).dur ≤ (F s).all.length) :
    ∃ E' segs' r, LogOf (fun s => (G s).all) E' segs' r ∧ rowsW segs' E' <+: rowsW segs E ∧ must ≤ (rowsW segs' E').length ∧ (∀ s, s < 33 → (G s).dur = (G s).all.length) ∧ ∀ s, E < s → s ≤ 32 → (G s).all = [] := by
  have hle := hF.le
  have hdur : ∀ s, s < 33 → (G s).dur = (G s).all.length := fun s hs => by
    obtain ⟨k, hk⟩ := hG s hs
    rw [hk]; exact (cutTo_ok (hok s hs) k).2.1
  have hsame : ∀ s, s < 33 → (F s).dur = (F s).all.length → (G s).all = (F s).all := fun s hs e => by
    obtain ⟨k, hk⟩ := hG s hs
    rw [hk]; unfold cutTo; dsimp only
    rw [List.take_of_length_le (by omega)]
  have hwh : ∀ s, 1 ≤ s → s < E → (G s).all = framesB (hdW s :: segs s) := fun s h1 h2 => by
    rw [hsame s (by omega) (hD.ahead s h1 h2)]; exact hF.seg s h1 (by omega)
  have hrest : ∀ s, E < s → s ≤ 32 → (G s).all = [] := fun s h1 h2 => by
    obtain ⟨k, hk⟩ := hG s (by omega)
    have e : (F s).all = [] := hF.rest s h1 h2
    rw [hk]; unfold cutTo; dsimp only
    rw [e, List.take_nil]
  cases E with
  | zero =>
    refine ⟨0, segs, [], ⟨by omega, fun s h1 h2 => by omega, fun h => by omega, fun _ => rfl, Or.inr (Or.inr fun g s hs => ?_)⟩, List.prefix_refl _, ?_, hdur, hrest⟩
    · rw [show (G (0 + 1)).all = [] from hrest 1 (by omega) (by omega)] at hs
      exact scan_nil hs
    · rcases hD.must with h | ⟨h, -⟩
      · exact h
      · omega
  | succ E =>
    obtain ⟨k, hk⟩ := hG (E + 1) (by omega)
    have hco := cutTo_ok (hok (E + 1) (by omega)) k
    rw [← hk] at hco
    have hall : (F (E + 1)).all = framesB (hdW (E + 1) :: segs (E + 1)) := hF.seg (E + 1) (by omega) (Nat.le_refl _)
    obtain ⟨K, hK⟩ : ∃ K, K = (F (E + 1)).dur + (min (max k 0) (((F (E + 1)).all.length - (F (E + 1)).dur : Nat) : Int)).toNat := ⟨_, rfl⟩
    have hGd : (G (E + 1)).dur = K := by rw [hk, hK]; rfl
    have hGa : (G (E + 1)).all = (framesB (hdW (E + 1) :: segs (E + 1))).take K := by rw [← hall, hk, hK]; rfl
    rw [hGd, hall] at hco
    have hokA := hF.okAll (s := E + 1) (by omega) (Nat.le_refl _)
    obtain ⟨j, hj, h1, h2⟩ := framesB_place (hdW (E + 1) :: segs (E + 1)) K
    obtain ⟨r, hr⟩ := scan_place hokA hj h1 h2 hco.2.2
    rw [← hGa] at hr
    cases j with
    | zero =>
      have hno : ∀ g s, ¬ ScanOf ((G (E + 1)).all) (hdW (E + 1) :: g) s := fun g s hs => by
        have := (hs.unique hr).1
        simp at this
      refine ⟨E, segs, [], ⟨by omega, fun s h1 h2 => ?_, fun h1 => ?_, fun _ => rfl, Or.inr (Or.inr hno)⟩, ?_, ?_, hdur, hrest⟩
      · show ScanOf (G s).all _ _
        rw [hwh s h1 (by omega)]; exact scan_all _ (hF.okAll h1 (by omega))
      · show ScanOf (G E).all _ _
        rw [hwh E h1 (by omega)]; exact scan_all _ (hF.okAll h1 (by omega))
      · exact List.prefix_append _ _
      · rcases hD.must with h | ⟨-, i, h3, h4, h5⟩
        · exact h
        · exfalso
          have h6 : K < (framesB ((hdW (E + 1) :: segs (E + 1)).take (0 + 1))).length := by
            rcases h2 with h2 | h2
            · simp at h2
            · exact h2
          have h7 := framesB_mono (hdW (E + 1) :: segs (E + 1)) (show 0 + 1 ≤ i + 1 by omega)
          rw [List.take_succ_cons (i := i)] at h7
          omega
    | succ j =>
      rw [List.take_succ_cons] at hr
      refine ⟨E + 1, setW segs (E + 1) ((segs (E + 1)).take j), r, ⟨hle, fun s h1 h2 => ?_, fun _ => ?_, fun e => by omega, ?_⟩, ?_, ?_, hdur, hrest⟩
      · show ScanOf (G s).all _ _
        rw [setW_other _ _ (by omega), hwh s h1 h2]; exact scan_all _ (hF.okAll h1 (by omega))
      · show ScanOf (G (E + 1)).all _ _
        rw [setW_same]; exact hr
      · by_cases e : E + 1 = 32
        · exact Or.inl e
        · refine Or.inr (Or.inr fun g s hs => ?_)
          rw [hrest (E + 1 + 1) (by omega) (by omega)] at hs
          exact scan_nil hs
      · rw [rowsW_set]
        exact List.prefix_append_right_inj _ |>.2 (List.take_prefix _ _)
      · rw [rowsW_set, List.length_append, List.length_take]
        rcases hD.must with h | ⟨-, i, h3, h4, h5⟩
        · rw [Nat.add_sub_cancel] at h; omega
        · rw [Nat.add_sub_cancel] at h4
          have h6 : i ≤ j := by
            rcases h2 with h2 | h2
            · simp at h2; omega
            · rcases Nat.lt_or_ge j i with h7 | h7
              · exfalso
                have h8 := framesB_mono (hdW (E + 1) :: segs (E + 1)) (show j + 1 + 1 ≤ i + 1 by omega)
                rw [List.take_succ_cons (i := i)] at h8
                omega
              · exact h7
          omega
end Go.Proofs.YteanjfcejpibaaaDoor

/-
  What a log's calls make of the disk: a row more, a sync; what holds of the rows then, whether or not the power fails in between.
-/
namespace Go.Proofs.YteanjfcejpibaaaDoor
open Go.Proofs.ShaWords
theorem sync_same (F : Nat → FileM) (f : Nat) : (syncF f F f).all = (F f).all ∧ (syncF f F f).dur = (F f).all.length := by unfold syncF; rw [setF_same]; exact ⟨rfl, rfl⟩
theorem sync_all (F : Nat → FileM) (f s : Nat) : (syncF f F s).all = (F s).all := by
  by_cases e : s = f
  · subst e; exact (sync_same F s).1
  · unfold syncF; rw [setF_other _ _ e]
theorem sync_other (F : Nat → FileM) {f s : Nat} (h : s ≠ f) : syncF f F s = F s := by unfold syncF; rw [setF_other _ _ h]
theorem write_same (F : Nat → FileM) (f : Nat) (b : List (BitVec 8)) : (writeF f b F f).all = (F f).all ++ b ∧ (writeF f b F f).dur = (F f).dur := by unfold writeF; rw [setF_same]; exact ⟨rfl, rfl⟩
theorem write_other (F : Nat → FileM) {f s : Nat} (b : List (BitVec 8)) (h : s ≠ f) : writeF f b F s = F s := by unfold writeF; rw [setF_other _ _ h]
theorem DiskM.openE_on {d : DiskM} (h : d.down = false) {f : Int} (hf : 0 ≤ f ∧ f ≤ 32) : d.openE f = 0 := by unfold DiskM.openE; rw [if_neg (by rw [h]; decide), if_pos hf]
theorem DiskM.write_on {d : DiskM} (h : d.down = false) {f : Nat} (hf : f ≤ 32) (b : List (BitVec 8)) (hr : d.used + b.length ≤ d.room) : d.write (f : Int) b = ({ d.tick with files := writeF f b d.files, count := d.count + 1 }, d.execE) := by
  unfold DiskM.write DiskM.exec
  rw [if_neg (by rw [DiskM.openE_on h (by omega)]; decide), if_neg (by omega), if_pos (by rfl), Int.toNat_natCast]
theorem DiskM.sync_on {d : DiskM} (h : d.down = false) {f : Nat} (hf : f ≤ 32) (hl : d.left ≠ 0) : d.sync (f : Int) = ({ d.tick with files := syncF f d.files, count := d.count + 1 }, 0) := by
  unfold DiskM.sync DiskM.exec DiskM.execE
  rw [if_neg (by rw [DiskM.openE_on h (by omega)]; decide), if_pos (by simpa using hl), if_neg hl, Int.toNat_natCast]
theorem DiskM.sync_struck {d : DiskM} (h : d.down = false) {f : Nat} (hf : f ≤ 32) (hl : d.left = 0) : d.sync (f : Int) = (d.tick, 9) := by
  unfold DiskM.sync DiskM.exec DiskM.execE
  rw [if_neg (by rw [DiskM.openE_on h (by omega)]; decide), if_neg (by simpa using hl), if_pos hl]
theorem DiskM.tick_down (d : DiskM) : d.tick.down = decide (d.left = 0) := rfl
/-- What a call leaves: the disk, the segment in which the log ends, whether it is dead, the error. -/
structure WaRes where
  d : DiskM
  E : Nat
  dead : Bool
  e : Int
/-- A row more, where all is in order: there is room for it. -/
def fitsW (d : DiskM) (E n : Nat) : Bool := decide (1 ≤ E) && decide ((d.files E).all.length + (n + 9) ≤ 2048)
def needW (d : DiskM) (E n : Nat) : Nat := n + 9 + (if fitsW d E n = true then 0 else 17)
/-- The frame is written. -/
def rowW (d : DiskM) (E : Nat) (f : RowW) : WaRes := ⟨(d.write (E : Int) (frameB f.1 f.2)).1, E, decide ((d.write (E : Int) (frameB f.1 f.2)).2 = 9), (d.write (E : Int) (frameB f.1 f.2)).2⟩
/-- The segment in which it ends is synced, if there is one. -/
def syncedW (d : DiskM) (E : Nat) : DiskM × Int := if E = 0 then (d, 0) else d.sync (E : Int)
/-- A segment begins. -/
def beginW (d : DiskM) (E : Nat) (f : RowW) : WaRes :=
  if (syncedW d E).2 ≠ 0 then ⟨(syncedW d E).1, E, true, 9⟩
  else if ((syncedW d E).1.write ((E + 1 : Nat) : Int) (frameB (hdW (E + 1)).1 (hdW (E + 1)).2)).2 ≠ 0 then ⟨((syncedW d E).1.write ((E + 1 : Nat) : Int) (frameB (hdW (E + 1)).1 (hdW (E + 1)).2)).1, E + 1, true, 9⟩
  else rowW ((syncedW d E).1.write ((E + 1 : Nat) : Int) (frameB (hdW (E + 1)).1 (hdW (E + 1)).2)).1 (E + 1) f
def appendW (d : DiskM) (E : Nat) (dead : Bool) (z : Int) (f : RowW) : WaRes :=
  if dead = true ∨ d.down = true then ⟨d, E, true, 9⟩
  else if z < 1 ∨ 254 < z then ⟨d, E, false, 2⟩
  else if 2022 < f.2.length then ⟨d, E, false, 5⟩
  else if (fitsW d E f.2.length = false ∧ E = 32) ∨ d.room < d.used + needW d E f.2.length then ⟨d, E, false, 8⟩
  else if fitsW d E f.2.length = true then rowW d E f
  else beginW d E f
def syncW (d : DiskM) (E : Nat) (dead : Bool) : WaRes :=
  if dead = true ∨ d.down = true then ⟨d, E, true, 9⟩
  else ⟨(syncedW d E).1, E, decide ((syncedW d E).2 = 9), (syncedW d E).2⟩
/-- A log that goes on: its files, what is durable, all its rows. -/
structure LiveW (d : DiskM) (E : Nat) (segs : Nat → List RowW) (must : Nat) (all : List RowW) : Prop where
  files : LogFiles (fun s => (d.files s).all) E segs
  dur : LogDur d.files E segs must
  rows : rowsW segs E = all
/-- What is left when the power has failed. -/
def DeadW (d : DiskM) (must : Nat) (all : List RowW) : Prop := ∃ E segs, LogFiles (fun s => (d.files s).all) E segs ∧ LogDur d.files E segs must ∧ rowsW segs E <+: all
theorem rowsW_pred (segs : Nat → List RowW) (E : Nat) (h : 1 ≤ E) : rowsW segs E = rowsW segs (E - 1) ++ segs E := by
  obtain ⟨n, rfl⟩ : ∃ n, E = n + 1 := ⟨E - 1, by omega⟩
  rfl
theorem LogDur.le {F : Nat → FileM} {E : Nat} {segs : Nat → List RowW} {must : Nat} (h : LogDur F E segs must) : must ≤ (rowsW segs E).length := by
  rcases h.must with h1 | ⟨h0, j, h1, h2, -⟩
  · cases E with
    | zero => exact h1
    | succ E => rw [rowsW_succ, List.length_append]; rw [Nat.add_sub_cancel] at h1; omega
  · rw [rowsW_pred segs E h0, List.length_append]; omega
/-- The frame is written: the files are a log with a row more, whether or not the power fails. -/
theorem LogFiles.wrote {d : DiskM} {E : Nat} {segs : Nat → List RowW} {must : Nat} {all : List RowW} (h : LiveW d E segs must all) (h1 : 1 ≤ E) (f : RowW) (hf : f.1 ≠ 0#8 ∧ f.2.length ≤ 2039) :
    LogFiles (fun s => (writeF E (frameB f.1 f.2) d.files s).all) E (setW segs E (segs E ++ [f])) ∧ LogDur (writeF E (frameB f.1 f.2) d.files) E (setW segs E (segs E ++ [f])) must ∧ rowsW (setW segs E (segs E ++ [f])) E = all ++ [f] := by
  obtain ⟨n, rfl⟩ : ∃ n, E = n + 1 := ⟨E - 1, by omega⟩
  obtain ⟨g1, g2⟩ := h.files.row (G := fun s => (writeF (n + 1) (frameB f.1 f.2) d.files s).all) f hf (write_same _ _ _).1 (fun s _ _ e => by show (writeF (n + 1) _ d.files s).all = _; rw [write_other _ _ e])
  refine ⟨g1, ⟨fun s h1 h2 => ?_, ?_⟩, by rw [g2, h.rows]⟩
  · rw [write_other _ _ (by omega)]; exact h.dur.ahead s h1 h2
  · rw [Nat.add_sub_cancel, rowsW_below _ _ _ (Nat.lt_succ_self n), setW_same, (write_same _ _ _).2]
    rcases h.dur.must with h3 | ⟨h0, j, h4, h5, h6⟩
    · exact Or.inl h3
    · exact Or.inr ⟨h0, j, by rw [List.length_append]; omega, h5, by rw [List.take_append_of_le_length h4]; exact h6⟩
/-- A segment has begun, with these rows. -/
theorem LogFiles.begun {d : DiskM} {G : Nat → FileM} {E : Nat} {segs : Nat → List RowW} {must : Nat} {all : List RowW} (h : LiveW d E segs must all) (h32 : E < 32) (l : List RowW) (hl : ∀ f ∈ l, f.1 ≠ 0#8 ∧ f.2.length ≤ 2039)
    (hn : (G (E + 1)).all = framesB (hdW (E + 1) :: l)) (hE : (G E).all = (d.files E).all ∧ (1 ≤ E → (G E).dur = (d.files E).all.length)) (ho : ∀ s, s ≠ E → s ≠ E + 1 → G s = d.files s) :
    LogFiles (fun s => (G s).all) (E + 1) (setW segs (E + 1) l) ∧ LogDur G (E + 1) (setW segs (E + 1) l) must ∧ rowsW (setW segs (E + 1) l) (E + 1) = all ++ l := by
  obtain ⟨g1, g2⟩ := h.files.next (G := fun s => (G s).all) l hl h32 hn (fun s _ _ e => by
    by_cases e2 : s = E
    · subst e2; exact hE.1
    · show (G s).all = _; rw [ho s e2 e])
  refine ⟨g1, ⟨fun s h1 h2 => ?_, ?_⟩, by rw [g2, h.rows]⟩
  · by_cases e : s = E
    · subst e; rw [hE.2 h1, hE.1]
    · rw [ho s e (by omega)]; exact h.dur.ahead s h1 (by omega)
  · refine Or.inl ?_
    rw [Nat.add_sub_cancel, rowsW_below _ _ _ (Nat.lt_succ_self E)]
    exact h.dur.le
theorem LiveW.deadAs {d d' : DiskM} {E : Nat} {segs : Nat → List RowW} {must : Nat} {all more : List RowW} (h : LiveW d E segs must all) (hF : d'.files = d.files) : DeadW d' must (all ++ more) :=
  ⟨E, segs, by rw [hF]; exact h.files, by rw [hF]; exact h.dur, by rw [h.rows]; exact List.prefix_append _ _⟩
/-- What a row more answers, and what is left. -/
structure Appended (d : DiskM) (E must : Nat) (all : List RowW) (f : RowW) (r : WaRes) : Prop where
  e : r.e = 0 ∨ r.e = 8 ∨ r.e = 9
  ok : r.e = 0 → r.dead = false ∧ r.d.down = false ∧ ∃ segs, LiveW r.d r.E segs must (all ++ [f])
  full : r.e = 8 → r = ⟨d, E, false, 8⟩
  down : r.e = 9 → r.dead = true ∧ r.d.down = true ∧ DeadW r.d must (all ++ [f])
theorem rowW_live {d : DiskM} {E : Nat} {segs : Nat → List RowW} {must : Nat} {all : List RowW} {d0 : DiskM} {E0 : Nat} (hon : d.down = false) (h32 : E ≤ 32) (f : RowW) (hr : d.used + (f.2.length + 9) ≤ d.room)
    (h : LogFiles (fun s => (writeF E (frameB f.1 f.2) d.files s).all) E segs ∧ LogDur (writeF E (frameB f.1 f.2) d.files) E segs must ∧ rowsW segs E = all ++ [f]) : Appended d0 E0 must all f (rowW d E f) := by
  have hw := DiskM.write_on hon h32 (frameB f.1 f.2) (by rw [frameB_length]; exact hr)
  unfold rowW
  rw [hw]
  unfold DiskM.execE
  by_cases hl : d.left = 0
  · rw [if_pos hl]
    refine ⟨Or.inr (Or.inr rfl), fun e => absurd e (by show ¬ (9 : Int) = 0; decide), fun e => absurd e (by show ¬ (9 : Int) = 8; decide), fun _ => ⟨rfl, by show decide (d.left = 0) = true; simpa using hl, _, segs, h.1, h.2.1, by rw [h.2.2]; exact List.prefix_refl _⟩⟩
  · rw [if_neg hl]
    refine ⟨Or.inl rfl, fun _ => ⟨rfl, by show decide (d.left = 0) = false; simpa using hl, segs, h.1, h.2.1, h.2.2⟩, fun e => absurd e (by show ¬ (0 : Int) = 8; decide), fun e => absurd e (by show ¬ (0 : Int) = 9; decide)⟩
theorem used_setFile (d : DiskM) {f : Nat} (hf : f < 33) {G : Nat → FileM} {n : Nat} (h : (G f).all.length = (d.files f).all.length + n) (ho : ∀ s, s ≠ f → (G s).all = (d.files s).all) : sumTo G 33 = d.used + n := by
  have e : ∀ k, sumTo G k = sumTo (setF d.files f (G f)) k := fun k => by
    induction k with
    | zero => rfl
    | succ k ih =>
      unfold sumTo
      rw [ih]
      by_cases e : k = f
      · subst e; rw [setF_same]
      · rw [setF_other _ _ e, ho k e]
  have h2 := used_setF d f hf (G f)
  rw [← e 33] at h2
  omega
theorem syncedW_cases {d : DiskM} {E : Nat} (hon : d.down = false) (hE : E ≤ 32) :
    (syncedW d E = ((syncedW d E).1, 9) ∧ (syncedW d E).1.files = d.files ∧ (syncedW d E).1.down = true) ∨
    (syncedW d E = ((syncedW d E).1, 0) ∧ (syncedW d E).1.down = false ∧ (syncedW d E).1.room = d.room ∧ (syncedW d E).1.used = d.used ∧ (∀ s, ((syncedW d E).1.files s).all = (d.files s).all) ∧ (1 ≤ E → ((syncedW d E).1.files E).dur = (d.files E).all.length) ∧ ∀ s, s ≠ E → (syncedW d E).1.files s = d.files s) := by
  by_cases h0 : E = 0
  · subst h0
    exact Or.inr ⟨rfl, hon, rfl, rfl, fun _ => rfl, fun h => by omega, fun _ _ => rfl⟩
  · have e : syncedW d E = d.sync (E : Int) := if_neg h0
    rw [e]
    by_cases hl : d.left = 0
    · rw [DiskM.sync_struck hon hE hl]
      exact Or.inl ⟨rfl, rfl, by show decide (d.left = 0) = true; simpa using hl⟩
    · rw [DiskM.sync_on hon hE hl]
      refine Or.inr ⟨rfl, by show decide (d.left = 0) = false; simpa using hl, rfl, ?_, fun s => sync_all _ _ _, fun _ => (sync_same _ _).2, fun s hs => sync_other _ hs⟩
      have := used_setFile d (f := E) (by omega) (G := syncF E d.files) (n := 0) (by rw [sync_all]; rfl) (fun s _ => sync_all _ _ _)
      exact this
theorem append_live {d : DiskM} {E : Nat} {segs : Nat → List RowW} {must : Nat} {all : List RowW} (h : LiveW d E segs must all) (hon : d.down = false) (z : Int) (hz : 1 ≤ z ∧ z ≤ 254) (f : RowW) (hf : f.1 ≠ 0#8 ∧ f.2.length ≤ 2022) : Appended d E must all f (appendW d E false z f) := by
  have hle := h.files.le
  have hf' : f.1 ≠ 0#8 ∧ f.2.length ≤ 2039 := ⟨hf.1, by omega⟩
  unfold appendW
  rw [if_neg (by rw [hon]; decide), if_neg (by omega), if_neg (by omega)]
  by_cases hfull : (fitsW d E f.2.length = false ∧ E = 32) ∨ d.room < d.used + needW d E f.2.length
  · rw [if_pos hfull]
    exact ⟨Or.inr (Or.inl rfl), fun e => absurd e (by show ¬ (8 : Int) = 0; decide), fun _ => rfl, fun e => absurd e (by show ¬ (8 : Int) = 9; decide)⟩
  · rw [if_neg hfull]
    have hneed : ¬ d.room < d.used + needW d E f.2.length := fun e => hfull (Or.inr e)
    unfold needW at hneed
    by_cases hfit : fitsW d E f.2.length = true
    · rw [if_pos hfit]
      rw [if_pos hfit] at hneed
      have h1 : 1 ≤ E := by unfold fitsW at hfit; simp at hfit; omega
      exact rowW_live hon hle f (by omega) (LogFiles.wrote h h1 f hf')
    · rw [if_neg hfit]
      rw [if_neg hfit] at hneed
      have h32 : E < 32 := by
        rcases Nat.lt_or_ge E 32 with h3 | h3
        · exact h3
        · exact absurd (Or.inl ⟨by simpa using hfit, by omega⟩) hfull
      have hneed2 : d.used + 17 + (f.2.length + 9) ≤ d.room := by
        have e : (if false = true then 0 else 17) = 17 := rfl
        omega
      unfold beginW
      rcases syncedW_cases hon hle with ⟨e1, e2, e3⟩ | ⟨e1, e2, e3, e4, e5, e6, e7⟩
      · generalize (syncedW d E).1 = d1 at e1 e2 e3
        rw [e1, if_pos (by show ¬ (9 : Int) = 0; decide)]
        exact ⟨Or.inr (Or.inr rfl), fun e => absurd e (by show ¬ (9 : Int) = 0; decide), fun e => absurd e (by show ¬ (9 : Int) = 8; decide), fun _ => ⟨rfl, e3, h.deadAs e2⟩⟩
      · generalize (syncedW d E).1 = d1 at e1 e2 e3 e4 e5 e6 e7
        rw [e1, if_neg (by show ¬ (0 : Int) ≠ 0; decide)]
        show Appended d E must all f (if (d1.write ((E + 1 : Nat) : Int) _).2 ≠ 0 then _ else _)
        rw [DiskM.write_on e2 (by omega) _ (by rw [hdW_length]; omega)]
        have hG1 : ∀ s, s ≠ E + 1 → writeF (E + 1) (frameB (hdW (E + 1)).1 (hdW (E + 1)).2) d1.files s = d1.files s := fun s hs => write_other _ _ hs
        have hF1 : (writeF (E + 1) (frameB (hdW (E + 1)).1 (hdW (E + 1)).2) d1.files (E + 1)).all = frameB (hdW (E + 1)).1 (hdW (E + 1)).2 := by
          rw [(write_same _ _ _).1, e5, show (d.files (E + 1)).all = [] from h.files.rest (E + 1) (by omega) (by omega), List.nil_append]
        have hu := used_setFile d (f := E + 1) (by omega) (G := writeF (E + 1) (frameB (hdW (E + 1)).1 (hdW (E + 1)).2) d1.files) (n := 17)
          (by rw [hF1, hdW_length, show (d.files (E + 1)).all = [] from h.files.rest (E + 1) (by omega) (by omega)]; rfl) (fun s hs => by rw [hG1 s hs, e5])
        generalize hGG : writeF (E + 1) (frameB (hdW (E + 1)).1 (hdW (E + 1)).2) d1.files = G1 at hG1 hF1 hu
        unfold DiskM.execE
        by_cases hl : d1.left = 0
        · rw [if_pos hl, if_pos (by show ¬ (9 : Int) = 0; decide)]
          refine ⟨Or.inr (Or.inr rfl), fun e => absurd e (by show ¬ (9 : Int) = 0; decide), fun e => absurd e (by show ¬ (9 : Int) = 8; decide), fun _ => ⟨rfl, by show decide (d1.left = 0) = true; simpa using hl, ?_⟩⟩
          obtain ⟨g1, g2, g3⟩ := LogFiles.begun (G := G1) h h32 [] (fun x hx => by cases hx) (by rw [hF1, framesB_one]) ⟨by rw [hG1 E (by omega)]; exact e5 E, fun h1 => by rw [hG1 E (by omega)]; exact e6 h1⟩ (fun s h1 h2 => by rw [hG1 s h2, e7 s h1])
          exact ⟨E + 1, _, g1, g2, by rw [g3, List.append_nil]; exact List.prefix_append _ _⟩
        · rw [if_neg hl, if_neg (by show ¬ (0 : Int) ≠ 0; decide)]
          refine rowW_live (by show decide (d1.left = 0) = false; simpa using hl) (by omega) f (by show sumTo G1 33 + _ ≤ d1.room; omega) (LogFiles.begun (segs := segs) h h32 [f] (fun x hx => by rw [List.mem_singleton.1 hx]; exact hf') ?_ ⟨?_, fun h1 => ?_⟩ (fun s h1 h2 => ?_))
          · show (writeF (E + 1) _ G1 (E + 1)).all = _
            rw [(write_same _ _ _).1, hF1, framesB_cons, framesB_one]
          · show (writeF (E + 1) _ G1 E).all = _
            rw [write_other _ _ (by omega), hG1 E (by omega)]; exact e5 E
          · show (writeF (E + 1) _ G1 E).dur = _
            rw [write_other _ _ (by omega), hG1 E (by omega)]; exact e6 h1
          · show writeF (E + 1) _ G1 s = _
            rw [write_other _ _ h2, hG1 s h2, e7 s h1]
/-- What a sync answers, and what is left. -/
theorem sync_live {d : DiskM} {E : Nat} {segs : Nat → List RowW} {must : Nat} {all : List RowW} (h : LiveW d E segs must all) (hon : d.down = false) :
    ((syncW d E false).e = 0 ∧ (syncW d E false).dead = false ∧ (syncW d E false).d.down = false ∧ (syncW d E false).E = E ∧ LiveW (syncW d E false).d E segs all.length all) ∨
    ((syncW d E false).e = 9 ∧ (syncW d E false).dead = true ∧ (syncW d E false).d.down = true ∧ DeadW (syncW d E false).d must all) := by
  have hle := h.files.le
  unfold syncW
  rw [if_neg (by rw [hon]; decide)]
  rcases syncedW_cases hon hle with ⟨e1, e2, e3⟩ | ⟨e1, e2, e3, e4, e5, e6, e7⟩
  · generalize (syncedW d E).1 = d1 at e1 e2 e3
    rw [e1]
    refine Or.inr ⟨rfl, rfl, e3, ?_⟩
    have := h.deadAs (more := []) e2
    rwa [List.append_nil] at this
  · generalize (syncedW d E).1 = d1 at e1 e2 e3 e4 e5 e6 e7
    rw [e1]
    refine Or.inl ⟨rfl, rfl, e2, rfl, ⟨?_, ⟨fun s h1 h2 => ?_, ?_⟩, h.rows⟩⟩
    · show LogFiles (fun s => (d1.files s).all) E segs
      rw [show (fun s => (d1.files s).all) = fun s => (d.files s).all from funext e5]; exact h.files
    · show (d1.files s).dur = (d1.files s).all.length
      rw [e7 s (by omega)]; exact h.dur.ahead s h1 h2
    · by_cases h0 : E = 0
      · subst h0
        refine Or.inl ?_
        rw [← h.rows]; exact Nat.le_refl _
      · refine Or.inr ⟨by omega, (segs E).length, Nat.le_refl _, ?_, ?_⟩
        · rw [← h.rows, rowsW_pred segs E (by omega), List.length_append]; exact Nat.le_refl _
        · show _ ≤ (d1.files E).dur
          rw [e6 (by omega), List.take_length, show (d.files E).all = _ from h.files.seg E (by omega) (Nat.le_refl _)]
          exact Nat.le_refl _
/-- A log whose every segment is durable. -/
theorem LiveW.opened {F : Nat → FileM} {E : Nat} {segs : Nat → List RowW} {r : List (BitVec 8)} {d : DiskM} (h : LogOf (fun s => (F s).all) E segs r) (hd : ∀ s, 1 ≤ s → s < E → (F s).dur = (F s).all.length) (hF : d.files = openF F E (framesB (hdW E :: segs E)).length) :
    LiveW d E segs (rowsW segs E).length (rowsW segs E) := by
  have h1 := h.opened
  have h2 := openF_dur h hd
  rw [← hF] at h1 h2
  have hle := h.le
  refine ⟨h1, ⟨fun s a b => h2 s a (by omega), ?_⟩, rfl⟩
  by_cases h0 : E = 0
  · subst h0; exact Or.inl (Nat.le_refl _)
  · refine Or.inr ⟨by omega, (segs E).length, Nat.le_refl _, ?_, ?_⟩
    · rw [rowsW_pred segs E (by omega), List.length_append]; exact Nat.le_refl _
    · rw [h2 E (by omega) hle, List.take_length, show (d.files E).all = _ from h1.seg E (by omega) (Nat.le_refl _)]
      exact Nat.le_refl _
/-- Behind a crash, whatever it keeps: the log there is then, as it is opened. -/
theorem DeadW.crashed {d : DiskM} {must : Nat} {all : List RowW} (h : DeadW d must all) (ok : d.Ok) (keep : List Int) :
    ∃ E segs r, LogOf (fun s => ((d.crash keep).files s).all) E segs r ∧ rowsW segs E <+: all ∧ must ≤ (rowsW segs E).length ∧ ∀ s, 1 ≤ s → s < E → ((d.crash keep).files s).dur = ((d.crash keep).files s).all.length := by
  obtain ⟨E, segs, h1, h2, h3⟩ := h
  obtain ⟨E', segs', r, g1, g2, g3, g4, -⟩ := LogDur.crash (G := (d.crash keep).files) h1 h2 (fun s hs => crashTo_one d.files keep s hs) ok.dur
  have := g1.le
  exact ⟨E', segs', r, g1, g2.trans h3, g3, fun s a b => g4 s (by omega)⟩
theorem LiveW.dead {d : DiskM} {E : Nat} {segs : Nat → List RowW} {must : Nat} {all : List RowW} (h : LiveW d E segs must all) : DeadW d must all := ⟨E, segs, h.files, h.dur, by rw [h.rows]; exact List.prefix_refl _⟩
end Go.Proofs.YteanjfcejpibaaaDoor

/-
  A log in memory beside its disk; a list of frames by the blocks that it has.
-/
namespace Go.Proofs.YteanjfcejpibaaaDoor
open Go.RowKit Go.Proofs.ShaWords
/-- The cells of a log. -/
def lgCells (g E n : Nat) (dead : Bool) : Array Value := #[.pointer (some ⟨g, 0, none⟩), .int .i64 (E : Int), .int .i64 (n : Int), .bool dead]
/-- A log in block b, its disk in block g. -/
structure LgIn (S : Nat → Prop) (w : World) (b g : Nat) (d : DiskM) (E n : Nat) (dead : Bool) : Prop where
  disk : DkAt S w g d
  log : w.heap[b]? = some (.cells (lgCells g E n dead) 61 (0, 0))
  out : ¬ S b
/-- What a call leaves. -/
def LgGo (S : Nat → Prop) (b g : Nat) (d : DiskM) (E n : Nat) (dead : Bool) (w w' : World) : Prop := ∃ S', LgIn S' w' b g d E n dead ∧ (∀ k, S' k → S k ∨ w.heap.size ≤ k) ∧ Stays (fun k => S k ∨ k = b) w w'
section
variable {S : Nat → Prop} {w w' : World} {b g E n : Nat} {d : DiskM} {dead : Bool}
theorem LgIn.lt (h : LgIn S w b g d E n dead) : b < w.heap.size := (Array.getElem?_eq_some_iff.1 h.log).1
theorem LgIn.cells (h : LgIn S w b g d E n dead) : w.cell? ⟨b, 0, none⟩ = some (.pointer (some ⟨g, 0, none⟩)) ∧ w.cell? ⟨b, 1, none⟩ = some (.int .i64 (E : Int)) ∧ w.cell? ⟨b, 2, none⟩ = some (.int .i64 (n : Int)) ∧ w.cell? ⟨b, 3, none⟩ = some (.bool dead) ∧ ∀ j, w.frozen? ⟨b, j, none⟩ = false :=
  ⟨by rw [cell_of_row w b 0 _ _ _ h.log]; rfl, by rw [cell_of_row w b 1 _ _ _ h.log]; rfl, by rw [cell_of_row w b 2 _ _ _ h.log]; rfl, by rw [cell_of_row w b 3 _ _ _ h.log]; rfl, fun j => frozen_of_row _ _ _ _ _ h.log⟩
theorem LgIn.below (h : LgIn S w b g d E n dead) (hb : Below w.heap.size w w') : LgIn S w' b g d E n dead := ⟨h.disk.below hb, (hb.block _ h.lt).trans h.log, h.out⟩
theorem LgGo.refl (h : LgIn S w b g d E n dead) : LgGo S b g d E n dead w w := ⟨S, h, fun _ s => Or.inl s, Stays.refl _ _⟩
theorem LgIn.goes (h : LgIn S w b g d E n dead) (hb : Below w.heap.size w w') : LgGo S b g d E n dead w w' := ⟨S, h.below hb, fun _ s => Or.inl s, Below.stays hb⟩
theorem LgGo.trans {S1 : Nat → Prop} {w0 : World} {d' : DiskM} {E' n' : Nat} {dead' : Bool} (h1 : ∀ k, S1 k → S k ∨ w0.heap.size ≤ k) (hs : Stays (fun k => S k ∨ k = b) w0 w) (h : LgGo S1 b g d' E' n' dead' w w') : LgGo S b g d' E' n' dead' w0 w' := by
  obtain ⟨S', h2, h3, h4⟩ := h
  refine ⟨S', h2, fun k s => ?_, hs.trans h4 fun k f hk => ?_⟩
  · rcases h3 k s with s | s
    · exact h1 k s
    · exact Or.inr (Nat.le_trans hs.size s)
  · rcases f with f | f
    · rcases h1 k f with f | f
      · exact Or.inl f
      · omega
    · exact Or.inr f
/-- The log's own block is written: one of its cells. -/
theorem LgIn.put (h : LgIn S w b g d E n dead) {j : Nat} {v : Value} {E' n' : Nat} {dead' : Bool} (hc : (lgCells g E n dead).setIfInBounds j v = lgCells g E' n' dead') : LgIn S (w.setCell ⟨b, j, none⟩ v) b g d E' n' dead' := by
  have hs : Stays (fun k => k = b) w (w.setCell ⟨b, j, none⟩ v) := grown_stays (grown_setCell w b j v) (fun k e => by cases e; rfl)
  refine ⟨h.disk.keep hs (fun k e s => h.out (e ▸ s)), ?_, h.out⟩
  rw [heap_setCell_same w b j _ _ v h.log]
  simp only [hc]
theorem LgIn.putGo (h : LgIn S w b g d E n dead) {j : Nat} {v : Value} {E' n' : Nat} {dead' : Bool} (hc : (lgCells g E n dead).setIfInBounds j v = lgCells g E' n' dead') : LgGo S b g d E' n' dead' w (w.setCell ⟨b, j, none⟩ v) :=
  ⟨S, h.put hc, fun _ s => Or.inl s, grown_stays (grown_setCell w b j v) (fun k e => by cases e; exact Or.inr rfl)⟩
theorem lg_dead (g E n : Nat) (dead x : Bool) : (lgCells g E n dead).setIfInBounds 3 (.bool x) = lgCells g E n x := rfl
theorem lg_size (g E n : Nat) (dead : Bool) (m : Nat) (z : Int) (hz : z = (m : Int)) : (lgCells g E n dead).setIfInBounds 2 (.int .i64 z) = lgCells g E m dead := by subst hz; rfl
theorem lg_seg (g E n : Nat) (dead : Bool) (m : Nat) (z : Int) (hz : z = (m : Int)) : (lgCells g E n dead).setIfInBounds 1 (.int .i64 z) = lgCells g m n dead := by subst hz; rfl
/-- A call of the disk. -/
theorem DkGo.log {d' : DiskM} (h : DkGo S g d' w w') (hl : LgIn S w b g d E n dead) : LgGo S b g d' E n dead w w' := by
  obtain ⟨S', h1, h2, hs⟩ := h
  have hlt := hl.lt
  exact ⟨S', ⟨h1, (hs.block b hlt hl.out).trans hl.log, fun s => (h2 b s).elim hl.out (fun h => by omega)⟩, fun k s => (h2 k s).imp id And.left, hs.more fun k s => Or.inl s⟩
end
/-- The blocks that a list of frames has. -/
def FrB (hv : Value) (vs : List Value) (k : Nat) : Prop := hv.ownBlock = some k ∨ ∃ (i : Nat) (v : Value), vs[i]? = some v ∧ v.ownBlock = some k
theorem ownsRow_same {w w' : World} {B size n : Nat} {e : TypeId} {v : Value} {xs : List Value} (h : w.ownsRow B e size v n xs) (hb : ∀ k, v.ownBlock = some k → w'.heap[k]? = w.heap[k]?) : w'.ownsRow B e size v n xs := by
  refine ⟨h.1, ?_⟩
  rcases h.2 with h0 | ⟨g, cap, cur, he, hg, hh, r⟩
  · exact Or.inl h0
  · exact Or.inr ⟨g, cap, cur, he, hg, (hb g (by rw [he]; rfl)).trans hh, r⟩
theorem FrL.same {B : Nat} {w w' : World} {hv : Value} {vs : List Value} {fs : List Fr9} (h : FrL B w hv vs fs) (hb : ∀ k, FrB hv vs k → w'.heap[k]? = w.heap[k]?) : FrL B w' hv vs fs :=
  ⟨ownsRow_same h.rows (fun k e => hb k (Or.inl e)), h.len, fun i v f h1 h2 => ownsRow_same (h.each i v f h1 h2) (fun k e => hb k (Or.inr ⟨i, v, h1, e⟩)), h.apart⟩
theorem FrL.blk {B : Nat} {w : World} {hv : Value} {vs : List Value} {fs : List Fr9} (h : FrL B w hv vs fs) {k : Nat} (hk : FrB hv vs k) : B ≤ k ∧ k < w.heap.size := by
  rcases hk with e | ⟨i, v, h1, e⟩
  · exact World.ownsRow.lt h.rows k e
  · exact h.lt h1 e
/-- The same from another place on. -/
theorem FrL.from {B C : Nat} {w : World} {hv : Value} {vs : List Value} {fs : List Fr9} (h : FrL B w hv vs fs) (hC : ∀ k, FrB hv vs k → C ≤ k) : FrL C w hv vs fs := by
  have go : ∀ {e : TypeId} {size n : Nat} {v : Value} {xs : List Value}, w.ownsRow B e size v n xs → (∀ k, v.ownBlock = some k → C ≤ k) → w.ownsRow C e size v n xs := fun h hc => by
    refine ⟨h.1, ?_⟩
    rcases h.2 with h0 | ⟨g, cap, cur, he, hg, r⟩
    · exact Or.inl h0
    · exact Or.inr ⟨g, cap, cur, he, hc g (by rw [he]; rfl), r⟩
  exact ⟨go h.rows (fun k e => hC k (Or.inl e)), h.len, fun i v f h1 h2 => go (h.each i v f h1 h2) (fun k e => hC k (Or.inr ⟨i, v, h1, e⟩)), h.apart⟩
/-- What they hold, as a list. -/
theorem FrL.objs {B : Nat} {w : World} {hv : Value} {vs : List Value} {fs : List Fr9} (h : FrL B w hv vs fs) : ∃ L : List (Nat × Obj), (∀ x ∈ L, FrB hv vs x.1 ∧ w.heap[x.1]? = some x.2) ∧ ∀ w' : World, (∀ x ∈ L, w'.heap[x.1]? = some x.2) → FrL B w' hv vs fs := by
  have one : ∀ v : Value, (∀ k, v.ownBlock = some k → FrB hv vs k) → ∃ L : List (Nat × Obj), (∀ x ∈ L, FrB hv vs x.1 ∧ w.heap[x.1]? = some x.2) ∧ ∀ k, v.ownBlock = some k → ∃ o, (k, o) ∈ L := fun v hvB => by
    cases hk : v.ownBlock with
    | none => exact ⟨[], by simp, fun k e => by cases e⟩
    | some k =>
      have hlt := (h.blk (hvB k hk)).2
      refine ⟨[(k, w.heap[k])], fun x hx => ?_, fun j e => by cases e; exact ⟨_, List.mem_singleton.2 rfl⟩⟩
      rw [List.mem_singleton.1 hx]
      exact ⟨hvB k hk, Array.getElem?_eq_getElem hlt⟩
  have many : ∀ us : List Value, (∀ v ∈ us, ∀ k, v.ownBlock = some k → FrB hv vs k) → ∃ L : List (Nat × Obj), (∀ x ∈ L, FrB hv vs x.1 ∧ w.heap[x.1]? = some x.2) ∧ ∀ v ∈ us, ∀ k, v.ownBlock = some k → ∃ o, (k, o) ∈ L := fun us => by
    induction us with
    | nil => intro _; exact ⟨[], by simp, by simp⟩
    | cons v us ih =>
      intro hu
      obtain ⟨L1, a1, a2⟩ := one v (hu v List.mem_cons_self)
      obtain ⟨L2, b1, b2⟩ := ih (fun x hx => hu x (List.mem_cons_of_mem _ hx))
      refine ⟨L1 ++ L2, fun x hx => ?_, fun x hx k e => ?_⟩
      · rcases List.mem_append.1 hx with hx | hx
        · exact a1 x hx
        · exact b1 x hx
      · rcases List.mem_cons.1 hx with rfl | hx
        · obtain ⟨o, ho⟩ := a2 k e; exact ⟨o, List.mem_append_left _ ho⟩
        · obtain ⟨o, ho⟩ := b2 x hx k e; exact ⟨o, List.mem_append_right _ ho⟩
  obtain ⟨L, l1, l2⟩ := many (hv :: vs) (fun v hx k e => by
    rcases List.mem_cons.1 hx with rfl | hx
    · exact Or.inl e
    · obtain ⟨i, hi⟩ := List.getElem?_of_mem hx
      exact Or.inr ⟨i, v, hi, e⟩)
  refine ⟨L, l1, fun w' hw => h.same fun k hk => ?_⟩
  obtain ⟨o, ho⟩ : ∃ o, (k, o) ∈ L := by
    rcases hk with e | ⟨i, v, h1, e⟩
    · exact l2 hv List.mem_cons_self k e
    · exact l2 v (List.mem_cons_of_mem _ (List.mem_of_getElem? h1)) k e
  exact (hw _ ho).trans (l1 _ ho).2.symm
/-- One more behind them: its bytes lie in no block of theirs. -/
theorem FrL.snocA {B : Nat} {w w' : World} {hv hv' v : Value} {vs : List Value} {fs : List Fr9} {f : Fr9} (h : FrL B w hv vs fs) (ho : Own B w f.2 v) (hA : ∀ (i : Nat) (u : Value) (k : Nat), vs[i]? = some u → u.ownBlock = some k → v.ownBlock ≠ some k)
    (hrow : w'.ownsRow B 46 2 hv' (fs.length + 1) (frCells fs vs ++ [.int .i64 (n8 f.1), v])) (hg : w.grownBy w' hv.ownBlock) : FrL B w' hv' (vs ++ [v]) (fs ++ [f]) := by
  have hst : ∀ {l : List (BitVec 8)} {u : Value} {E : Nat}, Own E w l u → Own E w' l u := fun {l u E} hu =>
    ownsRow_stays hu (grown_stays (F := fun k => hv.ownBlock = some k) hg (fun k e => e)) (fun k hk e => own_not_row hu h.rows hk e)
  have hl : ∀ (x : Nat) (y : Value), (vs ++ [v])[x]? = some y → (x < vs.length ∧ vs[x]? = some y) ∨ (x = vs.length ∧ y = v) := fun x y hx => by
    by_cases hlt : x < vs.length
    · rw [List.getElem?_append_left hlt] at hx; exact Or.inl ⟨hlt, hx⟩
    · have hx2 : x < vs.length + 1 := by have := (List.getElem?_eq_some_iff.1 hx).1; simpa using this
      obtain rfl : x = vs.length := by omega
      rw [List.getElem?_append_right (Nat.le_refl _), Nat.sub_self] at hx
      simp only [List.getElem?_cons_zero, Option.some.injEq] at hx
      exact Or.inr ⟨rfl, hx.symm⟩
  refine ⟨by rw [List.length_append, List.length_singleton, frCells_snoc _ _ _ _ h.len]; exact hrow, by rw [List.length_append, List.length_append, h.len, List.length_singleton, List.length_singleton], fun i u g hi hj => ?_, fun i j a b k hij hi hj hk => ?_⟩
  · rcases hl i u hi with ⟨hlt, hi'⟩ | ⟨rfl, rfl⟩
    · rw [List.getElem?_append_left (by rw [← h.len]; exact hlt)] at hj
      exact hst (h.each i u g hi' hj)
    · rw [List.getElem?_append_right (by rw [h.len]; exact Nat.le_refl _), h.len, Nat.sub_self] at hj
      simp only [List.getElem?_cons_zero, Option.some.injEq] at hj
      subst hj
      exact hst ho
  · rcases hl i a hi with ⟨_, hi'⟩ | ⟨e1, rfl⟩
    · rcases hl j b hj with ⟨_, hj'⟩ | ⟨_, rfl⟩
      · exact h.apart i j a b k hij hi' hj' hk
      · exact hA i a k hi' hk
    · rcases hl j b hj with ⟨_, hj'⟩ | ⟨e2, _⟩
      · exact fun e => hA j b k hj' e hk
      · omega
end Go.Proofs.YteanjfcejpibaaaDoor

/-
  What a log does beside its disk: note, down, Seg; what a row is written as.
-/
namespace Go.Proofs.YteanjfcejpibaaaDoor
open Go.RowKit Go.Proofs.ShaWords
theorem note_any (S : Nat → Prop) (b g E n : Nat) (d : DiskM) (dead : Bool) (e : Int) (w : World) (h : LgIn S w b g d E n dead) :
    Calls Tryd.prog 41 #[.pointer (some ⟨b, 0, none⟩), .int .i64 e] w fun r w' => r = .returned (.int .i64 e) ∧ LgGo S b g d E n (dead || decide (e = 9)) w w' := by
  obtain ⟨-, -, -, c3, fz⟩ := h.cells
  have f3 := fz 3
  have HP := Lib.hid (fun x => h.putGo (lg_dead g E n dead x))
  clear h fz
  cases dead with
  | true =>
    go_enter Tryd.func41, Tryd.ntmps41
    go_wp2_with fail
    go_ret
    exact ⟨rfl, HP.out _⟩
  | false =>
    by_cases h9 : e = 9
    · subst h9
      go_enter Tryd.func41, Tryd.ntmps41
      go_wp2_with fail
      go_ret
      exact ⟨rfl, HP.out _⟩
    · have H9 := Lib.hid h9
      go_enter Tryd.func41, Tryd.ntmps41
      go_wp2_with fail
      go_ret
      have hd : decide (e = 9) = false := decide_eq_false H9.out
      have hd2 : (e == 9) = false := beq_false_of_ne H9.out
      rw [hd, hd2]
      exact ⟨rfl, HP.out _⟩
theorem waDown_any (S : Nat → Prop) (b g E n : Nat) (d : DiskM) (dead : Bool) (w : World) (h : LgIn S w b g d E n dead) :
    Calls Tryd.prog 33 #[.pointer (some ⟨b, 0, none⟩)] w fun r w' => r = .returned (.bool (dead || d.down)) ∧ LgGo S b g d E n (dead || d.down) w w' := by
  obtain ⟨c0, -, -, c3, fz⟩ := h.cells
  have f3 := fz 3
  have HP := Lib.hid (fun x => h.putGo (lg_dead g E n dead x))
  have HD := Lib.hid (dkDown_any S g d w h.disk)
  have hlt := h.lt
  have hcell : ∀ x, (w.setCell ⟨b, 3, none⟩ (.bool x)).cell? ⟨b, 3, none⟩ = some (.bool x) := fun x => (h.put (lg_dead g E n dead x)).cells.2.2.2.1
  clear h fz hlt
  cases dead with
  | true =>
    have k3 := hcell true
    clear hcell
    go_enter Tryd.func33, Tryd.ntmps33
    go_wp2_with fail
    go_ret
    exact ⟨rfl, HP.out _⟩
  | false =>
    have k3 := hcell d.down
    clear hcell
    go_enter Tryd.func33, Tryd.ntmps33
    go_wp2_with (go_at_call 23; refine HD.out.mono ?_; rintro e w1 ⟨rfl, rfl⟩)
    go_ret
    exact ⟨rfl, HP.out _⟩
theorem waSeg_any (S : Nat → Prop) (b g E n : Nat) (d : DiskM) (dead : Bool) (w : World) (h : LgIn S w b g d E n dead) :
    Calls Tryd.prog 18 #[.pointer (some ⟨b, 0, none⟩)] w fun r w' => r = .returned (.int .i64 (E : Int)) ∧ w = w' := by
  obtain ⟨-, c1, -, -, -⟩ := h.cells
  clear h
  go_enter Tryd.func18, Tryd.ntmps18
  go_wp2_with fail
  go_ret
  exact ⟨rfl, rfl⟩
/-- A frame's bytes. -/
theorem encoding_any (z : Int) (l : List (BitVec 8)) (n : Nat) (p : Option Addr) (c : Nat) (w : World) (hn : l.length = n) (hl : n ≤ 2039) (hz : 1 ≤ z ∧ z ≤ 255) (hL : Lies w p l) (hR : Rem w) :
    Calls Tryd.prog 34 #[.int .i64 z, .slice p n c] w fun e w' => Below w.heap.size w w' ∧ ∃ v, e = .returned v ∧ Own w.heap.size w' (frameB (kb z) l) v := by
  have HP := Lib.hid (put_any z l n p c w hn (by omega) hL hR)
  have HE := Lib.hid (putE_ok (l := l) hz.1 hz.2 (by omega))
  clear hL hR
  go_enter Tryd.func34, Tryd.ntmps34
  go_wp2_with fail
  refine HP.out.mono ?_
  rintro e w1 ⟨b1, v, rfl, ho⟩
  rw [HE.out.1]
  rw [HE.out.2] at ho
  obtain ⟨q1, c1, rfl, -, -, -⟩ := ho.slN (n := (frameB (kb z) l).length) rfl
  have HB := Lib.hid b1
  have HO := Lib.hid ho
  clear HP HE b1 ho
  generalize (frameB (kb z) l).length = m at HO ⊢
  go_wp2_with fail
  go_ret
  exact ⟨HB.out, _, rfl, HO.out⟩
theorem kb_255 : kb 255 = 255#8 := by decide
theorem headOf_any (s : Nat) (w : World) (hs : s ≤ 1000) (hR : Rem w) :
    Calls Tryd.prog 48 #[.int .i64 (s : Int)] w fun e w' => Below w.heap.size w w' ∧ ∃ v, e = .returned v ∧ Own w.heap.size w' (frameB (hdW s).1 (hdW s).2) v := by
  have HR := Lib.hid hR
  have HP := Lib.hid (intP_any (s : Int) [] 0 none 0 w rfl (by decide) (Or.inl rfl))
  have _ := hs
  clear hR
  go_enter Tryd.func48, Tryd.ntmps48
  go_wp2_with fail
  refine HP.out.mono ?_
  rintro e w1 ⟨r, rfl, ho, b1⟩
  rw [List.nil_append] at ho
  obtain ⟨q1, c1, rfl, -, -, hl1⟩ := ho.slN (be8_length _)
  have HB := Lib.hid b1
  have HL := Lib.hid hl1
  clear b1 ho hl1
  go_wp2_with fail
  refine (encoding_any 255 (be8 (s : Int)) 8 q1 c1 w1 (be8_length _) (by decide) (by decide) HL.out (HR.out.on HB.out)).mono ?_
  rintro e w2 ⟨b2, v, rfl, ho⟩
  rw [kb_255] at ho
  obtain ⟨q2, c2', rfl, -, -, -⟩ := ho.slN (n := 17) (hdW_length s)
  have HO := Lib.hid (ho.lowerF HB.out.size)
  have HB2 := Lib.hid b2
  clear b2 ho
  go_wp2_with fail
  go_ret
  exact ⟨HB.out.trans (HB2.out.mono HB.out.size), _, rfl, HO.out⟩
theorem LgIn.noByte {S : Nat → Prop} {w : World} {b g E n : Nat} {d : DiskM} {dead : Bool} (h : LgIn S w b g d E n dead) (off : Nat) (x : BitVec 8) : w.cell? ⟨b, off, none⟩ ≠ some (.int .u8 (n8 x)) := fun e => by
  rw [cell_of_row w b off _ _ _ h.log] at e
  match off with
  | 0 => cases e
  | 1 => cases e
  | 2 => cases e
  | 3 => cases e
  | k + 4 => simp [lgCells] at e
section
variable {ρ : Operand → Value} {o : Oper} {x y : Operand}
theorem run_loadDk {a p : Addr} (ho : o.op = .load 23 x) (hx : ρ x = .pointer (some a)) {w : World} (hc : w.cell? a = some (.pointer (some p))) : (execOp ρ o).run Tryd.prog w = .ok (.value (.pointer (some p))) w := by
  obtain ⟨dst, op, ty', pos, after, guard⟩ := o
  simp only at ho
  subst ho
  go_simp
theorem run_loadI3 {a : Addr} {z : Int} (ho : o.op = .load 3 x) (hx : ρ x = .pointer (some a)) {w : World} (hc : w.cell? a = some (.int .i64 z)) : (execOp ρ o).run Tryd.prog w = .ok (.value (.int .i64 z)) w := by
  obtain ⟨dst, op, ty', pos, after, guard⟩ := o
  simp only at ho
  subst ho
  go_simp
end
set_option maxRecDepth 100000 in
set_option maxHeartbeats 2000000 in
theorem waWrite_any (S : Nat → Prop) (b g E n m c : Nat) (d : DiskM) (dead : Bool) (bs : List (BitVec 8)) (p : Option Addr) (w : World) (h : LgIn S w b g d E n dead) (hc : d.count < 1000000000) (hb : bs.length = m) (hm : m < 1000000) (hn : n < 1000000) (hL : Lies w p bs) :
    Calls Tryd.prog 37 #[.pointer (some ⟨b, 0, none⟩), .slice p m c] w fun r w' => r = .returned (.int .i64 (d.write (E : Int) bs).2) ∧ LgGo S b g (d.write (E : Int) bs).1 E (n + m) (dead || decide ((d.write (E : Int) bs).2 = 9)) w w' := by
  obtain ⟨-, -, c2, -, fz⟩ := h.cells
  have f2 := fz 2
  have HL1 : Hid (LgIn S (w.setCell ⟨b, 2, none⟩ (.int .i64 ((n : Int) + (m : Int)))) b g d E (n + m) dead) := show LgIn _ _ _ _ _ _ _ _ from h.put (lg_size g E n dead (n + m) _ (by omega))
  have hst : Stays (fun k => k = b) w (w.setCell ⟨b, 2, none⟩ (.int .i64 ((n : Int) + (m : Int)))) := grown_stays (grown_setCell w b 2 _) (fun k e => by cases e; rfl)
  have HLB0 := Lib.hid (hL.stay hst (fun off x => h.noByte off x))
  have HST := Lib.hid hst
  have HC := Lib.hid hc
  have HBS := Lib.hid hb
  have hnm : (n : Int) + (m : Int) ≤ 9223372036854775807 := by omega
  clear h fz hL hst hc hb
  go_enter Tryd.func37, Tryd.ntmps37
  go_upto_region 2 with (fail)
  generalize w.setCell ⟨b, 2, none⟩ (.int .i64 ((n : Int) + (m : Int))) = w1 at HL1 HLB0 HST ⊢
  have hdr : Below w1.heap.size w1 w1.drew := (Below.refl _ _).drew
  have HLB := Lib.hid (HLB0.out.below hdr)
  have HLD := Lib.hid (HL1.out.below hdr)
  have HSD := Lib.hid (HST.out.trans (Below.stays (F := fun _ => False) hdr) (fun _ f _ => f.elim))
  clear hdr
  refine region_phase (fun w' => w'.cell? ⟨b, 0, none⟩ = some (.pointer (some ⟨g, 0, none⟩)) ∧ w'.cell? ⟨b, 1, none⟩ = some (.int .i64 (E : Int))) (fun _ => True) 10 (⟨HLD.out.cells.1, HLD.out.cells.2.1⟩) trivial [(0, .free), (1, .free), (2, .free), (3, .free), (4, .free), (5, .free), (6, .free), (7, .free), (8, .free), (9, .free), (10, .behind), (11, .behind), (12, .free)] (by kernel_rfl) (by kernel_rfl) (by kernel_rfl) (by kernel_rfl) (fun ops hops A hA => ?_)
  have hsz : A.tmps.size = 26 := by rw [hA]; rfl
  have base0 : A.eval (.tmp 0) = .pointer (some ⟨b, 0, none⟩) := by rw [hA]; rfl
  have base1 : A.eval (.tmp 1) = .slice p m c := by rw [hA]; rfl
  have HAA := Lib.hid hA; clear hA
  obtain ⟨o0, po0, q0, d0, gd0⟩ : ∃ o, ops[0]? = some o ∧ o.op = .move (.tmp 0) ∧ o.dst = some 14 ∧ o.guard = none := ⟨_, by rw [hops]; rfl, rfl, rfl, rfl⟩
  obtain ⟨o1, po1, q1, d1, gd1⟩ : ∃ o, ops[1]? = some o ∧ o.op = .move (.tmp 0) ∧ o.dst = some 15 ∧ o.guard = none := ⟨_, by rw [hops]; rfl, rfl, rfl, rfl⟩
  obtain ⟨o2, po2, q2, d2, gd2⟩ : ∃ o, ops[2]? = some o ∧ o.op = .nilCheck (.tmp 15) ∧ o.dst = some 16 ∧ o.guard = none := ⟨_, by rw [hops]; rfl, rfl, rfl, rfl⟩
  obtain ⟨o3, po3, q3, d3, gd3⟩ : ∃ o, ops[3]? = some o ∧ o.op = .fieldAddr 61 (.tmp 16) 0 ∧ o.dst = some 17 ∧ o.guard = none := ⟨_, by rw [hops]; rfl, rfl, rfl, rfl⟩
  obtain ⟨o4, po4, q4, d4, gd4⟩ : ∃ o, ops[4]? = some o ∧ o.op = .load 23 (.tmp 17) ∧ o.dst = some 18 ∧ o.guard = none := ⟨_, by rw [hops]; rfl, rfl, rfl, rfl⟩
  obtain ⟨o5, po5, q5, d5, gd5⟩ : ∃ o, ops[5]? = some o ∧ o.op = .move (.tmp 0) ∧ o.dst = some 19 ∧ o.guard = none := ⟨_, by rw [hops]; rfl, rfl, rfl, rfl⟩
  obtain ⟨o6, po6, q6, d6, gd6⟩ : ∃ o, ops[6]? = some o ∧ o.op = .nilCheck (.tmp 19) ∧ o.dst = some 20 ∧ o.guard = none := ⟨_, by rw [hops]; rfl, rfl, rfl, rfl⟩
  obtain ⟨o7, po7, q7, d7, gd7⟩ : ∃ o, ops[7]? = some o ∧ o.op = .fieldAddr 61 (.tmp 20) 1 ∧ o.dst = some 21 ∧ o.guard = none := ⟨_, by rw [hops]; rfl, rfl, rfl, rfl⟩
  obtain ⟨o8, po8, q8, d8, gd8⟩ : ∃ o, ops[8]? = some o ∧ o.op = .load 3 (.tmp 21) ∧ o.dst = some 22 ∧ o.guard = none := ⟨_, by rw [hops]; rfl, rfl, rfl, rfl⟩
  obtain ⟨o9, po9, q9, d9, gd9⟩ : ∃ o, ops[9]? = some o ∧ o.op = .move (.tmp 1) ∧ o.dst = some 23 ∧ o.guard = none := ⟨_, by rw [hops]; rfl, rfl, rfl, rfl⟩
  obtain ⟨o10, po10, q10, d10, gd10⟩ : ∃ o, ops[10]? = some o ∧ o.op = .call { callee := .value (.func 13), args := #[.tmp 18, .tmp 22, .tmp 23], argTypes := #[23, 3, 41] } ∧ o.dst = some 24 ∧ o.guard = none := ⟨_, by rw [hops]; rfl, rfl, rfl, rfl⟩
  obtain ⟨o11, po11, q11, d11, gd11⟩ : ∃ o, ops[11]? = some o ∧ o.op = .call { callee := .value (.func 41), args := #[.tmp 14, .tmp 24], argTypes := #[25, 27] } ∧ o.dst = some 25 ∧ o.guard = none := ⟨_, by rw [hops]; rfl, rfl, rfl, rfl⟩
  obtain ⟨o12, po12, q12, d12, gd12⟩ : ∃ o, ops[12]? = some o ∧ o.op = .assign (.tmp 25) ∧ o.dst = some 4 ∧ o.guard = none := ⟨_, by rw [hops]; rfl, rfl, rfl, rfl⟩
  clear hops
  refine met_free po0 d0 (wanted_of gd0) (fun w' h' => run_move q0 base0 w') ?_
  refine met_free po1 d1 (wanted_of gd1) (fun w' h' => run_move q1 ((eval_other _ 14 0 _ (by decide)).trans base0) w') ?_
  refine met_free po2 d2 (wanted_of gd2) (fun w' h' => run_nilCheck q2 (eval_same _ _ _ (by simp only [put_size, hsz]; decide)) w') ?_
  refine met_free po3 d3 (wanted_of gd3) (fun w' h' => run_fieldT (off := 0) q3 (fun _ => by kernel_rfl) (eval_same _ _ _ (by simp only [put_size, hsz]; decide)) w') ?_
  refine met_free po4 d4 (wanted_of gd4) (fun w' h' => run_loadDk q4 (eval_same _ _ _ (by simp only [put_size, hsz]; decide)) h'.1) ?_
  refine met_free po5 d5 (wanted_of gd5) (fun w' h' => run_move q5 ((eval_other _ 18 0 _ (by decide)).trans ((eval_other _ 17 0 _ (by decide)).trans ((eval_other _ 16 0 _ (by decide)).trans ((eval_other _ 15 0 _ (by decide)).trans ((eval_other _ 14 0 _ (by decide)).trans base0))))) w') ?_
  refine met_free po6 d6 (wanted_of gd6) (fun w' h' => run_nilCheck q6 (eval_same _ _ _ (by simp only [put_size, hsz]; decide)) w') ?_
  refine met_free po7 d7 (wanted_of gd7) (fun w' h' => run_fieldT (off := 1) q7 (fun _ => by kernel_rfl) (eval_same _ _ _ (by simp only [put_size, hsz]; decide)) w') ?_
  refine met_free po8 d8 (wanted_of gd8) (fun w' h' => run_loadI3 q8 (eval_same _ _ _ (by simp only [put_size, hsz]; decide)) h'.2) ?_
  refine met_free po9 d9 (wanted_of gd9) (fun w' h' => run_move q9 ((eval_other _ 22 1 _ (by decide)).trans ((eval_other _ 21 1 _ (by decide)).trans ((eval_other _ 20 1 _ (by decide)).trans ((eval_other _ 19 1 _ (by decide)).trans ((eval_other _ 18 1 _ (by decide)).trans ((eval_other _ 17 1 _ (by decide)).trans ((eval_other _ 16 1 _ (by decide)).trans ((eval_other _ 15 1 _ (by decide)).trans ((eval_other _ 14 1 _ (by decide)).trans base1))))))))) w') ?_
  refine m_enter po10 d10 (wanted_of gd10) (run_callf3 q10 rfl ((eval_other _ 23 18 _ (by decide)).trans ((eval_other _ 22 18 _ (by decide)).trans ((eval_other _ 21 18 _ (by decide)).trans ((eval_other _ 20 18 _ (by decide)).trans ((eval_other _ 19 18 _ (by decide)).trans (eval_same _ _ _ (by simp only [put_size, hsz]; decide))))))) ((eval_other _ 23 22 _ (by decide)).trans (eval_same _ _ _ (by simp only [put_size, hsz]; decide))) (eval_same _ _ _ (by simp only [put_size, hsz]; decide)) Tryd.func13 (by kernel_rfl) _) (dkWrite_any S g d (E : Int) bs m c p w1.drew HLD.out.disk HC.out HBS.out (by omega) HLB.out) ?_
  rintro e w2 ⟨rfl, hgo⟩
  obtain ⟨S2, hl2, hS2, hs2⟩ := DkGo.log hgo HLD.out
  have HL2 := Lib.hid hl2; have HS2 := Lib.hid hS2; have HT2 := Lib.hid hs2; clear hl2 hS2 hs2 hgo
  refine ⟨_, rfl, ⟨HL2.out.cells.1, HL2.out.cells.2.1⟩, ?_⟩
  refine m_enter po11 d11 (wanted_of gd11) (run_callf2 q11 rfl ((eval_other _ 24 14 _ (by decide)).trans ((eval_other _ 23 14 _ (by decide)).trans ((eval_other _ 22 14 _ (by decide)).trans ((eval_other _ 21 14 _ (by decide)).trans ((eval_other _ 20 14 _ (by decide)).trans ((eval_other _ 19 14 _ (by decide)).trans ((eval_other _ 18 14 _ (by decide)).trans ((eval_other _ 17 14 _ (by decide)).trans ((eval_other _ 16 14 _ (by decide)).trans ((eval_other _ 15 14 _ (by decide)).trans (eval_same _ _ _ (by rw [hsz]; decide)))))))))))) (eval_same _ _ _ (by simp only [put_size, hsz]; decide)) Tryd.func41 (by kernel_rfl) _) (note_any S2 b g E (n + m) _ dead _ w2 HL2.out) ?_
  rintro e w3 ⟨rfl, hgo⟩
  have HG3 := Lib.hid (LgGo.trans HS2.out HT2.out hgo)
  have hcs : w3.cell? ⟨b, 0, none⟩ = some (.pointer (some ⟨g, 0, none⟩)) ∧ w3.cell? ⟨b, 1, none⟩ = some (.int .i64 (E : Int)) := by obtain ⟨_, hl3, _⟩ := hgo; exact ⟨hl3.cells.1, hl3.cells.2.1⟩
  clear hgo
  refine ⟨_, rfl, hcs, ?_⟩
  clear hcs
  refine met_free po12 d12 (wanted_of gd12) (fun w' h' => run_assign q12 (eval_same _ _ _ (by simp only [put_size, hsz]; decide)) w') ?_
  show NoPanic _ .normal _ _
  refine NoPanic.normal ?_
  rw [HAA.out]
  go_frame
  clear HAA
  clear po0 q0 d0 gd0 po1 q1 d1 gd1 po2 q2 d2 gd2 po3 q3 d3 gd3 po4 q4 d4 gd4 po5 q5 d5 gd5 po6 q6 d6 gd6 po7 q7 d7 gd7 po8 q8 d8 gd8 po9 q9 d9 gd9 po10 q10 d10 gd10 po11 q11 d11 gd11 po12 q12 d12 gd12
  clear base0 base1 hsz
  go_wp2_with fail
  go_ret
  exact ⟨rfl, LgGo.trans (fun k s => Or.inl s) (HSD.out.more fun k e => Or.inr e) HG3.out⟩
set_option maxRecDepth 100000 in
set_option maxHeartbeats 2000000 in
theorem waSync_any (S : Nat → Prop) (b g E n : Nat) (d : DiskM) (dead : Bool) (w : World) (h : LgIn S w b g d E n dead) (hc : d.count < 1000000000) :
    Calls Tryd.prog 22 #[.pointer (some ⟨b, 0, none⟩)] w fun r w' => r = .returned (.int .i64 (syncW d E dead).e) ∧ LgGo S b g (syncW d E dead).d E n (syncW d E dead).dead w w' := by
  have HD := Lib.hid (waDown_any S b g E n d dead w h)
  have HC := Lib.hid hc
  clear h hc
  by_cases hd : dead = true ∨ d.down = true
  · have hor : (dead || d.down) = true := by simpa using hd
    have HW : Hid (syncW d E dead = ⟨d, E, true, 9⟩) := show _ = _ from if_pos hd
    clear hd
    go_enter Tryd.func22, Tryd.ntmps22
    go_wp2_with fail
    refine HD.out.mono ?_
    rintro e w1 ⟨rfl, hgo⟩
    rw [hor] at hgo ⊢
    have HG := Lib.hid hgo
    clear hgo
    go_wp2_with fail
    go_ret
    rw [HW.out]
    exact ⟨rfl, HG.out⟩
  · have hor : (dead || d.down) = false := by simpa using hd
    have hd0 : dead = false := by simpa using (not_or.1 hd).1
    have HW : Hid (syncW d E dead = ⟨(syncedW d E).1, E, decide ((syncedW d E).2 = 9), (syncedW d E).2⟩) := show _ = _ from if_neg hd
    clear hd
    subst hd0
    go_enter Tryd.func22, Tryd.ntmps22
    go_wp2_with fail
    refine HD.out.mono ?_
    rintro e w1 ⟨rfl, hgo⟩
    rw [hor] at hgo ⊢
    obtain ⟨S1, hl1, hS1, hs1⟩ := hgo
    have HL1 := Lib.hid hl1; have HS1 := Lib.hid hS1; have HT1 := Lib.hid hs1
    obtain ⟨-, k1, -, -, -⟩ := hl1.cells
    clear hl1 hS1 hs1 hor
    by_cases h0 : E = 0
    · subst h0
      go_wp2_with fail
      go_ret
      rw [HW.out]
      exact ⟨rfl, S1, HL1.out, HS1.out, HT1.out⟩
    have h0' : ¬ (E : Int) = 0 := by omega
    have HS : Hid (syncedW d E = d.sync (E : Int)) := show _ = _ from if_neg h0
    go_upto_region 5 with (fail)
    have hdr : Below w1.heap.size w1 w1.drew := (Below.refl _ _).drew
    have HLD := Lib.hid (HL1.out.below hdr)
    have HSD := Lib.hid (HT1.out.trans (Below.stays (F := fun _ => False) hdr) (fun _ f _ => f.elim))
    clear hdr
    refine region_phase (fun w' => w'.cell? ⟨b, 0, none⟩ = some (.pointer (some ⟨g, 0, none⟩)) ∧ w'.cell? ⟨b, 1, none⟩ = some (.int .i64 (E : Int))) (fun _ => True) 9 (⟨HLD.out.cells.1, HLD.out.cells.2.1⟩) trivial [(0, .free), (1, .free), (2, .free), (3, .free), (4, .free), (5, .free), (6, .free), (7, .free), (8, .free), (9, .behind), (10, .behind), (11, .free)] (by kernel_rfl) (by kernel_rfl) (by kernel_rfl) (by kernel_rfl) (fun ops hops A hA => ?_)
    have hsz : A.tmps.size = 21 := by rw [hA]; rfl
    have base0 : A.eval (.tmp 0) = .pointer (some ⟨b, 0, none⟩) := by rw [hA]; rfl
    have HAA := Lib.hid hA; clear hA
    obtain ⟨o0, po0, q0, d0, gd0⟩ : ∃ o, ops[0]? = some o ∧ o.op = .move (.tmp 0) ∧ o.dst = some 10 ∧ o.guard = none := ⟨_, by rw [hops]; rfl, rfl, rfl, rfl⟩
    obtain ⟨o1, po1, q1, d1, gd1⟩ : ∃ o, ops[1]? = some o ∧ o.op = .move (.tmp 0) ∧ o.dst = some 11 ∧ o.guard = none := ⟨_, by rw [hops]; rfl, rfl, rfl, rfl⟩
    obtain ⟨o2, po2, q2, d2, gd2⟩ : ∃ o, ops[2]? = some o ∧ o.op = .nilCheck (.tmp 11) ∧ o.dst = some 12 ∧ o.guard = none := ⟨_, by rw [hops]; rfl, rfl, rfl, rfl⟩
    obtain ⟨o3, po3, q3, d3, gd3⟩ : ∃ o, ops[3]? = some o ∧ o.op = .fieldAddr 61 (.tmp 12) 0 ∧ o.dst = some 13 ∧ o.guard = none := ⟨_, by rw [hops]; rfl, rfl, rfl, rfl⟩
    obtain ⟨o4, po4, q4, d4, gd4⟩ : ∃ o, ops[4]? = some o ∧ o.op = .load 23 (.tmp 13) ∧ o.dst = some 14 ∧ o.guard = none := ⟨_, by rw [hops]; rfl, rfl, rfl, rfl⟩
    obtain ⟨o5, po5, q5, d5, gd5⟩ : ∃ o, ops[5]? = some o ∧ o.op = .move (.tmp 0) ∧ o.dst = some 15 ∧ o.guard = none := ⟨_, by rw [hops]; rfl, rfl, rfl, rfl⟩
    obtain ⟨o6, po6, q6, d6, gd6⟩ : ∃ o, ops[6]? = some o ∧ o.op = .nilCheck (.tmp 15) ∧ o.dst = some 16 ∧ o.guard = none := ⟨_, by rw [hops]; rfl, rfl, rfl, rfl⟩
    obtain ⟨o7, po7, q7, d7, gd7⟩ : ∃ o, ops[7]? = some o ∧ o.op = .fieldAddr 61 (.tmp 16) 1 ∧ o.dst = some 17 ∧ o.guard = none := ⟨_, by rw [hops]; rfl, rfl, rfl, rfl⟩
    obtain ⟨o8, po8, q8, d8, gd8⟩ : ∃ o, ops[8]? = some o ∧ o.op = .load 3 (.tmp 17) ∧ o.dst = some 18 ∧ o.guard = none := ⟨_, by rw [hops]; rfl, rfl, rfl, rfl⟩
    obtain ⟨o9, po9, q9, d9, gd9⟩ : ∃ o, ops[9]? = some o ∧ o.op = .call { callee := .value (.func 42), args := #[.tmp 14, .tmp 18], argTypes := #[23, 3] } ∧ o.dst = some 19 ∧ o.guard = none := ⟨_, by rw [hops]; rfl, rfl, rfl, rfl⟩
    obtain ⟨o10, po10, q10, d10, gd10⟩ : ∃ o, ops[10]? = some o ∧ o.op = .call { callee := .value (.func 41), args := #[.tmp 10, .tmp 19], argTypes := #[25, 27] } ∧ o.dst = some 20 ∧ o.guard = none := ⟨_, by rw [hops]; rfl, rfl, rfl, rfl⟩
    obtain ⟨o11, po11, q11, d11, gd11⟩ : ∃ o, ops[11]? = some o ∧ o.op = .assign (.tmp 20) ∧ o.dst = some 2 ∧ o.guard = none := ⟨_, by rw [hops]; rfl, rfl, rfl, rfl⟩
    clear hops
    refine met_free po0 d0 (wanted_of gd0) (fun w' h' => run_move q0 base0 w') ?_
    refine met_free po1 d1 (wanted_of gd1) (fun w' h' => run_move q1 ((eval_other _ 10 0 _ (by decide)).trans base0) w') ?_
    refine met_free po2 d2 (wanted_of gd2) (fun w' h' => run_nilCheck q2 (eval_same _ _ _ (by simp only [put_size, hsz]; decide)) w') ?_
    refine met_free po3 d3 (wanted_of gd3) (fun w' h' => run_fieldT (off := 0) q3 (fun _ => by kernel_rfl) (eval_same _ _ _ (by simp only [put_size, hsz]; decide)) w') ?_
    refine met_free po4 d4 (wanted_of gd4) (fun w' h' => run_loadDk q4 (eval_same _ _ _ (by simp only [put_size, hsz]; decide)) h'.1) ?_
    refine met_free po5 d5 (wanted_of gd5) (fun w' h' => run_move q5 ((eval_other _ 14 0 _ (by decide)).trans ((eval_other _ 13 0 _ (by decide)).trans ((eval_other _ 12 0 _ (by decide)).trans ((eval_other _ 11 0 _ (by decide)).trans ((eval_other _ 10 0 _ (by decide)).trans base0))))) w') ?_
    refine met_free po6 d6 (wanted_of gd6) (fun w' h' => run_nilCheck q6 (eval_same _ _ _ (by simp only [put_size, hsz]; decide)) w') ?_
    refine met_free po7 d7 (wanted_of gd7) (fun w' h' => run_fieldT (off := 1) q7 (fun _ => by kernel_rfl) (eval_same _ _ _ (by simp only [put_size, hsz]; decide)) w') ?_
    refine met_free po8 d8 (wanted_of gd8) (fun w' h' => run_loadI3 q8 (eval_same _ _ _ (by simp only [put_size, hsz]; decide)) h'.2) ?_
    refine m_enter po9 d9 (wanted_of gd9) (run_callf2 q9 rfl ((eval_other _ 18 14 _ (by decide)).trans ((eval_other _ 17 14 _ (by decide)).trans ((eval_other _ 16 14 _ (by decide)).trans ((eval_other _ 15 14 _ (by decide)).trans (eval_same _ _ _ (by simp only [put_size, hsz]; decide)))))) (eval_same _ _ _ (by simp only [put_size, hsz]; decide)) Tryd.func42 (by kernel_rfl) _) (dkSync_any S1 g d (E : Int) w1.drew HLD.out.disk HC.out) ?_
    rintro e w2 ⟨rfl, hgo⟩
    obtain ⟨S2, hl2, hS2, hs2⟩ := DkGo.log hgo HLD.out
    have HL2 := Lib.hid hl2; have HS2 := Lib.hid hS2; have HT2 := Lib.hid hs2; clear hl2 hS2 hs2 hgo
    refine ⟨_, rfl, ⟨HL2.out.cells.1, HL2.out.cells.2.1⟩, ?_⟩
    refine m_enter po10 d10 (wanted_of gd10) (run_callf2 q10 rfl ((eval_other _ 19 10 _ (by decide)).trans ((eval_other _ 18 10 _ (by decide)).trans ((eval_other _ 17 10 _ (by decide)).trans ((eval_other _ 16 10 _ (by decide)).trans ((eval_other _ 15 10 _ (by decide)).trans ((eval_other _ 14 10 _ (by decide)).trans ((eval_other _ 13 10 _ (by decide)).trans ((eval_other _ 12 10 _ (by decide)).trans ((eval_other _ 11 10 _ (by decide)).trans (eval_same _ _ _ (by rw [hsz]; decide))))))))))) (eval_same _ _ _ (by simp only [put_size, hsz]; decide)) Tryd.func41 (by kernel_rfl) _) (note_any S2 b g E n _ false _ w2 HL2.out) ?_
    rintro e w3 ⟨rfl, hgo⟩
    have HG3 := Lib.hid (LgGo.trans HS2.out HT2.out hgo)
    have hcs : w3.cell? ⟨b, 0, none⟩ = some (.pointer (some ⟨g, 0, none⟩)) ∧ w3.cell? ⟨b, 1, none⟩ = some (.int .i64 (E : Int)) := by obtain ⟨_, hl3, _⟩ := hgo; exact ⟨hl3.cells.1, hl3.cells.2.1⟩
    clear hgo
    refine ⟨_, rfl, hcs, ?_⟩
    clear hcs
    refine met_free po11 d11 (wanted_of gd11) (fun w' h' => run_assign q11 (eval_same _ _ _ (by simp only [put_size, hsz]; decide)) w') ?_
    show NoPanic _ .normal _ _
    refine NoPanic.normal ?_
    rw [HAA.out]
    go_frame
    clear HAA
    clear po0 q0 d0 gd0 po1 q1 d1 gd1 po2 q2 d2 gd2 po3 q3 d3 gd3 po4 q4 d4 gd4 po5 q5 d5 gd5 po6 q6 d6 gd6 po7 q7 d7 gd7 po8 q8 d8 gd8 po9 q9 d9 gd9 po10 q10 d10 gd10 po11 q11 d11 gd11
    clear base0 hsz
    go_wp2_with fail
    go_ret
    rw [HW.out, HS.out]
    refine ⟨rfl, ?_⟩
    have hg := LgGo.trans HS1.out HSD.out HG3.out
    rwa [Bool.false_or] at hg
end Go.Proofs.YteanjfcejpibaaaDoor

/-
  Is a frame a segment's head?
-/
namespace Go.Proofs.YteanjfcejpibaaaDoor
open Go.RowKit Go.Proofs.ShaWords
section
variable {ρ : Operand → Value} {o : Oper} {x y : Operand}
theorem run_eqI3 {n m : Int} {ty : TypeId} {v : Bool} (ho : o.op = .binOp .eql 3 x y ty) (hx : ρ x = .int .i64 n) (hy : ρ y = .int .i64 m) (hv : decide (n = m) = v) (w : World) : (execOp ρ o).run Tryd.prog w = .ok (.value (.bool v)) w := by
  obtain ⟨dst, op, ty', pos, after, guard⟩ := o
  simp only at ho
  subst ho
  subst hv
  go_simp
  by_cases h : n = m <;> simp [h]
end
/-- The frame is the segment's head. -/
def isHd (f : RowW) (s : Nat) : Bool := decide (f = hdW s)
theorem isHd_yes {k : BitVec 8} {l : List (BitVec 8)} {s : Nat} (h : k = 255#8) : isHd (k, l) s = decide (l = be8 (s : Int)) := by
  subst h
  unfold isHd hdW
  simp
theorem isHd_no {k : BitVec 8} {l : List (BitVec 8)} {s : Nat} (h : ¬ k = 255#8) : isHd (k, l) s = false := by
  unfold isHd hdW
  simp [h]
theorem n8_255 {k : BitVec 8} : n8 k = 255 ↔ k = 255#8 := ⟨fun h => n8_inj (by rw [h]; decide), fun h => by rw [h]; decide⟩
set_option maxRecDepth 100000 in
set_option maxHeartbeats 2000000 in
theorem isHead_any (k : BitVec 8) (l : List (BitVec 8)) (n c s : Nat) (q : Option Addr) (w : World) (hn : l.length = n) (hL : Lies w q l) :
    Calls Tryd.prog 44 #[.agg #[.int .i64 (n8 k), .slice q n c], .int .i64 (s : Int)] w fun r w' => r = .returned (.bool (isHd (k, l) s)) ∧ Below w.heap.size w w' := by
  have HN := Lib.hid hn
  have HLW := Lib.hid hL
  clear hn hL
  go_enter Tryd.func44, Tryd.ntmps44
  go_upto_region 1 with (fail)
  refine wp_gen (fun A => Below w.heap.size w A ∧ FrC A w.heap.size (.int .i64 (n8 k)) (.slice q n c)) ⟨(Below.refl _ _).alloc (Nat.le_refl _) _, heap_new_at rfl⟩ ?_
  rintro w2 ⟨b2, f2⟩
  have hcc := f2.cells
  have HC0 : Hid (∀ w', Below w2.heap.size w2 w' → w'.cell? ⟨w.heap.size, 0, none⟩ = some (.int .i64 (n8 k))) := show ∀ w', _ → _ from fun w' hb => (f2.on hb).cells.1
  have HC1 : Hid (∀ w', Below w2.heap.size w2 w' → w'.cell? ⟨w.heap.size, 0 + 1, none⟩ = some (.slice q n c)) := show ∀ w', _ → _ from fun w' hb => (f2.on hb).cells.2.1
  have HL := Lib.hid (HLW.out.below b2)
  have HB2 := Lib.hid b2
  have HD : Hid (Below w2.heap.size w2 w2.drew) := show Below _ _ _ from (Below.refl _ _).drew
  clear hcc f2 b2
  by_cases hk : k = 255#8
  · have HK : Hid (decide (n8 k = 255) = true) := show _ = _ from decide_eq_true (n8_255.2 hk)
    have HI := Lib.hid (isHd_yes (l := l) (s := s) hk)
    clear hk
    refine region_phase (fun w' => Below w2.heap.size w2 w') (fun _ => True) 7 (HD.out) trivial [(0, .free), (1, .free), (2, .free), (3, .free), (4, .free), (5, .free), (6, .free), (7, .behind), (8, .behind), (9, .free), (10, .free)] (by kernel_rfl) (by kernel_rfl) (by kernel_rfl) (by kernel_rfl) (fun ops hops A hA => ?_)
    have hsz : A.tmps.size = 15 := by rw [hA]; rfl
    have base1 : A.eval (.tmp 1) = .int .i64 (s : Int) := by rw [hA]; rfl
    have base2 : A.eval (.tmp 2) = .pointer (some ⟨w.heap.size, 0, none⟩) := by rw [hA]; rfl
    have HAA := Lib.hid hA; clear hA
    obtain ⟨o0, po0, q0, d0, gd0⟩ : ∃ o, ops[0]? = some o ∧ o.op = .fieldAddr 46 (.tmp 2) 0 ∧ o.dst = some 5 ∧ o.guard = none := ⟨_, by rw [hops]; rfl, rfl, rfl, rfl⟩
    obtain ⟨o1, po1, q1, d1, gd1⟩ : ∃ o, ops[1]? = some o ∧ o.op = .load 3 (.tmp 5) ∧ o.dst = some 6 ∧ o.guard = none := ⟨_, by rw [hops]; rfl, rfl, rfl, rfl⟩
    obtain ⟨o2, po2, q2, d2, gd2⟩ : ∃ o, ops[2]? = some o ∧ o.op = .binOp .eql 3 (.tmp 6) (.const (.int .i64 255)) 3 ∧ o.dst = some 7 ∧ o.guard = none := ⟨_, by rw [hops]; rfl, rfl, rfl, rfl⟩
    obtain ⟨o3, po3, q3, d3, gd3⟩ : ∃ o, ops[3]? = some o ∧ o.op = .move (.tmp 7) ∧ o.dst = some 8 ∧ o.guard = none := ⟨_, by rw [hops]; rfl, rfl, rfl, rfl⟩
    obtain ⟨o4, po4, q4, d4, gd4⟩ : ∃ o, ops[4]? = some o ∧ o.op = .fieldAddr 46 (.tmp 2) 1 ∧ o.dst = some 9 ∧ o.guard = some (3, true) := ⟨_, by rw [hops]; rfl, rfl, rfl, rfl⟩
    obtain ⟨o5, po5, q5, d5, gd5⟩ : ∃ o, ops[5]? = some o ∧ o.op = .load 41 (.tmp 9) ∧ o.dst = some 10 ∧ o.guard = some (3, true) := ⟨_, by rw [hops]; rfl, rfl, rfl, rfl⟩
    obtain ⟨o6, po6, q6, d6, gd6⟩ : ∃ o, ops[6]? = some o ∧ o.op = .move (.tmp 1) ∧ o.dst = some 11 ∧ o.guard = some (3, true) := ⟨_, by rw [hops]; rfl, rfl, rfl, rfl⟩
    obtain ⟨o7, po7, q7, d7, gd7⟩ : ∃ o, ops[7]? = some o ∧ o.op = .call { callee := .value (.func 52), args := #[.const (.slice none 0 0), .tmp 11], argTypes := #[41, 3] } ∧ o.dst = some 12 ∧ o.guard = some (3, true) := ⟨_, by rw [hops]; rfl, rfl, rfl, rfl⟩
    obtain ⟨o8, po8, q8, d8, gd8⟩ : ∃ o, ops[8]? = some o ∧ o.op = .call { callee := .value (.func 51), args := #[.tmp 10, .tmp 12], argTypes := #[41, 41] } ∧ o.dst = some 13 ∧ o.guard = some (3, true) := ⟨_, by rw [hops]; rfl, rfl, rfl, rfl⟩
    obtain ⟨o9, po9, q9, d9, gd9⟩ : ∃ o, ops[9]? = some o ∧ o.op = .pick (.tmp 8) (.tmp 13) (.const (.bool false)) ∧ o.dst = some 14 ∧ o.guard = none := ⟨_, by rw [hops]; rfl, rfl, rfl, rfl⟩
    obtain ⟨o10, po10, q10, d10, gd10⟩ : ∃ o, ops[10]? = some o ∧ o.op = .assign (.tmp 14) ∧ o.dst = some 4 ∧ o.guard = none := ⟨_, by rw [hops]; rfl, rfl, rfl, rfl⟩
    clear hops
    refine met_free po0 d0 (wanted_of gd0) (fun w' h' => run_fieldFr q0 (by decide) base2 w') ?_
    refine met_free po1 d1 (wanted_of gd1) (fun w' h' => run_loadI3 q1 (eval_same _ _ _ (by rw [hsz]; decide)) (HC0.out _ h')) ?_
    refine met_free po2 d2 (wanted_of gd2) (fun w' h' => run_eqI3 q2 (eval_same _ _ _ (by simp only [put_size, hsz]; decide)) rfl HK.out w') ?_
    refine met_free po3 d3 (wanted_of gd3) (fun w' h' => run_move q3 (eval_same _ _ _ (by simp only [put_size, hsz]; decide)) w') ?_
    refine met_free po4 d4 (wanted_guard gd4 po3 d3 (eval_same _ _ _ (by simp only [put_size, hsz]; decide))) (fun w' h' => run_fieldFr q4 (by decide) ((eval_other _ 8 2 _ (by decide)).trans ((eval_other _ 7 2 _ (by decide)).trans ((eval_other _ 6 2 _ (by decide)).trans ((eval_other _ 5 2 _ (by decide)).trans base2)))) w') ?_
    refine met_free po5 d5 (wanted_guard gd5 po3 d3 ((eval_other _ 9 8 _ (by decide)).trans (eval_same _ _ _ (by simp only [put_size, hsz]; decide)))) (fun w' h' => run_loadSlice q5 (eval_same _ _ _ (by simp only [put_size, hsz]; decide)) (HC1.out _ h')) ?_
    refine met_free po6 d6 (wanted_guard gd6 po3 d3 ((eval_other _ 10 8 _ (by decide)).trans ((eval_other _ 9 8 _ (by decide)).trans (eval_same _ _ _ (by simp only [put_size, hsz]; decide))))) (fun w' h' => run_move q6 ((eval_other _ 10 1 _ (by decide)).trans ((eval_other _ 9 1 _ (by decide)).trans ((eval_other _ 8 1 _ (by decide)).trans ((eval_other _ 7 1 _ (by decide)).trans ((eval_other _ 6 1 _ (by decide)).trans ((eval_other _ 5 1 _ (by decide)).trans base1)))))) w') ?_
    refine m_enter po7 d7 (wanted_guard gd7 po3 d3 ((eval_other _ 11 8 _ (by decide)).trans ((eval_other _ 10 8 _ (by decide)).trans ((eval_other _ 9 8 _ (by decide)).trans (eval_same _ _ _ (by simp only [put_size, hsz]; decide)))))) (run_callf2 q7 rfl rfl (eval_same _ _ _ (by simp only [put_size, hsz]; decide)) Tryd.func52 (by kernel_rfl) _) (intP_any (s : Int) [] 0 none 0 w2.drew rfl (by decide) (Or.inl rfl)) ?_
    rintro e w3 ⟨r, rfl, ho, b3⟩
    rw [List.nil_append] at ho
    obtain ⟨qz, cz, rfl, -, -, hl3⟩ := ho.slN (be8_length _)
    have HB3 : Hid (Below w2.heap.size w2 w3) := show Below _ _ _ from HD.out.trans (b3.mono HD.out.size)
    have HL3 := Lib.hid hl3
    clear ho b3 hl3
    refine ⟨_, rfl, HB3.out, ?_⟩
    refine m_enter po8 d8 (wanted_guard gd8 po3 d3 ((eval_other _ 12 8 _ (by decide)).trans ((eval_other _ 11 8 _ (by decide)).trans ((eval_other _ 10 8 _ (by decide)).trans ((eval_other _ 9 8 _ (by decide)).trans (eval_same _ _ _ (by simp only [put_size, hsz]; decide))))))) (run_callf2 q8 rfl ((eval_other _ 12 10 _ (by decide)).trans ((eval_other _ 11 10 _ (by decide)).trans (eval_same _ _ _ (by simp only [put_size, hsz]; decide)))) (eval_same _ _ _ (by simp only [put_size, hsz]; decide)) Tryd.func51 (by kernel_rfl) _) (equalBytes_any l (be8 (s : Int)) n 8 q qz c cz w3 HN.out (be8_length _) (HL.out.below HB3.out) HL3.out) ?_
    rintro e w4 ⟨rfl, rfl⟩
    refine ⟨_, rfl, HB3.out, ?_⟩
    refine met_free po9 d9 (wanted_of gd9) (fun w' h' => run_pick_true q9 ((eval_other _ 13 8 _ (by decide)).trans ((eval_other _ 12 8 _ (by decide)).trans ((eval_other _ 11 8 _ (by decide)).trans ((eval_other _ 10 8 _ (by decide)).trans ((eval_other _ 9 8 _ (by decide)).trans (eval_same _ _ _ (by simp only [put_size, hsz]; decide))))))) (eval_same _ _ _ (by simp only [put_size, hsz]; decide)) w') ?_
    refine met_free po10 d10 (wanted_of gd10) (fun w' h' => run_assign q10 (eval_same _ _ _ (by simp only [put_size, hsz]; decide)) w') ?_
    show NoPanic _ .normal _ _
    refine NoPanic.normal ?_
    rw [HAA.out]
    go_frame
    clear HAA
    clear po0 q0 d0 gd0 po1 q1 d1 gd1 po2 q2 d2 gd2 po3 q3 d3 gd3 po4 q4 d4 gd4 po5 q5 d5 gd5 po6 q6 d6 gd6 po7 q7 d7 gd7 po8 q8 d8 gd8 po9 q9 d9 gd9 po10 q10 d10 gd10
    clear base1 base2 hsz
    go_wp2_with fail
    go_ret
    rw [HI.out]
    exact ⟨rfl, HB2.out.trans (HB3.out.mono HB2.out.size)⟩
  · have HK : Hid (decide (n8 k = 255) = false) := show _ = _ from decide_eq_false (fun x => hk (n8_255.1 x))
    have HI := Lib.hid (isHd_no (l := l) (s := s) hk)
    clear hk
    refine region_phase (fun w' => Below w2.heap.size w2 w') (fun _ => True) 7 (HD.out) trivial [(0, .free), (1, .free), (2, .free), (3, .free), (4, .free), (5, .free), (6, .free), (7, .behind), (8, .behind), (9, .free), (10, .free)] (by kernel_rfl) (by kernel_rfl) (by kernel_rfl) (by kernel_rfl) (fun ops hops A hA => ?_)
    have hsz : A.tmps.size = 15 := by rw [hA]; rfl
    have base1 : A.eval (.tmp 1) = .int .i64 (s : Int) := by rw [hA]; rfl
    have base2 : A.eval (.tmp 2) = .pointer (some ⟨w.heap.size, 0, none⟩) := by rw [hA]; rfl
    have HAA := Lib.hid hA; clear hA
    obtain ⟨o0, po0, q0, d0, gd0⟩ : ∃ o, ops[0]? = some o ∧ o.op = .fieldAddr 46 (.tmp 2) 0 ∧ o.dst = some 5 ∧ o.guard = none := ⟨_, by rw [hops]; rfl, rfl, rfl, rfl⟩
    obtain ⟨o1, po1, q1, d1, gd1⟩ : ∃ o, ops[1]? = some o ∧ o.op = .load 3 (.tmp 5) ∧ o.dst = some 6 ∧ o.guard = none := ⟨_, by rw [hops]; rfl, rfl, rfl, rfl⟩
    obtain ⟨o2, po2, q2, d2, gd2⟩ : ∃ o, ops[2]? = some o ∧ o.op = .binOp .eql 3 (.tmp 6) (.const (.int .i64 255)) 3 ∧ o.dst = some 7 ∧ o.guard = none := ⟨_, by rw [hops]; rfl, rfl, rfl, rfl⟩
    obtain ⟨o3, po3, q3, d3, gd3⟩ : ∃ o, ops[3]? = some o ∧ o.op = .move (.tmp 7) ∧ o.dst = some 8 ∧ o.guard = none := ⟨_, by rw [hops]; rfl, rfl, rfl, rfl⟩
    obtain ⟨o4, po4, q4, d4, gd4⟩ : ∃ o, ops[4]? = some o ∧ o.op = .fieldAddr 46 (.tmp 2) 1 ∧ o.dst = some 9 ∧ o.guard = some (3, true) := ⟨_, by rw [hops]; rfl, rfl, rfl, rfl⟩
    obtain ⟨o5, po5, q5, d5, gd5⟩ : ∃ o, ops[5]? = some o ∧ o.op = .load 41 (.tmp 9) ∧ o.dst = some 10 ∧ o.guard = some (3, true) := ⟨_, by rw [hops]; rfl, rfl, rfl, rfl⟩
    obtain ⟨o6, po6, q6, d6, gd6⟩ : ∃ o, ops[6]? = some o ∧ o.op = .move (.tmp 1) ∧ o.dst = some 11 ∧ o.guard = some (3, true) := ⟨_, by rw [hops]; rfl, rfl, rfl, rfl⟩
    obtain ⟨o7, po7, q7, d7, gd7⟩ : ∃ o, ops[7]? = some o ∧ o.op = .call { callee := .value (.func 52), args := #[.const (.slice none 0 0), .tmp 11], argTypes := #[41, 3] } ∧ o.dst = some 12 ∧ o.guard = some (3, true) := ⟨_, by rw [hops]; rfl, rfl, rfl, rfl⟩
    obtain ⟨o8, po8, q8, d8, gd8⟩ : ∃ o, ops[8]? = some o ∧ o.op = .call { callee := .value (.func 51), args := #[.tmp 10, .tmp 12], argTypes := #[41, 41] } ∧ o.dst = some 13 ∧ o.guard = some (3, true) := ⟨_, by rw [hops]; rfl, rfl, rfl, rfl⟩
    obtain ⟨o9, po9, q9, d9, gd9⟩ : ∃ o, ops[9]? = some o ∧ o.op = .pick (.tmp 8) (.tmp 13) (.const (.bool false)) ∧ o.dst = some 14 ∧ o.guard = none := ⟨_, by rw [hops]; rfl, rfl, rfl, rfl⟩
    obtain ⟨o10, po10, q10, d10, gd10⟩ : ∃ o, ops[10]? = some o ∧ o.op = .assign (.tmp 14) ∧ o.dst = some 4 ∧ o.guard = none := ⟨_, by rw [hops]; rfl, rfl, rfl, rfl⟩
    clear hops
    refine met_free po0 d0 (wanted_of gd0) (fun w' h' => run_fieldFr q0 (by decide) base2 w') ?_
    refine met_free po1 d1 (wanted_of gd1) (fun w' h' => run_loadI3 q1 (eval_same _ _ _ (by rw [hsz]; decide)) (HC0.out _ h')) ?_
    refine met_free po2 d2 (wanted_of gd2) (fun w' h' => run_eqI3 q2 (eval_same _ _ _ (by simp only [put_size, hsz]; decide)) rfl HK.out w') ?_
    refine met_free po3 d3 (wanted_of gd3) (fun w' h' => run_move q3 (eval_same _ _ _ (by simp only [put_size, hsz]; decide)) w') ?_
    refine m_unwanted po4 d4 (w_not gd4 po3 d3 (eval_same _ _ _ (by simp only [put_size, hsz]; decide))) ?_
    refine m_unwanted po5 d5 (w_not gd5 po3 d3 ((eval_other _ 9 8 _ (by decide)).trans (eval_same _ _ _ (by simp only [put_size, hsz]; decide)))) ?_
    refine m_unwanted po6 d6 (w_not gd6 po3 d3 ((eval_other _ 10 8 _ (by decide)).trans ((eval_other _ 9 8 _ (by decide)).trans (eval_same _ _ _ (by simp only [put_size, hsz]; decide))))) ?_
    refine m_skipped po7 d7 (w_not gd7 po3 d3 ((eval_other _ 11 8 _ (by decide)).trans ((eval_other _ 10 8 _ (by decide)).trans ((eval_other _ 9 8 _ (by decide)).trans (eval_same _ _ _ (by simp only [put_size, hsz]; decide)))))) ⟨HD.out, ?_⟩
    refine m_skipped po8 d8 (w_not gd8 po3 d3 ((eval_other _ 12 8 _ (by decide)).trans ((eval_other _ 11 8 _ (by decide)).trans ((eval_other _ 10 8 _ (by decide)).trans ((eval_other _ 9 8 _ (by decide)).trans (eval_same _ _ _ (by simp only [put_size, hsz]; decide))))))) ⟨HD.out, ?_⟩
    refine met_free po9 d9 (wanted_of gd9) (fun w' h' => r_pickF q9 ((eval_other _ 13 8 _ (by decide)).trans ((eval_other _ 12 8 _ (by decide)).trans ((eval_other _ 11 8 _ (by decide)).trans ((eval_other _ 10 8 _ (by decide)).trans ((eval_other _ 9 8 _ (by decide)).trans (eval_same _ _ _ (by simp only [put_size, hsz]; decide))))))) rfl w') ?_
    refine met_free po10 d10 (wanted_of gd10) (fun w' h' => run_assign q10 (eval_same _ _ _ (by simp only [put_size, hsz]; decide)) w') ?_
    show NoPanic _ .normal _ _
    refine NoPanic.normal ?_
    rw [HAA.out]
    go_frame
    clear HAA
    clear po0 q0 d0 gd0 po1 q1 d1 gd1 po2 q2 d2 gd2 po3 q3 d3 gd3 po4 q4 d4 gd4 po5 q5 d5 gd5 po6 q6 d6 gd6 po7 q7 d7 gd7 po8 q8 d8 gd8 po9 q9 d9 gd9 po10 q10 d10 gd10
    clear base1 base2 hsz
    go_wp2_with fail
    go_ret
    rw [HI.out]
    exact ⟨rfl, HB2.out.trans (HD.out.mono HB2.out.size)⟩
end Go.Proofs.YteanjfcejpibaaaDoor

/-
  What find holds between two steps: the log, the rows so far, the frames of the segment.
-/
namespace Go.Proofs.YteanjfcejpibaaaDoor
open Go.RowKit Go.Proofs.ShaWords
theorem framesB_nine : ∀ fs : List Fr9, fs.length * 9 ≤ (framesB fs).length
  | [] => Nat.zero_le _
  | f :: fs => by
    have := framesB_nine fs
    rw [framesB_cons, List.length_append, frameB_length, List.length_cons]
    omega
theorem rowsW_many {segs : Nat → List RowW} {N : Nat} : ∀ k, (∀ s, 1 ≤ s → s ≤ k → (segs s).length ≤ N) → (rowsW segs k).length ≤ k * N
  | 0, _ => Nat.zero_le _
  | k + 1, h => by
    have := rowsW_many k (fun s h1 h2 => h s h1 (by omega))
    have h2 := h (k + 1) (by omega) (Nat.le_refl _)
    rw [rowsW_succ, List.length_append, Nat.succ_mul]
    omega
structure FnW (S : Nat → Prop) (w : World) (b g : Nat) (d : DiskM) (E n : Nat) (hv : Value) (vs : List Value) (rows : List RowW) (A : World) : Prop where
  log : LgIn S A b g d E n false
  rows : FrL w.heap.size A hv vs rows
  st : Stays (fun k => k = b) w A
structure FnF (S : Nat → Prop) (w : World) (b g : Nat) (d : DiskM) (E n : Nat) (hv : Value) (vs : List Value) (rows : List RowW) (B : Nat) (hf : Value) (us : List Value) (fs : List RowW) (A : World) : Prop where
  base : FnW S w b g d E n hv vs rows A
  fr : FrL B A hf us fs
  le : w.heap.size ≤ B
  apart : ∀ k, hv.ownBlock = some k → hf.ownBlock ≠ some k
section
variable {S : Nat → Prop} {w A A' : World} {b g E n B : Nat} {d : DiskM} {hv hf : Value} {vs us : List Value} {rows fs : List RowW}
theorem FnW.below (h : FnW S w b g d E n hv vs rows A) (hb : Below A.heap.size A A') : FnW S w b g d E n hv vs rows A' :=
  ⟨h.log.below hb, h.rows.below hb, h.st.trans (Below.stays (F := fun _ => False) hb) (fun _ f _ => f.elim)⟩
theorem FnF.below (h : FnF S w b g d E n hv vs rows B hf us fs A) (hb : Below A.heap.size A A') : FnF S w b g d E n hv vs rows B hf us fs A' :=
  ⟨h.base.below hb, h.fr.below hb, h.le, h.apart⟩
theorem set2_stays (A : World) (b : Nat) (x y : Value) : Stays (fun k => k = b) A ((A.setCell ⟨b, 1, none⟩ x).setCell ⟨b, 2, none⟩ y) :=
  (grown_stays (F := fun k => k = b) (grown_setCell A b 1 x) (fun k e => by cases e; rfl)).trans (grown_stays (F := fun k => k = b) (grown_setCell _ b 2 y) (fun k e => by cases e; rfl)) (fun k e _ => e)
theorem FrL.aside {C : Nat} (h : FrL C A hf us fs) (hs : Stays (fun k => k = b) A A') (hb : b < C) : FrL C A' hf us fs := h.keep hs (fun _ hk _ e => by omega)
theorem FnW.seg (h : FnW S w b g d E n hv vs rows A) (hb : b < w.heap.size) (s m : Nat) : FnW S w b g d s m hv vs rows ((A.setCell ⟨b, 1, none⟩ (.int .i64 (s : Int))).setCell ⟨b, 2, none⟩ (.int .i64 (m : Int))) :=
  ⟨(h.log.put (lg_seg g E n false s (s : Int) rfl)).put (lg_size g s n false m (m : Int) rfl), h.rows.aside (set2_stays _ _ _ _) hb, h.st.trans (set2_stays _ _ _ _) (fun _ e _ => e)⟩
theorem FnF.seg (h : FnF S w b g d E n hv vs rows B hf us fs A) (hb : b < w.heap.size) (s m : Nat) : FnF S w b g d s m hv vs rows B hf us fs ((A.setCell ⟨b, 1, none⟩ (.int .i64 (s : Int))).setCell ⟨b, 2, none⟩ (.int .i64 (m : Int))) :=
  ⟨h.base.seg hb s m, h.fr.aside (set2_stays _ _ _ _) (Nat.lt_of_lt_of_le hb h.le), h.le, h.apart⟩
/-- One frame more among the rows. -/
theorem FnF.app (h : FnF S w b g d E n hv vs rows B hf us fs A) (hS : ∀ k, S k → k < w.heap.size) (hb : b < w.heap.size) {i : Nat} {f : RowW} {v hv' : Value} (h1 : fs[i]? = some f) (h2 : us[i]? = some v) (hA : ∀ (j : Nat) (u : Value) (k : Nat), vs[j]? = some u → u.ownBlock = some k → v.ownBlock ≠ some k)
    (hrow : A'.ownsRow w.heap.size 46 2 hv' (rows.length + 1) (frCells rows vs ++ [.int .i64 (n8 f.1), v])) (hg : A.grownBy A' hv.ownBlock) (ho : hv'.ownBlock = hv.ownBlock ∨ hv'.ownBlock = some A.heap.size) :
    FnF S w b g d E n hv' (vs ++ [v]) (rows ++ [f]) B hf us fs A' := by
  have hlo : ∀ k, hv.ownBlock = some k → w.heap.size ≤ k := fun k e => (World.ownsRow.lt h.base.rows.rows k e).1
  have hs : Stays (fun k => hv.ownBlock = some k) A A' := grown_stays hg (fun k e => e)
  have hst := h.base.st.trans hs (fun k e hk => by have := hlo k e; omega)
  have hv1 := h.fr.each i v f h2 h1
  refine ⟨⟨⟨h.base.log.disk.keep hs (fun k e s => by have := hlo k e; have := hS k s; omega), (hs.block b h.base.log.lt (fun e => by have := hlo b e; omega)).trans h.base.log.log, h.base.log.out⟩, ?_, hst⟩, h.fr.same fun k hk => hs.block k (h.fr.blk hk).2 (fun e => ?_), h.le, fun k e e2 => ?_⟩
  · exact h.base.rows.snocA (ownsRow_lower hv1 h.le) hA hrow hg
  · rcases hk with hk | ⟨j, u, h3, hk⟩
    · exact h.apart k e hk
    · obtain ⟨f2, hf2, ho2⟩ := h.fr.at h3
      exact own_not_row ho2 h.base.rows.rows hk e
  · rcases ho with ho | ho
    · rw [ho] at e; exact h.apart k e e2
    · rw [ho] at e
      cases e
      have := (World.ownsRow.lt h.fr.rows _ e2).2
      omega
theorem FnW.frames (h : FnW S w b g d E n hv vs rows A) (hb : Below A.heap.size A A') {C : Nat} (hC : A.heap.size ≤ C) (hfr : FrL C A' hf us fs) : FnF S w b g d E n hv vs rows C hf us fs A' :=
  ⟨h.below hb, hfr, Nat.le_trans h.st.size hC, fun k e e2 => by
    have h1 := (World.ownsRow.lt h.rows.rows k e).2
    have h2 := (World.ownsRow.lt hfr.rows k e2).1
    omega⟩
end
section
variable {ρ : Operand → Value} {o : Oper} {x y : Operand}
theorem run_loadElF {gF i : Nat} {u v : Value} {w : World} (ho : o.op = .load 46 x) (hx : ρ x = .pointer (some ⟨gF, i, none⟩)) (h0 : w.cell? ⟨gF, i, none⟩ = some u) (h1 : w.cell? ⟨gF, i + 1, none⟩ = some v) : (execOp ρ o).run Tryd.prog w = .ok (.value (.agg #[u, v])) w := by
  have hl := run_loadAt_mid (P := Tryd.prog) w gF i 46 [u, v] _ (fun j y hy => by
    match j, hy with
    | 0, hy => simp only [List.getElem?_cons_zero, Option.some.injEq] at hy; subst hy; exact h0
    | 1, hy => simp only [List.getElem?_cons_succ, List.getElem?_cons_zero, Option.some.injEq] at hy; subst hy; exact h1) Tryd.underlying46 rfl sizeFrame
  unfold execOp
  simp only [ho, hx, Sem.run_bind, hl, Result.andThen_ok, Sem.run_pure]
theorem wpList_runL {P : Program} {ops : Array Oper} {rest : List Oper} {a : Act} {w w' : World} {Q : Exit → Act → World → Prop} {v : Value} (hw : Region.wanted o (yielded ops a.tmps) = true) (hr : (execOp a.eval o).run P w = .ok (.value v) w')
    (h : wpList P ops Q rest (a.put o.dst v) w') : wpList P ops Q (o :: rest) a w := by
  unfold wpList
  rw [if_pos hw]
  refine .inl ?_
  unfold Oper.wp
  rw [hr, Oper.upon_value]
  exact h
end
end Go.Proofs.YteanjfcejpibaaaDoor

/-
  find: the rows of the log that a disk has, and where it ends.
-/
namespace Go.Proofs.YteanjfcejpibaaaDoor
open Go.RowKit Go.Proofs.ShaWords
def nAt (segs : Nat → List RowW) (k : Nat) : Nat := if k = 0 then 0 else (framesB (hdW k :: segs k)).length
/-- A segment as it is scanned, where the log goes on into it. -/
theorem LogOf.at {F : Nat → List (BitVec 8)} {E : Nat} {segs : Nat → List RowW} {r : List (BitVec 8)} (h : LogOf F E segs r) {k : Nat} (hk : k < E) : ∃ r1, ScanOf (F (k + 1)) (hdW (k + 1) :: segs (k + 1)) r1 ∧ (k + 1 < E → r1 = []) ∧ (k + 1 = E → r1 = r) := by
  by_cases e : k + 1 < E
  · exact ⟨[], h.whole (k + 1) (by omega) e, fun _ => rfl, fun x => by omega⟩
  · have e2 : k + 1 = E := by omega
    subst e2
    exact ⟨r, h.last (by omega), fun x => by omega, fun _ => rfl⟩
theorem FrL.cellAt {B : Nat} {w : World} {gF n cF : Nat} {us : List Value} {fs : List Fr9} (h : FrL B w (.slice (some ⟨gF, 0, none⟩) n cF) us fs) (hn : fs.length = n) (i : Nat) (f : Fr9) (v : Value) (h1 : fs[i]? = some f) (h2 : us[i]? = some v) :
    w.cell? ⟨gF, i * 2, none⟩ = some (.int .i64 (n8 f.1)) ∧ w.cell? ⟨gF, i * 2 + 1, none⟩ = some v := by
  subst hn
  obtain ⟨g, cc, e, -, -, -, hc⟩ := h.cell (by have := (List.getElem?_eq_some_iff.1 h1).1; omega)
  cases e
  exact hc i f v h1 h2
theorem fn_apart {vs us : List Value} {fs : List Fr9} {i BB : Nat} {v hf : Value} {A : World} (hvs : ∀ (j : Nat) (u : Value) (k : Nat), vs[j]? = some u → u.ownBlock = some k → k < BB) (hfr : FrL BB A hf us fs) (hv : us[i]? = some v) (_hi : 1 ≤ i) :
    ∀ (j : Nat) (u : Value) (k : Nat), (vs ++ (us.drop 1).take (i - 1))[j]? = some u → u.ownBlock = some k → v.ownBlock ≠ some k := fun j u k h1 h2 e => by
  by_cases hj : j < vs.length
  · rw [List.getElem?_append_left hj] at h1
    have := hvs j u k h1 h2
    have := (hfr.lt hv e).1
    omega
  · rw [List.getElem?_append_right (by omega), List.getElem?_take] at h1
    split at h1
    · rw [List.getElem?_drop] at h1
      exact hfr.apart (1 + (j - vs.length)) i u v k (by omega) h1 hv h2 e
    · cases h1
theorem take_nextW {α : Type} {l : List α} {i : Nat} {x y : α} (h : (y :: l)[i]? = some x) (hi : 1 ≤ i) : l.take (i - 1) ++ [x] = l.take i := by
  obtain ⟨j, rfl⟩ : ∃ j, i = j + 1 := ⟨i - 1, by omega⟩
  rw [List.getElem?_cons_succ] at h
  obtain ⟨hj, e⟩ := List.getElem?_eq_some_iff.1 h
  rw [Nat.add_sub_cancel, List.take_succ_eq_append_getElem hj, e]
theorem drop_nextW {α : Type} {us : List α} {i : Nat} {v : α} (h : us[i]? = some v) (hi : 1 ≤ i) : (us.drop 1).take (i - 1) ++ [v] = (us.drop 1).take i := by
  obtain ⟨hj, e⟩ := List.getElem?_eq_some_iff.1 h
  cases us with
  | nil => simp at hj
  | cons y l => exact take_nextW h hi
theorem rows_few {F : Nat → List (BitVec 8)} {E : Nat} {segs : Nat → List RowW} {r : List (BitVec 8)} (h : LogOf F E segs r) (hsm : ∀ s, 1 ≤ s → s ≤ 32 → (F s).length < 100000) {k : Nat} (hk : k ≤ E) : (rowsW segs k).length ≤ k * 11111 :=
  rowsW_many k fun s h1 h2 => by
    obtain ⟨j, rfl⟩ : ∃ j, s = j + 1 := ⟨s - 1, by omega⟩
    obtain ⟨r1, hS, -, -⟩ := h.at (show j < E by omega)
    have h3 := hsm (j + 1) h1 (by have := h.le; omega)
    rw [hS.eq, List.length_append] at h3
    have h4 := framesB_nine (hdW (j + 1) :: segs (j + 1))
    rw [List.length_cons] at h4
    omega
theorem run_loadFrW {ρ : Operand → Value} {o : Oper} {x : Operand} {T : Nat} {u v : Value} {w : World} (ho : o.op = .load 46 x) (hx : ρ x = .pointer (some ⟨T, 0, none⟩)) (hC : FrC w T u v) : (execOp ρ o).run Tryd.prog w = .ok (.value (.agg #[u, v])) w :=
  run_loadElF ho hx hC.cells.1 hC.cells.2.1
set_option maxRecDepth 1000000 in
set_option maxHeartbeats 8000000 in
theorem waFind_any (S : Nat → Prop) (b g : Nat) (d : DiskM) (w : World) (E : Nat) (segs : Nat → List RowW) (r : List (BitVec 8)) (h : LgIn S w b g d 0 0 false) (hLog : LogOf (fun s => (d.files s).all) E segs r) (hsm : ∀ s, 1 ≤ s → s ≤ 32 → (d.files s).all.length < 100000)
    (hR : ∀ w', Stays (fun k => k = b) w w' → Rem w') :
    Calls Tryd.prog 24 #[.pointer (some ⟨b, 0, none⟩)] w fun e w' => ∃ hv vs, e = .returned hv ∧ FnW S w b g d E (nAt segs E) hv vs (rowsW segs E) w' := by
  have HLOG := Lib.hid hLog
  have HSM := Lib.hid hsm
  have HR := Lib.hid hR
  have HB : Hid (b < w.heap.size) := show _ < _ from h.lt
  have HS : Hid (∀ k, S k → k < w.heap.size) := show ∀ k, _ → _ from by
    obtain ⟨⟨vs, hv⟩, -⟩ := h.disk
    exact hv.dom
  have H0 : Hid (FnW S w b g d 0 0 (.slice none 0 0) [] [] w) := ⟨h, FrL.nil _ _, Stays.refl _ _⟩
  have HE : Hid (E ≤ 32) := show _ ≤ _ from hLog.le
  clear h hLog hsm hR
  go_enter Tryd.func24, Tryd.ntmps24
  go_wp2
  go_step3
  go_wp2
  go_step3
  go_wp2
  go_loopg [3, 11] 32 (fun gk s3 s11 wx => ∃ (k : Nat) (hv : Value) (vs : List Value), k + gk = 32 ∧ s11 = .int .i64 (k : Int) ∧ s3 = hv ∧ k ≤ E ∧ Hid (k = E → r = []) ∧ FnW S w b g d k (nAt segs k) hv vs (rowsW segs k) wx)
  case atStart => exact ⟨0, _, [], by omega, rfl, rfl, Nat.zero_le _, (show _ → _ from fun e => HLOG.out.none e.symm), H0.out⟩
  case round =>
    clear H0
    obtain ⟨k, hv, vs, hkg, rfl, rfl, hkE, HRR, hW⟩ := hrel
    obtain ⟨q3, c3, rfl, -⟩ := hW.rows.sl9 (n := (rowsW segs k).length) rfl
    have HW := Lib.hid hW
    clear hW
    generalize hNR : (rowsW segs k).length = NR at HW ⊢
    have HNR := Lib.hid hNR
    clear hNR
    cases gk with
    | zero =>
      have hk : ¬ (k : Int) < 32 := by omega
      have HKE : Hid (k = E) := show _ = _ by have := HE.out; omega
      go_wp2_with fail
      try rw [Exit.noGoto_ret]
      go_ret
      have hw := HW.out
      rw [HKE.out] at hw
      exact ⟨_, vs, rfl, hw⟩
    | succ g1 =>
      have hk : (k : Int) < 32 := by omega
      have hk32 : (k : Int) + 1 ≤ 32 := by omega
      obtain ⟨lc0, lc1, lc2, -, lfz⟩ := HW.out.log.cells
      have hrd : d.read ((k : Int) + 1) = (d.files (k + 1)).all := by
        unfold DiskM.read
        rw [if_pos (by omega), show ((k : Int) + 1).toNat = k + 1 by omega]
      have hRead := dkRead_any S g d ((k : Int) + 1) wr HW.out.log.disk
      rw [hrd] at hRead
      have HRD := Lib.hid hRead
      have hall := HSM.out (k + 1) (by omega) (by omega)
      obtain ⟨al, hal⟩ : ∃ al, al = (d.files (k + 1)).all := ⟨_, rfl⟩
      rw [← hal] at HRD hall
      have HAL := Lib.hid hal
      obtain ⟨na, hna⟩ : ∃ na, al.length = na := ⟨_, rfl⟩
      have hna9 : na < 100000 := by omega
      have HNA := Lib.hid hna
      clear hrd hRead hal lc1 lc2 lfz hna hall
      go_upto_region 7 with (fail)
      go_wp2_with (go_at_call 19; fail)
      refine HRD.out.mono ?_
      rintro e w1 ⟨v, rfl, ho, b1⟩
      obtain ⟨qa, ca, rfl, hca, -, hla⟩ := ho.slN HNA.out
      have HLA := Lib.hid hla
      have HB1 := Lib.hid b1
      have hR1 := HR.out w1 (HW.out.below b1).st
      have HR1 := Lib.hid hR1
      clear ho hla b1 hR1 lc0 HRD
      by_cases hlt : k < E
      · obtain ⟨r1, hS0, hr0, hrE⟩ := HLOG.out.at hlt
        have hS : ScanOf al (hdW (k + 1) :: segs (k + 1)) r1 := by rw [HAL.out]; exact hS0
        have hNRB := rows_few HLOG.out HSM.out (k := k + 1) (by omega)
        rw [rowsW_succ, List.length_append, HNR.out] at hNRB
        have HSC := Lib.hid (scan_any al na qa ca w1 _ r1 HNA.out hca hna9 HLA.out HR1.out hS)
        have hlen := congrArg List.length hS.eq
        rw [HNA.out, List.length_append] at hlen
        have hnat : nAt segs (k + 1) = (framesB (hdW (k + 1) :: segs (k + 1))).length := if_neg (by omega)
        obtain ⟨m, hm⟩ : ∃ m, (segs (k + 1)).length = m := ⟨_, rfl⟩
        rw [hm] at hNRB
        have HNRB : Hid (NR + m ≤ 1000000) := show _ ≤ _ by have := HE.out; omega
        have HM := Lib.hid hm
        have hml : (hdW (k + 1) :: segs (k + 1)).length = m + 1 := by rw [List.length_cons, hm]
        have HLEN1 := Lib.hid hlen
        have HNAT1 := Lib.hid hnat
        have HR0 := Lib.hid hr0
        have HRE := Lib.hid hrE
        have HML := Lib.hid hml
        clear hS hS0 hNRB hm hlen hnat hr0 hrE hml
        go_wp2_with (go_at_call 43; fail)
        refine HSC.out.mono ?_
        rintro e w2 ⟨hf, us, rfl, hfr, b2⟩
        have hlen := HLEN1.out
        have hnat := HNAT1.out
        have hml := HML.out
        clear HLEN1 HNAT1
        have hF := HW.out.frames (HB1.out.trans (b2.mono HB1.out.size)) HB1.out.size hfr
        clear HSC
        generalize (framesB (hdW (k + 1) :: segs (k + 1))).length = L at hlen hnat ⊢
        have HLEN := Lib.hid hlen
        have HNAT := Lib.hid hnat
        obtain ⟨gF, cF, e, -, -, -, -⟩ := hF.fr.cell (by rw [List.length_cons]; omega)
        subst e
        rw [hml] at hF ⊢
        obtain ⟨BB, hBB⟩ : ∃ BB, BB = w1.heap.size := ⟨_, rfl⟩
        rw [← hBB] at hF
        have HVS : Hid (∀ (j : Nat) (u : Value) (k : Nat), vs[j]? = some u → u.ownBlock = some k → k < BB) := show ∀ j u k, _ → _ → _ from fun j u k h1 h2 => by
          rw [hBB]
          have := (HW.out.rows.lt h1 h2).2
          have := HB1.out.size
          omega
        have HF : Hid (FnF S w b g d (if 0 = 0 then k else k + 1) (if 0 = 0 then nAt segs k else L) (.slice q3 NR c3) (vs ++ (us.drop 1).take (0 - 1)) (rowsW segs k ++ (segs (k + 1)).take (0 - 1)) BB (.slice (some ⟨gF, 0, none⟩) (m + 1) cF) us (hdW (k + 1) :: segs (k + 1)) w2) := show FnF _ _ _ _ _ _ _ _ _ _ _ _ _ _ _ by
          simpa using hF
        have qm : (0 : Int) < ((m + 1 : Nat) : Int) := by omega
        clear hfr b2 hF hlen hnat hml hBB
        go_wp2_with fail
        go_loopg [3, 29] (m + 1) (fun gj s3 s29 wx => ∃ (i : Nat) (hv : Value), i + gj = m + 1 ∧ s29 = .int .i64 (i : Int) ∧ s3 = hv ∧ FnF S w b g d (if i = 0 then k else k + 1) (if i = 0 then nAt segs k else L) hv (vs ++ (us.drop 1).take (i - 1)) (rowsW segs k ++ (segs (k + 1)).take (i - 1)) BB (.slice (some ⟨gF, 0, none⟩) (m + 1) cF) us (hdW (k + 1) :: segs (k + 1)) wx)
        case atStart => exact ⟨0, _, by omega, rfl, rfl, HF.out⟩
        case round =>
          clear HF
          obtain ⟨i, hv, hij, rfl, rfl, hI⟩ := hrel
          obtain ⟨NI, hNI⟩ : ∃ NI, (rowsW segs k ++ (segs (k + 1)).take (i - 1)).length = NI := ⟨_, rfl⟩
          obtain ⟨q5, c5, rfl, -⟩ := hI.base.rows.sl9 hNI
          have HI := Lib.hid hI
          have HNI := Lib.hid hNI
          cases gk with
          | zero =>
            have hi : i = m + 1 := by omega
            have hW2 := hI.base
            rw [if_neg (by omega), if_neg (by omega), hi, Nat.add_sub_cancel, ← HM.out, List.take_length, ← rowsW_succ, ← HNAT.out] at hW2
            have HW2 := Lib.hid hW2
            have qi : ¬ (i : Int) < ((m + 1 : Nat) : Int) := by omega
            have q0 : ¬ ((m + 1 : Nat) : Int) = 0 := by omega
            clear hI hW2 hNI
            by_cases hr1 : r1 = []
            · have ql : ¬ (L : Int) < (na : Int) := by have := HLEN.out; rw [hr1] at this; simp at this; omega
              have HR2 : Hid (k + 1 = E → r = []) := show _ → _ from fun e => by rw [← HRE.out e]; exact hr1
              clear hr1
              go_wp2_with fail
              go_roundg g1
              case measure => omega
              case rel => exact ⟨k + 1, _, _, by omega, by first | rfl | simp, rfl, by omega, HR2, HW2.out⟩
            · have ql : (L : Int) < (na : Int) := by
                have := HLEN.out
                have h1 : r1.length ≠ 0 := fun x => hr1 (List.length_eq_zero_iff.1 x)
                omega
              have HKE : Hid (k + 1 = E) := show _ = _ by
                rcases Nat.lt_or_ge (k + 1) E with x | x
                · exact absurd (HR0.out x) hr1
                · omega
              clear hr1
              go_wp2_with fail
              try rw [Exit.noGoto_ret]
              go_ret
              have hw := HW2.out
              rw [HKE.out] at hw
              exact ⟨_, _, rfl, hw⟩
          | succ gj =>
            have hi : i < m + 1 := by omega
            have qi : (i : Int) < ((m + 1 : Nat) : Int) := by omega
            obtain ⟨f, hfi⟩ : ∃ f, (hdW (k + 1) :: segs (k + 1))[i]? = some f := ⟨_, List.getElem?_eq_getElem (by rw [HML.out]; exact hi)⟩
            obtain ⟨u, hu⟩ : ∃ u, us[i]? = some u := ⟨_, List.getElem?_eq_getElem (by rw [hI.fr.len, HML.out]; exact hi)⟩
            have hou := hI.fr.each i u f hu hfi
            obtain ⟨hc0, hc1⟩ := hI.fr.cellAt HML.out i f u hfi hu
            obtain ⟨qu, cu, rfl, -, -, hlu⟩ := hou.slN (n := f.2.length) rfl
            have HLU := Lib.hid hlu
            have HFI := Lib.hid hfi
            have HU := Lib.hid hu
            clear hI hou hlu hfi hu hNI
            have HQI : Hid ((i : Int) < 2000000 ∧ True) := show _ ∧ True from ⟨by have := HNRB.out; omega, trivial⟩
            by_cases hi0 : i = 0
            · subst hi0
              have hf : hdW (k + 1) = f := by have := HFI.out; simpa using this
              subst hf
              have HI0 : Hid (FnF S w b g d k (nAt segs k) (.slice q5 NI c5) (vs ++ (us.drop 1).take (0 - 1)) (rowsW segs k ++ (segs (k + 1)).take (0 - 1)) BB (.slice (some ⟨gF, 0, none⟩) (m + 1) cF) us (hdW (k + 1) :: segs (k + 1)) wr) := HI.out
              clear HI
              simp only [Nat.zero_mul, Nat.zero_add] at hc0 hc1
              go_upto_region 11 with (first | (refine wpList_runL (by rfl) (run_loadElF rfl rfl hc0 hc1) ?_))
              refine wp_gen (fun A => Below wr.heap.size wr A ∧ FrC A wr.heap.size (.int .i64 (n8 (hdW (k + 1)).1)) (.slice qu (hdW (k + 1)).2.length cu)) ⟨(Below.refl _ _).alloc (Nat.le_refl _) _, heap_new_at rfl⟩ ?_
              rintro A ⟨bA, fA⟩
              have hh := isHead_any (hdW (k + 1)).1 (hdW (k + 1)).2 (hdW (k + 1)).2.length cu (k + 1) qu A rfl (HLU.out.below bA)
              rw [show ((k + 1 : Nat) : Int) = (k : Int) + 1 by omega, show isHd ((hdW (k + 1)).1, (hdW (k + 1)).2) (k + 1) = true from decide_eq_true rfl] at hh
              have HH := Lib.hid hh
              have HIA := Lib.hid (HI0.out.below bA)
              clear hh bA hc0 hc1
              go_wp2_with (first | (refine wpList_runL (by rfl) (run_loadFrW rfl rfl fA) ?_) | (go_at_call 44; fail))
              refine HH.out.mono ?_
              rintro e w4 ⟨rfl, b4⟩
              have hI4 := HIA.out.below b4
              have hI5 := hI4.seg HB.out (k + 1) L
              rw [show ((k + 1 : Nat) : Int) = (k : Int) + 1 by omega] at hI5
              have HI5 := Lib.hid hI5
              obtain ⟨-, d1, -, -, dz⟩ := hI4.base.log.cells
              have z1 := dz 1
              have hl1 := hI4.base.log.put (lg_seg g k (nAt segs k) false (k + 1) ((k : Int) + 1) (by omega))
              obtain ⟨-, -, d2, -, dz2⟩ := hl1.cells
              have z2 := dz2 2
              clear hI4 hI5 b4 dz dz2 hl1 fA HI0 HIA HH
              go_wp2_with fail
              go_roundg gj
              case measure => omega
              case rel => exact ⟨1, _, by omega, by first | rfl | simp, rfl, HI5.out⟩
            · have hI := HI.out
              rw [if_neg hi0, if_neg hi0] at hI
              have HI1 := Lib.hid hI
              have HVV := Lib.hid (fn_apart HVS.out hI.fr HU.out (by omega))
              have HNX : Hid ((segs (k + 1)).take (i - 1) ++ [f] = (segs (k + 1)).take (i + 1 - 1)) := show _ = _ by rw [Nat.add_sub_cancel]; exact take_nextW HFI.out (by omega)
              have HUX : Hid ((us.drop 1).take (i - 1) ++ [Value.slice qu f.2.length cu] = (us.drop 1).take (i + 1 - 1)) := show _ = _ by rw [Nat.add_sub_cancel]; exact drop_nextW HU.out (by omega)
              have HN6 : Hid (NI ≤ 1000000) := show _ ≤ _ by
                have := HNI.out
                rw [List.length_append, HNR.out, List.length_take] at this
                have := HNRB.out
                have := HM.out
                omega
              have HNZ := Lib.hid hi0
              clear HI hI hi0
              go_upto_region 11 with (first | (refine wpList_runL (by rfl) (run_loadElF rfl rfl hc0 hc1) ?_))
              refine wp_gen (fun A => Below wr.heap.size wr A ∧ FrC A wr.heap.size (.int .i64 (n8 f.1)) (.slice qu f.2.length cu)) ⟨(Below.refl _ _).alloc (Nat.le_refl _) _, heap_new_at rfl⟩ ?_
              rintro A ⟨bA, fA⟩
              have hIA := HI1.out.below bA
              have HIA := Lib.hid hIA
              have hrow := hIA.base.rows.rows
              rw [HNI.out] at hrow
              have HROW := Lib.hid hrow
              have h2c : ∀ u ∈ [Value.int .i64 (n8 f.1), .slice qu f.2.length cu], u.oneCell' = true := by
                intro u hu
                simp only [List.mem_cons, List.not_mem_nil, or_false] at hu
                rcases hu with rfl | rfl <;> rfl
              have hsA : w.heap.size ≤ A.heap.size := hIA.base.st.size
              clear bA hIA hrow hc0 hc1 HI1
              have qi0 : (0 : Int) < (i : Int) := by have := HNZ.out; omega
              go_upto_region 12 with (fail)
              refine wp_region_lit ?_
              refine wpList_runL (by rfl) (run_move rfl rfl _) ?_
              refine wpList_runL (by rfl) (run_loadFrW rfl rfl fA) ?_
              refine wpList_runL (by rfl) (frT.run_one rfl rfl rfl _) ?_
              refine frT.wpList_append (base := w.heap.size) (n := NI) (C := #[.int .i64 (n8 f.1), .slice qu f.2.length cu]) (by rfl) rfl rfl (HROW.out.alloc _) rfl (heap_new_at rfl) rfl h2c HN6.out (by rw [size_alloc]; omega) ?_
              intro v7 w7 hrow7 hg7 ho7
              have hb1 : Below A.heap.size A (A.alloc (.cells #[.int .i64 (n8 f.1), .slice qu f.2.length cu] 46)) := (Below.refl _ _).alloc (Nat.le_refl _) _
              have hI7 := (HIA.out.below hb1).app HS.out HB.out HFI.out HU.out HVV.out (by rw [HNI.out]; exact hrow7) hg7 ho7
              rw [List.append_assoc, HUX.out, List.append_assoc, HNX.out] at hI7
              obtain ⟨q7, c7, rfl, -⟩ := hI7.base.rows.sl9 (n := NI + 1) (by rw [← HNX.out, ← List.append_assoc, List.length_append, HNI.out]; rfl)
              have HI7 := Lib.hid hI7
              clear hI7 hrow7 hg7 ho7 hb1 HIA HROW fA h2c
              have hqi6 := HQI.out.1
              go_frame
              go_wp2_with fail
              go_roundg gj
              case measure => omega
              case rel => exact ⟨i + 1, _, by omega, by first | rfl | simp, rfl, by rw [if_neg (by omega), if_neg (by omega)]; exact HI7.out⟩
      · have hkE2 : k = E := by omega
        subst hkE2
        have HRN : Hid (r = []) := show _ = _ from HRR.out rfl
        obtain ⟨fs, r1, hS⟩ := scan_ex al.length al (Nat.le_refl _)
        have HNO : Hid (∀ f gs, fs = f :: gs → isHd f (k + 1) = false) := show ∀ f gs, _ → _ from fun f gs e => by
          unfold isHd
          refine decide_eq_false fun e2 => ?_
          rcases HLOG.out.stop with x | x | x
          · omega
          · exact x HRN.out
          · refine x gs r1 ?_
            rw [e, e2, HAL.out] at hS
            exact hS
        have HSC := Lib.hid (scan_any al na qa ca w1 fs r1 HNA.out hca hna9 HLA.out HR1.out hS)
        clear hS HRR hkE hlt
        go_wp2_with (go_at_call 43; fail)
        refine HSC.out.mono ?_
        rintro e w2 ⟨hf, us, rfl, hfr, b2⟩
        have hF := HW.out.frames (HB1.out.trans (b2.mono HB1.out.size)) HB1.out.size hfr
        generalize (framesB fs).length = L
        cases fs with
        | nil =>
          obtain ⟨qf, cf, rfl, -⟩ := hF.fr.sl9 (n := 0) rfl
          have HF := Lib.hid hF
          clear hfr b2 hF HSC
          go_wp2_with fail
          go_loopg [3, 29] 0 (fun gj s3 s29 wx => gj = 0 ∧ s3 = .slice q3 NR c3 ∧ s29 = .int .i64 0 ∧ w2 = wx)
          case atStart => exact ⟨rfl, rfl, rfl, rfl⟩
          case round =>
            obtain ⟨rfl, rfl, rfl, rfl⟩ := hrel
            go_wp2_with fail
            try rw [Exit.noGoto_ret]
            go_ret
            exact ⟨_, vs, rfl, HF.out.base⟩
        | cons f gs =>
          obtain ⟨m, hm⟩ : ∃ m, gs.length = m := ⟨_, rfl⟩
          obtain ⟨gF, cF, rfl, -, -, -, hcell⟩ := hF.fr.cell (by rw [List.length_cons]; omega)
          obtain ⟨u, hu⟩ : ∃ u, us[0]? = some u := ⟨_, List.getElem?_eq_getElem (by rw [hF.fr.len, List.length_cons]; omega)⟩
          have hou := hF.fr.each 0 u f hu rfl
          obtain ⟨hc0, hc1⟩ := hcell 0 f u rfl hu
          obtain ⟨qu, cu, rfl, -, -, hlu⟩ := hou.slN (n := f.2.length) rfl
          rw [List.length_cons, hm] at hF ⊢
          have HF := Lib.hid hF
          have HLU := Lib.hid hlu
          have HIS := Lib.hid (HNO.out f gs rfl)
          have qm : (0 : Int) < ((m + 1 : Nat) : Int) := by omega
          simp only [Nat.zero_mul, Nat.zero_add] at hc0 hc1
          clear hfr b2 hF HSC hcell hou hlu hu
          go_wp2_with fail
          go_loopg [3, 29] 0 (fun gj s3 s29 wx => gj = 0 ∧ s3 = .slice q3 NR c3 ∧ s29 = .int .i64 0 ∧ w2 = wx)
          case atStart => exact ⟨rfl, rfl, rfl, rfl⟩
          case round =>
            obtain ⟨rfl, rfl, rfl, rfl⟩ := hrel
            go_upto_region 11 with (first | (refine wpList_runL (by rfl) (run_loadElF rfl rfl hc0 hc1) ?_))
            refine wp_gen (fun A => Below w2.heap.size w2 A ∧ FrC A w2.heap.size (.int .i64 (n8 f.1)) (.slice qu f.2.length cu)) ⟨(Below.refl _ _).alloc (Nat.le_refl _) _, heap_new_at rfl⟩ ?_
            rintro A ⟨bA, fA⟩
            have hh := isHead_any f.1 f.2 f.2.length cu (k + 1) qu A rfl (HLU.out.below bA)
            rw [show ((k + 1 : Nat) : Int) = (k : Int) + 1 by omega, show isHd (f.1, f.2) (k + 1) = false from HIS.out] at hh
            have HH := Lib.hid hh
            have HBA := Lib.hid bA
            clear hh bA
            go_wp2_with (first | (refine wpList_runL (by rfl) (run_loadFrW rfl rfl fA) ?_) | (go_at_call 44; fail))
            refine HH.out.mono ?_
            rintro e w4 ⟨rfl, b4⟩
            have HB4 := Lib.hid b4
            clear b4
            go_wp2_with fail
            try rw [Exit.noGoto_ret]
            go_ret
            exact ⟨_, vs, rfl, (HF.out.base.below HBA.out).below HB4.out⟩
end Go.Proofs.YteanjfcejpibaaaDoor

/-
  trim: what stands behind the log's end is cut off, while the power stays.
-/
namespace Go.Proofs.YteanjfcejpibaaaDoor
open Go.RowKit Go.Proofs.ShaWords
theorem DiskM.Calm.cut {d : DiskM} (h : d.Calm) {f n : Nat} (hf : f ≤ 32) (hn : n ≤ (d.files f).all.length) : d.cut (f : Int) (n : Int) = ({ d with files := cutF f n d.files, count := d.count + 1 }, 0) := by
  unfold DiskM.cut
  rw [if_neg (by rw [h.openE (by omega)]; decide), Int.toNat_natCast, if_neg (by omega), h.exec, h.execE, Int.toNat_natCast]
def keptW (E n s : Nat) : Nat := if s = E then n else 0
/-- The files when the first k segments have been looked at. -/
def trimF (F : Nat → FileM) (E n k : Nat) : Nat → FileM := fun s => if s = 0 ∨ k < s ∨ s < E then F s else if (F s).all.length = keptW E n s then F s else ⟨(F s).all.take (keptW E n s), keptW E n s⟩
theorem trimF_zero (F : Nat → FileM) (E n : Nat) : trimF F E n 0 = F := by
  funext s
  unfold trimF
  rw [if_pos (by omega)]
theorem trimF_ahead (F : Nat → FileM) (E n k : Nat) : trimF F E n k (k + 1) = F (k + 1) := by unfold trimF; rw [if_pos (by omega)]
theorem trimF_skip {F : Nat → FileM} {E n k : Nat} (h : k + 1 < E ∨ (F (k + 1)).all.length = keptW E n (k + 1)) : trimF F E n (k + 1) = trimF F E n k := by
  funext s
  unfold trimF
  by_cases e : s = k + 1
  · subst e
    rw [if_pos (show k + 1 = 0 ∨ k < k + 1 ∨ k + 1 < E by omega)]
    rcases h with h | h
    · rw [if_pos (by omega)]
    · by_cases h2 : k + 1 < E
      · rw [if_pos (by omega)]
      · rw [if_neg (by omega), if_pos h]
  · by_cases h2 : s = 0 ∨ k < s ∨ s < E
    · rw [if_pos h2, if_pos (by omega)]
    · rw [if_neg h2, if_neg (by omega)]
theorem trimF_cut {F : Nat → FileM} {E n k : Nat} (h : ¬ k + 1 < E) (h2 : ¬ (F (k + 1)).all.length = keptW E n (k + 1)) : trimF F E n (k + 1) = cutF (k + 1) (keptW E n (k + 1)) (trimF F E n k) := by
  funext s
  unfold cutF
  by_cases e : s = k + 1
  · subst e
    rw [setF_same, trimF_ahead]
    unfold trimF
    rw [if_neg (by omega), if_neg h2]
  · rw [setF_other _ _ e]
    unfold trimF
    by_cases h3 : s = 0 ∨ k < s ∨ s < E
    · rw [if_pos h3, if_pos (by omega)]
    · rw [if_neg h3, if_neg (by omega)]
/-- Trimmed between two rounds. -/
structure TrW (S : Nat → Prop) (w : World) (b g : Nat) (d : DiskM) (E n k : Nat) (S' : Nat → Prop) (dk : DiskM) (A : World) : Prop where
  log : LgIn S' A b g dk E n false
  grew : ∀ k, S' k → S k ∨ w.heap.size ≤ k
  st : Stays (fun k => S k ∨ k = b) w A
  files : dk.files = trimF d.files E n k
  calm : dk.Calm
  room : dk.room = d.room
  count : dk.count ≤ d.count + k
theorem TrW.below {S S' : Nat → Prop} {w A A' : World} {b g E n k : Nat} {d dk : DiskM} (h : TrW S w b g d E n k S' dk A) (hb : Below A.heap.size A A') : TrW S w b g d E n k S' dk A' :=
  ⟨h.log.below hb, h.grew, h.st.trans (Below.stays (F := fun _ => False) hb) (fun _ f _ => f.elim), h.files, h.calm, h.room, h.count⟩
theorem TrW.next {S S' : Nat → Prop} {w A : World} {b g E n k : Nat} {d dk : DiskM} (h : TrW S w b g d E n k S' dk A) (hs : k + 1 < E ∨ (d.files (k + 1)).all.length = keptW E n (k + 1)) : TrW S w b g d E n (k + 1) S' dk A :=
  ⟨h.log, h.grew, h.st, by rw [h.files, trimF_skip hs], h.calm, h.room, by have := h.count; omega⟩
theorem TrW.cut {S S' : Nat → Prop} {w A A' : World} {b g E n k : Nat} {d dk : DiskM} (h : TrW S w b g d E n k S' dk A) (hE : ¬ k + 1 < E) (hk : ¬ (d.files (k + 1)).all.length = keptW E n (k + 1))
    (hgo : LgGo S' b g { dk with files := cutF (k + 1) (keptW E n (k + 1)) dk.files, count := dk.count + 1 } E n false A A') : ∃ S2 d2, TrW S w b g d E n (k + 1) S2 d2 A' := by
  obtain ⟨S2, h1, h2, h3⟩ := LgGo.trans h.grew h.st hgo
  exact ⟨S2, _, h1, h2, h3, by show cutF _ _ dk.files = _; rw [h.files, trimF_cut hE hk], ⟨h.calm.down, h.calm.left⟩, h.room, by show dk.count + 1 ≤ _; have := h.count; omega⟩
set_option maxRecDepth 1000000 in
set_option maxHeartbeats 1000000 in
theorem waTrim_any (S : Nat → Prop) (b g E n : Nat) (d : DiskM) (w : World) (h : LgIn S w b g d E n false) (hE : E ≤ 32) (hn : 1 ≤ E → n ≤ (d.files E).all.length) (hn9 : n < 900000) (hcalm : d.Calm) (hc : d.count < 999999000) :
    Calls Tryd.prog 25 #[.pointer (some ⟨b, 0, none⟩)] w fun e w' => e = .returned (.int .i64 0) ∧ ∃ S' d', TrW S w b g d E n 32 S' d' w' := by
  have H0 : Hid (TrW S w b g d E n 0 S d w) := ⟨h, fun _ s => Or.inl s, Stays.refl _ _, (trimF_zero _ _ _).symm, hcalm, rfl, Nat.le_refl _⟩
  have HN := Lib.hid hn
  have HC := Lib.hid hc
  have HEE := Lib.hid hE
  have HN9 := Lib.hid (And.intro hn9 trivial)
  clear h hn hcalm hc hE hn9
  go_enter Tryd.func25, Tryd.ntmps25
  go_wp2_with fail
  go_loopg [7] 32 (fun gk s7 wx => ∃ (k : Nat) (S' : Nat → Prop) (dk : DiskM), k + gk = 32 ∧ s7 = .int .i64 (k : Int) ∧ TrW S w b g d E n k S' dk wx)
  case atStart => exact ⟨0, S, d, by omega, rfl, H0.out⟩
  case round =>
    clear H0
    obtain ⟨k, S', dk, hkg, rfl, hT⟩ := hrel
    have HT := Lib.hid hT
    cases gk with
    | zero =>
      have hk : ¬ (k : Int) < 32 := by omega
      have hk32 : k = 32 := by omega
      subst hk32
      clear hT
      go_wp2_with fail
      go_ret
      exact ⟨rfl, S', dk, HT.out⟩
    | succ g1 =>
      have hk : (k : Int) < 32 := by omega
      obtain ⟨c0, c1, c2, -, -⟩ := hT.log.cells
      have HK32 := Lib.hid (And.intro (show k < 32 by omega) trivial)
      by_cases h1 : k + 1 < E
      · have q1 : (k : Int) + 1 < (E : Int) := by omega
        have HNX := Lib.hid (hT.next (Or.inl h1))
        clear hT h1
        go_wp2_with fail
        go_roundg g1
        case measure => omega
        case rel => exact ⟨k + 1, S', dk, by omega, by first | rfl | simp, HNX.out⟩
      have q1 : ¬ (k : Int) + 1 < (E : Int) := by omega
      have hrd : dk.read ((k : Int) + 1) = (d.files (k + 1)).all := by
        unfold DiskM.read
        rw [if_pos (by omega), show ((k : Int) + 1).toNat = k + 1 by omega, hT.files, trimF_ahead]
      have hRead := dkRead_any S' g dk ((k : Int) + 1) wr hT.log.disk
      rw [hrd] at hRead
      have HRD := Lib.hid hRead
      have hfk : (dk.files (k + 1)).all.length = (d.files (k + 1)).all.length := by rw [hT.files, trimF_ahead]
      have HFK := Lib.hid hfk
      have HH1 := Lib.hid h1
      obtain ⟨la, hla⟩ : ∃ la, (d.files (k + 1)).all.length = la := ⟨_, rfl⟩
      have HLA := Lib.hid hla
      clear hT hrd hRead hfk hla h1
      by_cases h2 : E = k + 1
      · subst h2
        have HKE : Hid (keptW (k + 1) n (k + 1) = n) := show _ = _ from if_pos rfl
        have HNL : Hid (n ≤ la) := show _ ≤ _ by have := HN.out (by omega); rwa [HLA.out] at this
        rw [show ((k + 1 : Nat) : Int) = (k : Int) + 1 by omega] at c1
        clear q1
        by_cases h3 : la = n
        · have HNX := Lib.hid (HT.out.next (Or.inr (by rw [HLA.out, HKE.out]; exact h3)))
          subst h3
          go_wp2_with (go_at_call 19; fail)
          refine HRD.out.mono ?_
          rintro e w1 ⟨v, rfl, ho, b1⟩
          obtain ⟨qa, ca, rfl, -, -, -⟩ := ho.slN HLA.out
          have HNX2 := Lib.hid (HNX.out.below b1)
          clear ho b1 HNX
          go_wp2_with fail
          go_roundg g1
          case measure => omega
          case rel => exact ⟨k + 1, S', dk, by omega, by first | rfl | simp, HNX2.out⟩
        · have q3 : ¬ (la : Int) = (n : Int) := by omega
          have H3 : Hid (¬ (d.files (k + 1)).all.length = keptW (k + 1) n (k + 1)) := show ¬ _ by rw [HLA.out, HKE.out]; exact h3
          clear h3
          go_wp2_with (go_at_call 19; fail)
          refine HRD.out.mono ?_
          rintro e w1 ⟨v, rfl, ho, b1⟩
          obtain ⟨qa, ca, rfl, -, -, -⟩ := ho.slN HLA.out
          have hT1 := HT.out.below b1
          have HT1 := Lib.hid hT1
          obtain ⟨k0, k1, k2, -, -⟩ := hT1.log.cells
          rw [show ((k + 1 : Nat) : Int) = (k : Int) + 1 by omega] at k1
          have hcut := dkCut_any S' g dk ((k : Int) + 1) (n : Int) w1 hT1.log.disk (by have := hT1.count; have := HC.out; have := HK32.out.1; omega)
          have hce := hT1.calm.cut (f := k + 1) (n := n) (by have := HK32.out.1; omega) (by rw [HFK.out, HLA.out]; exact HNL.out)
          rw [show ((k + 1 : Nat) : Int) = (k : Int) + 1 by omega] at hce
          rw [hce] at hcut
          have HCUT := Lib.hid hcut
          clear ho b1 hT1 hcut hce
          go_wp2_with (go_at_call 45; fail)
          refine HCUT.out.mono ?_
          rintro e w2 ⟨rfl, hgo⟩
          have hgo := hgo.log HT1.out.log
          have hx := HT1.out.cut HH1.out H3.out (by rw [HKE.out]; exact hgo)
          have HX := Lib.hid hx
          clear hgo hx HCUT
          go_wp2_with fail
          go_roundg g1
          case measure => omega
          case rel =>
            obtain ⟨S2, d2, hx⟩ := HX.out
            exact ⟨k + 1, S2, d2, by omega, by first | rfl | simp, hx⟩
      · have q2 : ¬ (k : Int) + 1 = (E : Int) := by omega
        have HKE : Hid (keptW E n (k + 1) = 0) := show _ = _ from if_neg (fun x => h2 x.symm)
        clear h2
        by_cases h3 : la = 0
        · have q3 : (la : Int) = 0 := by omega
          have HNX := Lib.hid (HT.out.next (Or.inr (by rw [HLA.out, HKE.out]; exact h3)))
          subst h3
          clear q3
          go_wp2_with (go_at_call 19; fail)
          refine HRD.out.mono ?_
          rintro e w1 ⟨v, rfl, ho, b1⟩
          obtain ⟨qa, ca, rfl, -, -, -⟩ := ho.slN HLA.out
          have HNX2 := Lib.hid (HNX.out.below b1)
          clear ho b1 HNX
          go_wp2_with fail
          go_roundg g1
          case measure => omega
          case rel => exact ⟨k + 1, S', dk, by omega, by first | rfl | simp, HNX2.out⟩
        · have q3 : ¬ (la : Int) = 0 := by omega
          have H3 : Hid (¬ (d.files (k + 1)).all.length = keptW E n (k + 1)) := show ¬ _ by rw [HLA.out, HKE.out]; exact h3
          clear h3
          go_wp2_with (go_at_call 19; fail)
          refine HRD.out.mono ?_
          rintro e w1 ⟨v, rfl, ho, b1⟩
          obtain ⟨qa, ca, rfl, -, -, -⟩ := ho.slN HLA.out
          have hT1 := HT.out.below b1
          have HT1 := Lib.hid hT1
          obtain ⟨k0, k1, k2, -, -⟩ := hT1.log.cells
          have hcut := dkCut_any S' g dk ((k : Int) + 1) 0 w1 hT1.log.disk (by have := hT1.count; have := HC.out; have := HK32.out.1; omega)
          have hce := hT1.calm.cut (f := k + 1) (n := 0) (by have := HK32.out.1; omega) (Nat.zero_le _)
          rw [show ((k + 1 : Nat) : Int) = (k : Int) + 1 by omega] at hce
          rw [show ((0 : Nat) : Int) = 0 from rfl] at hce
          rw [hce] at hcut
          have HCUT := Lib.hid hcut
          clear ho b1 hT1 hcut hce
          go_wp2_with (go_at_call 45; fail)
          refine HCUT.out.mono ?_
          rintro e w2 ⟨rfl, hgo⟩
          have hgo := hgo.log HT1.out.log
          have hx := HT1.out.cut HH1.out H3.out (by rw [HKE.out]; exact hgo)
          have HX := Lib.hid hx
          clear hgo hx HCUT
          go_wp2_with fail
          go_roundg g1
          case measure => omega
          case rel =>
            obtain ⟨S2, d2, hx⟩ := HX.out
            exact ⟨k + 1, S2, d2, by omega, by first | rfl | simp, hx⟩
end Go.Proofs.YteanjfcejpibaaaDoor

/-
  A row more: the head that is written ahead, a segment's beginning, Append.
-/
namespace Go.Proofs.YteanjfcejpibaaaDoor
open Go.RowKit Go.Proofs.ShaWords
theorem lag_fits {S : Nat → Prop} {b g E n sz : Nat} {d : DiskM} {dead : Bool} {w : World} (h : LgIn S w b g d E n dead) (h1 : 1 ≤ E) (h2 : n + sz ≤ 2048) :
    Calls Tryd.prog 35 #[.pointer (some ⟨b, 0, none⟩), .int .i64 (sz : Int)] w fun e w' => e = .returned (.tuple #[.slice none 0 0, .int .i64 0]) ∧ w' = w := by
  obtain ⟨-, c1, c2, -, -⟩ := h.cells
  have q1 : (0 : Int) < (E : Int) := by omega
  have q2 : (sz : Int) ≤ 2048 - (n : Int) := by omega
  have q3 : (n : Int) ≤ 2048 := by omega
  clear h
  go_enter Tryd.func35, Tryd.ntmps35
  go_wp2_with fail
  go_ret2
  exact ⟨rfl, rfl⟩
theorem lag_full {S : Nat → Prop} {b g n sz : Nat} {d : DiskM} {dead : Bool} {w : World} (h : LgIn S w b g d 32 n dead) (h2 : ¬ n + sz ≤ 2048) (h3 : n < 1000000) (_h4 : sz < 1000000) :
    Calls Tryd.prog 35 #[.pointer (some ⟨b, 0, none⟩), .int .i64 (sz : Int)] w fun e w' => e = .returned (.tuple #[.slice none 0 0, .int .i64 8]) ∧ w' = w := by
  obtain ⟨-, c1, c2, -, -⟩ := h.cells
  have q2 : ¬ (sz : Int) ≤ 2048 - (n : Int) := by omega
  have q3 : (n : Int) < 1000000 := by omega
  clear h
  go_enter Tryd.func35, Tryd.ntmps35
  go_wp2_with fail
  go_ret2
  exact ⟨rfl, rfl⟩
theorem lag_aux (b : Nat) (e n sz : Int) (w : World) (R : Value → World → Prop) (c1 : w.cell? ⟨b, 1, none⟩ = some (.int .i64 e)) (c2 : w.cell? ⟨b, 2, none⟩ = some (.int .i64 n)) (q1 : 0 < e) (q2 : e < 32) (q3 : 0 ≤ n ∧ n < 1000000) (q4 : ¬ sz ≤ 2048 - n)
    (hh : Calls Tryd.prog 48 #[.int .i64 (e + 1)] w fun r w' => ∃ v, r = .returned v ∧ R v w') :
    Calls Tryd.prog 35 #[.pointer (some ⟨b, 0, none⟩), .int .i64 sz] w fun r w' => ∃ v, r = .returned (.tuple #[v, .int .i64 0]) ∧ R v w' := by
  have HH := Lib.hid hh
  obtain ⟨q5, q6⟩ := q3
  have q7 : ¬ e = 32 := by omega
  clear hh
  go_enter Tryd.func35, Tryd.ntmps35
  go_wp2_with fail
  refine HH.out.mono ?_
  rintro r w1 ⟨v, rfl, hr⟩
  have HR := Lib.hid hr
  clear hr
  go_wp2_with fail
  go_ret2
  exact ⟨_, rfl, HR.out⟩
theorem lag_aux0 (b : Nat) (sz : Int) (w : World) (R : Value → World → Prop) (c1 : w.cell? ⟨b, 1, none⟩ = some (.int .i64 0))
    (hh : Calls Tryd.prog 48 #[.int .i64 1] w fun r w' => ∃ v, r = .returned v ∧ R v w') :
    Calls Tryd.prog 35 #[.pointer (some ⟨b, 0, none⟩), .int .i64 sz] w fun r w' => ∃ v, r = .returned (.tuple #[v, .int .i64 0]) ∧ R v w' := by
  have HH := Lib.hid hh
  clear hh
  go_enter Tryd.func35, Tryd.ntmps35
  go_wp2_with fail
  refine HH.out.mono ?_
  rintro r w1 ⟨v, rfl, hr⟩
  have HR := Lib.hid hr
  clear hr
  go_wp2_with fail
  go_ret2
  exact ⟨_, rfl, HR.out⟩
theorem lag_head {S : Nat → Prop} {b g E n sz : Nat} {d : DiskM} {dead : Bool} {w : World} (h : LgIn S w b g d E n dead) (h1 : E < 32) (h2 : ¬ (1 ≤ E ∧ n + sz ≤ 2048)) (h3 : n < 1000000) (hR : Rem w) :
    Calls Tryd.prog 35 #[.pointer (some ⟨b, 0, none⟩), .int .i64 (sz : Int)] w fun e w' => Below w.heap.size w w' ∧ ∃ q c, e = .returned (.tuple #[.slice q 17 c, .int .i64 0]) ∧ Own w.heap.size w' (frameB (hdW (E + 1)).1 (hdW (E + 1)).2) (.slice q 17 c) := by
  obtain ⟨-, c1, c2, -, -⟩ := h.cells
  have hh := headOf_any (E + 1) w (by omega) hR
  have e1 : ((E + 1 : Nat) : Int) = (E : Int) + 1 := by omega
  rw [e1] at hh
  have hh : Calls Tryd.prog 48 #[.int .i64 ((E : Int) + 1)] w fun r w' => ∃ v, r = .returned v ∧ (Below w.heap.size w w' ∧ Own w.heap.size w' (frameB (hdW (E + 1)).1 (hdW (E + 1)).2) v) := hh.mono fun r w' ⟨a, v, b, c⟩ => ⟨v, b, a, c⟩
  have hx : Calls Tryd.prog 35 #[.pointer (some ⟨b, 0, none⟩), .int .i64 (sz : Int)] w fun r w' => ∃ v, r = .returned (.tuple #[v, .int .i64 0]) ∧ (Below w.heap.size w w' ∧ Own w.heap.size w' (frameB (hdW (E + 1)).1 (hdW (E + 1)).2) v) := by
    by_cases h0 : E = 0
    · subst h0
      exact lag_aux0 b sz w _ c1 hh
    · exact lag_aux b E n sz w _ c1 c2 (by omega) (by omega) (by omega) (fun x => h2 ⟨by omega, by omega⟩) hh
  refine hx.mono ?_
  rintro r w' ⟨v, rfl, b1, ho⟩
  obtain ⟨qv, cv, rfl, -, -, -⟩ := ho.slN (hdW_length (E + 1))
  exact ⟨b1, _, _, rfl, ho⟩
theorem syncW_on {d : DiskM} (h : d.down = false) (E : Nat) : syncW d E false = ⟨(syncedW d E).1, E, decide ((syncedW d E).2 = 9), (syncedW d E).2⟩ := if_neg (by rw [h]; decide)
theorem syncedW_count {d : DiskM} {E : Nat} : (syncedW d E).1.count ≤ d.count + 1 := by
  unfold syncedW
  split
  · exact Nat.le_succ _
  · unfold DiskM.sync
    split
    · exact Nat.le_succ _
    · unfold DiskM.exec
      split
      · exact Nat.le_refl _
      · exact Nat.le_succ _
theorem write_count (d : DiskM) (f : Int) (b : List (BitVec 8)) : (d.write f b).1.count ≤ d.count + 1 := by
  unfold DiskM.write
  split
  · exact Nat.le_succ _
  · split
    · exact Nat.le_succ _
    · unfold DiskM.exec
      split
      · exact Nat.le_refl _
      · exact Nat.le_succ _
/-- A segment that can't begin: the power fails as the one ahead is synced. -/
theorem begin_struck {S : Nat → Prop} {b g E n m c : Nat} {d : DiskM} {w : World} {p : Option Addr} (h : LgIn S w b g d E n false) (hon : d.down = false) (hc : d.count < 999999000) (he : (syncedW d E).2 = 9) :
    Calls Tryd.prog 36 #[.pointer (some ⟨b, 0, none⟩), .slice p m c] w fun e w' => e = .returned (.int .i64 9) ∧ LgGo S b g (syncedW d E).1 E n true w w' := by
  have hs := waSync_any S b g E n d false w h (by omega)
  rw [syncW_on hon, he] at hs
  have HS := Lib.hid hs
  clear h hs hon he
  go_enter Tryd.func36, Tryd.ntmps36
  go_wp2_with fail
  refine HS.out.mono ?_
  rintro e w1 ⟨rfl, hgo⟩
  have HG := Lib.hid hgo
  clear hgo
  go_wp2_with fail
  go_ret
  exact ⟨rfl, HG.out⟩
/-- A segment that begins: its head is written, the power may fail then. -/
theorem begin_goes {S : Nat → Prop} {b g E n m c : Nat} {d : DiskM} {w : World} {p : Option Addr} {bs : List (BitVec 8)} (h : LgIn S w b g d E n false) (hE : E ≤ 32) (hon : d.down = false) (hc : d.count < 999999000) (he : (syncedW d E).2 = 0) (hb : bs.length = m) (hm : m < 1000000) (hL : ∀ w', Stays (fun k => S k ∨ k = b) w w' → Lies w' p bs) :
    Calls Tryd.prog 36 #[.pointer (some ⟨b, 0, none⟩), .slice p m c] w fun e w' => e = .returned (.int .i64 ((syncedW d E).1.write ((E : Int) + 1) bs).2) ∧ LgGo S b g ((syncedW d E).1.write ((E : Int) + 1) bs).1 (E + 1) m (decide (((syncedW d E).1.write ((E : Int) + 1) bs).2 = 9)) w w' := by
  have hs := waSync_any S b g E n d false w h (by omega)
  rw [syncW_on hon, he] at hs
  dsimp only at hs
  have hcc : (syncedW d E).1.count < 1000000000 := by have := syncedW_count (d := d) (E := E); omega
  generalize (syncedW d E).1 = d1 at hs hcc ⊢
  have HS := Lib.hid hs
  have HL := Lib.hid hL
  have HC := Lib.hid hcc
  clear h hs hon he hL hc hcc
  go_enter Tryd.func36, Tryd.ntmps36
  go_wp2_with fail
  refine HS.out.mono ?_
  rintro e w1 ⟨rfl, S1, hl1, hS1, hs1⟩
  have hl1 : LgIn S1 w1 b g d1 E n false := hl1
  obtain ⟨-, c1, -, -, fz⟩ := hl1.cells
  have f1 := fz 1
  have hE1 : (E : Int) + 1 ≤ 33 := by omega
  have hlx := hl1.put (lg_seg g E n false (E + 1) ((E : Int) + 1) (by omega))
  have f2 := hlx.cells.2.2.2.2 2
  have c2 := hlx.cells.2.2.1
  have hl2 := hlx.put (lg_size g (E + 1) n false 0 0 rfl)
  have HL2 := Lib.hid hl2
  have HT2 : Hid (Stays (fun k => S k ∨ k = b) w ((w1.setCell ⟨b, 1, none⟩ (.int .i64 ((E : Int) + 1))).setCell ⟨b, 2, none⟩ (.int .i64 0))) := show Stays _ _ _ from
    (hs1.trans (grown_stays (F := fun k => k = b) (grown_setCell w1 b 1 (.int .i64 ((E : Int) + 1))) (fun k e => by cases e; rfl)) (fun k e _ => Or.inr e)).trans (grown_stays (F := fun k => k = b) (grown_setCell _ b 2 (.int .i64 0)) (fun k e => by cases e; rfl)) (fun k e _ => Or.inr e)
  have HS1 := Lib.hid hS1
  have hcall := waWrite_any S1 b g (E + 1) 0 m c d1 false bs p _ HL2.out HC.out hb hm (by decide) (HL.out _ HT2.out)
  rw [show ((E + 1 : Nat) : Int) = (E : Int) + 1 by omega] at hcall
  have HCALL := Lib.hid hcall
  clear hl1 hS1 hs1 fz hlx hl2 hcall
  go_wp2_with (go_at_call 37; fail)
  refine HCALL.out.mono ?_
  rintro e w3 ⟨rfl, hgo⟩
  rw [Nat.zero_add, Bool.false_or] at hgo
  have HG3 := Lib.hid (LgGo.trans HS1.out HT2.out hgo)
  clear hgo HCALL
  go_wp2_with fail
  go_ret
  exact ⟨rfl, HG3.out⟩
end Go.Proofs.YteanjfcejpibaaaDoor

/-
  Append: what it answers, and what it leaves, is the model's.
-/
namespace Go.Proofs.YteanjfcejpibaaaDoor
open Go.RowKit Go.Proofs.ShaWords
theorem dkUsed_any (S : Nat → Prop) (g : Nat) (d : DiskM) (w : World) (h : DkAt S w g d) :
    Calls Tryd.prog 14 #[.pointer (some ⟨g, 0, none⟩)] w fun e w' => e = .returned (.int .i64 (d.used : Int)) ∧ w = w' := by
  obtain ⟨⟨vs, h1⟩, h2, -⟩ := h
  exact dkUsedV S g vs d w h1 (Nat.le_trans h2.used h2.room)
/-- What Append leaves: the log with what it knows of its segment's length. -/
def LgDone (S : Nat → Prop) (b g n0 : Nat) (r : WaRes) (w w' : World) : Prop := ∃ n, (r.dead = false → 1 ≤ r.E → n = (r.d.files r.E).all.length) ∧ (r.dead = false → r.E = 0 → n = n0) ∧ LgGo S b g r.d r.E n r.dead w w'
theorem rowW_len {d : DiskM} {E : Nat} {f : RowW} (hon : d.down = false) (hE : E ≤ 32) (hr : d.used + (f.2.length + 9) ≤ d.room) : (((d.write (E : Int) (frameB f.1 f.2)).1).files E).all.length = (d.files E).all.length + (f.2.length + 9) := by
  rw [DiskM.write_on hon hE _ (by rw [frameB_length]; exact hr)]
  show (writeF E _ d.files E).all.length = _
  rw [(write_same _ _ _).1, List.length_append, frameB_length]
/-- The row is written. -/
theorem row_done {S : Nat → Prop} {b g E n n0 : Nat} {d : DiskM} {f : RowW} {w w' : World} (hon : d.down = false) (h1 : 1 ≤ E) (hE : E ≤ 32) (hn : n = (d.files E).all.length) (hr : d.used + (f.2.length + 9) ≤ d.room)
    (hgo : LgGo S b g (d.write (E : Int) (frameB f.1 f.2)).1 E (n + (f.2.length + 9)) (decide ((d.write (E : Int) (frameB f.1 f.2)).2 = 9)) w w') : LgDone S b g n0 (rowW d E f) w w' :=
  ⟨n + (f.2.length + 9), fun _ _ => by rw [hn]; exact (rowW_len hon hE hr).symm, fun _ x => by have x : E = 0 := x; omega, hgo⟩
theorem fitsW_yes {d : DiskM} {E m : Nat} (h1 : 1 ≤ E) (h2 : (d.files E).all.length + (m + 9) ≤ 2048) : fitsW d E m = true := by unfold fitsW; simp; omega
theorem fitsW_no {d : DiskM} {E m : Nat} (h : ¬ (1 ≤ E ∧ (d.files E).all.length + (m + 9) ≤ 2048)) : fitsW d E m = false := by
  unfold fitsW
  rcases Nat.lt_or_ge E 1 with h1 | h1
  · simp; omega
  · have : ¬ (d.files E).all.length + (m + 9) ≤ 2048 := fun x => h ⟨h1, x⟩
    simp; omega
theorem append_kind {d : DiskM} {E : Nat} {dead : Bool} {z : Int} {f : RowW} (h0 : ¬ (dead = true ∨ d.down = true)) (h : z < 1 ∨ 254 < z) : appendW d E dead z f = ⟨d, E, false, 2⟩ := by unfold appendW; rw [if_neg h0, if_pos h]
theorem append_long {d : DiskM} {E : Nat} {dead : Bool} {z : Int} {f : RowW} (h0 : ¬ (dead = true ∨ d.down = true)) (h1 : ¬ (z < 1 ∨ 254 < z)) (h : 2022 < f.2.length) : appendW d E dead z f = ⟨d, E, false, 5⟩ := by unfold appendW; rw [if_neg h0, if_neg h1, if_pos h]
theorem append_full {d : DiskM} {E : Nat} {dead : Bool} {z : Int} {f : RowW} (h0 : ¬ (dead = true ∨ d.down = true)) (h1 : ¬ (z < 1 ∨ 254 < z)) (h2 : ¬ 2022 < f.2.length) (h : (fitsW d E f.2.length = false ∧ E = 32) ∨ d.room < d.used + needW d E f.2.length) : appendW d E dead z f = ⟨d, E, false, 8⟩ := by unfold appendW; rw [if_neg h0, if_neg h1, if_neg h2, if_pos h]
theorem append_row {d : DiskM} {E : Nat} {dead : Bool} {z : Int} {f : RowW} (h0 : ¬ (dead = true ∨ d.down = true)) (h1 : ¬ (z < 1 ∨ 254 < z)) (h2 : ¬ 2022 < f.2.length) (hf : fitsW d E f.2.length = true) (h : ¬ d.room < d.used + needW d E f.2.length) : appendW d E dead z f = rowW d E f := by
  unfold appendW
  rw [if_neg h0, if_neg h1, if_neg h2, if_neg (fun x => x.elim (fun x => by rw [hf] at x; cases x.1) h), if_pos hf]
theorem append_begin {d : DiskM} {E : Nat} {dead : Bool} {z : Int} {f : RowW} (h0 : ¬ (dead = true ∨ d.down = true)) (h1 : ¬ (z < 1 ∨ 254 < z)) (h2 : ¬ 2022 < f.2.length) (hf : fitsW d E f.2.length = false) (hE : E ≠ 32) (h : ¬ d.room < d.used + needW d E f.2.length) : appendW d E dead z f = beginW d E f := by
  unfold appendW
  rw [if_neg h0, if_neg h1, if_neg h2, if_neg (fun x => x.elim (fun x => hE x.2) h), if_neg (by rw [hf]; decide)]
/-- A row of one's own lies there still when the log and its disk have changed. -/
theorem own_kept {S S1 : Nat → Prop} {b g E n B : Nat} {d : DiskM} {dead : Bool} {w1 w3 w4 : World} {l : List (BitVec 8)} {v : Value} (h : LgIn S1 w1 b g d E n dead) (ho : Own B w3 l v) (hB : w1.heap.size ≤ B) (hS : ∀ k, S k → S1 k) (hs : Stays (fun k => S k ∨ k = b) w3 w4) : Own B w4 l v := by
  refine ownsRow_stays ho hs (fun k e f => ?_)
  have h1 := (World.ownsRow.lt ho k e).1
  rcases f with f | f
  · obtain ⟨⟨vs, hv⟩, -⟩ := h.disk
    have := hv.dom k (hS k f); omega
  · have := h.lt; omega
theorem Own.lieW {B : Nat} {w : World} {l : List (BitVec 8)} {p : Option Addr} {n c : Nat} (h : Own B w l (.slice p n c)) : Lies w p l := by
  obtain ⟨q, k, e, -, -, hl⟩ := h.lies
  cases e
  exact hl
set_option maxRecDepth 100000 in
set_option maxHeartbeats 4000000 in
theorem waAppend_any (S : Nat → Prop) (b g E n m c : Nat) (d : DiskM) (dead : Bool) (z : Int) (l : List (BitVec 8)) (p : Option Addr) (w : World) (h : LgIn S w b g d E n dead) (hE : E ≤ 32) (hlen : dead = false → 1 ≤ E → n = (d.files E).all.length) (hn9 : dead = false → n < 890000) (hc : d.count < 999998000) (hnx : dead = false → E < 32 → (d.files (E + 1)).all = [])
    (hl : l.length = m) (hm : m < 140737488355000) (hL : ∀ w', Stays (fun k => S k ∨ k = b) w w' → Lies w' p l) (hR : ∀ w', Stays (fun k => S k ∨ k = b) w w' → Rem w') :
    Calls Tryd.prog 16 #[.pointer (some ⟨b, 0, none⟩), .int .i64 z, .slice p m c] w fun r w' => r = .returned (.int .i64 (appendW d E dead z (kb z, l)).e) ∧ LgDone S b g n (appendW d E dead z (kb z, l)) w w' := by
  have HD := Lib.hid (waDown_any S b g E n d dead w h)
  have HOK := Lib.hid h.disk.2.1
  have HC := Lib.hid hc
  have HLEN := Lib.hid hlen
  have HNX := Lib.hid hnx
  have HL := Lib.hid hL
  have HR := Lib.hid hR
  have HM := Lib.hid hl
  clear h hc hlen hL hR hl hnx
  by_cases hd : dead = true ∨ d.down = true
  · have hor : (dead || d.down) = true := by simpa using hd
    have HW : Hid (appendW d E dead z (kb z, l) = ⟨d, E, true, 9⟩) := show _ = _ from if_pos hd
    clear hd
    go_enter Tryd.func16, Tryd.ntmps16
    go_wp2_with fail
    refine HD.out.mono ?_
    rintro e w1 ⟨rfl, hgo⟩
    rw [hor] at hgo ⊢
    have HG := Lib.hid hgo
    clear hgo
    go_wp2_with fail
    go_ret
    rw [HW.out]
    exact ⟨rfl, n, (fun x => by cases x), (fun x => by cases x), HG.out⟩
  have hor : (dead || d.down) = false := by simpa using hd
  have hd0 : dead = false := by simpa using (not_or.1 hd).1
  have hon : d.down = false := by simpa using (not_or.1 hd).2
  have HON := Lib.hid hon
  have HND := Lib.hid hd
  clear hd hon
  subst hd0
  have hn9 := hn9 rfl
  have HLN : Hid (1 ≤ E → n = (d.files E).all.length) := show _ → _ from HLEN.out rfl
  have HNN : Hid (E < 32 → (d.files (E + 1)).all = []) := show _ → _ from HNX.out rfl
  clear HLEN HNX
  by_cases hz : z < 1 ∨ 254 < z
  · have HW := Lib.hid (append_kind (E := E) (f := (kb z, l)) HND.out hz)
    rcases hz with hz | hz
    · go_enter Tryd.func16, Tryd.ntmps16
      go_wp2_with fail
      refine HD.out.mono ?_
      rintro e w1 ⟨rfl, hgo⟩
      rw [hor] at hgo ⊢
      have HG := Lib.hid hgo
      clear hgo
      go_wp2_with fail
      go_ret
      rw [HW.out]
      exact ⟨rfl, n, fun _ => HLN.out, fun _ _ => rfl, HG.out⟩
    · have hz1 : ¬ z < 1 := by omega
      go_enter Tryd.func16, Tryd.ntmps16
      go_wp2_with fail
      refine HD.out.mono ?_
      rintro e w1 ⟨rfl, hgo⟩
      rw [hor] at hgo ⊢
      have HG := Lib.hid hgo
      clear hgo
      go_wp2_with fail
      go_ret
      rw [HW.out]
      exact ⟨rfl, n, fun _ => HLN.out, fun _ _ => rfl, HG.out⟩
  have hz1 : ¬ z < 1 := fun x => hz (Or.inl x)
  have hz2 : ¬ 254 < z := fun x => hz (Or.inr x)
  have HZ := Lib.hid hz
  clear hz
  by_cases hlong : 2022 < m
  · have HW := Lib.hid (append_long (E := E) (f := (kb z, l)) HND.out HZ.out (by show 2022 < l.length; rw [HM.out]; exact hlong))
    have hlong' : (2022 : Int) < (m : Int) := by omega
    go_enter Tryd.func16, Tryd.ntmps16
    go_wp2_with fail
    refine HD.out.mono ?_
    rintro e w1 ⟨rfl, hgo⟩
    rw [hor] at hgo ⊢
    have HG := Lib.hid hgo
    clear hgo
    go_wp2_with fail
    go_ret
    rw [HW.out]
    exact ⟨rfl, n, fun _ => HLN.out, fun _ _ => rfl, HG.out⟩
  have hlong' : ¬ (2022 : Int) < (m : Int) := by omega
  have HNL : Hid (¬ 2022 < (kb z, l).2.length) := show ¬ 2022 < l.length by rw [HM.out]; exact hlong
  obtain ⟨M, hM⟩ : ∃ M, M = m + 9 := ⟨_, rfl⟩
  have HMM := Lib.hid hM
  have hM2 : M ≤ 2031 := by omega
  have HFL : Hid ((frameB (kb z) l).length = M) := show _ = _ by rw [frameB_length, HM.out, hM]
  clear hM
  go_enter Tryd.func16, Tryd.ntmps16
  go_wp2_with fail
  refine HD.out.mono ?_
  rintro e w1 ⟨rfl, hgo⟩
  rw [hor] at hgo ⊢
  obtain ⟨S1, hl1, hS1, hs1⟩ := hgo
  have HL1 := Lib.hid hl1; have HS1 := Lib.hid hS1; have HT1 := Lib.hid hs1
  clear hl1 hS1 hs1 hor
  go_wp2_with fail
  refine (encoding_any z l m p c w1 HM.out (by omega) (by omega) (HL.out _ HT1.out) (HR.out _ HT1.out)).mono ?_
  rintro e w2 ⟨b2, v, rfl, ho⟩
  obtain ⟨q2, c2, rfl, -, -, -⟩ := ho.slN HFL.out
  have HO2 := Lib.hid ho
  have HL2 := Lib.hid (HL1.out.below b2)
  have HT2 := Lib.hid (HT1.out.trans (Below.stays (F := fun _ => False) b2) (fun _ f _ => f.elim))
  have HB2 := Lib.hid b2
  clear ho b2
  go_wp2_with fail
  by_cases hfit : 1 ≤ E ∧ n + M ≤ 2048
  · have hfl := fitsW_yes (d := d) (m := m) hfit.1 (by rw [← HLN.out hfit.1, ← HMM.out]; exact hfit.2)
    have HFI := Lib.hid hfl
    have HE1 := Lib.hid hfit.1
    have hnm := hfit.2
    refine (lag_fits HL2.out hfit.1 hfit.2).mono ?_
    rintro e w3 ⟨rfl, rfl⟩
    have HND2 : Hid (needW d E m = M) := show _ = _ by unfold needW; rw [if_pos hfl, HMM.out]
    clear hfit hfl
    go_upto_region 11 with (fail)
    have hdr : Below w3.heap.size w3 w3.drew := (Below.refl _ _).drew
    have HLD := Lib.hid (HL2.out.below hdr)
    have HTD := Lib.hid (HT2.out.trans (Below.stays (F := fun _ => False) hdr) (fun _ f _ => f.elim))
    have HOD := Lib.hid (HO2.out.below hdr)
    have hur := HOK.out.used
    have hrm := HOK.out.room
    clear hdr
    by_cases hroom : d.room < d.used + M
    · have hrf : (d.room : Int) - (d.used : Int) < ((0 + M : Nat) : Int) := by omega
      refine region_phase (fun w' => w'.cell? ⟨b, 0, none⟩ = some (.pointer (some ⟨g, 0, none⟩))) (fun _ => True) 9 (HLD.out.cells.1) trivial [(0, .free), (1, .free), (2, .free), (3, .free), (4, .free), (5, .free), (6, .free), (7, .free), (8, .free), (10, .free), (11, .free), (12, .free), (13, .free), (9, .behind), (14, .behind), (15, .free), (16, .free)] (by kernel_rfl) (by kernel_rfl) (by kernel_rfl) (by kernel_rfl) (fun ops hops A hA => ?_)
      have hsz : A.tmps.size = 67 := by rw [hA]; rfl
      have base0 : A.eval (.tmp 0) = .pointer (some ⟨b, 0, none⟩) := by rw [hA]; rfl
      have base7 : A.eval (.tmp 7) = .slice q2 M c2 := by rw [hA]; rfl
      have base8 : A.eval (.tmp 8) = .slice none 0 0 := by rw [hA]; rfl
      have HAA := Lib.hid hA; clear hA
      obtain ⟨o0, po0, q0, d0, gd0⟩ : ∃ o, ops[0]? = some o ∧ o.op = .move (.tmp 8) ∧ o.dst = some 38 ∧ o.guard = none := ⟨_, by rw [hops]; rfl, rfl, rfl, rfl⟩
      obtain ⟨o1, po1, q1, d1, gd1⟩ : ∃ o, ops[1]? = some o ∧ o.op = .call { callee := .builtin .len, args := #[.tmp 38], argTypes := #[41] } ∧ o.dst = some 39 ∧ o.guard = none := ⟨_, by rw [hops]; rfl, rfl, rfl, rfl⟩
      obtain ⟨o2, po2, q2, d2, gd2⟩ : ∃ o, ops[2]? = some o ∧ o.op = .move (.tmp 7) ∧ o.dst = some 40 ∧ o.guard = none := ⟨_, by rw [hops]; rfl, rfl, rfl, rfl⟩
      obtain ⟨o3, po3, q3, d3, gd3⟩ : ∃ o, ops[3]? = some o ∧ o.op = .call { callee := .builtin .len, args := #[.tmp 40], argTypes := #[41] } ∧ o.dst = some 41 ∧ o.guard = none := ⟨_, by rw [hops]; rfl, rfl, rfl, rfl⟩
      obtain ⟨o4, po4, q4, d4, gd4⟩ : ∃ o, ops[4]? = some o ∧ o.op = .binOp .add 3 (.tmp 39) (.tmp 41) 3 ∧ o.dst = some 42 ∧ o.guard = none := ⟨_, by rw [hops]; rfl, rfl, rfl, rfl⟩
      obtain ⟨o5, po5, q5, d5, gd5⟩ : ∃ o, ops[5]? = some o ∧ o.op = .move (.tmp 0) ∧ o.dst = some 43 ∧ o.guard = none := ⟨_, by rw [hops]; rfl, rfl, rfl, rfl⟩
      obtain ⟨o6, po6, q6, d6, gd6⟩ : ∃ o, ops[6]? = some o ∧ o.op = .nilCheck (.tmp 43) ∧ o.dst = some 44 ∧ o.guard = none := ⟨_, by rw [hops]; rfl, rfl, rfl, rfl⟩
      obtain ⟨o7, po7, q7, d7, gd7⟩ : ∃ o, ops[7]? = some o ∧ o.op = .fieldAddr 61 (.tmp 44) 0 ∧ o.dst = some 45 ∧ o.guard = none := ⟨_, by rw [hops]; rfl, rfl, rfl, rfl⟩
      obtain ⟨o8, po8, q8, d8, gd8⟩ : ∃ o, ops[8]? = some o ∧ o.op = .load 23 (.tmp 45) ∧ o.dst = some 46 ∧ o.guard = none := ⟨_, by rw [hops]; rfl, rfl, rfl, rfl⟩
      obtain ⟨o9, po9, q9, d9, gd9⟩ : ∃ o, ops[9]? = some o ∧ o.op = .call { callee := .value (.func 20), args := #[.tmp 46], argTypes := #[23] } ∧ o.dst = some 47 ∧ o.guard = none := ⟨_, by rw [hops]; rfl, rfl, rfl, rfl⟩
      obtain ⟨o10, po10, q10, d10, gd10⟩ : ∃ o, ops[10]? = some o ∧ o.op = .move (.tmp 0) ∧ o.dst = some 48 ∧ o.guard = none := ⟨_, by rw [hops]; rfl, rfl, rfl, rfl⟩
      obtain ⟨o11, po11, q11, d11, gd11⟩ : ∃ o, ops[11]? = some o ∧ o.op = .nilCheck (.tmp 48) ∧ o.dst = some 49 ∧ o.guard = none := ⟨_, by rw [hops]; rfl, rfl, rfl, rfl⟩
      obtain ⟨o12, po12, q12, d12, gd12⟩ : ∃ o, ops[12]? = some o ∧ o.op = .fieldAddr 61 (.tmp 49) 0 ∧ o.dst = some 50 ∧ o.guard = none := ⟨_, by rw [hops]; rfl, rfl, rfl, rfl⟩
      obtain ⟨o13, po13, q13, d13, gd13⟩ : ∃ o, ops[13]? = some o ∧ o.op = .load 23 (.tmp 50) ∧ o.dst = some 51 ∧ o.guard = none := ⟨_, by rw [hops]; rfl, rfl, rfl, rfl⟩
      obtain ⟨o14, po14, q14, d14, gd14⟩ : ∃ o, ops[14]? = some o ∧ o.op = .call { callee := .value (.func 14), args := #[.tmp 51], argTypes := #[23] } ∧ o.dst = some 52 ∧ o.guard = none := ⟨_, by rw [hops]; rfl, rfl, rfl, rfl⟩
      obtain ⟨o15, po15, q15, d15, gd15⟩ : ∃ o, ops[15]? = some o ∧ o.op = .binOp .sub 3 (.tmp 47) (.tmp 52) 3 ∧ o.dst = some 53 ∧ o.guard = none := ⟨_, by rw [hops]; rfl, rfl, rfl, rfl⟩
      obtain ⟨o16, po16, q16, d16, gd16⟩ : ∃ o, ops[16]? = some o ∧ o.op = .binOp .gtr 3 (.tmp 42) (.tmp 53) 3 ∧ o.dst = some 54 ∧ o.guard = none := ⟨_, by rw [hops]; rfl, rfl, rfl, rfl⟩
      clear hops
      refine met_free po0 d0 (wanted_of gd0) (fun w' h' => run_move q0 base8 w') ?_
      refine met_free po1 d1 (wanted_of gd1) (fun w' h' => run_len26 q1 (eval_same _ _ _ (by rw [hsz]; decide)) w') ?_
      refine met_free po2 d2 (wanted_of gd2) (fun w' h' => run_move q2 ((eval_other _ 39 7 _ (by decide)).trans ((eval_other _ 38 7 _ (by decide)).trans base7)) w') ?_
      refine met_free po3 d3 (wanted_of gd3) (fun w' h' => run_len26 q3 (eval_same _ _ _ (by simp only [put_size, hsz]; decide)) w') ?_
      refine met_free po4 d4 (wanted_of gd4) (fun w' h' => run_addNN q4 ((eval_other _ 41 39 _ (by decide)).trans ((eval_other _ 40 39 _ (by decide)).trans (eval_same _ _ _ (by simp only [put_size, hsz]; decide)))) (eval_same _ _ _ (by simp only [put_size, hsz]; decide)) (by omega) w') ?_
      refine met_free po5 d5 (wanted_of gd5) (fun w' h' => run_move q5 ((eval_other _ 42 0 _ (by decide)).trans ((eval_other _ 41 0 _ (by decide)).trans ((eval_other _ 40 0 _ (by decide)).trans ((eval_other _ 39 0 _ (by decide)).trans ((eval_other _ 38 0 _ (by decide)).trans base0))))) w') ?_
      refine met_free po6 d6 (wanted_of gd6) (fun w' h' => run_nilCheck q6 (eval_same _ _ _ (by simp only [put_size, hsz]; decide)) w') ?_
      refine met_free po7 d7 (wanted_of gd7) (fun w' h' => run_fieldT (off := 0) q7 (fun _ => by kernel_rfl) (eval_same _ _ _ (by simp only [put_size, hsz]; decide)) w') ?_
      refine met_free po8 d8 (wanted_of gd8) (fun w' h' => run_loadDk q8 (eval_same _ _ _ (by simp only [put_size, hsz]; decide)) h') ?_
      refine met_free po10 d10 (wanted_of gd10) (fun w' h' => run_move q10 ((eval_other _ 46 0 _ (by decide)).trans ((eval_other _ 45 0 _ (by decide)).trans ((eval_other _ 44 0 _ (by decide)).trans ((eval_other _ 43 0 _ (by decide)).trans ((eval_other _ 42 0 _ (by decide)).trans ((eval_other _ 41 0 _ (by decide)).trans ((eval_other _ 40 0 _ (by decide)).trans ((eval_other _ 39 0 _ (by decide)).trans ((eval_other _ 38 0 _ (by decide)).trans base0))))))))) w') ?_
      refine met_free po11 d11 (wanted_of gd11) (fun w' h' => run_nilCheck q11 (eval_same _ _ _ (by simp only [put_size, hsz]; decide)) w') ?_
      refine met_free po12 d12 (wanted_of gd12) (fun w' h' => run_fieldT (off := 0) q12 (fun _ => by kernel_rfl) (eval_same _ _ _ (by simp only [put_size, hsz]; decide)) w') ?_
      refine met_free po13 d13 (wanted_of gd13) (fun w' h' => run_loadDk q13 (eval_same _ _ _ (by simp only [put_size, hsz]; decide)) h') ?_
      refine m_enter po9 d9 (wanted_of gd9) (run_callf1 q9 rfl ((eval_other _ 51 46 _ (by decide)).trans ((eval_other _ 50 46 _ (by decide)).trans ((eval_other _ 49 46 _ (by decide)).trans ((eval_other _ 48 46 _ (by decide)).trans (eval_same _ _ _ (by simp only [put_size, hsz]; decide)))))) Tryd.func20 (by kernel_rfl) _) (dkRoom_any S1 g d _ HLD.out.disk) ?_
      rintro e wq ⟨rfl, rfl⟩
      refine ⟨_, rfl, HLD.out.cells.1, ?_⟩
      refine m_enter po14 d14 (wanted_of gd14) (run_callf1 q14 rfl ((eval_other _ 47 51 _ (by decide)).trans (eval_same _ _ _ (by simp only [put_size, hsz]; decide))) Tryd.func14 (by kernel_rfl) _) (dkUsed_any S1 g d _ HLD.out.disk) ?_
      rintro e wq ⟨rfl, rfl⟩
      refine ⟨_, rfl, HLD.out.cells.1, ?_⟩
      refine met_free po15 d15 (wanted_of gd15) (fun w' h' => run_subI q15 ((eval_other _ 52 47 _ (by decide)).trans (eval_same _ _ _ (by simp only [put_size, hsz]; decide))) (eval_same _ _ _ (by simp only [put_size, hsz]; decide)) (by omega) w') ?_
      refine met_free po16 d16 (wanted_of gd16) (fun w' h' => run_gtrT q16 ((eval_other _ 53 42 _ (by decide)).trans ((eval_other _ 52 42 _ (by decide)).trans ((eval_other _ 47 42 _ (by decide)).trans ((eval_other _ 51 42 _ (by decide)).trans ((eval_other _ 50 42 _ (by decide)).trans ((eval_other _ 49 42 _ (by decide)).trans ((eval_other _ 48 42 _ (by decide)).trans ((eval_other _ 46 42 _ (by decide)).trans ((eval_other _ 45 42 _ (by decide)).trans ((eval_other _ 44 42 _ (by decide)).trans ((eval_other _ 43 42 _ (by decide)).trans (eval_same _ _ _ (by simp only [put_size, hsz]; decide))))))))))))) (eval_same _ _ _ (by simp only [put_size, hsz]; decide)) hrf w') ?_
      show NoPanic _ .normal _ _
      refine NoPanic.normal ?_
      rw [HAA.out]
      go_frame
      clear HAA
      clear po0 q0 d0 gd0 po1 q1 d1 gd1 po2 q2 d2 gd2 po3 q3 d3 gd3 po4 q4 d4 gd4 po5 q5 d5 gd5 po6 q6 d6 gd6 po7 q7 d7 gd7 po8 q8 d8 gd8 po9 q9 d9 gd9 po10 q10 d10 gd10 po11 q11 d11 gd11 po12 q12 d12 gd12 po13 q13 d13 gd13 po14 q14 d14 gd14 po15 q15 d15 gd15 po16 q16 d16 gd16
      clear base0 base7 base8 hsz
      go_wp2_with fail
      go_ret
      have e1 := append_full (E := E) (f := (kb z, l)) HND.out HZ.out HNL.out (Or.inr (by show d.room < d.used + needW d E l.length; rw [HM.out, HND2.out]; exact hroom))
      rw [e1]
      exact ⟨rfl, n, fun _ => HLN.out, fun _ _ => rfl, S1, HLD.out, HS1.out, HTD.out⟩
    · have hrf : ¬ (d.room : Int) - (d.used : Int) < ((0 + M : Nat) : Int) := by omega
      refine region_phase (fun w' => w'.cell? ⟨b, 0, none⟩ = some (.pointer (some ⟨g, 0, none⟩))) (fun _ => True) 9 (HLD.out.cells.1) trivial [(0, .free), (1, .free), (2, .free), (3, .free), (4, .free), (5, .free), (6, .free), (7, .free), (8, .free), (10, .free), (11, .free), (12, .free), (13, .free), (9, .behind), (14, .behind), (15, .free), (16, .free)] (by kernel_rfl) (by kernel_rfl) (by kernel_rfl) (by kernel_rfl) (fun ops hops A hA => ?_)
      have hsz : A.tmps.size = 67 := by rw [hA]; rfl
      have base0 : A.eval (.tmp 0) = .pointer (some ⟨b, 0, none⟩) := by rw [hA]; rfl
      have base7 : A.eval (.tmp 7) = .slice q2 M c2 := by rw [hA]; rfl
      have base8 : A.eval (.tmp 8) = .slice none 0 0 := by rw [hA]; rfl
      have HAA := Lib.hid hA; clear hA
      obtain ⟨o0, po0, q0, d0, gd0⟩ : ∃ o, ops[0]? = some o ∧ o.op = .move (.tmp 8) ∧ o.dst = some 38 ∧ o.guard = none := ⟨_, by rw [hops]; rfl, rfl, rfl, rfl⟩
      obtain ⟨o1, po1, q1, d1, gd1⟩ : ∃ o, ops[1]? = some o ∧ o.op = .call { callee := .builtin .len, args := #[.tmp 38], argTypes := #[41] } ∧ o.dst = some 39 ∧ o.guard = none := ⟨_, by rw [hops]; rfl, rfl, rfl, rfl⟩
      obtain ⟨o2, po2, q2, d2, gd2⟩ : ∃ o, ops[2]? = some o ∧ o.op = .move (.tmp 7) ∧ o.dst = some 40 ∧ o.guard = none := ⟨_, by rw [hops]; rfl, rfl, rfl, rfl⟩
      obtain ⟨o3, po3, q3, d3, gd3⟩ : ∃ o, ops[3]? = some o ∧ o.op = .call { callee := .builtin .len, args := #[.tmp 40], argTypes := #[41] } ∧ o.dst = some 41 ∧ o.guard = none := ⟨_, by rw [hops]; rfl, rfl, rfl, rfl⟩
      obtain ⟨o4, po4, q4, d4, gd4⟩ : ∃ o, ops[4]? = some o ∧ o.op = .binOp .add 3 (.tmp 39) (.tmp 41) 3 ∧ o.dst = some 42 ∧ o.guard = none := ⟨_, by rw [hops]; rfl, rfl, rfl, rfl⟩
      obtain ⟨o5, po5, q5, d5, gd5⟩ : ∃ o, ops[5]? = some o ∧ o.op = .move (.tmp 0) ∧ o.dst = some 43 ∧ o.guard = none := ⟨_, by rw [hops]; rfl, rfl, rfl, rfl⟩
      obtain ⟨o6, po6, q6, d6, gd6⟩ : ∃ o, ops[6]? = some o ∧ o.op = .nilCheck (.tmp 43) ∧ o.dst = some 44 ∧ o.guard = none := ⟨_, by rw [hops]; rfl, rfl, rfl, rfl⟩
      obtain ⟨o7, po7, q7, d7, gd7⟩ : ∃ o, ops[7]? = some o ∧ o.op = .fieldAddr 61 (.tmp 44) 0 ∧ o.dst = some 45 ∧ o.guard = none := ⟨_, by rw [hops]; rfl, rfl, rfl, rfl⟩
      obtain ⟨o8, po8, q8, d8, gd8⟩ : ∃ o, ops[8]? = some o ∧ o.op = .load 23 (.tmp 45) ∧ o.dst = some 46 ∧ o.guard = none := ⟨_, by rw [hops]; rfl, rfl, rfl, rfl⟩
      obtain ⟨o9, po9, q9, d9, gd9⟩ : ∃ o, ops[9]? = some o ∧ o.op = .call { callee := .value (.func 20), args := #[.tmp 46], argTypes := #[23] } ∧ o.dst = some 47 ∧ o.guard = none := ⟨_, by rw [hops]; rfl, rfl, rfl, rfl⟩
      obtain ⟨o10, po10, q10, d10, gd10⟩ : ∃ o, ops[10]? = some o ∧ o.op = .move (.tmp 0) ∧ o.dst = some 48 ∧ o.guard = none := ⟨_, by rw [hops]; rfl, rfl, rfl, rfl⟩
      obtain ⟨o11, po11, q11, d11, gd11⟩ : ∃ o, ops[11]? = some o ∧ o.op = .nilCheck (.tmp 48) ∧ o.dst = some 49 ∧ o.guard = none := ⟨_, by rw [hops]; rfl, rfl, rfl, rfl⟩
      obtain ⟨o12, po12, q12, d12, gd12⟩ : ∃ o, ops[12]? = some o ∧ o.op = .fieldAddr 61 (.tmp 49) 0 ∧ o.dst = some 50 ∧ o.guard = none := ⟨_, by rw [hops]; rfl, rfl, rfl, rfl⟩
      obtain ⟨o13, po13, q13, d13, gd13⟩ : ∃ o, ops[13]? = some o ∧ o.op = .load 23 (.tmp 50) ∧ o.dst = some 51 ∧ o.guard = none := ⟨_, by rw [hops]; rfl, rfl, rfl, rfl⟩
      obtain ⟨o14, po14, q14, d14, gd14⟩ : ∃ o, ops[14]? = some o ∧ o.op = .call { callee := .value (.func 14), args := #[.tmp 51], argTypes := #[23] } ∧ o.dst = some 52 ∧ o.guard = none := ⟨_, by rw [hops]; rfl, rfl, rfl, rfl⟩
      obtain ⟨o15, po15, q15, d15, gd15⟩ : ∃ o, ops[15]? = some o ∧ o.op = .binOp .sub 3 (.tmp 47) (.tmp 52) 3 ∧ o.dst = some 53 ∧ o.guard = none := ⟨_, by rw [hops]; rfl, rfl, rfl, rfl⟩
      obtain ⟨o16, po16, q16, d16, gd16⟩ : ∃ o, ops[16]? = some o ∧ o.op = .binOp .gtr 3 (.tmp 42) (.tmp 53) 3 ∧ o.dst = some 54 ∧ o.guard = none := ⟨_, by rw [hops]; rfl, rfl, rfl, rfl⟩
      clear hops
      refine met_free po0 d0 (wanted_of gd0) (fun w' h' => run_move q0 base8 w') ?_
      refine met_free po1 d1 (wanted_of gd1) (fun w' h' => run_len26 q1 (eval_same _ _ _ (by rw [hsz]; decide)) w') ?_
      refine met_free po2 d2 (wanted_of gd2) (fun w' h' => run_move q2 ((eval_other _ 39 7 _ (by decide)).trans ((eval_other _ 38 7 _ (by decide)).trans base7)) w') ?_
      refine met_free po3 d3 (wanted_of gd3) (fun w' h' => run_len26 q3 (eval_same _ _ _ (by simp only [put_size, hsz]; decide)) w') ?_
      refine met_free po4 d4 (wanted_of gd4) (fun w' h' => run_addNN q4 ((eval_other _ 41 39 _ (by decide)).trans ((eval_other _ 40 39 _ (by decide)).trans (eval_same _ _ _ (by simp only [put_size, hsz]; decide)))) (eval_same _ _ _ (by simp only [put_size, hsz]; decide)) (by omega) w') ?_
      refine met_free po5 d5 (wanted_of gd5) (fun w' h' => run_move q5 ((eval_other _ 42 0 _ (by decide)).trans ((eval_other _ 41 0 _ (by decide)).trans ((eval_other _ 40 0 _ (by decide)).trans ((eval_other _ 39 0 _ (by decide)).trans ((eval_other _ 38 0 _ (by decide)).trans base0))))) w') ?_
      refine met_free po6 d6 (wanted_of gd6) (fun w' h' => run_nilCheck q6 (eval_same _ _ _ (by simp only [put_size, hsz]; decide)) w') ?_
      refine met_free po7 d7 (wanted_of gd7) (fun w' h' => run_fieldT (off := 0) q7 (fun _ => by kernel_rfl) (eval_same _ _ _ (by simp only [put_size, hsz]; decide)) w') ?_
      refine met_free po8 d8 (wanted_of gd8) (fun w' h' => run_loadDk q8 (eval_same _ _ _ (by simp only [put_size, hsz]; decide)) h') ?_
      refine met_free po10 d10 (wanted_of gd10) (fun w' h' => run_move q10 ((eval_other _ 46 0 _ (by decide)).trans ((eval_other _ 45 0 _ (by decide)).trans ((eval_other _ 44 0 _ (by decide)).trans ((eval_other _ 43 0 _ (by decide)).trans ((eval_other _ 42 0 _ (by decide)).trans ((eval_other _ 41 0 _ (by decide)).trans ((eval_other _ 40 0 _ (by decide)).trans ((eval_other _ 39 0 _ (by decide)).trans ((eval_other _ 38 0 _ (by decide)).trans base0))))))))) w') ?_
      refine met_free po11 d11 (wanted_of gd11) (fun w' h' => run_nilCheck q11 (eval_same _ _ _ (by simp only [put_size, hsz]; decide)) w') ?_
      refine met_free po12 d12 (wanted_of gd12) (fun w' h' => run_fieldT (off := 0) q12 (fun _ => by kernel_rfl) (eval_same _ _ _ (by simp only [put_size, hsz]; decide)) w') ?_
      refine met_free po13 d13 (wanted_of gd13) (fun w' h' => run_loadDk q13 (eval_same _ _ _ (by simp only [put_size, hsz]; decide)) h') ?_
      refine m_enter po9 d9 (wanted_of gd9) (run_callf1 q9 rfl ((eval_other _ 51 46 _ (by decide)).trans ((eval_other _ 50 46 _ (by decide)).trans ((eval_other _ 49 46 _ (by decide)).trans ((eval_other _ 48 46 _ (by decide)).trans (eval_same _ _ _ (by simp only [put_size, hsz]; decide)))))) Tryd.func20 (by kernel_rfl) _) (dkRoom_any S1 g d _ HLD.out.disk) ?_
      rintro e wq ⟨rfl, rfl⟩
      refine ⟨_, rfl, HLD.out.cells.1, ?_⟩
      refine m_enter po14 d14 (wanted_of gd14) (run_callf1 q14 rfl ((eval_other _ 47 51 _ (by decide)).trans (eval_same _ _ _ (by simp only [put_size, hsz]; decide))) Tryd.func14 (by kernel_rfl) _) (dkUsed_any S1 g d _ HLD.out.disk) ?_
      rintro e wq ⟨rfl, rfl⟩
      refine ⟨_, rfl, HLD.out.cells.1, ?_⟩
      refine met_free po15 d15 (wanted_of gd15) (fun w' h' => run_subI q15 ((eval_other _ 52 47 _ (by decide)).trans (eval_same _ _ _ (by simp only [put_size, hsz]; decide))) (eval_same _ _ _ (by simp only [put_size, hsz]; decide)) (by omega) w') ?_
      refine met_free po16 d16 (wanted_of gd16) (fun w' h' => run_gtrF q16 ((eval_other _ 53 42 _ (by decide)).trans ((eval_other _ 52 42 _ (by decide)).trans ((eval_other _ 47 42 _ (by decide)).trans ((eval_other _ 51 42 _ (by decide)).trans ((eval_other _ 50 42 _ (by decide)).trans ((eval_other _ 49 42 _ (by decide)).trans ((eval_other _ 48 42 _ (by decide)).trans ((eval_other _ 46 42 _ (by decide)).trans ((eval_other _ 45 42 _ (by decide)).trans ((eval_other _ 44 42 _ (by decide)).trans ((eval_other _ 43 42 _ (by decide)).trans (eval_same _ _ _ (by simp only [put_size, hsz]; decide))))))))))))) (eval_same _ _ _ (by simp only [put_size, hsz]; decide)) hrf w') ?_
      show NoPanic _ .normal _ _
      refine NoPanic.normal ?_
      rw [HAA.out]
      go_frame
      clear HAA
      clear po0 q0 d0 gd0 po1 q1 d1 gd1 po2 q2 d2 gd2 po3 q3 d3 gd3 po4 q4 d4 gd4 po5 q5 d5 gd5 po6 q6 d6 gd6 po7 q7 d7 gd7 po8 q8 d8 gd8 po9 q9 d9 gd9 po10 q10 d10 gd10 po11 q11 d11 gd11 po12 q12 d12 gd12 po13 q13 d13 gd13 po14 q14 d14 gd14 po15 q15 d15 gd15 po16 q16 d16 gd16
      clear base0 base7 base8 hsz
      go_wp2_with (go_at_call 37; fail)
      refine (waWrite_any S1 b g E n M c2 d false (frameB (kb z) l) q2 _ HLD.out (by have := HC.out; omega) HFL.out (by omega) (by omega) HOD.out.lieW).mono ?_
      rintro e w5 ⟨rfl, hgo⟩
      rw [Bool.false_or] at hgo
      have HG := Lib.hid (LgGo.trans HS1.out HTD.out hgo)
      clear hgo
      go_wp2_with fail
      go_ret
      have e1 := append_row (E := E) (f := (kb z, l)) HND.out HZ.out HNL.out (by show fitsW d E l.length = true; rw [HM.out]; exact HFI.out) (by show ¬ d.room < d.used + needW d E l.length; rw [HM.out, HND2.out]; exact hroom)
      rw [e1]
      have e2 : (kb z, l).2.length + 9 = M := by show l.length + 9 = M; rw [HM.out, HMM.out]
      refine ⟨rfl, row_done HON.out HE1.out hE (HLN.out HE1.out) (by rw [e2]; omega) ?_⟩
      rw [e2]
      exact HG.out
  · have hfl := fitsW_no (d := d) (m := m) (E := E) (fun x => hfit ⟨x.1, by rw [HLN.out x.1, HMM.out]; exact x.2⟩)
    have HFI := Lib.hid hfl
    by_cases h32 : E = 32
    · subst h32
      refine (lag_full HL2.out (fun x => hfit ⟨by decide, x⟩) (by omega) (by omega)).mono ?_
      rintro e w3 ⟨rfl, rfl⟩
      clear hfit hfl
      go_wp2_with fail
      go_ret
      have e1 := append_full (E := 32) (f := (kb z, l)) HND.out HZ.out HNL.out (Or.inl ⟨by show fitsW d 32 l.length = false; rw [HM.out]; exact HFI.out, rfl⟩)
      rw [e1]
      exact ⟨rfl, n, fun _ => HLN.out, fun _ _ => rfl, S1, HL2.out, HS1.out, HT2.out⟩
    have hE31 : E < 32 := by omega
    refine (lag_head HL2.out hE31 hfit (by omega) (HR.out _ HT2.out)).mono ?_
    rintro e w3 ⟨b3, q3, c3, rfl, ho3⟩
    have HND2 : Hid (needW d E m = M + 17) := show _ = _ by unfold needW; rw [if_neg (by rw [hfl]; decide), HMM.out]
    have HL3 := Lib.hid (HL2.out.below b3)
    have HT3 := Lib.hid (HT2.out.trans (Below.stays (F := fun _ => False) b3) (fun _ f _ => f.elim))
    have HO3 := Lib.hid ho3
    have HOR := Lib.hid (HO2.out.below b3)
    have HB3 := Lib.hid b3
    clear hfit hfl ho3 b3
    go_upto_region 11 with (fail)
    have hdr : Below w3.heap.size w3 w3.drew := (Below.refl _ _).drew
    have HLD := Lib.hid (HL3.out.below hdr)
    have HTD := Lib.hid (HT3.out.trans (Below.stays (F := fun _ => False) hdr) (fun _ f _ => f.elim))
    have HOD := Lib.hid (HOR.out.below hdr)
    have HHD := Lib.hid (HO3.out.below hdr)
    have hur := HOK.out.used
    have hrm := HOK.out.room
    clear hdr
    by_cases hroom : d.room < d.used + (M + 17)
    · have hrf : (d.room : Int) - (d.used : Int) < ((17 + M : Nat) : Int) := by omega
      refine region_phase (fun w' => w'.cell? ⟨b, 0, none⟩ = some (.pointer (some ⟨g, 0, none⟩))) (fun _ => True) 9 (HLD.out.cells.1) trivial [(0, .free), (1, .free), (2, .free), (3, .free), (4, .free), (5, .free), (6, .free), (7, .free), (8, .free), (10, .free), (11, .free), (12, .free), (13, .free), (9, .behind), (14, .behind), (15, .free), (16, .free)] (by kernel_rfl) (by kernel_rfl) (by kernel_rfl) (by kernel_rfl) (fun ops hops A hA => ?_)
      have hsz : A.tmps.size = 67 := by rw [hA]; rfl
      have base0 : A.eval (.tmp 0) = .pointer (some ⟨b, 0, none⟩) := by rw [hA]; rfl
      have base7 : A.eval (.tmp 7) = .slice q2 M c2 := by rw [hA]; rfl
      have base8 : A.eval (.tmp 8) = .slice q3 17 c3 := by rw [hA]; rfl
      have HAA := Lib.hid hA; clear hA
      obtain ⟨o0, po0, q0, d0, gd0⟩ : ∃ o, ops[0]? = some o ∧ o.op = .move (.tmp 8) ∧ o.dst = some 38 ∧ o.guard = none := ⟨_, by rw [hops]; rfl, rfl, rfl, rfl⟩
      obtain ⟨o1, po1, q1, d1, gd1⟩ : ∃ o, ops[1]? = some o ∧ o.op = .call { callee := .builtin .len, args := #[.tmp 38], argTypes := #[41] } ∧ o.dst = some 39 ∧ o.guard = none := ⟨_, by rw [hops]; rfl, rfl, rfl, rfl⟩
      obtain ⟨o2, po2, q2, d2, gd2⟩ : ∃ o, ops[2]? = some o ∧ o.op = .move (.tmp 7) ∧ o.dst = some 40 ∧ o.guard = none := ⟨_, by rw [hops]; rfl, rfl, rfl, rfl⟩
      obtain ⟨o3, po3, q3, d3, gd3⟩ : ∃ o, ops[3]? = some o ∧ o.op = .call { callee := .builtin .len, args := #[.tmp 40], argTypes := #[41] } ∧ o.dst = some 41 ∧ o.guard = none := ⟨_, by rw [hops]; rfl, rfl, rfl, rfl⟩
      obtain ⟨o4, po4, q4, d4, gd4⟩ : ∃ o, ops[4]? = some o ∧ o.op = .binOp .add 3 (.tmp 39) (.tmp 41) 3 ∧ o.dst = some 42 ∧ o.guard = none := ⟨_, by rw [hops]; rfl, rfl, rfl, rfl⟩
      obtain ⟨o5, po5, q5, d5, gd5⟩ : ∃ o, ops[5]? = some o ∧ o.op = .move (.tmp 0) ∧ o.dst = some 43 ∧ o.guard = none := ⟨_, by rw [hops]; rfl, rfl, rfl, rfl⟩
      obtain ⟨o6, po6, q6, d6, gd6⟩ : ∃ o, ops[6]? = some o ∧ o.op = .nilCheck (.tmp 43) ∧ o.dst = some 44 ∧ o.guard = none := ⟨_, by rw [hops]; rfl, rfl, rfl, rfl⟩
      obtain ⟨o7, po7, q7, d7, gd7⟩ : ∃ o, ops[7]? = some o ∧ o.op = .fieldAddr 61 (.tmp 44) 0 ∧ o.dst = some 45 ∧ o.guard = none := ⟨_, by rw [hops]; rfl, rfl, rfl, rfl⟩
      obtain ⟨o8, po8, q8, d8, gd8⟩ : ∃ o, ops[8]? = some o ∧ o.op = .load 23 (.tmp 45) ∧ o.dst = some 46 ∧ o.guard = none := ⟨_, by rw [hops]; rfl, rfl, rfl, rfl⟩
      obtain ⟨o9, po9, q9, d9, gd9⟩ : ∃ o, ops[9]? = some o ∧ o.op = .call { callee := .value (.func 20), args := #[.tmp 46], argTypes := #[23] } ∧ o.dst = some 47 ∧ o.guard = none := ⟨_, by rw [hops]; rfl, rfl, rfl, rfl⟩
      obtain ⟨o10, po10, q10, d10, gd10⟩ : ∃ o, ops[10]? = some o ∧ o.op = .move (.tmp 0) ∧ o.dst = some 48 ∧ o.guard = none := ⟨_, by rw [hops]; rfl, rfl, rfl, rfl⟩
      obtain ⟨o11, po11, q11, d11, gd11⟩ : ∃ o, ops[11]? = some o ∧ o.op = .nilCheck (.tmp 48) ∧ o.dst = some 49 ∧ o.guard = none := ⟨_, by rw [hops]; rfl, rfl, rfl, rfl⟩
      obtain ⟨o12, po12, q12, d12, gd12⟩ : ∃ o, ops[12]? = some o ∧ o.op = .fieldAddr 61 (.tmp 49) 0 ∧ o.dst = some 50 ∧ o.guard = none := ⟨_, by rw [hops]; rfl, rfl, rfl, rfl⟩
      obtain ⟨o13, po13, q13, d13, gd13⟩ : ∃ o, ops[13]? = some o ∧ o.op = .load 23 (.tmp 50) ∧ o.dst = some 51 ∧ o.guard = none := ⟨_, by rw [hops]; rfl, rfl, rfl, rfl⟩
      obtain ⟨o14, po14, q14, d14, gd14⟩ : ∃ o, ops[14]? = some o ∧ o.op = .call { callee := .value (.func 14), args := #[.tmp 51], argTypes := #[23] } ∧ o.dst = some 52 ∧ o.guard = none := ⟨_, by rw [hops]; rfl, rfl, rfl, rfl⟩
      obtain ⟨o15, po15, q15, d15, gd15⟩ : ∃ o, ops[15]? = some o ∧ o.op = .binOp .sub 3 (.tmp 47) (.tmp 52) 3 ∧ o.dst = some 53 ∧ o.guard = none := ⟨_, by rw [hops]; rfl, rfl, rfl, rfl⟩
      obtain ⟨o16, po16, q16, d16, gd16⟩ : ∃ o, ops[16]? = some o ∧ o.op = .binOp .gtr 3 (.tmp 42) (.tmp 53) 3 ∧ o.dst = some 54 ∧ o.guard = none := ⟨_, by rw [hops]; rfl, rfl, rfl, rfl⟩
      clear hops
      refine met_free po0 d0 (wanted_of gd0) (fun w' h' => run_move q0 base8 w') ?_
      refine met_free po1 d1 (wanted_of gd1) (fun w' h' => run_len26 q1 (eval_same _ _ _ (by rw [hsz]; decide)) w') ?_
      refine met_free po2 d2 (wanted_of gd2) (fun w' h' => run_move q2 ((eval_other _ 39 7 _ (by decide)).trans ((eval_other _ 38 7 _ (by decide)).trans base7)) w') ?_
      refine met_free po3 d3 (wanted_of gd3) (fun w' h' => run_len26 q3 (eval_same _ _ _ (by simp only [put_size, hsz]; decide)) w') ?_
      refine met_free po4 d4 (wanted_of gd4) (fun w' h' => run_addNN q4 ((eval_other _ 41 39 _ (by decide)).trans ((eval_other _ 40 39 _ (by decide)).trans (eval_same _ _ _ (by simp only [put_size, hsz]; decide)))) (eval_same _ _ _ (by simp only [put_size, hsz]; decide)) (by omega) w') ?_
      refine met_free po5 d5 (wanted_of gd5) (fun w' h' => run_move q5 ((eval_other _ 42 0 _ (by decide)).trans ((eval_other _ 41 0 _ (by decide)).trans ((eval_other _ 40 0 _ (by decide)).trans ((eval_other _ 39 0 _ (by decide)).trans ((eval_other _ 38 0 _ (by decide)).trans base0))))) w') ?_
      refine met_free po6 d6 (wanted_of gd6) (fun w' h' => run_nilCheck q6 (eval_same _ _ _ (by simp only [put_size, hsz]; decide)) w') ?_
      refine met_free po7 d7 (wanted_of gd7) (fun w' h' => run_fieldT (off := 0) q7 (fun _ => by kernel_rfl) (eval_same _ _ _ (by simp only [put_size, hsz]; decide)) w') ?_
      refine met_free po8 d8 (wanted_of gd8) (fun w' h' => run_loadDk q8 (eval_same _ _ _ (by simp only [put_size, hsz]; decide)) h') ?_
      refine met_free po10 d10 (wanted_of gd10) (fun w' h' => run_move q10 ((eval_other _ 46 0 _ (by decide)).trans ((eval_other _ 45 0 _ (by decide)).trans ((eval_other _ 44 0 _ (by decide)).trans ((eval_other _ 43 0 _ (by decide)).trans ((eval_other _ 42 0 _ (by decide)).trans ((eval_other _ 41 0 _ (by decide)).trans ((eval_other _ 40 0 _ (by decide)).trans ((eval_other _ 39 0 _ (by decide)).trans ((eval_other _ 38 0 _ (by decide)).trans base0))))))))) w') ?_
      refine met_free po11 d11 (wanted_of gd11) (fun w' h' => run_nilCheck q11 (eval_same _ _ _ (by simp only [put_size, hsz]; decide)) w') ?_
      refine met_free po12 d12 (wanted_of gd12) (fun w' h' => run_fieldT (off := 0) q12 (fun _ => by kernel_rfl) (eval_same _ _ _ (by simp only [put_size, hsz]; decide)) w') ?_
      refine met_free po13 d13 (wanted_of gd13) (fun w' h' => run_loadDk q13 (eval_same _ _ _ (by simp only [put_size, hsz]; decide)) h') ?_
      refine m_enter po9 d9 (wanted_of gd9) (run_callf1 q9 rfl ((eval_other _ 51 46 _ (by decide)).trans ((eval_other _ 50 46 _ (by decide)).trans ((eval_other _ 49 46 _ (by decide)).trans ((eval_other _ 48 46 _ (by decide)).trans (eval_same _ _ _ (by simp only [put_size, hsz]; decide)))))) Tryd.func20 (by kernel_rfl) _) (dkRoom_any S1 g d _ HLD.out.disk) ?_
      rintro e wq ⟨rfl, rfl⟩
      refine ⟨_, rfl, HLD.out.cells.1, ?_⟩
      refine m_enter po14 d14 (wanted_of gd14) (run_callf1 q14 rfl ((eval_other _ 47 51 _ (by decide)).trans (eval_same _ _ _ (by simp only [put_size, hsz]; decide))) Tryd.func14 (by kernel_rfl) _) (dkUsed_any S1 g d _ HLD.out.disk) ?_
      rintro e wq ⟨rfl, rfl⟩
      refine ⟨_, rfl, HLD.out.cells.1, ?_⟩
      refine met_free po15 d15 (wanted_of gd15) (fun w' h' => run_subI q15 ((eval_other _ 52 47 _ (by decide)).trans (eval_same _ _ _ (by simp only [put_size, hsz]; decide))) (eval_same _ _ _ (by simp only [put_size, hsz]; decide)) (by omega) w') ?_
      refine met_free po16 d16 (wanted_of gd16) (fun w' h' => run_gtrT q16 ((eval_other _ 53 42 _ (by decide)).trans ((eval_other _ 52 42 _ (by decide)).trans ((eval_other _ 47 42 _ (by decide)).trans ((eval_other _ 51 42 _ (by decide)).trans ((eval_other _ 50 42 _ (by decide)).trans ((eval_other _ 49 42 _ (by decide)).trans ((eval_other _ 48 42 _ (by decide)).trans ((eval_other _ 46 42 _ (by decide)).trans ((eval_other _ 45 42 _ (by decide)).trans ((eval_other _ 44 42 _ (by decide)).trans ((eval_other _ 43 42 _ (by decide)).trans (eval_same _ _ _ (by simp only [put_size, hsz]; decide))))))))))))) (eval_same _ _ _ (by simp only [put_size, hsz]; decide)) hrf w') ?_
      show NoPanic _ .normal _ _
      refine NoPanic.normal ?_
      rw [HAA.out]
      go_frame
      clear HAA
      clear po0 q0 d0 gd0 po1 q1 d1 gd1 po2 q2 d2 gd2 po3 q3 d3 gd3 po4 q4 d4 gd4 po5 q5 d5 gd5 po6 q6 d6 gd6 po7 q7 d7 gd7 po8 q8 d8 gd8 po9 q9 d9 gd9 po10 q10 d10 gd10 po11 q11 d11 gd11 po12 q12 d12 gd12 po13 q13 d13 gd13 po14 q14 d14 gd14 po15 q15 d15 gd15 po16 q16 d16 gd16
      clear base0 base7 base8 hsz
      go_wp2_with fail
      go_ret
      have e1 := append_full (E := E) (f := (kb z, l)) HND.out HZ.out HNL.out (Or.inr (by show d.room < d.used + needW d E l.length; rw [HM.out, HND2.out]; exact hroom))
      rw [e1]
      exact ⟨rfl, n, fun _ => HLN.out, fun _ _ => rfl, S1, HLD.out, HS1.out, HTD.out⟩
    · have hrf : ¬ (d.room : Int) - (d.used : Int) < ((17 + M : Nat) : Int) := by omega
      refine region_phase (fun w' => w'.cell? ⟨b, 0, none⟩ = some (.pointer (some ⟨g, 0, none⟩))) (fun _ => True) 9 (HLD.out.cells.1) trivial [(0, .free), (1, .free), (2, .free), (3, .free), (4, .free), (5, .free), (6, .free), (7, .free), (8, .free), (10, .free), (11, .free), (12, .free), (13, .free), (9, .behind), (14, .behind), (15, .free), (16, .free)] (by kernel_rfl) (by kernel_rfl) (by kernel_rfl) (by kernel_rfl) (fun ops hops A hA => ?_)
      have hsz : A.tmps.size = 67 := by rw [hA]; rfl
      have base0 : A.eval (.tmp 0) = .pointer (some ⟨b, 0, none⟩) := by rw [hA]; rfl
      have base7 : A.eval (.tmp 7) = .slice q2 M c2 := by rw [hA]; rfl
      have base8 : A.eval (.tmp 8) = .slice q3 17 c3 := by rw [hA]; rfl
      have HAA := Lib.hid hA; clear hA
      obtain ⟨o0, po0, q0, d0, gd0⟩ : ∃ o, ops[0]? = some o ∧ o.op = .move (.tmp 8) ∧ o.dst = some 38 ∧ o.guard = none := ⟨_, by rw [hops]; rfl, rfl, rfl, rfl⟩
      obtain ⟨o1, po1, q1, d1, gd1⟩ : ∃ o, ops[1]? = some o ∧ o.op = .call { callee := .builtin .len, args := #[.tmp 38], argTypes := #[41] } ∧ o.dst = some 39 ∧ o.guard = none := ⟨_, by rw [hops]; rfl, rfl, rfl, rfl⟩
      obtain ⟨o2, po2, q2, d2, gd2⟩ : ∃ o, ops[2]? = some o ∧ o.op = .move (.tmp 7) ∧ o.dst = some 40 ∧ o.guard = none := ⟨_, by rw [hops]; rfl, rfl, rfl, rfl⟩
      obtain ⟨o3, po3, q3, d3, gd3⟩ : ∃ o, ops[3]? = some o ∧ o.op = .call { callee := .builtin .len, args := #[.tmp 40], argTypes := #[41] } ∧ o.dst = some 41 ∧ o.guard = none := ⟨_, by rw [hops]; rfl, rfl, rfl, rfl⟩
      obtain ⟨o4, po4, q4, d4, gd4⟩ : ∃ o, ops[4]? = some o ∧ o.op = .binOp .add 3 (.tmp 39) (.tmp 41) 3 ∧ o.dst = some 42 ∧ o.guard = none := ⟨_, by rw [hops]; rfl, rfl, rfl, rfl⟩
      obtain ⟨o5, po5, q5, d5, gd5⟩ : ∃ o, ops[5]? = some o ∧ o.op = .move (.tmp 0) ∧ o.dst = some 43 ∧ o.guard = none := ⟨_, by rw [hops]; rfl, rfl, rfl, rfl⟩
      obtain ⟨o6, po6, q6, d6, gd6⟩ : ∃ o, ops[6]? = some o ∧ o.op = .nilCheck (.tmp 43) ∧ o.dst = some 44 ∧ o.guard = none := ⟨_, by rw [hops]; rfl, rfl, rfl, rfl⟩
      obtain ⟨o7, po7, q7, d7, gd7⟩ : ∃ o, ops[7]? = some o ∧ o.op = .fieldAddr 61 (.tmp 44) 0 ∧ o.dst = some 45 ∧ o.guard = none := ⟨_, by rw [hops]; rfl, rfl, rfl, rfl⟩
      obtain ⟨o8, po8, q8, d8, gd8⟩ : ∃ o, ops[8]? = some o ∧ o.op = .load 23 (.tmp 45) ∧ o.dst = some 46 ∧ o.guard = none := ⟨_, by rw [hops]; rfl, rfl, rfl, rfl⟩
      obtain ⟨o9, po9, q9, d9, gd9⟩ : ∃ o, ops[9]? = some o ∧ o.op = .call { callee := .value (.func 20), args := #[.tmp 46], argTypes := #[23] } ∧ o.dst = some 47 ∧ o.guard = none := ⟨_, by rw [hops]; rfl, rfl, rfl, rfl⟩
      obtain ⟨o10, po10, q10, d10, gd10⟩ : ∃ o, ops[10]? = some o ∧ o.op = .move (.tmp 0) ∧ o.dst = some 48 ∧ o.guard = none := ⟨_, by rw [hops]; rfl, rfl, rfl, rfl⟩
      obtain ⟨o11, po11, q11, d11, gd11⟩ : ∃ o, ops[11]? = some o ∧ o.op = .nilCheck (.tmp 48) ∧ o.dst = some 49 ∧ o.guard = none := ⟨_, by rw [hops]; rfl, rfl, rfl, rfl⟩
      obtain ⟨o12, po12, q12, d12, gd12⟩ : ∃ o, ops[12]? = some o ∧ o.op = .fieldAddr 61 (.tmp 49) 0 ∧ o.dst = some 50 ∧ o.guard = none := ⟨_, by rw [hops]; rfl, rfl, rfl, rfl⟩
      obtain ⟨o13, po13, q13, d13, gd13⟩ : ∃ o, ops[13]? = some o ∧ o.op = .load 23 (.tmp 50) ∧ o.dst = some 51 ∧ o.guard = none := ⟨_, by rw [hops]; rfl, rfl, rfl, rfl⟩
      obtain ⟨o14, po14, q14, d14, gd14⟩ : ∃ o, ops[14]? = some o ∧ o.op = .call { callee := .value (.func 14), args := #[.tmp 51], argTypes := #[23] } ∧ o.dst = some 52 ∧ o.guard = none := ⟨_, by rw [hops]; rfl, rfl, rfl, rfl⟩
      obtain ⟨o15, po15, q15, d15, gd15⟩ : ∃ o, ops[15]? = some o ∧ o.op = .binOp .sub 3 (.tmp 47) (.tmp 52) 3 ∧ o.dst = some 53 ∧ o.guard = none := ⟨_, by rw [hops]; rfl, rfl, rfl, rfl⟩
      obtain ⟨o16, po16, q16, d16, gd16⟩ : ∃ o, ops[16]? = some o ∧ o.op = .binOp .gtr 3 (.tmp 42) (.tmp 53) 3 ∧ o.dst = some 54 ∧ o.guard = none := ⟨_, by rw [hops]; rfl, rfl, rfl, rfl⟩
      clear hops
      refine met_free po0 d0 (wanted_of gd0) (fun w' h' => run_move q0 base8 w') ?_
      refine met_free po1 d1 (wanted_of gd1) (fun w' h' => run_len26 q1 (eval_same _ _ _ (by rw [hsz]; decide)) w') ?_
      refine met_free po2 d2 (wanted_of gd2) (fun w' h' => run_move q2 ((eval_other _ 39 7 _ (by decide)).trans ((eval_other _ 38 7 _ (by decide)).trans base7)) w') ?_
      refine met_free po3 d3 (wanted_of gd3) (fun w' h' => run_len26 q3 (eval_same _ _ _ (by simp only [put_size, hsz]; decide)) w') ?_
      refine met_free po4 d4 (wanted_of gd4) (fun w' h' => run_addNN q4 ((eval_other _ 41 39 _ (by decide)).trans ((eval_other _ 40 39 _ (by decide)).trans (eval_same _ _ _ (by simp only [put_size, hsz]; decide)))) (eval_same _ _ _ (by simp only [put_size, hsz]; decide)) (by omega) w') ?_
      refine met_free po5 d5 (wanted_of gd5) (fun w' h' => run_move q5 ((eval_other _ 42 0 _ (by decide)).trans ((eval_other _ 41 0 _ (by decide)).trans ((eval_other _ 40 0 _ (by decide)).trans ((eval_other _ 39 0 _ (by decide)).trans ((eval_other _ 38 0 _ (by decide)).trans base0))))) w') ?_
      refine met_free po6 d6 (wanted_of gd6) (fun w' h' => run_nilCheck q6 (eval_same _ _ _ (by simp only [put_size, hsz]; decide)) w') ?_
      refine met_free po7 d7 (wanted_of gd7) (fun w' h' => run_fieldT (off := 0) q7 (fun _ => by kernel_rfl) (eval_same _ _ _ (by simp only [put_size, hsz]; decide)) w') ?_
      refine met_free po8 d8 (wanted_of gd8) (fun w' h' => run_loadDk q8 (eval_same _ _ _ (by simp only [put_size, hsz]; decide)) h') ?_
      refine met_free po10 d10 (wanted_of gd10) (fun w' h' => run_move q10 ((eval_other _ 46 0 _ (by decide)).trans ((eval_other _ 45 0 _ (by decide)).trans ((eval_other _ 44 0 _ (by decide)).trans ((eval_other _ 43 0 _ (by decide)).trans ((eval_other _ 42 0 _ (by decide)).trans ((eval_other _ 41 0 _ (by decide)).trans ((eval_other _ 40 0 _ (by decide)).trans ((eval_other _ 39 0 _ (by decide)).trans ((eval_other _ 38 0 _ (by decide)).trans base0))))))))) w') ?_
      refine met_free po11 d11 (wanted_of gd11) (fun w' h' => run_nilCheck q11 (eval_same _ _ _ (by simp only [put_size, hsz]; decide)) w') ?_
      refine met_free po12 d12 (wanted_of gd12) (fun w' h' => run_fieldT (off := 0) q12 (fun _ => by kernel_rfl) (eval_same _ _ _ (by simp only [put_size, hsz]; decide)) w') ?_
      refine met_free po13 d13 (wanted_of gd13) (fun w' h' => run_loadDk q13 (eval_same _ _ _ (by simp only [put_size, hsz]; decide)) h') ?_
      refine m_enter po9 d9 (wanted_of gd9) (run_callf1 q9 rfl ((eval_other _ 51 46 _ (by decide)).trans ((eval_other _ 50 46 _ (by decide)).trans ((eval_other _ 49 46 _ (by decide)).trans ((eval_other _ 48 46 _ (by decide)).trans (eval_same _ _ _ (by simp only [put_size, hsz]; decide)))))) Tryd.func20 (by kernel_rfl) _) (dkRoom_any S1 g d _ HLD.out.disk) ?_
      rintro e wq ⟨rfl, rfl⟩
      refine ⟨_, rfl, HLD.out.cells.1, ?_⟩
      refine m_enter po14 d14 (wanted_of gd14) (run_callf1 q14 rfl ((eval_other _ 47 51 _ (by decide)).trans (eval_same _ _ _ (by simp only [put_size, hsz]; decide))) Tryd.func14 (by kernel_rfl) _) (dkUsed_any S1 g d _ HLD.out.disk) ?_
      rintro e wq ⟨rfl, rfl⟩
      refine ⟨_, rfl, HLD.out.cells.1, ?_⟩
      refine met_free po15 d15 (wanted_of gd15) (fun w' h' => run_subI q15 ((eval_other _ 52 47 _ (by decide)).trans (eval_same _ _ _ (by simp only [put_size, hsz]; decide))) (eval_same _ _ _ (by simp only [put_size, hsz]; decide)) (by omega) w') ?_
      refine met_free po16 d16 (wanted_of gd16) (fun w' h' => run_gtrF q16 ((eval_other _ 53 42 _ (by decide)).trans ((eval_other _ 52 42 _ (by decide)).trans ((eval_other _ 47 42 _ (by decide)).trans ((eval_other _ 51 42 _ (by decide)).trans ((eval_other _ 50 42 _ (by decide)).trans ((eval_other _ 49 42 _ (by decide)).trans ((eval_other _ 48 42 _ (by decide)).trans ((eval_other _ 46 42 _ (by decide)).trans ((eval_other _ 45 42 _ (by decide)).trans ((eval_other _ 44 42 _ (by decide)).trans ((eval_other _ 43 42 _ (by decide)).trans (eval_same _ _ _ (by simp only [put_size, hsz]; decide))))))))))))) (eval_same _ _ _ (by simp only [put_size, hsz]; decide)) hrf w') ?_
      show NoPanic _ .normal _ _
      refine NoPanic.normal ?_
      rw [HAA.out]
      go_frame
      clear HAA
      clear po0 q0 d0 gd0 po1 q1 d1 gd1 po2 q2 d2 gd2 po3 q3 d3 gd3 po4 q4 d4 gd4 po5 q5 d5 gd5 po6 q6 d6 gd6 po7 q7 d7 gd7 po8 q8 d8 gd8 po9 q9 d9 gd9 po10 q10 d10 gd10 po11 q11 d11 gd11 po12 q12 d12 gd12 po13 q13 d13 gd13 po14 q14 d14 gd14 po15 q15 d15 gd15 po16 q16 d16 gd16
      clear base0 base7 base8 hsz
      have e1 := append_begin (E := E) (f := (kb z, l)) HND.out HZ.out HNL.out (by show fitsW d E l.length = false; rw [HM.out]; exact HFI.out) h32 (by show ¬ d.room < d.used + needW d E l.length; rw [HM.out, HND2.out]; exact hroom)
      have HAB := Lib.hid e1
      clear e1
      go_wp2_with (go_at_call 36; fail)
      rcases syncedW_cases HON.out hE with ⟨x1, x2, x3⟩ | ⟨x1, x2, x3, x4, x5, x6, x7⟩
      · have HX : Hid ((syncedW d E).2 = 9) := show _ = _ by rw [x1]
        clear x1 x2 x3
        refine (begin_struck HLD.out HON.out (by have := HC.out; omega) HX.out).mono ?_
        rintro e w5 ⟨rfl, hgo⟩
        have HG := Lib.hid (LgGo.trans HS1.out HTD.out hgo)
        clear hgo
        go_wp2_with fail
        go_ret
        rw [HAB.out]
        unfold beginW
        rw [if_pos (by rw [HX.out]; decide)]
        exact ⟨rfl, n, (fun x => by cases x), (fun x => by cases x), HG.out⟩
      · have HX : Hid ((syncedW d E).2 = 0) := show _ = _ by rw [x1]
        obtain ⟨d1, hd1⟩ : ∃ d1, d1 = (syncedW d E).1 := ⟨_, rfl⟩
        have hbg := begin_goes HLD.out hE HON.out (by have := HC.out; omega) HX.out (hdW_length (E + 1)) (by decide) (fun w' hs => (own_kept HL1.out HHD.out HB2.out.size (fun _ s => s) hs).lieW) (c := c3)
        have hcn := syncedW_count (d := d) (E := E)
        rw [← hd1] at hbg x2 x3 x4 x5 hcn
        have e0 := HNN.out hE31
        obtain ⟨hb, hhb⟩ : ∃ hb, hb = frameB (hdW (E + 1)).1 (hdW (E + 1)).2 := ⟨_, rfl⟩
        have hhl : hb.length = 17 := by rw [hhb, hdW_length]
        rw [← hhb] at hbg
        have hwr := DiskM.write_on x2 (f := E + 1) (by omega) hb (by rw [hhl]; omega)
        rw [show ((E + 1 : Nat) : Int) = (E : Int) + 1 by omega] at hwr
        have hu := used_setFile d (f := E + 1) (by omega) (G := writeF (E + 1) hb d1.files) (n := 17) (by rw [(write_same _ _ _).1, List.length_append, x5, hhl]) (fun s hs => by rw [write_other _ _ hs, x5])
        have hl2 : (writeF (E + 1) hb d1.files (E + 1)).all.length = 17 := by rw [(write_same _ _ _).1, List.length_append, x5, e0, hhl]; rfl
        have HBW : Hid (beginW d E (kb z, l) = if (d1.write ((E : Int) + 1) hb).2 ≠ 0 then ⟨(d1.write ((E : Int) + 1) hb).1, E + 1, true, 9⟩ else rowW (d1.write ((E : Int) + 1) hb).1 (E + 1) (kb z, l)) := show _ = _ by
          unfold beginW
          rw [if_neg (by rw [HX.out]; decide), ← hd1, ← hhb, show ((E + 1 : Nat) : Int) = (E : Int) + 1 by omega]
        have hc2 := write_count d1 ((E : Int) + 1) hb
        have hd2 : (d1.write ((E : Int) + 1) hb).1.down = decide (d1.left = 0) := by rw [hwr]; rfl
        have hr2 : (d1.write ((E : Int) + 1) hb).1.room = d.room := by rw [hwr]; exact x3
        have hu2 : (d1.write ((E : Int) + 1) hb).1.used = d.used + 17 := by rw [hwr]; exact hu
        have hf2 : ((d1.write ((E : Int) + 1) hb).1.files (E + 1)).all.length = 17 := by rw [hwr]; exact hl2
        have he2 : (d1.write ((E : Int) + 1) hb).2 = if d1.left = 0 then 9 else 0 := by rw [hwr]; rfl
        clear hu hl2 hwr x1 x5 x6 x7 hd1 hhb
        generalize (d1.write ((E : Int) + 1) hb).1 = d2 at hbg HBW hc2 hd2 hr2 hu2 hf2
        generalize (d1.write ((E : Int) + 1) hb).2 = e2 at hbg HBW he2
        refine hbg.mono ?_
        clear hbg
        rintro e w5 ⟨rfl, hgo⟩
        obtain ⟨S5, hl5, hS5, hs5⟩ := hgo
        have hO5 := own_kept HL1.out HOD.out (Nat.le_refl _) (fun _ s => s) hs5
        have HO5 := Lib.hid hO5
        have HS5 : Hid (∀ k, S5 k → S k ∨ w.heap.size ≤ k) := show ∀ k, _ → _ from fun k s => (hS5 k s).elim (HS1.out k) (fun x => Or.inr (Nat.le_trans HTD.out.size x))
        have HT5 : Hid (Stays (fun k => S k ∨ k = b) w w5) := show Stays _ _ _ from HTD.out.trans hs5 fun k f hk => by
          rcases f with f | f
          · rcases HS1.out k f with f | f
            · exact Or.inl f
            · omega
          · exact Or.inr f
        have HC2 : Hid (d2.count < 1000000000) := show _ < _ by have := HC.out; omega
        by_cases hleft : d1.left = 0
        · rw [if_pos hleft] at he2
          subst he2
          have HG5 : Hid (LgGo S b g d2 (E + 1) 17 true w w5) := ⟨S5, hl5, HS5.out, HT5.out⟩
          clear hl5 hS5 hs5 hO5 hd2 hr2 hu2 hf2 hc2 hhl e0 hcn x2 x3 x4 hleft
          go_wp2_with fail
          go_ret
          rw [HAB.out, HBW.out, if_pos (by decide)]
          exact ⟨rfl, 17, (fun x => by cases x), (fun x => by cases x), HG5.out⟩
        · rw [if_neg hleft] at he2
          subst he2
          rw [decide_eq_false hleft] at hd2
          have HL5 : Hid (LgIn S5 w5 b g d2 (E + 1) 17 false) := hl5
          have HD2 := Lib.hid hd2
          have HF2 := Lib.hid hf2
          have HU2 : Hid (d2.used + M ≤ d2.room) := show _ ≤ _ by omega
          have hcall := waWrite_any S5 b g (E + 1) 17 M c2 d2 false (frameB (kb z) l) q2 w5 HL5.out HC2.out HFL.out (by omega) (by decide) HO5.out.lieW
          have HCALL := Lib.hid hcall
          clear hcall
          clear hl5 hS5 hs5 hO5 hd2 hr2 hu2 hf2 hc2 hhl e0 hcn x2 x3 x4 hleft
          go_wp2_with (go_at_call 37; fail)
          refine HCALL.out.mono ?_
          rintro e w6 ⟨rfl, hgo⟩
          rw [Bool.false_or] at hgo
          have HG := Lib.hid (LgGo.trans HS5.out HT5.out hgo)
          clear hgo HCALL
          go_wp2_with fail
          go_ret
          rw [HAB.out, HBW.out, if_neg (by decide)]
          have e2 : (kb z, l).2.length + 9 = M := by show l.length + 9 = M; rw [HM.out, HMM.out]
          refine ⟨rfl, row_done HD2.out (by omega) (by omega) HF2.out.symm (by rw [e2]; exact HU2.out) ?_⟩
          rw [e2]
          exact HG.out
end Go.Proofs.YteanjfcejpibaaaDoor

/-
  Open: the log that a disk has, while the power stays; with the power off.
-/
namespace Go.Proofs.YteanjfcejpibaaaDoor
open Go.RowKit Go.Proofs.ShaWords
theorem open_files {F : Nat → FileM} {E n : Nat} (hE : E ≤ 32) (hok : ∀ s, s < 33 → (F s).dur ≤ (F s).all.length) (hn : 1 ≤ E → n ≤ (F E).all.length) : (if E = 0 then trimF F E n 32 else syncF E (trimF F E n 32)) = openF F E n := by
  funext s
  have ht : s ≠ E ∨ E = 0 → trimF F E n 32 s = openF F E n s := fun h => by
    unfold trimF openF
    by_cases h1 : s = 0 ∨ s < E ∨ 32 < s
    · rw [if_pos (by omega), if_pos h1]
    · rw [if_neg (by omega), if_neg h1, if_neg (show ¬ s = E by omega)]
      have hk : keptW E n s = 0 := if_neg (by omega)
      rw [hk]
      split
      · rename_i h2
        have h3 : (F s).all = [] := List.length_eq_zero_iff.1 h2
        have h4 := hok s (by omega)
        rw [h2] at h4
        cases hf : F s with
        | mk a u =>
          rw [hf] at h3 h4
          simp only at h3 h4
          rw [h3, Nat.le_zero.1 h4]
      · rfl
  by_cases h0 : E = 0
  · rw [if_pos h0]; exact ht (Or.inr h0)
  · rw [if_neg h0]
    unfold syncF
    by_cases e : s = E
    · subst e
      rw [setF_same]
      have hk : keptW s n s = n := if_pos rfl
      have hl := hn (by omega)
      have t1 : openF F s n s = ⟨(F s).all.take n, n⟩ := by unfold openF; rw [if_neg (show ¬ (s = 0 ∨ s < s ∨ 32 < s) by omega), if_pos rfl]
      have t2 : trimF F s n 32 s = if (F s).all.length = n then F s else ⟨(F s).all.take n, n⟩ := by unfold trimF; rw [if_neg (show ¬ (s = 0 ∨ 32 < s ∨ s < s) by omega), hk]
      rw [t1, t2]
      by_cases h2 : (F s).all.length = n
      · rw [if_pos h2, h2, List.take_of_length_le (by omega)]
      · rw [if_neg h2]
        show FileM.mk ((F s).all.take n) ((F s).all.take n).length = _
        rw [List.length_take, Nat.min_eq_left hl]
    · rw [setF_other _ _ e]; exact ht (Or.inl e)
/-- What Open leaves. -/
structure OpW (S : Nat → Prop) (w : World) (g : Nat) (d : DiskM) (E : Nat) (segs : Nat → List RowW) (b : Nat) (hv : Value) (vs : List Value) (S' : Nat → Prop) (d' : DiskM) (w' : World) : Prop where
  new : w.heap.size ≤ b
  log : LgIn S' w' b g d' E (nAt segs E) false
  grew : ∀ k, S' k → S k ∨ w.heap.size ≤ k
  st : Stays S w w'
  rows : FrL w.heap.size w' hv vs (rowsW segs E)
  aside : ∀ k, FrB hv vs k → ¬ S' k ∧ k ≠ b
  files : d'.files = openF d.files E (framesB (hdW E :: segs E)).length
  calm : d'.Calm
  room : d'.room = d.room
  count : d'.count ≤ d.count + 33
theorem waOpen_down (S : Nat → Prop) (g : Nat) (d : DiskM) (w : World) (h : DkAt S w g d) (hd : d.down = true) :
    Calls Tryd.prog 8 #[.pointer (some ⟨g, 0, none⟩)] w fun e w' => e = .returned (.tuple #[.pointer none, .slice none 0 0, .int .i64 9]) ∧ w' = w := by
  have hx := dkDown_any S g d w h
  rw [hd] at hx
  have HX := Lib.hid hx
  clear h hx hd
  go_enter Tryd.func8, Tryd.ntmps8
  go_wp2_with fail
  refine HX.out.mono ?_
  rintro e w1 ⟨rfl, rfl⟩
  go_wp2_with fail
  go_ret3
  exact ⟨rfl, rfl⟩
set_option maxRecDepth 1000000 in
set_option maxHeartbeats 2000000 in
theorem waOpen_any (S : Nat → Prop) (g : Nat) (d : DiskM) (w : World) (E : Nat) (segs : Nat → List RowW) (r : List (BitVec 8)) (h : DkAt S w g d) (hcalm : d.Calm) (hc : d.count < 999998000) (hLog : LogOf (fun s => (d.files s).all) E segs r) (hsm : ∀ s, 1 ≤ s → s ≤ 32 → (d.files s).all.length < 100000) (hR : Rem w) :
    Calls Tryd.prog 8 #[.pointer (some ⟨g, 0, none⟩)] w fun e w' => ∃ b hv vs S' d', e = .returned (.tuple #[.pointer (some ⟨b, 0, none⟩), hv, .int .i64 0]) ∧ OpW S w g d E segs b hv vs S' d' w' := by
  have hx := dkDown_any S g d w h
  rw [hcalm.down] at hx
  have HX := Lib.hid hx
  have HD := Lib.hid h
  have HCALM := Lib.hid hcalm
  have HC := Lib.hid hc
  have HLOG := Lib.hid hLog
  have HSM := Lib.hid hsm
  have HR := Lib.hid hR
  have HS : Hid (∀ k, S k → k < w.heap.size) := show ∀ k, _ → _ from by
    obtain ⟨⟨vs, hv⟩, -⟩ := h
    exact hv.dom
  have HE : Hid (E ≤ 32 ∧ True) := show _ ∧ _ from ⟨hLog.le, trivial⟩
  have HNL : Hid (1 ≤ E → nAt segs E ≤ (d.files E).all.length) := show _ → _ from fun h1 => by
    have h2 := congrArg List.length (hLog.last h1).eq
    simp only [List.length_append] at h2
    have h3 : nAt segs E = (framesB (hdW E :: segs E)).length := if_neg (by omega)
    omega
  have HNB : Hid (nAt segs E < 900000 ∧ True) := show _ ∧ _ from ⟨by
    by_cases h0 : E = 0
    · unfold nAt; rw [if_pos h0]; omega
    · have h1 := HNL.out (by omega)
      have h2 := hsm E (by omega) hLog.le
      omega, trivial⟩
  clear h hx hcalm hc hLog hsm hR
  go_enter Tryd.func8, Tryd.ntmps8
  go_wp2_with fail
  refine HX.out.mono ?_
  rintro e w1 ⟨rfl, rfl⟩
  clear HX
  go_upto_region 4 with (fail)
  refine wp_gen (fun A => Below w.heap.size w A ∧ A.heap[w.heap.size]? = some (.cells (lgCells g 0 0 false) 61 (0, 0))) ⟨(Below.refl _ _).alloc (Nat.le_refl _) _, heap_new_at rfl⟩ ?_
  rintro A ⟨bA, hA⟩
  have hlg : LgIn S A w.heap.size g d 0 0 false := ⟨HD.out.below bA, hA, fun s => by have := HS.out _ s; omega⟩
  have HF := Lib.hid (waFind_any S w.heap.size g d A E segs r hlg HLOG.out HSM.out (fun w' hs => HR.out.on (bA.trans (hs.below (B := w.heap.size) (fun k e => by omega) bA.size))))
  have HBA := Lib.hid bA
  have hltA : w.heap.size < A.heap.size := hlg.lt
  clear bA hA hlg
  obtain ⟨b, hb⟩ : ∃ b, b = w.heap.size := ⟨_, rfl⟩
  rw [← hb] at HF ⊢
  have HBB := Lib.hid hb
  have HLT : Hid (b < A.heap.size) := show _ < _ by rw [hb]; exact hltA
  clear hb hltA
  go_wp2_with fail
  refine HF.out.mono ?_
  rintro e w2 ⟨hv, vs, rfl, hW⟩
  obtain ⟨q5, c5, rfl, -⟩ := hW.rows.sl9 (n := (rowsW segs E).length) rfl
  generalize (rowsW segs E).length = NR at hW ⊢
  have HW := Lib.hid hW
  have HT := Lib.hid (waTrim_any S b g E (nAt segs E) d w2 hW.log HE.out.1 HNL.out HNB.out.1 HCALM.out (by have := HC.out; omega))
  clear hW HF
  go_wp2_with (go_at_call 25; fail)
  refine HT.out.mono ?_
  rintro e w3 ⟨rfl, S3, d3, hT3⟩
  have HT3 := Lib.hid hT3
  have hsy := waSync_any S3 b g E (nAt segs E) d3 false w3 hT3.log (by have := hT3.count; have := HC.out; omega)
  rw [syncW_on hT3.calm.down] at hsy
  obtain ⟨d4, hd4, hf4, hc4, hr4, hn4⟩ : ∃ d4, syncedW d3 E = (d4, 0) ∧ d4.files = (if E = 0 then d3.files else syncF E d3.files) ∧ d4.Calm ∧ d4.room = d3.room ∧ d4.count ≤ d3.count + 1 := by
    unfold syncedW
    by_cases e : E = 0
    · rw [if_pos e, if_pos e]; exact ⟨d3, rfl, rfl, hT3.calm, rfl, Nat.le_succ _⟩
    · rw [if_neg e, if_neg e, hT3.calm.sync (f := (E : Int)) (by have := HE.out.1; omega), Int.toNat_natCast]
      exact ⟨_, rfl, rfl, ⟨hT3.calm.down, hT3.calm.left⟩, rfl, Nat.le_refl _⟩
  rw [hd4] at hsy
  have HSY := Lib.hid hsy
  have HF4 : Hid (d4.files = openF d.files E (framesB (hdW E :: segs E)).length) := show _ = _ by
    have e1 := open_files HE.out.1 HD.out.2.1.dur HNL.out
    rw [hf4, hT3.files, e1]
    by_cases e : E = 0
    · subst e
      funext s
      unfold openF
      by_cases h1 : s = 0 ∨ s < 0 ∨ 32 < s
      · rw [if_pos h1, if_pos h1]
      · rw [if_neg h1, if_neg h1, if_neg (by omega), if_neg (by omega)]
    · rw [show nAt segs E = (framesB (hdW E :: segs E)).length from if_neg e]
  have HC4 := Lib.hid hc4
  have HR4 : Hid (d4.room = d.room) := show _ = _ by rw [hr4, hT3.room]
  have HN4 : Hid (d4.count ≤ d.count + 33) := show _ ≤ _ by have := hT3.count; omega
  clear hT3 hsy hd4 hf4 hc4 hr4 hn4 HT
  go_wp2_with (go_at_call 22; fail)
  refine HSY.out.mono ?_
  rintro e w4 ⟨rfl, hgo⟩
  have hgo : LgGo S3 b g d4 E (nAt segs E) false w3 w4 := hgo
  obtain ⟨S4, hl4, hS4, hs4⟩ := LgGo.trans HT3.out.grew HT3.out.st hgo
  have hb9 := HBB.out
  have h2b : Below w.heap.size w w2 := HBA.out.trans (HW.out.st.below (B := w.heap.size) (fun k e => by omega) HBA.out.size)
  have hblk : ∀ k, FrB (.slice q5 NR c5) vs k → w.heap.size < k ∧ k < w2.heap.size := fun k hk => by
    have := HW.out.rows.blk hk
    have h3 := HW.out.log.lt
    have h4 := HBA.out.size
    refine ⟨?_, this.2⟩
    rcases Nat.lt_or_ge w.heap.size k with h5 | h5
    · exact h5
    · exfalso
      have h6 : A.heap.size ≤ k := this.1
      have h7 : b < A.heap.size := HLT.out
      omega
  have HOP : Hid (OpW S w g d E segs b (.slice q5 NR c5) vs S4 d4 w4) := by
    refine ⟨by omega, hl4, fun k s => ?_, ⟨?_, ?_, ?_, ?_, fun k hk hn => ?_⟩, ?_, fun k hk => ?_, HF4.out, HC4.out, HR4.out, HN4.out⟩
    · rcases hS4 k s with s | s
      · exact Or.inl s
      · exact Or.inr (Nat.le_trans h2b.size s)
    · exact hs4.os.trans h2b.os
    · exact hs4.tape.trans h2b.tape
    · exact hs4.output.trans h2b.output
    · exact Nat.le_trans h2b.size hs4.size
    · rw [hs4.block k (Nat.lt_of_lt_of_le hk h2b.size) (fun f => f.elim hn (fun e => by omega))]
      exact h2b.block k hk
    · refine (HW.out.rows.same fun k hk => hs4.block k (hblk k hk).2 (fun f => ?_)).from fun k hk => Nat.le_of_lt (hblk k hk).1
      have := (hblk k hk).1
      rcases f with f | f
      · have := HS.out k f; omega
      · omega
    · have := hblk k hk
      refine ⟨fun s => ?_, by omega⟩
      rcases hS4 k s with s | s
      · have := HS.out k s; omega
      · omega
  clear hgo hl4 hS4 hs4 hb9 h2b hblk
  go_wp2_with fail
  go_ret3
  exact ⟨b, _, vs, S4, d4, rfl, HOP.out⟩
end Go.Proofs.YteanjfcejpibaaaDoor

/-
  A row more while the power stays: what is used, how long the segment is, when there is no room.
-/
namespace Go.Proofs.YteanjfcejpibaaaDoor
open Go.Proofs.ShaWords
structure AddedW (d : DiskM) (E : Nat) (f : RowW) (r : WaRes) : Prop where
  e : r.e = 0
  dead : r.dead = false
  calm : r.d.Calm
  used : r.d.used = d.used + needW d E f.2.length
  room : r.d.room = d.room
  seg : r.E = if fitsW d E f.2.length = true then E else E + 1
  len : (r.d.files r.E).all.length = (if fitsW d E f.2.length = true then (d.files E).all.length else 17) + (f.2.length + 9)
  files : r.d.files = if fitsW d E f.2.length = true then writeF E (frameB f.1 f.2) d.files else writeF (E + 1) (frameB f.1 f.2) (writeF (E + 1) (frameB (hdW (E + 1)).1 (hdW (E + 1)).2) (if E = 0 then d.files else syncF E d.files))
theorem append_calm {d : DiskM} {E : Nat} {segs : Nat → List RowW} (h : LogFiles (fun s => (d.files s).all) E segs) (hc : d.Calm) (z : Int) (hz : 1 ≤ z ∧ z ≤ 254) (f : RowW) (hf : f.2.length ≤ 2022) (hroom : d.used + needW d E f.2.length ≤ d.room) (h32 : fitsW d E f.2.length = true ∨ E < 32) :
    AddedW d E f (appendW d E false z f) := by
  have hle := h.le
  unfold appendW
  rw [if_neg (by rw [hc.down]; decide), if_neg (by omega), if_neg (by omega), if_neg (by
    rintro (⟨a, b⟩ | a)
    · rcases h32 with h3 | h3
      · rw [h3] at a; cases a
      · omega
    · omega)]
  by_cases hfit : fitsW d E f.2.length = true
  · rw [if_pos hfit]
    have h1 : 1 ≤ E := by unfold fitsW at hfit; simp at hfit; omega
    have hn : needW d E f.2.length = f.2.length + 9 := by unfold needW; rw [if_pos hfit]
    have hu := used_write d E (by omega) (frameB f.1 f.2)
    rw [frameB_length] at hu
    unfold rowW
    rw [hc.write (f := (E : Int)) (by omega) _ (by rw [frameB_length]; omega), Int.toNat_natCast]
    refine ⟨rfl, rfl, ⟨hc.down, hc.left⟩, ?_, rfl, by rw [if_pos hfit], ?_, by rw [if_pos hfit]⟩
    · rw [hn]; exact hu
    · show (writeF E _ d.files E).all.length = _
      rw [if_pos hfit, (write_same _ _ _).1, List.length_append, frameB_length]
  · rw [if_neg hfit]
    have hE : E < 32 := h32.resolve_left hfit
    have hn : needW d E f.2.length = f.2.length + 9 + 17 := by unfold needW; rw [if_neg hfit]
    obtain ⟨d1, hd1, hc1, hr1, hu1, hf1, hfi1⟩ : ∃ d1, syncedW d E = (d1, 0) ∧ d1.Calm ∧ d1.room = d.room ∧ d1.used = d.used ∧ (d1.files (E + 1)).all = [] ∧ d1.files = if E = 0 then d.files else syncF E d.files := by
      have h0 : (d.files (E + 1)).all = [] := h.rest (E + 1) (by omega) (by omega)
      unfold syncedW
      by_cases e : E = 0
      · rw [if_pos e, if_pos e]; exact ⟨d, rfl, hc, rfl, rfl, h0, rfl⟩
      · rw [if_neg e, if_neg e, hc.sync (f := (E : Int)) (by omega), Int.toNat_natCast]
        exact ⟨_, rfl, ⟨hc.down, hc.left⟩, rfl, used_sync d E (by omega), by show (syncF E d.files (E + 1)).all = []; rw [sync_all]; exact h0, rfl⟩
    unfold beginW
    rw [hd1, if_neg (by show ¬ (0 : Int) ≠ 0; decide)]
    show AddedW d E f (if (d1.write ((E + 1 : Nat) : Int) _).2 ≠ 0 then _ else _)
    have hu2 := used_write d1 (E + 1) (by omega) (frameB (hdW (E + 1)).1 (hdW (E + 1)).2)
    rw [hdW_length] at hu2
    rw [hc1.write (f := ((E + 1 : Nat) : Int)) (by omega) _ (by rw [hdW_length]; omega), Int.toNat_natCast, if_neg (by show ¬ (0 : Int) ≠ 0; decide)]
    have hc2 : (({ d1 with files := writeF (E + 1) (frameB (hdW (E + 1)).1 (hdW (E + 1)).2) d1.files, count := d1.count + 1 } : DiskM)).Calm := ⟨hc1.down, hc1.left⟩
    have hl2 : (writeF (E + 1) (frameB (hdW (E + 1)).1 (hdW (E + 1)).2) d1.files (E + 1)).all.length = 17 := by rw [(write_same _ _ _).1, hf1, List.nil_append, hdW_length]
    have hu2' : (({ d1 with files := writeF (E + 1) (frameB (hdW (E + 1)).1 (hdW (E + 1)).2) d1.files, count := d1.count + 1 } : DiskM)).used = d1.used + 17 := hu2
    have hr2 : (({ d1 with files := writeF (E + 1) (frameB (hdW (E + 1)).1 (hdW (E + 1)).2) d1.files, count := d1.count + 1 } : DiskM)).room = d1.room := rfl
    have hf2 : (({ d1 with files := writeF (E + 1) (frameB (hdW (E + 1)).1 (hdW (E + 1)).2) d1.files, count := d1.count + 1 } : DiskM)).files = writeF (E + 1) (frameB (hdW (E + 1)).1 (hdW (E + 1)).2) d1.files := rfl
    generalize ({ d1 with files := writeF (E + 1) (frameB (hdW (E + 1)).1 (hdW (E + 1)).2) d1.files, count := d1.count + 1 } : DiskM) = d2 at hc2 hu2' hr2 hf2 ⊢
    have hu3 := used_write d2 (E + 1) (by omega) (frameB f.1 f.2)
    rw [frameB_length] at hu3
    unfold rowW
    rw [hc2.write (f := ((E + 1 : Nat) : Int)) (by omega) _ (by rw [frameB_length]; omega), Int.toNat_natCast]
    refine ⟨rfl, rfl, ⟨hc2.down, hc2.left⟩, ?_, by show d2.room = _; omega, by rw [if_neg hfit], ?_, ?_⟩
    · show sumTo (writeF (E + 1) _ d2.files) 33 = _
      omega
    · show (writeF (E + 1) _ d2.files (E + 1)).all.length = _
      rw [if_neg hfit, (write_same _ _ _).1, List.length_append, frameB_length, hf2, hl2]
    · show writeF (E + 1) _ d2.files = _
      rw [if_neg hfit, hf2, hfi1]
/-- The files are a log with a row more. -/
theorem AddedW.log {d : DiskM} {E : Nat} {segs : Nat → List RowW} {f : RowW} {r : WaRes} (ha : AddedW d E f r) (h : LogFiles (fun s => (d.files s).all) E segs) (hf : f.1 ≠ 0#8 ∧ f.2.length ≤ 2039) (h32 : fitsW d E f.2.length = true ∨ E < 32) :
    ∃ segs', LogFiles (fun s => (r.d.files s).all) r.E segs' ∧ rowsW segs' r.E = rowsW segs E ++ [f] := by
  have hE := ha.seg
  have hfi := ha.files
  by_cases hfit : fitsW d E f.2.length = true
  · rw [if_pos hfit] at hE hfi
    have h1 : 1 ≤ E := by unfold fitsW at hfit; simp at hfit; omega
    obtain ⟨n, rfl⟩ : ∃ n, E = n + 1 := ⟨E - 1, by omega⟩
    rw [hE, hfi]
    exact ⟨_, h.row (G := fun s => (writeF (n + 1) (frameB f.1 f.2) d.files s).all) f hf (write_same _ _ _).1 (fun s _ _ e => by show (writeF (n + 1) _ d.files s).all = _; rw [write_other _ _ e])⟩
  · rw [if_neg hfit] at hE hfi
    have hE31 := h32.resolve_left hfit
    have h0 : (d.files (E + 1)).all = [] := h.rest (E + 1) (by omega) (by omega)
    have hsy : ∀ s, ((if E = 0 then d.files else syncF E d.files) s).all = (d.files s).all := fun s => by
      split
      · rfl
      · exact sync_all _ _ _
    generalize (if E = 0 then d.files else syncF E d.files) = F1 at hfi hsy
    rw [hE, hfi]
    exact ⟨_, h.next (G := fun s => (writeF (E + 1) (frameB f.1 f.2) (writeF (E + 1) (frameB (hdW (E + 1)).1 (hdW (E + 1)).2) F1) s).all) [f] (fun x hx => by rw [List.mem_singleton.1 hx]; exact hf) hE31
      (by show (writeF (E + 1) _ _ (E + 1)).all = _; rw [(write_same _ _ _).1, (write_same _ _ _).1, hsy, h0, List.nil_append, framesB_cons, framesB_one])
      (fun s _ _ e => by show (writeF (E + 1) _ _ s).all = _; rw [write_other _ _ e, write_other _ _ e]; exact hsy s)⟩
/-- Rows of at most 900 bytes: how long they are. -/
theorem rows_short : ∀ (l : List RowW), (∀ f ∈ l, f.2.length ≤ 900) → (framesB l).length ≤ l.length * 909
  | [], _ => Nat.zero_le _
  | f :: l, h => by
    have ih := rows_short l (fun x hx => h x (List.mem_cons_of_mem _ hx))
    have := h f List.mem_cons_self
    rw [framesB_cons, List.length_append, frameB_length, List.length_cons]
    omega
/-- A log that holds all that was appended; no segment is longer than it may be; each but the last has two rows or more. -/
structure FitsW (d : DiskM) (E : Nat) (segs : Nat → List RowW) (all : List RowW) : Prop where
  live : LiveW d E segs 0 all
  calm : d.Calm
  short : ∀ s, 1 ≤ s → s ≤ E → ∀ f ∈ segs s, f.2.length ≤ 900
  two : 2 * (E - 1) + (segs E).length ≤ all.length
  none : E = 0 → all = []
theorem FitsW.len {d : DiskM} {E : Nat} {segs : Nat → List RowW} {all : List RowW} (h : FitsW d E segs all) (h1 : 1 ≤ E) : (d.files E).all.length ≤ 17 + (segs E).length * 909 := by
  rw [show (d.files E).all = _ from h.live.files.seg E h1 (Nat.le_refl _), framesB_cons, List.length_append, hdW_length]
  have := rows_short (segs E) (h.short E h1 (Nat.le_refl _))
  omega
/-- One row more of at most 900 bytes, with less than sixty before: it is full only when the disk is. -/
theorem FitsW.step {d : DiskM} {E : Nat} {segs : Nat → List RowW} {all : List RowW} (h : FitsW d E segs all) (hn : all.length < 60) (z : Int) (hz : 1 ≤ z ∧ z ≤ 254) (f : RowW) (hf : f.1 ≠ 0#8 ∧ f.2.length ≤ 900) :
    (d.used + needW d E f.2.length ≤ d.room ∧ AddedW d E f (appendW d E false z f) ∧ (∃ segs', FitsW (appendW d E false z f).d (appendW d E false z f).E segs' (all ++ [f])) ∧ ((appendW d E false z f).d.files (appendW d E false z f).E).all.length ≤ 2048) ∨
    (d.room < d.used + 26 + f.2.length ∧ appendW d E false z f = ⟨d, E, false, 8⟩) := by
  have hlen := h.len
  have hle := h.live.files.le
  by_cases hroom : d.used + needW d E f.2.length ≤ d.room
  · refine Or.inl ⟨hroom, ?_⟩
    have hE31 : E < 32 := by have := h.two; omega
    have ha := append_calm h.live.files h.calm z hz f (by omega) hroom (Or.inr hE31)
    have hl := (append_live h.live h.calm.down z hz f ⟨hf.1, by omega⟩)
    refine ⟨ha, ?_, ?_⟩
    · by_cases hfit : fitsW d E f.2.length = true
      · have hE := ha.seg
        rw [if_pos hfit] at hE
        have h1 : 1 ≤ E := by unfold fitsW at hfit; simp at hfit; omega
        have hfi := ha.files
        rw [if_pos hfit] at hfi
        obtain ⟨g1, g2, g3⟩ := LogFiles.wrote h.live h1 f ⟨hf.1, by omega⟩
        rw [hE]
        refine ⟨setW segs E (segs E ++ [f]), ⟨by rw [hfi]; exact g1, by rw [hfi]; exact g2, g3⟩, ha.calm, fun s a b x hx => ?_, ?_, fun e => by omega⟩
        · by_cases e : s = E
          · subst e
            rw [setW_same] at hx
            rcases List.mem_append.1 hx with hx | hx
            · exact h.short _ a b x hx
            · rw [List.mem_singleton.1 hx]; exact hf.2
          · rw [setW_other _ _ e] at hx; exact h.short s a b x hx
        · rw [setW_same, List.length_append, List.length_append]
          have := h.two
          simp only [List.length_singleton]
          omega
      · have hE := ha.seg
        rw [if_neg hfit] at hE
        have hfi := ha.files
        rw [if_neg hfit] at hfi
        have h0 : (d.files (E + 1)).all = [] := h.live.files.rest (E + 1) (by omega) (by omega)
        have hsy : ∀ s, ((if E = 0 then d.files else syncF E d.files) s).all = (d.files s).all := fun s => by
          split
          · rfl
          · exact sync_all _ _ _
        have hso : ∀ s, s ≠ E → (if E = 0 then d.files else syncF E d.files) s = d.files s := fun s hs => by
          split
          · rfl
          · exact sync_other _ hs
        have hsd : 1 ≤ E → ((if E = 0 then d.files else syncF E d.files) E).dur = (d.files E).all.length := fun h1 => by
          rw [if_neg (by omega)]; exact (sync_same _ _).2
        generalize (if E = 0 then d.files else syncF E d.files) = F1 at hfi hsy hso hsd
        obtain ⟨g1, g2, g3⟩ := LogFiles.begun (G := (appendW d E false z f).d.files) h.live hE31 [f] (fun x hx => by rw [List.mem_singleton.1 hx]; exact ⟨hf.1, by omega⟩)
          (by rw [hfi, (write_same _ _ _).1, (write_same _ _ _).1, hsy, h0, List.nil_append, framesB_cons, framesB_one])
          ⟨by rw [hfi, write_other _ _ (by omega), write_other _ _ (by omega)]; exact hsy E, fun h1 => by rw [hfi, write_other _ _ (by omega), write_other _ _ (by omega)]; exact hsd h1⟩
          (fun s a b => by rw [hfi, write_other _ _ b, write_other _ _ b]; exact hso s a)
        rw [hE]
        refine ⟨setW segs (E + 1) [f], ⟨g1, g2, g3⟩, ha.calm, fun s a b x hx => ?_, ?_, fun e => by omega⟩
        · by_cases e : s = E + 1
          · subst e
            rw [setW_same] at hx
            rw [List.mem_singleton.1 hx]; exact hf.2
          · rw [setW_other _ _ e] at hx; exact h.short s a (by omega) x hx
        · rw [setW_same, List.length_append, Nat.add_sub_cancel]
          have ht := h.two
          simp only [List.length_singleton]
          by_cases e0 : E = 0
          · omega
          · have hl2 : 2 ≤ (segs E).length := by
              unfold fitsW at hfit
              simp at hfit
              have := hfit (by omega)
              have := hlen (by omega)
              omega
            omega
    · rw [ha.len]
      by_cases hfit : fitsW d E f.2.length = true
      · rw [if_pos hfit]
        unfold fitsW at hfit
        simp at hfit
        omega
      · rw [if_neg hfit]; omega
  · refine Or.inr ⟨?_, ?_⟩
    · unfold needW at hroom
      split at hroom <;> omega
    · unfold appendW
      rw [if_neg (by rw [h.calm.down]; decide), if_neg (by omega), if_neg (by omega), if_pos (Or.inr (by omega))]
/-- Opened again: as much is used as before. -/
theorem open_used {F : Nat → FileM} {E : Nat} {segs : Nat → List RowW} (h : LogFiles (fun s => (F s).all) E segs) : sumTo (openF F E (framesB (hdW E :: segs E)).length) 33 = sumTo F 33 :=
  Nat.le_antisymm (sumTo_mono 33 fun s hs => by rw [openF_again h s (by omega)]; exact Nat.le_refl _) (sumTo_mono 33 fun s hs => by rw [openF_again h s (by omega)]; exact Nat.le_refl _)
/-- Opening takes nothing up. -/
theorem open_used_le {F : Nat → FileM} {E : Nat} {segs : Nat → List RowW} : sumTo (openF F E (framesB (hdW E :: segs E)).length) 33 ≤ sumTo F 33 :=
  sumTo_mono 33 fun s hs => by
    unfold openF
    split
    · exact Nat.le_refl _
    · split
      · rename_i e; subst e
        show ((F s).all.take _).length ≤ _
        rw [List.length_take]; omega
      · exact Nat.zero_le _
/-- Where no later segment has bytes, the log ends no later. -/
theorem LogOf.small {F : Nat → List (BitVec 8)} {E : Nat} {segs : Nat → List RowW} {r : List (BitVec 8)} (h : LogOf F E segs r) {n : Nat} (hn : ∀ s, n < s → s ≤ 32 → F s = []) : E ≤ n := by
  rcases Nat.lt_or_ge n E with h1 | h1
  · have h2 := h.last (by omega)
    rw [hn E h1 h.le] at h2
    exact absurd h2 scan_nil
  · exact h1
/-- Two logs of the same files are the same. -/
theorem LogOf.unique {F : Nat → List (BitVec 8)} {E E' : Nat} {segs segs' : Nat → List RowW} {r r' : List (BitVec 8)} (h : LogOf F E segs r) (k : LogOf F E' segs' r') : E = E' ∧ r = r' ∧ ∀ s, 1 ≤ s → s ≤ E → segs s = segs' s := by
  have main : ∀ {E E' : Nat} {segs segs' : Nat → List RowW} {r r' : List (BitVec 8)}, LogOf F E segs r → LogOf F E' segs' r' → E' ≤ E := by
    intro E E' segs segs' r r' h k
    rcases Nat.lt_or_ge E E' with h1 | h1
    · exfalso
      have hk : ∃ g s, ScanOf (F (E + 1)) (hdW (E + 1) :: g) s := by
        rcases Nat.lt_or_ge (E + 1) E' with h2 | h2
        · exact ⟨_, _, k.whole (E + 1) (by omega) h2⟩
        · have e : E + 1 = E' := by omega
          rw [e]; exact ⟨_, _, k.last (by omega)⟩
      rcases h.stop with h2 | h2 | h2
      · have := k.le; omega
      · have h0 : 1 ≤ E := by
          rcases Nat.eq_zero_or_pos E with h3 | h3
          · exact absurd (h.none h3) h2
          · exact h3
        have := ((h.last h0).unique (k.whole E h0 h1)).2
        exact h2 this
      · obtain ⟨g, s, hs⟩ := hk; exact h2 g s hs
    · exact h1
  have e : E = E' := Nat.le_antisymm (main k h) (main h k)
  subst e
  have hr : 1 ≤ E → r = r' ∧ hdW E :: segs E = hdW E :: segs' E := fun h0 => ⟨((h.last h0).unique (k.last h0)).2, ((h.last h0).unique (k.last h0)).1⟩
  refine ⟨rfl, ?_, fun s h1 h2 => ?_⟩
  · rcases Nat.eq_zero_or_pos E with h3 | h3
    · rw [h.none h3, k.none h3]
    · exact (hr h3).1
  · rcases Nat.lt_or_ge s E with h3 | h3
    · exact (List.cons.inj ((h.whole s h1 h3).unique (k.whole s h1 h3)).1).2
    · have e : s = E := by omega
      subst e
      exact (List.cons.inj (hr h1).2).2
end Go.Proofs.YteanjfcejpibaaaDoor
