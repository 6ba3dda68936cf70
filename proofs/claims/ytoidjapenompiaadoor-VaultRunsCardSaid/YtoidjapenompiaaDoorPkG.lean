/-
  What other texts lean on: WaPure, WaDo, WaMem, WaLog, WaHead, WaFindW, WaFind, WaTrim, WaAppend, WaPut, WaOpen, WaFits.
-/
import Derived.Test.YtoidjapenompiaaDoorPkA
import Derived.Test.YtoidjapenompiaaDoorPkW
import Derived.Test.YtoidjapenompiaaDoorPkY
import Derived.Test.YtoidjapenompiaaDoorPkZ
import Derived.Test.YtoidjapenompiaaDoorPkB
import Derived.Test.YtoidjapenompiaaDoorPkD
import Derived.Deep.LoopGhost
import Derived.OwnWalk
/-
  A log of rows as plain data: segments (files 1 to 32) of frames, each behind its head; what a log is of any files; what opening, a row more, a crash make of it.
-/
namespace Go.Proofs.YtoidjapenompiaaDoor
open Go.Proofs.ShaWords
abbrev RowW : Type := BitVec 8 × List (BitVec 8)
/-- A segment's head. -/
def hdW (s : Nat) : RowW := (255#8, be8 (s : Int))
theorem hdW_ok (s : Nat) : (hdW s).1 ≠ 0#8 ∧ (hdW s).2.length ≤ 2039 := ⟨by show (255#8 : BitVec 8) ≠ 0#8; decide, by show (be8 (s : Int)).length ≤ 2039; rw [be8_length]; omega⟩
theorem hdW_length (s : Nat) : (frameB (hdW s).1 (hdW s).2).length = 17 := by rw [frameB_length]; show (be8 (s : Int)).length + 9 = 17; rw [be8_length]
theorem framesB_nil : framesB [] = [] := rfl
theorem framesB_one (f : RowW) : framesB [f] = frameB f.1 f.2 := by rw [framesB_cons, framesB_nil, List.append_nil]
theorem framesB_takeW {gs : List RowW} {j : Nat} (h : j < gs.length) : framesB (gs.take (j + 1)) = framesB (gs.take j) ++ frameB gs[j].1 gs[j].2 := by
  rw [List.take_succ_eq_append_getElem h, framesB_append, framesB_one]
theorem framesB_leW (gs : List RowW) (j : Nat) : (framesB (gs.take j)).length ≤ (framesB gs).length := by
  conv => rhs; rw [← List.take_append_drop j gs, framesB_append, List.length_append]
  omega
theorem framesB_mono (gs : List RowW) {i j : Nat} (h : i ≤ j) : (framesB (gs.take i)).length ≤ (framesB (gs.take j)).length := by
  have := framesB_leW (gs.take j) i
  rwa [List.take_take, Nat.min_eq_left h] at this
/-- The frames that are whole within so many bytes. -/
theorem framesB_place (gs : List RowW) (k : Nat) : ∃ j, j ≤ gs.length ∧ (framesB (gs.take j)).length ≤ k ∧ (j = gs.length ∨ k < (framesB (gs.take (j + 1))).length) := by
  have h : ∀ n, n ≤ gs.length → ∃ j, j ≤ n ∧ (framesB (gs.take j)).length ≤ k ∧ (j = n ∨ k < (framesB (gs.take (j + 1))).length) := fun n => by
    induction n with
    | zero => intro _; exact ⟨0, Nat.le_refl _, by simp [framesB], Or.inl rfl⟩
    | succ n ih =>
      intro hn
      obtain ⟨j, h1, h2, h3⟩ := ih (by omega)
      rcases h3 with h3 | h3
      · by_cases hk : (framesB (gs.take (n + 1))).length ≤ k
        · exact ⟨n + 1, Nat.le_refl _, hk, Or.inl rfl⟩
        · exact ⟨j, by omega, h2, Or.inr (by rw [h3]; omega)⟩
      · exact ⟨j, by omega, h2, Or.inr h3⟩
  exact h gs.length (Nat.le_refl _)
theorem scan_place {gs : List RowW} (hok : ∀ f ∈ gs, f.1 ≠ 0#8 ∧ f.2.length ≤ 2039) {j k : Nat} (hj : j ≤ gs.length) (h1 : (framesB (gs.take j)).length ≤ k) (h2 : j = gs.length ∨ k < (framesB (gs.take (j + 1))).length) (h3 : k ≤ (framesB gs).length) :
    ∃ r, ScanOf ((framesB gs).take k) (gs.take j) r := by
  by_cases he : j = gs.length
  · subst he
    rw [List.take_length] at h1 ⊢
    have e : k = (framesB gs).length := by omega
    rw [e, List.take_length]
    exact ⟨[], scan_all gs hok⟩
  · have hlt : j < gs.length := by omega
    have h2' := h2.resolve_left he
    have hs : gs = gs.take j ++ gs[j] :: gs.drop (j + 1) := by rw [← List.drop_eq_getElem_cons hlt, List.take_append_drop]
    rw [framesB_takeW hlt, List.length_append] at h2'
    have h := scan_cut (gs.take j) (gs.drop (j + 1)) gs[j] k (fun x hx => hok x (List.mem_of_mem_take hx)) (hok _ (List.getElem_mem hlt)) h1 h2'
    rw [← hs] at h
    exact ⟨_, h⟩
/-- The log of any files: it ends in E (0: in none), the rows of each segment, what stands behind its end there. -/
structure LogOf (F : Nat → List (BitVec 8)) (E : Nat) (segs : Nat → List RowW) (r : List (BitVec 8)) : Prop where
  le : E ≤ 32
  whole : ∀ s, 1 ≤ s → s < E → ScanOf (F s) (hdW s :: segs s) []
  last : 1 ≤ E → ScanOf (F E) (hdW E :: segs E) r
  none : E = 0 → r = []
  stop : E = 32 ∨ r ≠ [] ∨ ∀ g s, ¬ ScanOf (F (E + 1)) (hdW (E + 1) :: g) s
/-- All rows, in order. -/
def rowsW (segs : Nat → List RowW) : Nat → List RowW
  | 0 => []
  | n + 1 => rowsW segs n ++ segs (n + 1)
theorem rowsW_succ (segs : Nat → List RowW) (n : Nat) : rowsW segs (n + 1) = rowsW segs n ++ segs (n + 1) := rfl
theorem rowsW_congr {a b : Nat → List RowW} : ∀ n, (∀ s, 1 ≤ s → s ≤ n → a s = b s) → rowsW a n = rowsW b n
  | 0, _ => rfl
  | n + 1, h => by
    unfold rowsW
    rw [rowsW_congr n (fun s h1 h2 => h s h1 (by omega)), h (n + 1) (by omega) (Nat.le_refl _)]
def setW (segs : Nat → List RowW) (s : Nat) (l : List RowW) : Nat → List RowW := fun k => if k = s then l else segs k
theorem setW_same (segs : Nat → List RowW) (s : Nat) (l : List RowW) : setW segs s l s = l := if_pos rfl
theorem setW_other (segs : Nat → List RowW) {s k : Nat} (l : List RowW) (h : k ≠ s) : setW segs s l k = segs k := if_neg h
theorem rowsW_below (segs : Nat → List RowW) (s : Nat) (l : List RowW) {n : Nat} (h : n < s) : rowsW (setW segs s l) n = rowsW segs n :=
  rowsW_congr n fun k _ h2 => setW_other _ _ (by omega)
theorem rowsW_set (segs : Nat → List RowW) (n : Nat) (l : List RowW) : rowsW (setW segs (n + 1) l) (n + 1) = rowsW segs n ++ l := by
  rw [rowsW_succ, rowsW_below segs (n + 1) l (Nat.lt_succ_self n), setW_same]
/-- Files that are a log and nothing else. -/
structure LogFiles (F : Nat → List (BitVec 8)) (E : Nat) (segs : Nat → List RowW) : Prop where
  le : E ≤ 32
  seg : ∀ s, 1 ≤ s → s ≤ E → F s = framesB (hdW s :: segs s)
  ok : ∀ s, 1 ≤ s → s ≤ E → ∀ f ∈ segs s, f.1 ≠ 0#8 ∧ f.2.length ≤ 2039
  rest : ∀ s, E < s → s ≤ 32 → F s = []
theorem scan_nil {g : RowW} {gs : List RowW} {r : List (BitVec 8)} : ¬ ScanOf [] (g :: gs) r := fun h => by
  have e := congrArg List.length h.eq
  rw [framesB_cons, List.length_append, List.length_append, frameB_length] at e
  simp at e
  omega
theorem LogFiles.okAll {F : Nat → List (BitVec 8)} {E : Nat} {segs : Nat → List RowW} (h : LogFiles F E segs) {s : Nat} (h1 : 1 ≤ s) (h2 : s ≤ E) : ∀ f ∈ hdW s :: segs s, f.1 ≠ 0#8 ∧ f.2.length ≤ 2039 := fun f hf => by
  rcases List.mem_cons.1 hf with rfl | hf
  · exact hdW_ok s
  · exact h.ok s h1 h2 f hf
theorem LogFiles.log {F : Nat → List (BitVec 8)} {E : Nat} {segs : Nat → List RowW} (h : LogFiles F E segs) : LogOf F E segs [] :=
  ⟨h.le, fun s h1 h2 => by rw [h.seg s h1 (by omega)]; exact scan_all _ (h.okAll h1 (by omega)), fun h1 => by rw [h.seg E h1 (Nat.le_refl _)]; exact scan_all _ (h.okAll h1 (Nat.le_refl _)), fun _ => rfl, by
    by_cases e : E = 32
    · exact Or.inl e
    · refine Or.inr (Or.inr fun g s hs => ?_)
      rw [h.rest (E + 1) (by omega) (by have := h.le; omega)] at hs
      exact scan_nil hs⟩
theorem LogFiles.new : LogFiles (fun _ => []) 0 (fun _ => []) := ⟨by omega, fun s h1 h2 => by omega, fun s h1 h2 => by omega, fun _ _ _ => rfl⟩
/-- A row more in the segment in which it ends; a new segment. -/
theorem LogFiles.row {F G : Nat → List (BitVec 8)} {E : Nat} {segs : Nat → List RowW} (h : LogFiles F (E + 1) segs) (f : RowW) (hf : f.1 ≠ 0#8 ∧ f.2.length ≤ 2039) (hE : G (E + 1) = F (E + 1) ++ frameB f.1 f.2) (hG : ∀ s, 1 ≤ s → s ≤ 32 → s ≠ E + 1 → G s = F s) :
    LogFiles G (E + 1) (setW segs (E + 1) (segs (E + 1) ++ [f])) ∧ rowsW (setW segs (E + 1) (segs (E + 1) ++ [f])) (E + 1) = rowsW segs (E + 1) ++ [f] := by
  refine ⟨⟨h.le, fun s h1 h2 => ?_, fun s h1 h2 x hx => ?_, fun s h1 h2 => ?_⟩, ?_⟩
  · by_cases e : s = E + 1
    · subst e
      rw [hE, setW_same, h.seg (E + 1) h1 h2, ← List.cons_append, framesB_append, framesB_one]
    · rw [hG s h1 (by have := h.le; omega) e, setW_other _ _ e]; exact h.seg s h1 h2
  · by_cases e : s = E + 1
    · subst e
      rw [setW_same] at hx
      rcases List.mem_append.1 hx with hx | hx
      · exact h.ok _ h1 h2 x hx
      · rw [List.mem_singleton.1 hx]; exact hf
    · rw [setW_other _ _ e] at hx; exact h.ok s h1 h2 x hx
  · rw [hG s (by omega) h2 (by omega)]; exact h.rest s h1 h2
  · rw [rowsW_set, rowsW_succ, List.append_assoc]
theorem LogFiles.next {F G : Nat → List (BitVec 8)} {E : Nat} {segs : Nat → List RowW} (h : LogFiles F E segs) (l : List RowW) (hl : ∀ f ∈ l, f.1 ≠ 0#8 ∧ f.2.length ≤ 2039) (h32 : E < 32) (hE : G (E + 1) = framesB (hdW (E + 1) :: l)) (hG : ∀ s, 1 ≤ s → s ≤ 32 → s ≠ E + 1 → G s = F s) :
    LogFiles G (E + 1) (setW segs (E + 1) l) ∧ rowsW (setW segs (E + 1) l) (E + 1) = rowsW segs E ++ l := by
  refine ⟨⟨by omega, fun s h1 h2 => ?_, fun s h1 h2 x hx => ?_, fun s h1 h2 => ?_⟩, rowsW_set _ _ _⟩
  · by_cases e : s = E + 1
    · subst e; rw [hE, setW_same]
    · rw [hG s h1 (by omega) e, setW_other _ _ e]; exact h.seg s h1 (by omega)
  · by_cases e : s = E + 1
    · subst e; rw [setW_same] at hx; exact hl x hx
    · rw [setW_other _ _ e] at hx; exact h.ok s h1 (by omega) x hx
  · rw [hG s (by omega) h2 (by omega)]; exact h.rest s (by omega) h2
/-- What opening leaves: the segment in which the log ends is cut and synced, the later ones are emptied. -/
def openF (F : Nat → FileM) (E n : Nat) : Nat → FileM := fun s => if s = 0 ∨ s < E ∨ 32 < s then F s else if s = E then ⟨(F E).all.take n, n⟩ else ⟨[], 0⟩
theorem LogOf.opened {F : Nat → FileM} {E : Nat} {segs : Nat → List RowW} {r : List (BitVec 8)} (h : LogOf (fun s => (F s).all) E segs r) : LogFiles (fun s => (openF F E (framesB (hdW E :: segs E)).length s).all) E segs := by
  have hle := h.le
  refine ⟨hle, fun s h1 h2 => ?_, fun s h1 h2 f hf => ?_, fun s h1 h2 => ?_⟩
  · show (openF F E _ s).all = _
    unfold openF
    by_cases e : s < E
    · rw [if_pos (Or.inr (Or.inl e)), (h.whole s h1 e).eq, List.append_nil]
    · have e2 : s = E := by omega
      subst e2
      rw [if_neg (by omega), if_pos rfl]
      show (F s).all.take _ = _
      rw [(h.last h1).eq, List.take_append_of_le_length (Nat.le_refl _), List.take_length]
  · by_cases e : s < E
    · exact (h.whole s h1 e).ok f (List.mem_cons_of_mem _ hf)
    · have e2 : s = E := by omega
      subst e2
      exact (h.last h1).ok f (List.mem_cons_of_mem _ hf)
  · show (openF F E _ s).all = _
    unfold openF
    rw [if_neg (by omega), if_neg (by omega)]
theorem openF_dur {F : Nat → FileM} {E : Nat} {segs : Nat → List RowW} {r : List (BitVec 8)} (h : LogOf (fun s => (F s).all) E segs r) (hd : ∀ s, 1 ≤ s → s < E → (F s).dur = (F s).all.length) : ∀ s, 1 ≤ s → s ≤ 32 → (openF F E (framesB (hdW E :: segs E)).length s).dur = (openF F E (framesB (hdW E :: segs E)).length s).all.length := fun s h1 h2 => by
  unfold openF
  by_cases e : s < E
  · rw [if_pos (Or.inr (Or.inl e))]; exact hd s h1 e
  · rw [if_neg (by omega)]
    by_cases e2 : s = E
    · subst e2
      rw [if_pos rfl]
      show _ = ((F s).all.take _).length
      rw [(h.last h1).eq, List.take_append_of_le_length (Nat.le_refl _), List.take_length]
    · rw [if_neg e2]; rfl
/-- What is durable of a log: all segments ahead of the last one; of the rows, at least so many. -/
structure LogDur (F : Nat → FileM) (E : Nat) (segs : Nat → List RowW) (must : Nat) : Prop where
  ahead : ∀ s, 1 ≤ s → s < E → (F s).dur = (F s).all.length
  must : must ≤ (rowsW segs (E - 1)).length ∨ 1 ≤ E ∧ ∃ j, j ≤ (segs E).length ∧ must ≤ (rowsW segs (E - 1)).length + j ∧ (framesB (hdW E :: (segs E).take j)).length ≤ (F E).dur
/-- Behind a crash there is a log that has at least what must be there, and of the others the first ones. -/
theorem LogDur.crash {F G : Nat → FileM} {E : Nat} {segs : Nat → List RowW} {must : Nat} (hF : LogFiles (fun s => (F s).all) E segs) (hD : LogDur F E segs must) (hG : ∀ s, s < 33 → ∃ k, G s = cutTo (F s) k) (hok : ∀ s, s < 33 → (F s).dur ≤ (F s).all.length) :
    ∃ E' segs' r, LogOf (fun s => (G s).all) E' segs' r ∧ rowsW segs' E' <+: rowsW segs E ∧ must ≤ (rowsW segs' E').length ∧ (∀ s, s < 33 → (G s).dur = (G s).all.length) ∧ ∀ s, E < s → s ≤ 32 → (G s).all = [] := by
  have hle := hF.le
  have hdur : ∀ s, s < 33 → (G s).dur = (G s).all.length := fun s hs => by
    obtain ⟨k, hk⟩ := hG s hs
    rw [hk]; exact (cutTo_ok (hok s hs) k).2.1
  have hsame : ∀ s, s < 33 → (F s).dur = (F s).all.length → (G s).all = (F s).all := fun s hs e => by
    obtain ⟨k, hk⟩ := hG s hs
    rw [hk]; unfold cutTo; dsimp only
    rw [List.take_of_length_le (by omega)]
  have hwh : ∀ s, 1 ≤ s → s < E → (G s).all = framesB (hdW s :: segs s) := fun s h1 h2 => by
    rw [hsame s (by omega) (hD.ahead s h1 h2)]; exact hF.seg s h1 (by omega)
  have hrest : ∀ s, E < s → s ≤ 32 → (G s).all = [] := fun s h1 h2 => by
    obtain ⟨k, hk⟩ := hG s (by omega)
    have e : (F s).all = [] := hF.rest s h1 h2
    rw [hk]; unfold cutTo; dsimp only
    rw [e, List.take_nil]
  cases E with
  | zero =>
    refine ⟨0, segs, [], ⟨by omega, fun s h1 h2 => by omega, fun h => by omega, fun _ => rfl, Or.inr (Or.inr fun g s hs => ?_)⟩, List.prefix_refl _, ?_, hdur, hrest⟩
    · rw [show (G (0 + 1)).all = [] from hrest 1 (by omega) (by omega)] at hs
      exact scan_nil hs
    · rcases hD.must with h | ⟨h, -⟩
      · exact h
      · omega
  | succ E =>
    obtain ⟨k, hk⟩ := hG (E + 1) (by omega)
    have hco := cutTo_ok (hok (E + 1) (by omega)) k
    rw [← hk] at hco
    have hall : (F (E + 1)).all = framesB (hdW (E + 1) :: segs (E + 1)) := hF.seg (E + 1) (by omega) (Nat.le_refl _)
    obtain ⟨K, hK⟩ : ∃ K, K = (F (E + 1)).dur + (min (max k 0) (((F (E + 1)).all.length - (F (E + 1)).dur : Nat) : Int)).toNat := ⟨_, rfl⟩
    have hGd : (G (E + 1)).dur = K := by rw [hk, hK]; rfl
    have hGa : (G (E + 1)).all = (framesB (hdW (E + 1) :: segs (E + 1))).take K := by rw [← hall, hk, hK]; rfl
    rw [hGd, hall] at hco
    have hokA := hF.okAll (s := E + 1) (by omega) (Nat.le_refl _)
    obtain ⟨j, hj, h1, h2⟩ := framesB_place (hdW (E + 1) :: segs (E + 1)) K
    obtain ⟨r, hr⟩ := scan_place hokA hj h1 h2 hco.2.2
    rw [← hGa] at hr
    cases j with
    | zero =>
      have hno : ∀ g s, ¬ ScanOf ((G (E + 1)).all) (hdW (E + 1) :: g) s := fun g s hs => by
        have := (hs.unique hr).1
        simp at this
      refine ⟨E, segs, [], ⟨by omega, fun s h1 h2 => ?_, fun h1 => ?_, fun _ => rfl, Or.inr (Or.inr hno)⟩, ?_, ?_, hdur, hrest⟩
      · show ScanOf (G s).all _ _
        rw [hwh s h1 (by omega)]; exact scan_all _ (hF.okAll h1 (by omega))
      · show ScanOf (G E).all _ _
        rw [hwh E h1 (by omega)]; exact scan_all _ (hF.okAll h1 (by omega))
      · exact List.prefix_append _ _
      · rcases hD.must with h | ⟨-, i, h3, h4, h5⟩
        · exact h
        · exfalso
          have h6 : K < (framesB ((hdW (E + 1) :: segs (E + 1)).take (0 + 1))).length := by
            rcases h2 with h2 | h2
            · simp at h2
            · exact h2
          have h7 := framesB_mono (hdW (E + 1) :: segs (E + 1)) (show 0 + 1 ≤ i + 1 by omega)
          rw [List.take_succ_cons (i := i)] at h7
          omega
    | succ j =>
      rw [List.take_succ_cons] at hr
      refine ⟨E + 1, setW segs (E + 1) ((segs (E + 1)).take j), r, ⟨hle, fun s h1 h2 => ?_, fun _ => ?_, fun e => by omega, ?_⟩, ?_, ?_, hdur, hrest⟩
      · show ScanOf (G s).all _ _
        rw [setW_other _ _ (by omega), hwh s h1 h2]; exact scan_all _ (hF.okAll h1 (by omega))
      · show ScanOf (G (E + 1)).all _ _
        rw [setW_same]; exact hr
      · by_cases e : E + 1 = 32
        · exact Or.inl e
        · refine Or.inr (Or.inr fun g s hs => ?_)
          rw [hrest (E + 1 + 1) (by omega) (by omega)] at hs
          exact scan_nil hs
      · rw [rowsW_set]
        exact List.prefix_append_right_inj _ |>.2 (List.take_prefix _ _)
      · rw [rowsW_set, List.length_append, List.length_take]
        rcases hD.must with h | ⟨-, i, h3, h4, h5⟩
        · rw [Nat.add_sub_cancel] at h; omega
        · rw [Nat.add_sub_cancel] at h4
          have h6 : i ≤ j := by
            rcases h2 with h2 | h2
            · simp at h2; omega
            · rcases Nat.lt_or_ge j i with h7 | h7
              · exfalso
                have h8 := framesB_mono (hdW (E + 1) :: segs (E + 1)) (show j + 1 + 1 ≤ i + 1 by omega)
                rw [List.take_succ_cons (i := i)] at h8
                omega
              · exact h7
          omega
end Go.Proofs.YtoidjapenompiaaDoor

/-
  What a log's calls make of the disk: a row more, a sync; what holds of the rows then, whether or not the power fails in between.
-/
namespace Go.Proofs.YtoidjapenompiaaDoor
open Go.Proofs.ShaWords
theorem sync_same (F : Nat → FileM) (f : Nat) : (syncF f F f).all = (F f).all ∧ (syncF f F f).dur = (F f).all.length := by unfold syncF; rw [setF_same]; exact ⟨rfl, rfl⟩
theorem sync_all (F : Nat → FileM) (f s : Nat) : (syncF f F s).all = (F s).all := by
  by_cases e : s = f
  · subst e; exact (sync_same F s).1
  · unfold syncF; rw [setF_other _ _ e]
theorem sync_other (F : Nat → FileM) {f s : Nat} (h : s ≠ f) : syncF f F s = F s := by unfold syncF; rw [setF_other _ _ h]
theorem write_same (F : Nat → FileM) (f : Nat) (b : List (BitVec 8)) : (writeF f b F f).all = (F f).all ++ b ∧ (writeF f b F f).dur = (F f).dur := by unfold writeF; rw [setF_same]; exact ⟨rfl, rfl⟩
theorem write_other (F : Nat → FileM) {f s : Nat} (b : List (BitVec 8)) (h : s ≠ f) : writeF f b F s = F s := by unfold writeF; rw [setF_other _ _ h]
theorem DiskM.openE_on {d : DiskM} (h : d.down = false) {f : Int} (hf : 0 ≤ f ∧ f ≤ 32) : d.openE f = 0 := by unfold DiskM.openE; rw [if_neg (by rw [h]; decide), if_pos hf]
theorem DiskM.write_on {d : DiskM} (h : d.down = false) {f : Nat} (hf : f ≤ 32) (b : List (BitVec 8)) (hr : d.used + b.length ≤ d.room) : d.write (f : Int) b = ({ d.tick with files := writeF f b d.files, count := d.count + 1 }, d.execE) := by
  unfold DiskM.write DiskM.exec
  rw [if_neg (by rw [DiskM.openE_on h (by omega)]; decide), if_neg (by omega), if_pos (by rfl), Int.toNat_natCast]
theorem DiskM.sync_on {d : DiskM} (h : d.down = false) {f : Nat} (hf : f ≤ 32) (hl : d.left ≠ 0) : d.sync (f : Int) = ({ d.tick with files := syncF f d.files, count := d.count + 1 }, 0) := by
  unfold DiskM.sync DiskM.exec DiskM.execE
  rw [if_neg (by rw [DiskM.openE_on h (by omega)]; decide), if_pos (by simpa using hl), if_neg hl, Int.toNat_natCast]
theorem DiskM.sync_struck {d : DiskM} (h : d.down = false) {f : Nat} (hf : f ≤ 32) (hl : d.left = 0) : d.sync (f : Int) = (d.tick, 9) := by
  unfold DiskM.sync DiskM.exec DiskM.execE
  rw [if_neg (by rw [DiskM.openE_on h (by omega)]; decide), if_neg (by simpa using hl), if_pos hl]
/-- What a call leaves: the disk, the segment in which the log ends, whether it is dead, the error. -/
structure WaRes where
  d : DiskM
  E : Nat
  dead : Bool
  e : Int
/-- A row more, where all is in order: there is room for it. -/
def fitsW (d : DiskM) (E n : Nat) : Bool := decide (1 ≤ E) && decide ((d.files E).all.length + (n + 9) ≤ 2048)
def needW (d : DiskM) (E n : Nat) : Nat := n + 9 + (if fitsW d E n = true then 0 else 17)
/-- The frame is written. -/
def rowW (d : DiskM) (E : Nat) (f : RowW) : WaRes := ⟨(d.write (E : Int) (frameB f.1 f.2)).1, E, decide ((d.write (E : Int) (frameB f.1 f.2)).2 = 9), (d.write (E : Int) (frameB f.1 f.2)).2⟩
/-- The segment in which it ends is synced, if there is one. -/
def syncedW (d : DiskM) (E : Nat) : DiskM × Int := if E = 0 then (d, 0) else d.sync (E : Int)
/-- A segment begins. -/
def beginW (d : DiskM) (E : Nat) (f : RowW) : WaRes :=
  if (syncedW d E).2 ≠ 0 then ⟨(syncedW d E).1, E, true, 9⟩
  else if ((syncedW d E).1.write ((E + 1 : Nat) : Int) (frameB (hdW (E + 1)).1 (hdW (E + 1)).2)).2 ≠ 0 then ⟨((syncedW d E).1.write ((E + 1 : Nat) : Int) (frameB (hdW (E + 1)).1 (hdW (E + 1)).2)).1, E + 1, true, 9⟩
  else rowW ((syncedW d E).1.write ((E + 1 : Nat) : Int) (frameB (hdW (E + 1)).1 (hdW (E + 1)).2)).1 (E + 1) f
def appendW (d : DiskM) (E : Nat) (dead : Bool) (z : Int) (f : RowW) : WaRes :=
  if dead = true ∨ d.down = true then ⟨d, E, true, 9⟩
  else if z < 1 ∨ 254 < z then ⟨d, E, false, 2⟩
  else if 2022 < f.2.length then ⟨d, E, false, 5⟩
  else if (fitsW d E f.2.length = false ∧ E = 32) ∨ d.room < d.used + needW d E f.2.length then ⟨d, E, false, 8⟩
  else if fitsW d E f.2.length = true then rowW d E f
  else beginW d E f
def syncW (d : DiskM) (E : Nat) (dead : Bool) : WaRes :=
  if dead = true ∨ d.down = true then ⟨d, E, true, 9⟩
  else ⟨(syncedW d E).1, E, decide ((syncedW d E).2 = 9), (syncedW d E).2⟩
/-- A log that goes on: its files, what is durable, all its rows. -/
structure LiveW (d : DiskM) (E : Nat) (segs : Nat → List RowW) (must : Nat) (all : List RowW) : Prop where
  files : LogFiles (fun s => (d.files s).all) E segs
  dur : LogDur d.files E segs must
  rows : rowsW segs E = all
/-- What is left when the power has failed. -/
def DeadW (d : DiskM) (must : Nat) (all : List RowW) : Prop := ∃ E segs, LogFiles (fun s => (d.files s).all) E segs ∧ LogDur d.files E segs must ∧ rowsW segs E <+: all
theorem rowsW_pred (segs : Nat → List RowW) (E : Nat) (h : 1 ≤ E) : rowsW segs E = rowsW segs (E - 1) ++ segs E := by
  obtain ⟨n, rfl⟩ : ∃ n, E = n + 1 := ⟨E - 1, by omega⟩
  rfl
theorem LogDur.le {F : Nat → FileM} {E : Nat} {segs : Nat → List RowW} {must : Nat} (h : LogDur F E segs must) : must ≤ (rowsW segs E).length := by
  rcases h.must with h1 | ⟨h0, j, h1, h2, -⟩
  · cases E with
    | zero => exact h1
    | succ E => rw [rowsW_succ, List.length_append]; rw [Nat.add_sub_cancel] at h1; omega
  · rw [rowsW_pred segs E h0, List.length_append]; omega
/-- The frame is written: the files are a log with a row more, whether or not the power fails. -/
theorem LogFiles.wrote {d : DiskM} {E : Nat} {segs : Nat → List RowW} {must : Nat} {all : List RowW} (h : LiveW d E segs must all) (h1 : 1 ≤ E) (f : RowW) (hf : f.1 ≠ 0#8 ∧ f.2.length ≤ 2039) :
    LogFiles (fun s => (writeF E (frameB f.1 f.2) d.files s).all) E (setW segs E (segs E ++ [f])) ∧ LogDur (writeF E (frameB f.1 f.2) d.files) E (setW segs E (segs E ++ [f])) must ∧ rowsW (setW segs E (segs E ++ [f])) E = all ++ [f] := by
  obtain ⟨n, rfl⟩ : ∃ n, E = n + 1 := ⟨E - 1, by omega⟩
  obtain ⟨g1, g2⟩ := h.files.row (G := fun s => (writeF (n + 1) (frameB f.1 f.2) d.files s).all) f hf (write_same _ _ _).1 (fun s _ _ e => by show (writeF (n + 1) _ d.files s).all = _; rw [write_other _ _ e])
  refine ⟨g1, ⟨fun s h1 h2 => ?_, ?_⟩, by rw [g2, h.rows]⟩
  · rw [write_other _ _ (by omega)]; exact h.dur.ahead s h1 h2
  · rw [Nat.add_sub_cancel, rowsW_below _ _ _ (Nat.lt_succ_self n), setW_same, (write_same _ _ _).2]
    rcases h.dur.must with h3 | ⟨h0, j, h4, h5, h6⟩
    · exact Or.inl h3
    · exact Or.inr ⟨h0, j, by rw [List.length_append]; omega, h5, by rw [List.take_append_of_le_length h4]; exact h6⟩
/-- A segment has begun, with these rows. -/
theorem LogFiles.begun {d : DiskM} {G : Nat → FileM} {E : Nat} {segs : Nat → List RowW} {must : Nat} {all : List RowW} (h : LiveW d E segs must all) (h32 : E < 32) (l : List RowW) (hl : ∀ f ∈ l, f.1 ≠ 0#8 ∧ f.2.length ≤ 2039)
    (hn : (G (E + 1)).all = framesB (hdW (E + 1) :: l)) (hE : (G E).all = (d.files E).all ∧ (1 ≤ E → (G E).dur = (d.files E).all.length)) (ho : ∀ s, s ≠ E → s ≠ E + 1 → G s = d.files s) :
    LogFiles (fun s => (G s).all) (E + 1) (setW segs (E + 1) l) ∧ LogDur G (E + 1) (setW segs (E + 1) l) must ∧ rowsW (setW segs (E + 1) l) (E + 1) = all ++ l := by
  obtain ⟨g1, g2⟩ := h.files.next (G := fun s => (G s).all) l hl h32 hn (fun s _ _ e => by
    by_cases e2 : s = E
    · subst e2; exact hE.1
    · show (G s).all = _; rw [ho s e2 e])
  refine ⟨g1, ⟨fun s h1 h2 => ?_, ?_⟩, by rw [g2, h.rows]⟩
  · by_cases e : s = E
    · subst e; rw [hE.2 h1, hE.1]
    · rw [ho s e (by omega)]; exact h.dur.ahead s h1 (by omega)
  · refine Or.inl ?_
    rw [Nat.add_sub_cancel, rowsW_below _ _ _ (Nat.lt_succ_self E)]
    exact h.dur.le
theorem LiveW.deadAs {d d' : DiskM} {E : Nat} {segs : Nat → List RowW} {must : Nat} {all more : List RowW} (h : LiveW d E segs must all) (hF : d'.files = d.files) : DeadW d' must (all ++ more) :=
  ⟨E, segs, by rw [hF]; exact h.files, by rw [hF]; exact h.dur, by rw [h.rows]; exact List.prefix_append _ _⟩
/-- What a row more answers, and what is left. -/
structure Appended (d : DiskM) (E must : Nat) (all : List RowW) (f : RowW) (r : WaRes) : Prop where
  e : r.e = 0 ∨ r.e = 8 ∨ r.e = 9
  ok : r.e = 0 → r.dead = false ∧ r.d.down = false ∧ ∃ segs, LiveW r.d r.E segs must (all ++ [f])
  full : r.e = 8 → r = ⟨d, E, false, 8⟩
  down : r.e = 9 → r.dead = true ∧ r.d.down = true ∧ DeadW r.d must (all ++ [f])
theorem rowW_live {d : DiskM} {E : Nat} {segs : Nat → List RowW} {must : Nat} {all : List RowW} {d0 : DiskM} {E0 : Nat} (hon : d.down = false) (h32 : E ≤ 32) (f : RowW) (hr : d.used + (f.2.length + 9) ≤ d.room)
    (h : LogFiles (fun s => (writeF E (frameB f.1 f.2) d.files s).all) E segs ∧ LogDur (writeF E (frameB f.1 f.2) d.files) E segs must ∧ rowsW segs E = all ++ [f]) : Appended d0 E0 must all f (rowW d E f) := by
  have hw := DiskM.write_on hon h32 (frameB f.1 f.2) (by rw [frameB_length]; exact hr)
  unfold rowW
  rw [hw]
  unfold DiskM.execE
  by_cases hl : d.left = 0
  · rw [if_pos hl]
    refine ⟨Or.inr (Or.inr rfl), fun e => absurd e (by show ¬ (9 : Int) = 0; decide), fun e => absurd e (by show ¬ (9 : Int) = 8; decide), fun _ => ⟨rfl, by show decide (d.left = 0) = true; simpa using hl, _, segs, h.1, h.2.1, by rw [h.2.2]; exact List.prefix_refl _⟩⟩
  · rw [if_neg hl]
    refine ⟨Or.inl rfl, fun _ => ⟨rfl, by show decide (d.left = 0) = false; simpa using hl, segs, h.1, h.2.1, h.2.2⟩, fun e => absurd e (by show ¬ (0 : Int) = 8; decide), fun e => absurd e (by show ¬ (0 : Int) = 9; decide)⟩
theorem used_setFile (d : DiskM) {f : Nat} (hf : f < 33) {G : Nat → FileM} {n : Nat} (h : (G f).all.length = (d.files f).all.length + n) (ho : ∀ s, s ≠ f → (G s).all = (d.files s).all) : sumTo G 33 = d.used + n := by
  have e : ∀ k, sumTo G k = sumTo (setF d.files f (G f)) k := fun k => by
    induction k with
    | zero => rfl
    | succ k ih =>
      unfold sumTo
      rw [ih]
      by_cases e : k = f
      · subst e; rw [setF_same]
      · rw [setF_other _ _ e, ho k e]
  have h2 := used_setF d f hf (G f)
  rw [← e 33] at h2
  omega
theorem syncedW_cases {d : DiskM} {E : Nat} (hon : d.down = false) (hE : E ≤ 32) :
    (syncedW d E = ((syncedW d E).1, 9) ∧ (syncedW d E).1.files = d.files ∧ (syncedW d E).1.down = true) ∨
    (syncedW d E = ((syncedW d E).1, 0) ∧ (syncedW d E).1.down = false ∧ (syncedW d E).1.room = d.room ∧ (syncedW d E).1.used = d.used ∧ (∀ s, ((syncedW d E).1.files s).all = (d.files s).all) ∧ (1 ≤ E → ((syncedW d E).1.files E).dur = (d.files E).all.length) ∧ ∀ s, s ≠ E → (syncedW d E).1.files s = d.files s) := by
  by_cases h0 : E = 0
  · subst h0
    exact Or.inr ⟨rfl, hon, rfl, rfl, fun _ => rfl, fun h => by omega, fun _ _ => rfl⟩
  · have e : syncedW d E = d.sync (E : Int) := if_neg h0
    rw [e]
    by_cases hl : d.left = 0
    · rw [DiskM.sync_struck hon hE hl]
      exact Or.inl ⟨rfl, rfl, by show decide (d.left = 0) = true; simpa using hl⟩
    · rw [DiskM.sync_on hon hE hl]
      refine Or.inr ⟨rfl, by show decide (d.left = 0) = false; simpa using hl, rfl, ?_, fun s => sync_all _ _ _, fun _ => (sync_same _ _).2, fun s hs => sync_other _ hs⟩
      have := used_setFile d (f := E) (by omega) (G := syncF E d.files) (n := 0) (by rw [sync_all]; rfl) (fun s _ => sync_all _ _ _)
      exact this
theorem append_live {d : DiskM} {E : Nat} {segs : Nat → List RowW} {must : Nat} {all : List RowW} (h : LiveW d E segs must all) (hon : d.down = false) (z : Int) (hz : 1 ≤ z ∧ z ≤ 254) (f : RowW) (hf : f.1 ≠ 0#8 ∧ f.2.length ≤ 2022) : Appended d E must all f (appendW d E false z f) := by
  have hle := h.files.le
  have hf' : f.1 ≠ 0#8 ∧ f.2.length ≤ 2039 := ⟨hf.1, by omega⟩
  unfold appendW
  rw [if_neg (by rw [hon]; decide), if_neg (by omega), if_neg (by omega)]
  by_cases hfull : (fitsW d E f.2.length = false ∧ E = 32) ∨ d.room < d.used + needW d E f.2.length
  · rw [if_pos hfull]
    exact ⟨Or.inr (Or.inl rfl), fun e => absurd e (by show ¬ (8 : Int) = 0; decide), fun _ => rfl, fun e => absurd e (by show ¬ (8 : Int) = 9; decide)⟩
  · rw [if_neg hfull]
    have hneed : ¬ d.room < d.used + needW d E f.2.length := fun e => hfull (Or.inr e)
    unfold needW at hneed
    by_cases hfit : fitsW d E f.2.length = true
    · rw [if_pos hfit]
      rw [if_pos hfit] at hneed
      have h1 : 1 ≤ E := by unfold fitsW at hfit; simp at hfit; omega
      exact rowW_live hon hle f (by omega) (LogFiles.wrote h h1 f hf')
    · rw [if_neg hfit]
      rw [if_neg hfit] at hneed
      have h32 : E < 32 := by
        rcases Nat.lt_or_ge E 32 with h3 | h3
        · exact h3
        · exact absurd (Or.inl ⟨by simpa using hfit, by omega⟩) hfull
      have hneed2 : d.used + 17 + (f.2.length + 9) ≤ d.room := by
        have e : (if false = true then 0 else 17) = 17 := rfl
        omega
      unfold beginW
      rcases syncedW_cases hon hle with ⟨e1, e2, e3⟩ | ⟨e1, e2, e3, e4, e5, e6, e7⟩
      · generalize (syncedW d E).1 = d1 at e1 e2 e3
        rw [e1, if_pos (by show ¬ (9 : Int) = 0; decide)]
        exact ⟨Or.inr (Or.inr rfl), fun e => absurd e (by show ¬ (9 : Int) = 0; decide), fun e => absurd e (by show ¬ (9 : Int) = 8; decide), fun _ => ⟨rfl, e3, h.deadAs e2⟩⟩
      · generalize (syncedW d E).1 = d1 at e1 e2 e3 e4 e5 e6 e7
        rw [e1, if_neg (by show ¬ (0 : Int) ≠ 0; decide)]
        show Appended d E must all f (if (d1.write ((E + 1 : Nat) : Int) _).2 ≠ 0 then _ else _)
        rw [DiskM.write_on e2 (by omega) _ (by rw [hdW_length]; omega)]
        have hG1 : ∀ s, s ≠ E + 1 → writeF (E + 1) (frameB (hdW (E + 1)).1 (hdW (E + 1)).2) d1.files s = d1.files s := fun s hs => write_other _ _ hs
        have hF1 : (writeF (E + 1) (frameB (hdW (E + 1)).1 (hdW (E + 1)).2) d1.files (E + 1)).all = frameB (hdW (E + 1)).1 (hdW (E + 1)).2 := by
          rw [(write_same _ _ _).1, e5, show (d.files (E + 1)).all = [] from h.files.rest (E + 1) (by omega) (by omega), List.nil_append]
        have hu := used_setFile d (f := E + 1) (by omega) (G := writeF (E + 1) (frameB (hdW (E + 1)).1 (hdW (E + 1)).2) d1.files) (n := 17)
          (by rw [hF1, hdW_length, show (d.files (E + 1)).all = [] from h.files.rest (E + 1) (by omega) (by omega)]; rfl) (fun s hs => by rw [hG1 s hs, e5])
        generalize hGG : writeF (E + 1) (frameB (hdW (E + 1)).1 (hdW (E + 1)).2) d1.files = G1 at hG1 hF1 hu
        unfold DiskM.execE
        by_cases hl : d1.left = 0
        · rw [if_pos hl, if_pos (by show ¬ (9 : Int) = 0; decide)]
          refine ⟨Or.inr (Or.inr rfl), fun e => absurd e (by show ¬ (9 : Int) = 0; decide), fun e => absurd e (by show ¬ (9 : Int) = 8; decide), fun _ => ⟨rfl, by show decide (d1.left = 0) = true; simpa using hl, ?_⟩⟩
          obtain ⟨g1, g2, g3⟩ := LogFiles.begun (G := G1) h h32 [] (fun x hx => by cases hx) (by rw [hF1, framesB_one]) ⟨by rw [hG1 E (by omega)]; exact e5 E, fun h1 => by rw [hG1 E (by omega)]; exact e6 h1⟩ (fun s h1 h2 => by rw [hG1 s h2, e7 s h1])
          exact ⟨E + 1, _, g1, g2, by rw [g3, List.append_nil]; exact List.prefix_append _ _⟩
        · rw [if_neg hl, if_neg (by show ¬ (0 : Int) ≠ 0; decide)]
          refine rowW_live (by show decide (d1.left = 0) = false; simpa using hl) (by omega) f (by show sumTo G1 33 + _ ≤ d1.room; omega) (LogFiles.begun (segs := segs) h h32 [f] (fun x hx => by rw [List.mem_singleton.1 hx]; exact hf') ?_ ⟨?_, fun h1 => ?_⟩ (fun s h1 h2 => ?_))
          · show (writeF (E + 1) _ G1 (E + 1)).all = _
            rw [(write_same _ _ _).1, hF1, framesB_cons, framesB_one]
          · show (writeF (E + 1) _ G1 E).all = _
            rw [write_other _ _ (by omega), hG1 E (by omega)]; exact e5 E
          · show (writeF (E + 1) _ G1 E).dur = _
            rw [write_other _ _ (by omega), hG1 E (by omega)]; exact e6 h1
          · show writeF (E + 1) _ G1 s = _
            rw [write_other _ _ h2, hG1 s h2, e7 s h1]
/-- What a sync answers, and what is left. -/
theorem sync_live {d : DiskM} {E : Nat} {segs : Nat → List RowW} {must : Nat} {all : List RowW} (h : LiveW d E segs must all) (hon : d.down = false) :
    ((syncW d E false).e = 0 ∧ (syncW d E false).dead = false ∧ (syncW d E false).d.down = false ∧ (syncW d E false).E = E ∧ LiveW (syncW d E false).d E segs all.length all) ∨
    ((syncW d E false).e = 9 ∧ (syncW d E false).dead = true ∧ (syncW d E false).d.down = true ∧ DeadW (syncW d E false).d must all) := by
  have hle := h.files.le
  unfold syncW
  rw [if_neg (by rw [hon]; decide)]
  rcases syncedW_cases hon hle with ⟨e1, e2, e3⟩ | ⟨e1, e2, e3, e4, e5, e6, e7⟩
  · generalize (syncedW d E).1 = d1 at e1 e2 e3
    rw [e1]
    refine Or.inr ⟨rfl, rfl, e3, ?_⟩
    have := h.deadAs (more := []) e2
    rwa [List.append_nil] at this
  · generalize (syncedW d E).1 = d1 at e1 e2 e3 e4 e5 e6 e7
    rw [e1]
    refine Or.inl ⟨rfl, rfl, e2, rfl, ⟨?_, ⟨fun s h1 h2 => ?_, ?_⟩, h.rows⟩⟩
    · show LogFiles (fun s => (d1.files s).all) E segs
      rw [show (fun s => (d1.files s).all) = fun s => (d.files s).all from funext e5]; exact h.files
    · show (d1.files s).dur = (d1.files s).all.length
      rw [e7 s (by omega)]; exact h.dur.ahead s h1 h2
    · by_cases h0 : E = 0
      · subst h0
        refine Or.inl ?_
        rw [← h.rows]; exact Nat.le_refl _
      · refine Or.inr ⟨by omega, (segs E).length, Nat.le_refl _, ?_, ?_⟩
        · rw [← h.rows, rowsW_pred segs E (by omega), List.length_append]; exact Nat.le_refl _
        · show _ ≤ (d1.files E).dur
          rw [e6 (by omega), List.take_length, show (d.files E).all = _ from h.files.seg E (by omega) (Nat.le_refl _)]
          exact Nat.le_refl _
/-- A log whose every segment is durable. -/
theorem LiveW.opened {F : Nat → FileM} {E : Nat} {segs : Nat → List RowW} {r : List (BitVec 8)} {d : DiskM} (h : LogOf (fun s => (F s).all) E segs r) (hd : ∀ s, 1 ≤ s → s < E → (F s).dur = (F s).all.length) (hF : d.files = openF F E (framesB (hdW E :: segs E)).length) :
    LiveW d E segs (rowsW segs E).length (rowsW segs E) := by
  have h1 := h.opened
  have h2 := openF_dur h hd
  rw [← hF] at h1 h2
  have hle := h.le
  refine ⟨h1, ⟨fun s a b => h2 s a (by omega), ?_⟩, rfl⟩
  by_cases h0 : E = 0
  · subst h0; exact Or.inl (Nat.le_refl _)
  · refine Or.inr ⟨by omega, (segs E).length, Nat.le_refl _, ?_, ?_⟩
    · rw [rowsW_pred segs E (by omega), List.length_append]; exact Nat.le_refl _
    · rw [h2 E (by omega) hle, List.take_length, show (d.files E).all = _ from h1.seg E (by omega) (Nat.le_refl _)]
      exact Nat.le_refl _
theorem LiveW.dead {d : DiskM} {E : Nat} {segs : Nat → List RowW} {must : Nat} {all : List RowW} (h : LiveW d E segs must all) : DeadW d must all := ⟨E, segs, h.files, h.dur, by rw [h.rows]; exact List.prefix_refl _⟩
end Go.Proofs.YtoidjapenompiaaDoor

/-
  A log in memory beside its disk; a list of frames by the blocks that it has.
-/
namespace Go.Proofs.YtoidjapenompiaaDoor
open Go.RowKit Go.Proofs.ShaWords
section
variable {S : Nat → Prop} {w w' : World} {b g E n : Nat} {d : DiskM} {dead : Bool}
end
theorem ownsRow_same {w w' : World} {B size n : Nat} {e : TypeId} {v : Value} {xs : List Value} (h : w.ownsRow B e size v n xs) (hb : ∀ k, v.ownBlock = some k → w'.heap[k]? = w.heap[k]?) : w'.ownsRow B e size v n xs := by
  refine ⟨h.1, ?_⟩
  rcases h.2 with h0 | ⟨g, cap, cur, he, hg, hh, r⟩
  · exact Or.inl h0
  · exact Or.inr ⟨g, cap, cur, he, hg, (hb g (by rw [he]; rfl)).trans hh, r⟩
end Go.Proofs.YtoidjapenompiaaDoor

/-
  What a log does beside its disk: note, down, Seg; what a row is written as.
-/
namespace Go.Proofs.YtoidjapenompiaaDoor
open Go.RowKit Go.Proofs.ShaWords
section
variable {ρ : Operand → Value} {o : Oper} {x y : Operand}
end
end Go.Proofs.YtoidjapenompiaaDoor

/-
  Is a frame a segment's head?
-/
namespace Go.Proofs.YtoidjapenompiaaDoor
open Go.RowKit Go.Proofs.ShaWords
section
variable {ρ : Operand → Value} {o : Oper} {x y : Operand}
end
end Go.Proofs.YtoidjapenompiaaDoor

/-
  What find holds between two steps: the log, the rows so far, the frames of the segment.
-/
namespace Go.Proofs.YtoidjapenompiaaDoor
open Go.RowKit Go.Proofs.ShaWords
section
variable {S : Nat → Prop} {w A A' : World} {b g E n B : Nat} {d : DiskM} {hv hf : Value} {vs us : List Value} {rows fs : List RowW}
end
section
variable {ρ : Operand → Value} {o : Oper} {x y : Operand}
end
end Go.Proofs.YtoidjapenompiaaDoor

/-
  find: the rows of the log that a disk has, and where it ends.
-/
namespace Go.Proofs.YtoidjapenompiaaDoor
open Go.RowKit Go.Proofs.ShaWords
/-- A segment as it is scanned, where the log goes on into it. -/
theorem LogOf.at {F : Nat → List (BitVec 8)} {E : Nat} {segs : Nat → List RowW} {r : List (BitVec 8)} (h : LogOf F E segs r) {k : Nat} (hk : k < E) : ∃ r1, ScanOf (F (k + 1)) (hdW (k + 1) :: segs (k + 1)) r1 ∧ (k + 1 < E → r1 = []) ∧ (k + 1 = E → r1 = r) := by
  by_cases e : k + 1 < E
  · exact ⟨[], h.whole (k + 1) (by omega) e, fun _ => rfl, fun x => by omega⟩
  · have e2 : k + 1 = E := by omega
    subst e2
    exact ⟨r, h.last (by omega), fun x => by omega, fun _ => rfl⟩
end Go.Proofs.YtoidjapenompiaaDoor

/-
  trim: what stands behind the log's end is cut off, while the power stays.
-/
namespace Go.Proofs.YtoidjapenompiaaDoor
open Go.RowKit Go.Proofs.ShaWords
theorem DiskM.Calm.cut {d : DiskM} (h : d.Calm) {f n : Nat} (hf : f ≤ 32) (hn : n ≤ (d.files f).all.length) : d.cut (f : Int) (n : Int) = ({ d with files := cutF f n d.files, count := d.count + 1 }, 0) := by
  unfold DiskM.cut
  rw [if_neg (by rw [h.openE (by omega)]; decide), Int.toNat_natCast, if_neg (by omega), h.exec, h.execE, Int.toNat_natCast]
end Go.Proofs.YtoidjapenompiaaDoor

/-
  A row more: the head that is written ahead, a segment's beginning, Append.
-/
namespace Go.Proofs.YtoidjapenompiaaDoor
open Go.RowKit Go.Proofs.ShaWords
end Go.Proofs.YtoidjapenompiaaDoor

/-
  Append: what it answers, and what it leaves, is the model's.
-/
namespace Go.Proofs.YtoidjapenompiaaDoor
open Go.RowKit Go.Proofs.ShaWords
end Go.Proofs.YtoidjapenompiaaDoor

/-
  Open: the log that a disk has, while the power stays; with the power off.
-/
namespace Go.Proofs.YtoidjapenompiaaDoor
open Go.RowKit Go.Proofs.ShaWords
end Go.Proofs.YtoidjapenompiaaDoor

/-
  A row more while the power stays: what is used, how long the segment is, when there is no room.
-/
namespace Go.Proofs.YtoidjapenompiaaDoor
open Go.Proofs.ShaWords
structure AddedW (d : DiskM) (E : Nat) (f : RowW) (r : WaRes) : Prop where
  e : r.e = 0
  dead : r.dead = false
  calm : r.d.Calm
  used : r.d.used = d.used + needW d E f.2.length
  room : r.d.room = d.room
  seg : r.E = if fitsW d E f.2.length = true then E else E + 1
  len : (r.d.files r.E).all.length = (if fitsW d E f.2.length = true then (d.files E).all.length else 17) + (f.2.length + 9)
  files : r.d.files = if fitsW d E f.2.length = true then writeF E (frameB f.1 f.2) d.files else writeF (E + 1) (frameB f.1 f.2) (writeF (E + 1) (frameB (hdW (E + 1)).1 (hdW (E + 1)).2) (if E = 0 then d.files else syncF E d.files))
theorem append_calm {d : DiskM} {E : Nat} {segs : Nat → List RowW} (h : LogFiles (fun s => (d.files s).all) E segs) (hc : d.Calm) (z : Int) (hz : 1 ≤ z ∧ z ≤ 254) (f : RowW) (hf : f.2.length ≤ 2022) (hroom : d.used + needW d E f.2.length ≤ d.room) (h32 : fitsW d E f.2.length = true ∨ E < 32) :
    AddedW d E f (appendW d E false z f) := by
  have hle := h.le
  unfold appendW
  rw [if_neg (by rw [hc.down]; decide), if_neg (by omega), if_neg (by omega), if_neg (by
    rintro (⟨a, b⟩ | a)
    · rcases h32 with h3 | h3
      · rw [h3] at a; cases a
      · omega
    · omega)]
  by_cases hfit : fitsW d E f.2.length = true
  · rw [if_pos hfit]
    have h1 : 1 ≤ E := by unfold fitsW at hfit; simp at hfit; omega
    have hn : needW d E f.2.length = f.2.length + 9 := by unfold needW; rw [if_pos hfit]
    have hu := used_write d E (by omega) (frameB f.1 f.2)
    rw [frameB_length] at hu
    unfold rowW
    rw [hc.write (f := (E : Int)) (by omega) _ (by rw [frameB_length]; omega), Int.toNat_natCast]
    refine ⟨rfl, rfl, ⟨hc.down, hc.left⟩, ?_, rfl, by rw [if_pos hfit], ?_, by rw [if_pos hfit]⟩
    · rw [hn]; exact hu
    · show (writeF E _ d.files E).all.length = _
      rw [if_pos hfit, (write_same _ _ _).1, List.length_append, frameB_length]
  · rw [if_neg hfit]
    have hE : E < 32 := h32.resolve_left hfit
    have hn : needW d E f.2.length = f.2.length + 9 + 17 := by unfold needW; rw [if_neg hfit]
    obtain ⟨d1, hd1, hc1, hr1, hu1, hf1, hfi1⟩ : ∃ d1, syncedW d E = (d1, 0) ∧ d1.Calm ∧ d1.room = d.room ∧ d1.used = d.used ∧ (d1.files (E + 1)).all = [] ∧ d1.files = if E = 0 then d.files else syncF E d.files := by
      have h0 : (d.files (E + 1)).all = [] := h.rest (E + 1) (by omega) (by omega)
      unfold syncedW
      by_cases e : E = 0
      · rw [if_pos e, if_pos e]; exact ⟨d, rfl, hc, rfl, rfl, h0, rfl⟩
      · rw [if_neg e, if_neg e, hc.sync (f := (E : Int)) (by omega), Int.toNat_natCast]
        exact ⟨_, rfl, ⟨hc.down, hc.left⟩, rfl, used_sync d E (by omega), by show (syncF E d.files (E + 1)).all = []; rw [sync_all]; exact h0, rfl⟩
    unfold beginW
    rw [hd1, if_neg (by show ¬ (0 : Int) ≠ 0; decide)]
    show AddedW d E f (if (d1.write ((E + 1 : Nat) : Int) _).2 ≠ 0 then _ else _)
    have hu2 := used_write d1 (E + 1) (by omega) (frameB (hdW (E + 1)).1 (hdW (E + 1)).2)
    rw [hdW_length] at hu2
    rw [hc1.write (f := ((E + 1 : Nat) : Int)) (by omega) _ (by rw [hdW_length]; omega), Int.toNat_natCast, if_neg (by show ¬ (0 : Int) ≠ 0; decide)]
    have hc2 : (({ d1 with files := writeF (E + 1) (frameB (hdW (E + 1)).1 (hdW (E + 1)).2) d1.files, count := d1.count + 1 } : DiskM)).Calm := ⟨hc1.down, hc1.left⟩
    have hl2 : (writeF (E + 1) (frameB (hdW (E + 1)).1 (hdW (E + 1)).2) d1.files (E + 1)).all.length = 17 := by rw [(write_same _ _ _).1, hf1, List.nil_append, hdW_length]
    have hu2' : (({ d1 with files := writeF (E + 1) (frameB (hdW (E + 1)).1 (hdW (E + 1)).2) d1.files, count := d1.count + 1 } : DiskM)).used = d1.used + 17 := hu2
    have hr2 : (({ d1 with files := writeF (E + 1) (frameB (hdW (E + 1)).1 (hdW (E + 1)).2) d1.files, count := d1.count + 1 } : DiskM)).room = d1.room := rfl
    have hf2 : (({ d1 with files := writeF (E + 1) (frameB (hdW (E + 1)).1 (hdW (E + 1)).2) d1.files, count := d1.count + 1 } : DiskM)).files = writeF (E + 1) (frameB (hdW (E + 1)).1 (hdW (E + 1)).2) d1.files := rfl
    generalize ({ d1 with files := writeF (E + 1) (frameB (hdW (E + 1)).1 (hdW (E + 1)).2) d1.files, count := d1.count + 1 } : DiskM) = d2 at hc2 hu2' hr2 hf2 ⊢
    have hu3 := used_write d2 (E + 1) (by omega) (frameB f.1 f.2)
    rw [frameB_length] at hu3
    unfold rowW
    rw [hc2.write (f := ((E + 1 : Nat) : Int)) (by omega) _ (by rw [frameB_length]; omega), Int.toNat_natCast]
    refine ⟨rfl, rfl, ⟨hc2.down, hc2.left⟩, ?_, by show d2.room = _; omega, by rw [if_neg hfit], ?_, ?_⟩
    · show sumTo (writeF (E + 1) _ d2.files) 33 = _
      omega
    · show (writeF (E + 1) _ d2.files (E + 1)).all.length = _
      rw [if_neg hfit, (write_same _ _ _).1, List.length_append, frameB_length, hf2, hl2]
    · show writeF (E + 1) _ d2.files = _
      rw [if_neg hfit, hf2, hfi1]
/-- The files are a log with a row more. -/
theorem AddedW.log {d : DiskM} {E : Nat} {segs : Nat → List RowW} {f : RowW} {r : WaRes} (ha : AddedW d E f r) (h : LogFiles (fun s => (d.files s).all) E segs) (hf : f.1 ≠ 0#8 ∧ f.2.length ≤ 2039) (h32 : fitsW d E f.2.length = true ∨ E < 32) :
    ∃ segs', LogFiles (fun s => (r.d.files s).all) r.E segs' ∧ rowsW segs' r.E = rowsW segs E ++ [f] := by
  have hE := ha.seg
  have hfi := ha.files
  by_cases hfit : fitsW d E f.2.length = true
  · rw [if_pos hfit] at hE hfi
    have h1 : 1 ≤ E := by unfold fitsW at hfit; simp at hfit; omega
    obtain ⟨n, rfl⟩ : ∃ n, E = n + 1 := ⟨E - 1, by omega⟩
    rw [hE, hfi]
    exact ⟨_, h.row (G := fun s => (writeF (n + 1) (frameB f.1 f.2) d.files s).all) f hf (write_same _ _ _).1 (fun s _ _ e => by show (writeF (n + 1) _ d.files s).all = _; rw [write_other _ _ e])⟩
  · rw [if_neg hfit] at hE hfi
    have hE31 := h32.resolve_left hfit
    have h0 : (d.files (E + 1)).all = [] := h.rest (E + 1) (by omega) (by omega)
    have hsy : ∀ s, ((if E = 0 then d.files else syncF E d.files) s).all = (d.files s).all := fun s => by
      split
      · rfl
      · exact sync_all _ _ _
    generalize (if E = 0 then d.files else syncF E d.files) = F1 at hfi hsy
    rw [hE, hfi]
    exact ⟨_, h.next (G := fun s => (writeF (E + 1) (frameB f.1 f.2) (writeF (E + 1) (frameB (hdW (E + 1)).1 (hdW (E + 1)).2) F1) s).all) [f] (fun x hx => by rw [List.mem_singleton.1 hx]; exact hf) hE31
      (by show (writeF (E + 1) _ _ (E + 1)).all = _; rw [(write_same _ _ _).1, (write_same _ _ _).1, hsy, h0, List.nil_append, framesB_cons, framesB_one])
      (fun s _ _ e => by show (writeF (E + 1) _ _ s).all = _; rw [write_other _ _ e, write_other _ _ e]; exact hsy s)⟩
/-- Rows of at most 900 bytes: how long they are. -/
theorem rows_short : ∀ (l : List RowW), (∀ f ∈ l, f.2.length ≤ 900) → (framesB l).length ≤ l.length * 909
  | [], _ => Nat.zero_le _
  | f :: l, h => by
    have ih := rows_short l (fun x hx => h x (List.mem_cons_of_mem _ hx))
    have := h f List.mem_cons_self
    rw [framesB_cons, List.length_append, frameB_length, List.length_cons]
    omega
/-- A log that holds all that was appended; no segment is longer than it may be; each but the last has two rows or more. -/
structure FitsW (d : DiskM) (E : Nat) (segs : Nat → List RowW) (all : List RowW) : Prop where
  live : LiveW d E segs 0 all
  calm : d.Calm
  short : ∀ s, 1 ≤ s → s ≤ E → ∀ f ∈ segs s, f.2.length ≤ 900
  two : 2 * (E - 1) + (segs E).length ≤ all.length
  none : E = 0 → all = []
theorem FitsW.len {d : DiskM} {E : Nat} {segs : Nat → List RowW} {all : List RowW} (h : FitsW d E segs all) (h1 : 1 ≤ E) : (d.files E).all.length ≤ 17 + (segs E).length * 909 := by
  rw [show (d.files E).all = _ from h.live.files.seg E h1 (Nat.le_refl _), framesB_cons, List.length_append, hdW_length]
  have := rows_short (segs E) (h.short E h1 (Nat.le_refl _))
  omega
/-- One row more of at most 900 bytes, with less than sixty before: it is full only when the disk is. -/
theorem FitsW.step {d : DiskM} {E : Nat} {segs : Nat → List RowW} {all : List RowW} (h : FitsW d E segs all) (hn : all.length < 60) (z : Int) (hz : 1 ≤ z ∧ z ≤ 254) (f : RowW) (hf : f.1 ≠ 0#8 ∧ f.2.length ≤ 900) :
    (d.used + needW d E f.2.length ≤ d.room ∧ AddedW d E f (appendW d E false z f) ∧ (∃ segs', FitsW (appendW d E false z f).d (appendW d E false z f).E segs' (all ++ [f])) ∧ ((appendW d E false z f).d.files (appendW d E false z f).E).all.length ≤ 2048) ∨
    (d.room < d.used + 26 + f.2.length ∧ appendW d E false z f = ⟨d, E, false, 8⟩) := by
  have hlen := h.len
  have hle := h.live.files.le
  by_cases hroom : d.used + needW d E f.2.length ≤ d.room
  · refine Or.inl ⟨hroom, ?_⟩
    have hE31 : E < 32 := by have := h.two; omega
    have ha := append_calm h.live.files h.calm z hz f (by omega) hroom (Or.inr hE31)
    have hl := (append_live h.live h.calm.down z hz f ⟨hf.1, by omega⟩)
    refine ⟨ha, ?_, ?_⟩
    · by_cases hfit : fitsW d E f.2.length = true
      · have hE := ha.seg
        rw [if_pos hfit] at hE
        have h1 : 1 ≤ E := by unfold fitsW at hfit; simp at hfit; omega
        have hfi := ha.files
        rw [if_pos hfit] at hfi
        obtain ⟨g1, g2, g3⟩ := LogFiles.wrote h.live h1 f ⟨hf.1, by omega⟩
        rw [hE]
        refine ⟨setW segs E (segs E ++ [f]), ⟨by rw [hfi]; exact g1, by rw [hfi]; exact g2, g3⟩, ha.calm, fun s a b x hx => ?_, ?_, fun e => by omega⟩
        · by_cases e : s = E
          · subst e
            rw [setW_same] at hx
            rcases List.mem_append.1 hx with hx | hx
            · exact h.short _ a b x hx
            · rw [List.mem_singleton.1 hx]; exact hf.2
          · rw [setW_other _ _ e] at hx; exact h.short s a b x hx
        · rw [setW_same, List.length_append, List.length_append]
          have := h.two
          simp only [List.length_singleton]
          omega
      · have hE := ha.seg
        rw [if_neg hfit] at hE
        have hfi := ha.files
        rw [if_neg hfit] at hfi
        have h0 : (d.files (E + 1)).all = [] := h.live.files.rest (E + 1) (by omega) (by omega)
        have hsy : ∀ s, ((if E = 0 then d.files else syncF E d.files) s).all = (d.files s).all := fun s => by
          split
          · rfl
          · exact sync_all _ _ _
        have hso : ∀ s, s ≠ E → (if E = 0 then d.files else syncF E d.files) s = d.files s := fun s hs => by
          split
          · rfl
          · exact sync_other _ hs
        have hsd : 1 ≤ E → ((if E = 0 then d.files else syncF E d.files) E).dur = (d.files E).all.length := fun h1 => by
          rw [if_neg (by omega)]; exact (sync_same _ _).2
        generalize (if E = 0 then d.files else syncF E d.files) = F1 at hfi hsy hso hsd
        obtain ⟨g1, g2, g3⟩ := LogFiles.begun (G := (appendW d E false z f).d.files) h.live hE31 [f] (fun x hx => by rw [List.mem_singleton.1 hx]; exact ⟨hf.1, by omega⟩)
          (by rw [hfi, (write_same _ _ _).1, (write_same _ _ _).1, hsy, h0, List.nil_append, framesB_cons, framesB_one])
          ⟨by rw [hfi, write_other _ _ (by omega), write_other _ _ (by omega)]; exact hsy E, fun h1 => by rw [hfi, write_other _ _ (by omega), write_other _ _ (by omega)]; exact hsd h1⟩
          (fun s a b => by rw [hfi, write_other _ _ b, write_other _ _ b]; exact hso s a)
        rw [hE]
        refine ⟨setW segs (E + 1) [f], ⟨g1, g2, g3⟩, ha.calm, fun s a b x hx => ?_, ?_, fun e => by omega⟩
        · by_cases e : s = E + 1
          · subst e
            rw [setW_same] at hx
            rw [List.mem_singleton.1 hx]; exact hf.2
          · rw [setW_other _ _ e] at hx; exact h.short s a (by omega) x hx
        · rw [setW_same, List.length_append, Nat.add_sub_cancel]
          have ht := h.two
          simp only [List.length_singleton]
          by_cases e0 : E = 0
          · omega
          · have hl2 : 2 ≤ (segs E).length := by
              unfold fitsW at hfit
              simp at hfit
              have := hfit (by omega)
              have := hlen (by omega)
              omega
            omega
    · rw [ha.len]
      by_cases hfit : fitsW d E f.2.length = true
      · rw [if_pos hfit]
        unfold fitsW at hfit
        simp at hfit
        omega
      · rw [if_neg hfit]; omega
  · refine Or.inr ⟨?_, ?_⟩
    · unfold needW at hroom
      split at hroom <;> omega
    · unfold appendW
      rw [if_neg (by rw [h.calm.down]; decide), if_neg (by omega), if_neg (by omega), if_pos (Or.inr (by omega))]
/-- Two logs of the same files are the same. -/
theorem LogOf.unique {F : Nat → List (BitVec 8)} {E E' : Nat} {segs segs' : Nat → List RowW} {r r' : List (BitVec 8)} (h : LogOf F E segs r) (k : LogOf F E' segs' r') : E = E' ∧ r = r' ∧ ∀ s, 1 ≤ s → s ≤ E → segs s = segs' s := by
  have main : ∀ {E E' : Nat} {segs segs' : Nat → List RowW} {r r' : List (BitVec 8)}, LogOf F E segs r → LogOf F E' segs' r' → E' ≤ E := by
    intro E E' segs segs' r r' h k
    rcases Nat.lt_or_ge E E' with h1 | h1
    · exfalso
      have hk : ∃ g s, ScanOf (F (E + 1)) (hdW (E + 1) :: g) s := by
        rcases Nat.lt_or_ge (E + 1) E' with h2 | h2
        · exact ⟨_, _, k.whole (E + 1) (by omega) h2⟩
        · have e : E + 1 = E' := by omega
          rw [e]; exact ⟨_, _, k.last (by omega)⟩
      rcases h.stop with h2 | h2 | h2
      · have := k.le; omega
      · have h0 : 1 ≤ E := by
          rcases Nat.eq_zero_or_pos E with h3 | h3
          · exact absurd (h.none h3) h2
          · exact h3
        have := ((h.last h0).unique (k.whole E h0 h1)).2
        exact h2 this
      · obtain ⟨g, s, hs⟩ := hk; exact h2 g s hs
    · exact h1
  have e : E = E' := Nat.le_antisymm (main k h) (main h k)
  subst e
  have hr : 1 ≤ E → r = r' ∧ hdW E :: segs E = hdW E :: segs' E := fun h0 => ⟨((h.last h0).unique (k.last h0)).2, ((h.last h0).unique (k.last h0)).1⟩
  refine ⟨rfl, ?_, fun s h1 h2 => ?_⟩
  · rcases Nat.eq_zero_or_pos E with h3 | h3
    · rw [h.none h3, k.none h3]
    · exact (hr h3).1
  · rcases Nat.lt_or_ge s E with h3 | h3
    · exact (List.cons.inj ((h.whole s h1 h3).unique (k.whole s h1 h3)).1).2
    · have e : s = E := by omega
      subst e
      exact (List.cons.inj (hr h1).2).2
end Go.Proofs.YtoidjapenompiaaDoor
