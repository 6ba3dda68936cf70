/-
  A region that draws its order, carried out along one list of its operations, where a store z changes what operations ahead of it read: what holds at all times (S), and what holds until z (E).
-/
import Derived.Test.YtagkkihnfipfeaaDoorGen
namespace Go.Proofs.YtagkkihnfipfeaaDoor
open Go.RowKit Go.Proofs.ShaWords

/-- Whatever order is picked from here on: behind every operation S holds, and E as long as z has not come up. -/
def wpAnyE (P : Program) (ops : Array Oper) (Q : Exit → Act → World → Prop) (S E : World → Prop) (z : Nat) : Nat → Array Bool → Act → World → Prop
  | 0, L, a, w => Region.ready .any ops L = [] ∧ Q .normal a w
  | f + 1, L, a, w => (Region.ready .any ops L = [] → Q .normal a w) ∧
    ∀ i ∈ Region.ready .any ops L, wpOp P ops Q i (fun a' w' => (S w' ∧ ((L.setIfInBounds i true).getD z true = false → E w')) ∧ wpAnyE P ops Q S E z f (L.setIfInBounds i true) a' w') a w

section
variable {P : Program} {ops : Array Oper} {Q : Exit → Act → World → Prop} {S E : World → Prop} {z : Nat}
theorem wpAny_of_E : ∀ (fuel : Nat) (L : Array Bool) (a : Act) (w : World), wpAnyE P ops Q S E z fuel L a w → wpAny P .any ops Q fuel L a w
  | 0, _, _, _, h => h
  | fuel + 1, _, _, _, h => ⟨h.1, fun i hi => wpOp_mono (fun a' w' h' => wpAny_of_E fuel _ a' w' h'.2) (h.2 i hi)⟩

/-- An operation that may come up now may be taken first: at all times (b false), or because z waits for it (b true). -/
theorem wpAnyE_first {i : Nat} {oi : Oper} {v : Value} (b : Bool) (hi : ops[i]? = some oi) (hsel : ∀ (j : Nat) (o : Oper) cs b, ops[j]? = some o → o.op ≠ .select cs b)
    (hQ : ∀ c a w, Q (.panic c) (a.put oi.dst v) w → Q (.panic c) a w) (hz : b = true → Region.waitsFor .any ops z i = true) (hzi : z ≠ i) :
    ∀ (fuel : Nat) (L : Array Bool) (a : Act) (w : World),
      (∀ j oj, ops[j]? = some oj → j ≠ i → L.getD j true = false → (∀ e ∈ oj.after, Region.binds .any e = true → e.on ≠ i) → oi.apart ops oj = true) →
      i ∈ Region.ready .any ops L → (b = true → L.getD z true = false) → YieldsIf P ops (fun w => S w ∧ (b = true → E w)) oi v a → S w → (L.getD z true = false → E w) →
      wpAnyE P ops Q S E z fuel (L.setIfInBounds i true) (a.put oi.dst v) w → wpAnyE P ops Q S E z (fuel + 1) L a w := by
  intro fuel
  induction fuel with
  | zero =>
    intro L a w _ hr hzl hy hS hE H
    refine ⟨fun h => (by rw [h] at hr; cases hr), fun j hj => ?_⟩
    by_cases hji : j = i
    · subst hji
      refine hy.wpOp hi ⟨hS, fun hb => hE (hzl hb)⟩ ⟨⟨hS, fun h => hE ?_⟩, H⟩
      by_cases hjz : j = z
      · subst hjz
        have hlt : j < L.size := by
          rcases Nat.lt_or_ge j L.size with h' | h'
          · exact h'
          · simp at h
        simp [hlt] at h
      · rw [getD_set_ne true hjz] at h; exact h
    · have := ready_mono hj hji
      rw [H.1] at this
      cases this
  | succ fuel ih =>
    intro L a w hfree hr hzl hy hS hE H
    refine ⟨fun h => (by rw [h] at hr; cases hr), fun j hj => ?_⟩
    by_cases hji : j = i
    · subst hji
      refine hy.wpOp hi ⟨hS, fun hb => hE (hzl hb)⟩ ⟨⟨hS, fun h => hE ?_⟩, H⟩
      by_cases hjz : j = z
      · subst hjz
        have hlt : j < L.size := by
          rcases Nat.lt_or_ge j L.size with h' | h'
          · exact h'
          · simp at h
        simp [hlt] at h
      · rw [getD_set_ne true hjz] at h; exact h
    · have h1 := H.2 j (ready_mono hj hji)
      obtain ⟨hjun, oj, hoj, hall⟩ := mem_ready.1 hj
      have hun : L.getD i false = false := getD_both (mem_ready.1 hr).1
      have hnot : ∀ e ∈ oj.after, Region.binds .any e = true → e.on ≠ i := fun e he hb heq => by
        have h1 := hall e he hb
        rw [heq, hun] at h1; cases h1
      have hjz : b = true → j ≠ z := fun hb e => by
        subst e
        obtain ⟨oz, hoz, e, he, hbd, hon⟩ := Region.waitsFor_spec (hz hb)
        rw [hoj] at hoz; cases hoz
        exact hnot e he hbd hon
      have hset : ((L.setIfInBounds i true).setIfInBounds j true) = ((L.setIfInBounds j true).setIfInBounds i true) := Array.setIfInBounds_comm _ _ (Ne.symm hji)
      have h2 := wpOp_putIf hoj (hfree j oj hoj hji hjun hnot) (fun cs b => hsel i oi cs b hi) (fun cs b => hsel j oj cs b hoj) hQ hy h1
      have hfree' : ∀ k ok, ops[k]? = some ok → k ≠ i → (L.setIfInBounds j true).getD k true = false →
          (∀ e ∈ ok.after, Region.binds .any e = true → e.on ≠ i) → oi.apart ops ok = true := fun k ok hk hki hun hno => by
        refine hfree k ok hk hki ?_ hno
        by_cases hjk : j = k
        · subst hjk; exact hjun
        · rw [getD_set_ne true hjk] at hun; exact hun
      have hE' : ∀ w' : World, (((L.setIfInBounds i true).setIfInBounds j true).getD z true = false → E w') → (L.setIfInBounds j true).getD z true = false → (b = true ∨ z ≠ i) → E w' := fun w' h h0 hbz => by
        refine h ?_
        rw [hset]
        have hiz : i ≠ z := by
          rcases hbz with hb | hb
          · intro e; subst e
            have hj2 := hzl hb
            obtain ⟨oz, hoz, e, he, hbd, hon⟩ := Region.waitsFor_spec (hz hb)
            have := (mem_ready.1 hr).2
            obtain ⟨o', ho', ha⟩ := this
            rw [hoz] at ho'; cases ho'
            have h3 := ha e he hbd
            rw [hon, hun] at h3; cases h3
          · exact fun e => hb e.symm
        rw [getD_set_ne true hiz]; exact h0
      refine wpOp_mono (fun a' w' h3 => ⟨⟨h3.2.1.1, fun h => hE' w' h3.2.1.2 h (.inr hzi)⟩, ih (L.setIfInBounds j true) a' w' hfree' (ready_mono hr (Ne.symm hji)) (fun hb => by rw [getD_set_ne true (hjz hb)]; exact hzl hb) h3.1 h3.2.1.1 (fun h => hE' w' h3.2.1.2 h (.inr hzi)) ?_⟩) h2
      rw [← hset]
      exact h3.2.2
theorem wpAnyE_all {rs : List Nat} {fuel : Nat} {L : Array Bool} {a : Act} {w : World} (hr : Region.ready .any ops L = rs) (hne : rs ≠ [])
    (h : ∀ i ∈ rs, wpOp P ops Q i (fun a' w' => (S w' ∧ ((L.setIfInBounds i true).getD z true = false → E w')) ∧ wpAnyE P ops Q S E z fuel (L.setIfInBounds i true) a' w') a w) : wpAnyE P ops Q S E z (fuel + 1) L a w :=
  ⟨fun h0 => absurd (hr ▸ h0) hne, hr ▸ h⟩
theorem wpAnyE_done {L : Array Bool} {a : Act} {w : World} (hr : Region.ready .any ops L = []) (h : Q .normal a w) : ∀ fuel, wpAnyE P ops Q S E z fuel L a w
  | 0 => ⟨hr, h⟩
  | _ + 1 => ⟨fun _ => h, by rw [hr]; simp⟩
end

/-- How an operation of the list is met: it yields at all times; it yields until z; it stands alone ahead of z; it stands alone, z or behind it. -/
inductive Met where
  | free
  | early
  | before
  | behind
def phaseOk (ops : Array Oper) (z : Nat) : List (Nat × Met) → Array Bool → Bool
  | [], L => (Region.ready .any ops L).isEmpty
  | (i, .free) :: r, L => Region.free .any ops L i && (Region.ready .any ops L).contains i && decide (z ≠ i) && phaseOk ops z r (L.setIfInBounds i true)
  | (i, .early) :: r, L => Region.free .any ops L i && (Region.ready .any ops L).contains i && decide (z ≠ i) && Region.waitsFor .any ops z i && !L.getD z true && phaseOk ops z r (L.setIfInBounds i true)
  | (i, .before) :: r, L => decide (Region.ready .any ops L = [i]) && phaseOk ops z r (L.setIfInBounds i true)
  | (i, .behind) :: r, L => decide (Region.ready .any ops L = [i]) && (L.setIfInBounds i true).getD z true && phaseOk ops z r (L.setIfInBounds i true)
def wpE (P : Program) (ops : Array Oper) (Q : Exit → Act → World → Prop) (S E : World → Prop) : List (Nat × Met) → Act → World → Prop
  | [], a, w => Q .normal a w
  | (i, .free) :: r, a, w => ∃ o v, ops[i]? = some o ∧ YieldsIf P ops S o v a ∧ wpE P ops Q S E r (a.put o.dst v) w
  | (i, .early) :: r, a, w => ∃ o v, ops[i]? = some o ∧ YieldsIf P ops (fun w => S w ∧ E w) o v a ∧ wpE P ops Q S E r (a.put o.dst v) w
  | (i, .before) :: r, a, w => wpOp P ops Q i (fun a' w' => (S w' ∧ E w') ∧ wpE P ops Q S E r a' w') a w
  | (i, .behind) :: r, a, w => wpOp P ops Q i (fun a' w' => S w' ∧ wpE P ops Q S E r a' w') a w
section
variable {P : Program} {ops : Array Oper} {Q : Exit → Act → World → Prop} {S E : World → Prop} {z : Nat}
theorem getD_of_set {L : Array Bool} {i z : Nat} (h : (L.setIfInBounds i true).getD z true = false) : L.getD z true = false := by
  by_cases hiz : i = z
  · subst hiz
    have hlt : i < L.size := by
      rcases Nat.lt_or_ge i L.size with h' | h'
      · exact h'
      · simp at h
    simp [hlt] at h
  · rw [getD_set_ne true hiz] at h; exact h
theorem wpAnyE_phase (hs : Region.noSelect ops = true) (hQ : ∀ c a w, ¬ Q (.panic c) a w) :
    ∀ (r : List (Nat × Met)) (L : Array Bool) (a : Act) (w : World), phaseOk ops z r L = true → S w → (L.getD z true = false → E w) → wpE P ops Q S E r a w → wpAnyE P ops Q S E z r.length L a w
  | [], L, a, w, hc, _, _, h => by
    simp only [phaseOk, List.isEmpty_iff] at hc
    exact wpAnyE_done hc h 0
  | (i, .free) :: r, L, a, w, hc, hS, hE, h => by
    simp only [phaseOk, Bool.and_eq_true, decide_eq_true_eq] at hc
    obtain ⟨o, v, ho, hy, h⟩ := h
    exact wpAnyE_first false ho (Region.noSelect_spec hs) (fun c a w h => absurd h (hQ c _ w)) (by simp) hc.1.2 r.length L a w (Region.free_spec ho hc.1.1.1) (by simpa using hc.1.1.2) (by simp)
      (hy.imp (fun ⟨h1, h2⟩ => ⟨h1, fun w hw => h2 w hw.1⟩) id) hS hE (wpAnyE_phase hs hQ r _ _ w hc.2 hS (fun h0 => hE (getD_of_set h0)) h)
  | (i, .early) :: r, L, a, w, hc, hS, hE, h => by
    simp only [phaseOk, Bool.and_eq_true, decide_eq_true_eq, Bool.not_eq_true'] at hc
    obtain ⟨o, v, ho, hy, h⟩ := h
    exact wpAnyE_first true ho (Region.noSelect_spec hs) (fun c a w h => absurd h (hQ c _ w)) (fun _ => hc.1.1.2) hc.1.1.1.2 r.length L a w (Region.free_spec ho hc.1.1.1.1.1) (by simpa using hc.1.1.1.1.2) (fun _ => hc.1.2)
      (hy.imp (fun ⟨h1, h2⟩ => ⟨h1, fun w hw => h2 w ⟨hw.1, hw.2 rfl⟩⟩) id) hS hE (wpAnyE_phase hs hQ r _ _ w hc.2 hS (fun h0 => hE (getD_of_set h0)) h)
  | (i, .before) :: r, L, a, w, hc, hS, hE, h => by
    simp only [phaseOk, Bool.and_eq_true, decide_eq_true_eq] at hc
    refine wpAnyE_all hc.1 (by simp) (fun j hj => ?_)
    rw [List.mem_singleton.1 hj]
    exact wpOp_mono (fun a' w' h' => ⟨⟨h'.1.1, fun _ => h'.1.2⟩, wpAnyE_phase hs hQ r _ a' w' hc.2 h'.1.1 (fun _ => h'.1.2) h'.2⟩) h
  | (i, .behind) :: r, L, a, w, hc, hS, hE, h => by
    simp only [phaseOk, Bool.and_eq_true, decide_eq_true_eq] at hc
    refine wpAnyE_all hc.1.1 (by simp) (fun j hj => ?_)
    rw [List.mem_singleton.1 hj]
    exact wpOp_mono (fun a' w' h' => ⟨⟨h'.1, fun h0 => by rw [hc.1.2] at h0; cases h0⟩, wpAnyE_phase hs hQ r _ a' w' hc.2 h'.1 (fun h0 => by rw [hc.1.2] at h0; cases h0) h'.2⟩) h
theorem region_phase {id : Nat} {a : Act} {w : World} (S E : World → Prop) (z : Nat) (hS : S w.drew) (hE : E w.drew) (r : List (Nat × Met)) (hm : P.follows .mixedOrders = true) (hs : Region.noSelect ops = true)
    (hl : r.length = ops.size) (hc : phaseOk ops z r (Array.replicate ops.size false) = true)
    (h : ∀ ops', ops' = ops → ∀ A, A = a → wpE P ops' (NoPanic Q) S E r A w.drew) : (Code.region id ops true).wp P Q a w := by
  refine wp_region_noPanic (wp_region_any hm (wpAny_of_E (S := S) (E := E) (z := z) _ _ _ _ ?_))
  rw [← hl]
  exact wpAnyE_phase hs (fun c a w h => h) r _ a w.drew (hl ▸ hc) hS (fun _ => hE) (h ops rfl a rfl)
end

section
variable {P : Program} {ops : Array Oper} {Q : Exit → Act → World → Prop} {S E : World → Prop} {r : List (Nat × Met)} {i : Nat} {o : Oper} {d : Option Tmp} {v : Value} {a : Act} {w w' : World}
theorem met_free (ho : ops[i]? = some o) (hd : o.dst = d) (hw : Region.wanted o (yielded ops a.tmps) = true) (hr : ∀ w, S w → (execOp a.eval o).run P w = .ok (.value v) w) (h : wpE P ops Q S E r (a.put d v) w) : wpE P ops Q S E ((i, .free) :: r) a w :=
  ⟨o, v, ho, .inl ⟨hw, hr⟩, by rw [hd]; exact h⟩
theorem met_early (ho : ops[i]? = some o) (hd : o.dst = d) (hw : Region.wanted o (yielded ops a.tmps) = true) (hr : ∀ w, S w → E w → (execOp a.eval o).run P w = .ok (.value v) w) (h : wpE P ops Q S E r (a.put d v) w) : wpE P ops Q S E ((i, .early) :: r) a w :=
  ⟨o, v, ho, .inl ⟨hw, fun w hw => hr w hw.1 hw.2⟩, by rw [hd]; exact h⟩
theorem met_quiet {f : FuncId} {args : Array Value} (ho : ops[i]? = some o) (hd : o.dst = d) (hw : Region.wanted o (yielded ops a.tmps) = true) (hr : (execOp a.eval o).run P w = .ok (.enter f args) w)
    (hc : Calls P f args w fun e w' => e = .returned v ∧ w = w') (hS : S w) (hE : E w) (h : wpE P ops Q S E r (a.put d v) w) : wpE P ops Q S E ((i, .before) :: r) a w := by
  show wpOp P ops Q i _ a w
  unfold wpOp
  rw [ho]
  show if Region.wanted o (yielded ops a.tmps) = true then _ else _
  rw [if_pos hw]
  exact .inl (wp_enter (R := fun w' => w = w') hr hc (fun w' hR => by subst hR; rw [hd]; exact ⟨⟨hS, hE⟩, h⟩))
theorem met_op (ho : ops[i]? = some o) (hd : o.dst = d) (hw : Region.wanted o (yielded ops a.tmps) = true) (hr : (execOp a.eval o).run P w = .ok (.value v) w') (hS : S w') (h : wpE P ops Q S E r (a.put d v) w') : wpE P ops Q S E ((i, .behind) :: r) a w := by
  show wpOp P ops Q i _ a w
  unfold wpOp
  rw [ho]
  show if Region.wanted o (yielded ops a.tmps) = true then _ else _
  rw [if_pos hw]
  refine .inl ?_
  unfold Oper.wp
  rw [hr, Oper.upon_value, hd]
  exact ⟨hS, h⟩
theorem met_skip (ho : ops[i]? = some o) (hd : o.dst = d) (hw : Region.wanted o (yielded ops a.tmps) = true) (hr : (execOp a.eval o).run P w = .ok .skip w') (hS : S w') (h : wpE P ops Q S E r (a.put d undef) w') : wpE P ops Q S E ((i, .behind) :: r) a w := by
  show wpOp P ops Q i _ a w
  unfold wpOp
  rw [ho]
  show if Region.wanted o (yielded ops a.tmps) = true then _ else _
  rw [if_pos hw]
  refine .inl ?_
  unfold Oper.wp
  rw [hr, Oper.upon_skip, hd]
  exact ⟨hS, h⟩
end
end Go.Proofs.YtagkkihnfipfeaaDoor
