/-
  BoxBack, for any list, any things and any other bytes: the law returns true, and what came in reads afterwards as it read before. Without any condition.
-/
import Derived.Test.YtacgkfngpeieaaaPkA
import Derived.Test.YtacgkfngpeieaaaPkV
import Derived.Deep.RegionHeld3
import Derived.Deep.DeepCutAuto
import Derived.Deep.AppendLies
import Derived.Deep.CutRange
/-
  A region that draws its order, whatever the order: a fact of each operation that no other one turns.
-/
namespace Go.Proofs.Ytacgkfngpeieaaa
open Go.RowKit Go.Proofs.ShaWords

/-- Each operation waits for earlier ones alone. -/
def backward (ops : Array Oper) : Bool := (List.range ops.size).all fun i => match ops[i]? with | none => true | some o => o.after.all fun e => !(Region.binds .any e) || decide (e.on < i)
theorem backward_spec {ops : Array Oper} (h : backward ops = true) {i : Nat} {o : Oper} (ho : ops[i]? = some o) {e : Edge} (he : e ∈ o.after) (hb : Region.binds .any e = true) : e.on < i := by
  have hi : i < ops.size := (Array.getElem?_eq_some_iff.1 ho).1
  have h1 := List.all_eq_true.1 h i (List.mem_range.2 hi)
  rw [ho] at h1
  have h2 := Array.all_eq_true_iff_forall_mem.1 h1 e he
  simpa [hb] using h2
theorem ready_empty {ops : Array Oper} {L : Array Bool} (hb : backward ops = true) (hL : L.size = ops.size) (h : Region.ready .any ops L = []) (i : Nat) : i < ops.size → L.getD i false = true := by
  induction i using Nat.strongRecOn with
  | _ i ih =>
    intro hi
    by_cases hl : L.getD i false = true
    · exact hl
    · exfalso
      have hm : i ∈ Region.ready .any ops L := mem_ready.2 ⟨by
        have h1 : i < L.size := by omega
        simp [h1] at hl ⊢; exact hl, ops[i], by simp [hi], fun e he hbd => ih e.on (backward_spec hb (show ops[i]? = some ops[i] by simp [hi]) he hbd) (by have := backward_spec hb (show ops[i]? = some ops[i] by simp [hi]) he hbd; omega)⟩
      rw [h] at hm; cases hm
/-- How many are still to come. -/
def leftOf (L : Array Bool) : Nat := L.toList.count false
theorem leftOf_set {L : Array Bool} {i : Nat} (h : L.getD i true = false) : leftOf (L.setIfInBounds i true) + 1 = leftOf L := by
  have hi : i < L.size := by
    rcases Nat.lt_or_ge i L.size with h' | h'
    · exact h'
    · simp [Array.getElem?_eq_none h'] at h
  have hv : L.toList[i]'(by simpa using hi) = false := by simpa [hi] using h
  unfold leftOf
  rw [Array.toList_setIfInBounds, List.count_set (by simpa using hi), hv]
  have hpos : 0 < List.count false L.toList := List.count_pos_iff.2 (by rw [← hv]; exact List.getElem_mem _)
  simp only [beq_self_eq_true, if_true, show (true == false) = false from rfl]
  have : (if false = true then 1 else 0) = 0 := rfl
  omega
theorem leftOf_none {L : Array Bool} (h : leftOf L = 0) (i : Nat) (hi : i < L.size) : L.getD i false = true := by
  have h1 : false ∉ L.toList := List.count_eq_zero.1 h
  have h2 : L[i] ∈ L.toList := by simp
  cases hv : L[i] with
  | true => simp [hi, hv]
  | false => rw [hv] at h2; exact absurd h2 h1
section
variable {P : Program} {ops : Array Oper} {Q : Exit → Act → World → Prop}
theorem wpAny_inv (I : Array Bool → Act → World → Prop) (hb : backward ops = true)
    (hstep : ∀ (i : Nat) (o : Oper) (L : Array Bool) (a : Act) (w : World), ops[i]? = some o → L.getD i true = false → (∀ e ∈ o.after, Region.binds .any e = true → L.getD e.on false = true) → I L a w → wpOp P ops Q i (I (L.setIfInBounds i true)) a w)
    (hdone : ∀ L a w, (∀ i, i < ops.size → L.getD i false = true) → I L a w → Q .normal a w) :
    ∀ (fuel : Nat) (L : Array Bool) (a : Act) (w : World), L.size = ops.size → leftOf L ≤ fuel → I L a w → wpAny P .any ops Q fuel L a w
  | 0, L, a, w, hL, hf, h => by
    have hall : ∀ i, i < ops.size → L.getD i false = true := fun i hi => leftOf_none (by omega) i (by omega)
    refine ⟨List.eq_nil_iff_forall_not_mem.2 fun i hi => ?_, hdone L a w hall h⟩
    obtain ⟨h1, o, ho, -⟩ := mem_ready.1 hi
    have h2 := hall i (Array.getElem?_eq_some_iff.1 ho).1
    rw [getD_both h1] at h2; cases h2
  | fuel + 1, L, a, w, hL, hf, h => by
    refine ⟨fun h0 => hdone L a w (ready_empty hb hL h0) h, fun i hi => ?_⟩
    obtain ⟨h1, o, ho, h2⟩ := mem_ready.1 hi
    refine wpOp_mono (fun a' w' h' => wpAny_inv I hb hstep hdone fuel _ a' w' (by rw [Array.size_setIfInBounds]; exact hL) ?_ h') (hstep i o L a w ho h1 h2 h)
    have := leftOf_set h1
    omega
/-- No two operations write one slot. -/
def apartDst (ops : Array Oper) : Bool := (List.range ops.size).all fun i => (List.range ops.size).all fun j => decide (i = j) || match ops[i]?, ops[j]? with | some o, some p => (match o.dst, p.dst with | some d, some e => decide (d ≠ e) | _, _ => true) | _, _ => true
theorem apartDst_spec (h : apartDst ops = true) {i j : Nat} {o p : Oper} {d e : Tmp} (hij : i ≠ j) (hi : ops[i]? = some o) (hj : ops[j]? = some p) (hd : o.dst = some d) (he : p.dst = some e) : d ≠ e := by
  have h1 := List.all_eq_true.1 (List.all_eq_true.1 h i (List.mem_range.2 (Array.getElem?_eq_some_iff.1 hi).1)) j (List.mem_range.2 (Array.getElem?_eq_some_iff.1 hj).1)
  rw [hi, hj] at h1
  simpa [hij, hd, he] using h1
/-- The value that stands where an operation wrote. -/
def valOf (a : Act) (o : Oper) : Value := match o.dst with | some d => a.tmps.getD d undef | none => undef
/-- What holds on the way: the frame but for what was written, and each fact of what has come up. -/
structure InvAt (ops : Array Oper) (a0 : Act) (S : World → Prop) (V : Nat → Value → World → Prop) (L : Array Bool) (a : Act) (w : World) : Prop where
  world : S w
  defers : a.defers = a0.defers
  size : a.tmps.size = a0.tmps.size
  slot : ∀ t, (∀ (i : Nat) (o : Oper), ops[i]? = some o → o.dst ≠ some t) → a.tmps.getD t undef = a0.tmps.getD t undef
  fact : ∀ (i : Nat) (o : Oper), ops[i]? = some o → L.getD i false = true → V i (valOf a o) w
theorem region_facts {id : Nat} {a0 : Act} {w : World} (S : World → Prop) (R : World → World → Prop) (V : Nat → Value → World → Prop) (hm : P.follows .mixedOrders = true)
    (hb : backward ops = true) (hd : apartDst ops = true) (hfit : (List.range ops.size).all (fun i => match ops[i]? with | some o => (match o.dst with | some d => decide (d < a0.tmps.size) | none => true) | none => true) = true) (hS : S w.drew)
    (hR : ∀ i u w w', S w → R w w' → V i u w → V i u w')
    (hop : ∀ (i : Nat) (o : Oper) (A : Act) (W : World), ops[i]? = some o → S W → (∀ t, (∀ (i : Nat) (o : Oper), ops[i]? = some o → o.dst ≠ some t) → A.tmps.getD t undef = a0.tmps.getD t undef) →
      (∀ e ∈ o.after, Region.binds .any e = true → ∀ p, ops[e.on]? = some p → V e.on (valOf A p) W) → wpOp P ops (NoPanic Q) i (fun a' w' => ∃ v, a' = A.put o.dst v ∧ S w' ∧ R W w' ∧ (∀ (u : Value), u = (match o.dst with | some _ => v | none => undef) → V i u w')) A W)
    (h : ∀ A W, S W → A.defers = a0.defers → A.tmps.size = a0.tmps.size → (∀ t, (∀ (i : Nat) (o : Oper), ops[i]? = some o → o.dst ≠ some t) → A.tmps.getD t undef = a0.tmps.getD t undef) → (∀ (i : Nat) (o : Oper), ops[i]? = some o → V i (valOf A o) W) → Q .normal A W) :
    (Code.region id ops true).wp P Q a0 w := by
  refine wp_region_noPanic (wp_region_any hm ?_)
  refine wpAny_inv (InvAt ops a0 S V) hb ?_ ?_ ops.size _ a0 w.drew (by simp) (by simp [leftOf]) ⟨hS, rfl, rfl, fun _ _ => rfl, fun i o ho hl => ?_⟩
  · intro i o L a w1 ho hl hdep hI
    refine wpOp_mono ?_ (hop i o a w1 ho hI.world hI.slot (fun e he hbd p hp => hI.fact e.on p hp (hdep e he hbd)))
    rintro a' w' ⟨v, rfl, hS', hR', hV⟩
    have hdlt : ∀ d, o.dst = some d → d < a.tmps.size := fun d hd' => by
      have h1 := List.all_eq_true.1 hfit i (List.mem_range.2 (Array.getElem?_eq_some_iff.1 ho).1)
      rw [ho] at h1
      simp only [hd', decide_eq_true_eq] at h1
      rw [hI.size]; exact h1
    refine ⟨hS', ?_, ?_, ?_, ?_⟩
    · cases o.dst <;> exact hI.defers
    · rw [← hI.size]; cases o.dst <;> simp [Act.put]
    · intro t ht
      rw [← hI.slot t ht]
      cases hd' : o.dst with
      | none => rfl
      | some d =>
        have hne : d ≠ t := fun e => ht i o ho (by rw [hd', e])
        simp [Act.put, Array.getElem?_setIfInBounds_ne hne]
    · intro j p hp hlj
      by_cases hij : i = j
      · subst hij
        rw [ho] at hp; cases hp
        refine hV _ ?_
        unfold valOf
        cases hd' : o.dst with
        | none => rfl
        | some d => simp [Act.put, hdlt d hd']
      · have hlj' : L.getD j false = true := by rw [getD_set_ne false hij] at hlj; exact hlj
        have h1 := hR j _ w1 w' hI.world hR' (hI.fact j p hp hlj')
        have e : valOf (a.put o.dst v) p = valOf a p := by
          unfold valOf
          cases hpd : p.dst with
          | none => rfl
          | some e =>
            cases hd' : o.dst with
            | none => rfl
            | some d => simp [Act.put, Array.getElem?_setIfInBounds_ne (apartDst_spec hd hij ho hp hd' hpd)]
        rw [e]; exact h1
  · intro L a w1 hall hI
    exact h a w1 hI.world hI.defers hI.size hI.slot (fun i o ho => hI.fact i o ho (hall i (Array.getElem?_eq_some_iff.1 ho).1))
  · exfalso
    have hi := (Array.getElem?_eq_some_iff.1 ho).1
    simp [hi] at hl
end
end Go.Proofs.Ytacgkfngpeieaaa

/-
  A region in any order, where an operation's fact may speak of the slots of those that it waits for.
-/
namespace Go.Proofs.Ytacgkfngpeieaaa
open Go.RowKit Go.Proofs.ShaWords
/-- The slots. -/
def rdA (a : Act) (t : Nat) : Value := a.tmps.getD t undef
/-- Each slot that a fact reads is written by its own operation, or by one that it waits for. -/
def readsOk (ops : Array Oper) (reads : Nat → List Nat) : Bool := (List.range ops.size).all fun j => (reads j).all fun t => (List.range ops.size).all fun i => match ops[i]?, ops[j]? with | some o, some p => (match o.dst with | some d => decide (d ≠ t) || decide (i = j) || p.after.any (fun e => Region.binds .any e && decide (e.on = i)) | none => true) | _, _ => true
theorem readsOk_spec {ops : Array Oper} {reads : Nat → List Nat} (h : readsOk ops reads = true) {i j t : Nat} {o p : Oper} (hi : ops[i]? = some o) (hj : ops[j]? = some p) (ht : t ∈ reads j) (hd : o.dst = some t) (hij : i ≠ j) : ∃ e ∈ p.after, Region.binds .any e = true ∧ e.on = i := by
  have h1 := List.all_eq_true.1 (List.all_eq_true.1 (List.all_eq_true.1 h j (List.mem_range.2 (Array.getElem?_eq_some_iff.1 hj).1)) t ht) i (List.mem_range.2 (Array.getElem?_eq_some_iff.1 hi).1)
  rw [hi, hj] at h1
  simp only [hd, ne_eq, not_true_eq_false, decide_false, Bool.false_or, hij, Array.any_eq_true', Bool.and_eq_true, decide_eq_true_eq] at h1
  obtain ⟨e, he, h2, h3⟩ := h1
  exact ⟨e, he, h2, h3⟩
/-- What holds on the way. -/
structure InvB (ops : Array Oper) (a0 : Act) (S : World → Prop) (V : Nat → (Nat → Value) → World → Prop) (L : Array Bool) (a : Act) (w : World) : Prop where
  world : S w
  defers : a.defers = a0.defers
  size : a.tmps.size = a0.tmps.size
  slot : ∀ t, (∀ (i : Nat) (o : Oper), ops[i]? = some o → o.dst ≠ some t) → a.tmps.getD t undef = a0.tmps.getD t undef
  fact : ∀ (i : Nat) (o : Oper), ops[i]? = some o → L.getD i false = true → V i (rdA a) w
  closed : ∀ (i : Nat) (o : Oper), ops[i]? = some o → L.getD i false = true → ∀ e ∈ o.after, Region.binds .any e = true → L.getD e.on false = true
theorem region_facts2 {P : Program} {ops : Array Oper} {Q : Exit → Act → World → Prop} {id : Nat} {a0 : Act} {w : World} (S : World → Prop) (R : World → World → Prop) (V : Nat → (Nat → Value) → World → Prop) (reads : Nat → List Nat) (hm : P.follows .mixedOrders = true)
    (hb : backward ops = true) (hr : readsOk ops reads = true) (hfit : (List.range ops.size).all (fun i => match ops[i]? with | some o => (match o.dst with | some d => decide (d < a0.tmps.size) | none => true) | none => true) = true) (hS : S w.drew)
    (hV : ∀ i ρ ρ' w, (∀ t ∈ reads i, ρ t = ρ' t) → V i ρ w → V i ρ' w) (hR : ∀ i ρ w w', S w → R w w' → V i ρ w → V i ρ w')
    (hop : ∀ (i : Nat) (o : Oper) (A : Act) (W : World), ops[i]? = some o → S W → (∀ t, (∀ (i : Nat) (o : Oper), ops[i]? = some o → o.dst ≠ some t) → A.tmps.getD t undef = a0.tmps.getD t undef) →
      (∀ e ∈ o.after, Region.binds .any e = true → ∀ p, ops[e.on]? = some p → V e.on (rdA A) W) → wpOp P ops (NoPanic Q) i (fun a' w' => ∃ v, a' = A.put o.dst v ∧ S w' ∧ R W w' ∧ (∀ ρ : Nat → Value, (∀ t, o.dst ≠ some t → ρ t = rdA A t) → (∀ d, o.dst = some d → ρ d = v) → V i ρ w')) A W)
    (h : ∀ A W, S W → A.defers = a0.defers → A.tmps.size = a0.tmps.size → (∀ t, (∀ (i : Nat) (o : Oper), ops[i]? = some o → o.dst ≠ some t) → A.tmps.getD t undef = a0.tmps.getD t undef) → (∀ (i : Nat) (o : Oper), ops[i]? = some o → V i (rdA A) W) → Q .normal A W) :
    (Code.region id ops true).wp P Q a0 w := by
  have hmono : ∀ (L : Array Bool) (i j : Nat), L.getD j false = true → (L.setIfInBounds i true).getD j false = true := fun L i j hj => by
    by_cases hij : i = j
    · subst hij
      have hlt : i < L.size := by
        rcases Nat.lt_or_ge i L.size with h' | h'
        · exact h'
        · simp [Array.getElem?_eq_none h'] at hj
      simp [hlt]
    · rw [getD_set_ne false hij]; exact hj
  refine wp_region_noPanic (wp_region_any hm ?_)
  refine wpAny_inv (InvB ops a0 S V) hb ?_ ?_ ops.size _ a0 w.drew (by simp) (by simp [leftOf]) ⟨hS, rfl, rfl, fun _ _ => rfl, fun i o ho hl => ?_, fun i o ho hl => ?_⟩
  · intro i o L a w1 ho hl hdep hI
    refine wpOp_mono ?_ (hop i o a w1 ho hI.world hI.slot (fun e he hbd p hp => hI.fact e.on p hp (hdep e he hbd)))
    rintro a' w' ⟨v, rfl, hS', hR', hVi⟩
    have hdlt : ∀ d, o.dst = some d → d < a.tmps.size := fun d hd' => by
      have h1 := List.all_eq_true.1 hfit i (List.mem_range.2 (Array.getElem?_eq_some_iff.1 ho).1)
      rw [ho] at h1
      simp only [hd', decide_eq_true_eq] at h1
      rw [hI.size]; exact h1
    have hput : ∀ t, o.dst ≠ some t → rdA (a.put o.dst v) t = rdA a t := fun t ht => by
      unfold rdA
      cases hd' : o.dst with
      | none => rfl
      | some d =>
        have hne : d ≠ t := fun e => ht (by rw [hd', e])
        simp [Act.put, Array.getElem?_setIfInBounds_ne hne]
    refine ⟨hS', ?_, ?_, ?_, ?_, ?_⟩
    · cases o.dst <;> exact hI.defers
    · rw [← hI.size]; cases o.dst <;> simp [Act.put]
    · intro t ht
      rw [← hI.slot t ht]
      exact hput t (ht i o ho)
    · intro j p hp hlj
      by_cases hij : i = j
      · subst hij
        refine hVi _ hput (fun d hd' => ?_)
        unfold rdA
        simp [hd', Act.put, hdlt d hd']
      · have hlj' : L.getD j false = true := by rw [getD_set_ne false hij] at hlj; exact hlj
        have h1 := hR j _ w1 w' hI.world hR' (hI.fact j p hp hlj')
        refine hV j _ _ w' (fun t ht => (hput t (fun hd' => ?_)).symm) h1
        obtain ⟨e, he, hbd, hon⟩ := readsOk_spec hr ho hp ht hd' hij
        have h2 := hI.closed j p hp hlj' e he hbd
        rw [hon] at h2
        have h3 : i < L.size := by
          rcases Nat.lt_or_ge i L.size with h' | h'
          · exact h'
          · simp [Array.getElem?_eq_none h'] at hl
        simp [h3] at hl h2
        rw [hl] at h2; cases h2
    · intro j p hp hlj e he hbd
      by_cases hij : i = j
      · subst hij
        rw [ho] at hp; cases hp
        exact hmono L i e.on (hdep e he hbd)
      · have hlj' : L.getD j false = true := by rw [getD_set_ne false hij] at hlj; exact hlj
        exact hmono L i e.on (hI.closed j p hp hlj' e he hbd)
  · intro L a w1 hall hI
    exact h a w1 hI.world hI.defers hI.size hI.slot (fun i o ho => hI.fact i o ho (hall i (Array.getElem?_eq_some_iff.1 ho).1))
  · exfalso
    have hi := (Array.getElem?_eq_some_iff.1 ho).1
    simp [hi] at hl
  · exfalso
    have hi := (Array.getElem?_eq_some_iff.1 ho).1
    simp [hi] at hl
theorem slot_free {ops : Array Oper} {t : Nat} (h : ops.all (fun o => decide (o.dst ≠ some t)) = true) (i : Nat) (o : Oper) (ho : ops[i]? = some o) : o.dst ≠ some t := by
  have h1 := Array.all_eq_true_iff_forall_mem.1 h o (Array.mem_of_getElem? ho)
  simpa using h1
theorem wpOp_value {P : Program} {ops : Array Oper} {Q : Exit → Act → World → Prop} {i : Nat} {K : Act → World → Prop} {a : Act} {w w' : World} {o : Oper} {v : Value} (ho : ops[i]? = some o) (hg : o.guard = none) (hr : (execOp a.eval o).run P w = .ok (.value v) w') (h : K (a.put o.dst v) w') : wpOp P ops Q i K a w := by
  refine wpOp_of_wp ho hg ?_
  unfold Oper.wp
  rw [hr, Oper.upon_value]
  exact h
theorem act_ext {a : Act} {N : Nat} {X : Array Value} {D : List Deferred} (h1 : a.tmps.size = N) (h2 : X.size = N) (h3 : a.defers = D) (h : ∀ t, t < N → a.tmps.getD t undef = X.getD t undef) : a = { tmps := X, defers := D } := by
  obtain ⟨tm, df⟩ := a
  simp only at h1 h3 h
  subst h3
  have : tm = X := by
    apply Array.ext (by omega)
    intro i hi hj
    have := h i (by omega)
    simpa [hi, hj] using this
  rw [this]
theorem put_get (a : Act) (d t : Nat) (v : Value) : (a.put (some d) v).tmps.getD t undef = if d = t ∧ t < a.tmps.size then v else a.tmps.getD t undef := by
  by_cases h : d = t
  · subst h
    by_cases h2 : d < a.tmps.size
    · simp [Act.put, h2]
    · simp [Act.put, h2]
  · simp [Act.put, h, Array.getElem?_setIfInBounds_ne h]
theorem act_of_slots {A : Act} : ∀ (ts : List Nat) (a0 : Act), A.tmps.size = a0.tmps.size → A.defers = a0.defers → (∀ t, t ∉ ts → A.tmps.getD t undef = a0.tmps.getD t undef) → A = ts.foldl (fun a t => a.put (some t) (rdA A t)) a0
  | [], a0, h1, h2, h3 => act_ext (X := a0.tmps) (D := a0.defers) rfl h1.symm h2 (fun t _ => h3 t (by simp))
  | d :: ts, a0, h1, h2, h3 => by
    refine act_of_slots ts (a0.put (some d) (rdA A d)) (by simp [Act.put, h1]) (by simp [Act.put, h2]) (fun t ht => ?_)
    rw [put_get]
    by_cases h : d = t
    · subst h
      by_cases h4 : d < a0.tmps.size
      · rw [if_pos ⟨rfl, h4⟩]; rfl
      · rw [if_neg (fun h => h4 h.2)]
        simp [Array.getElem?_eq_none (show A.tmps.size ≤ d by omega), Array.getElem?_eq_none (show a0.tmps.size ≤ d by omega)]
    · rw [if_neg (fun h' => h h'.1)]
      exact h3 t (by simp [Ne.symm h, ht])
/-- Slots that no operation writes. -/
theorem slots_free {ops : Array Oper} {ts : List Nat} (h : ops.all (fun o => match o.dst with | some d => ts.contains d | none => true) = true) (t : Nat) (ht : t ∉ ts) (i : Nat) (o : Oper) (ho : ops[i]? = some o) : o.dst ≠ some t := fun hd => by
  have h1 := Array.all_eq_true_iff_forall_mem.1 h o (Array.mem_of_getElem? ho)
  rw [hd] at h1
  exact ht (by simpa using h1)
end Go.Proofs.Ytacgkfngpeieaaa

/-
  What the walk of the law BoxBack leans on: the rows of what was sealed, one by one; arrays copied into new blocks in any order.
-/
namespace Go.Proofs.Ytacgkfngpeieaaa
open Go.RowKit Go.Proofs.ShaWords
theorem NumAt.inj {i j : Nat} {s : List (BitVec 8)} (h : NumAt i s) (h' : NumAt j s) : i = j := h.2.symm.trans h'.2
/-- The i-th of the things: what it was sealed as; its row. -/
theorem all_at (l : List (BitVec 8)) : ∀ (ts : List ThingM) (d n i : Nat), n + ts.length < 18446744073709551616 → ∀ (h : i < ts.length), ∃ s, (allOf l d n (lens ts))[i]? = some s ∧ (allA l d n ts)[i]? = some ⟨ts[i].key, ts[i].nonce, ts[i].head, ts[i].plain, s⟩ ∧ s.length = 16 + ts[i].plain.length ∧ NumAt (n + i) s
  | [], d, n, i, _, h => absurd h (Nat.not_lt_zero i)
  | t :: ts, d, n, 0, hn, h => ⟨boxOf l d n t.plain.length, rfl, rfl, boxOf_length _ _ _ _, numAt_boxOf _ _ _ _ (by simp at hn; omega)⟩
  | t :: ts, d, n, i + 1, hn, h => by
    obtain ⟨s, h1, h2, h3, h4⟩ := all_at l ts (d + (8 + t.plain.length)) (n + 1) i (by simp at hn; omega) (by simpa using h)
    refine ⟨s, ?_, ?_, ?_, ?_⟩
    · rw [lens, List.map_cons, allOf, List.getElem?_cons_succ]; exact h1
    · rw [allA, List.getElem?_cons_succ]; exact h2
    · simpa using h3
    · rw [show n + (i + 1) = n + 1 + i by omega]; exact h4
theorem allA_nums (l : List (BitVec 8)) (ts : List ThingM) (hn : ts.length < 1000000) (i : Nat) (h : i < (allA l 0 0 ts).length) : NumAt i (allA l 0 0 ts)[i].sealed := by
  rw [allA_length] at h
  obtain ⟨s, -, h2, -, h4⟩ := all_at l ts 0 0 i (by omega) h
  have h5 : (allA l 0 0 ts)[i]? = some (allA l 0 0 ts)[i] := List.getElem?_eq_getElem _
  rw [h2] at h5
  rw [← Option.some.inj h5]
  rw [Nat.zero_add] at h4
  exact h4
theorem openA_num {A : List RowA} {key nonce head s : List (BitVec 8)} {r : RowA} {i : Nat} (hn : ∀ i (h : i < A.length), NumAt i A[i].sealed) (hi : A[i]? = some r) (hs : r.sealed = s) : openA A key nonce head s = if RowA.hit key nonce head s r = true then some r else none := by
  obtain ⟨hil, hir⟩ := List.getElem?_eq_some_iff.1 hi
  unfold openA
  cases hf : A.find? (RowA.hit key nonce head s) with
  | none =>
    have h1 := List.find?_eq_none.1 hf r (by rw [← hir]; exact List.getElem_mem _)
    simp [h1]
  | some r' =>
    have hh := List.find?_some hf
    obtain ⟨j, hj, he⟩ := List.getElem_of_mem (List.mem_of_find?_eq_some hf)
    have hs' : r'.sealed = s := by
      simp only [RowA.hit, Bool.and_eq_true, decide_eq_true_eq] at hh
      exact hh.2
    have h1 := hn j hj
    have h2 := hn i hil
    rw [he, hs'] at h1
    rw [hir, hs] at h2
    have hij := h1.inj h2
    subst hij
    have : r' = r := he.symm.trans hir
    subst this
    simp [hh]
/-- What was sealed opens as it was; and under nothing else. -/
theorem open_yes {l : List (BitVec 8)} {ts : List ThingM} (hn : ts.length < 1000000) {i : Nat} (h : i < ts.length) {s : List (BitVec 8)} (hs : (allOf l 0 0 (lens ts))[i]? = some s) :
    (openA (allA l 0 0 ts) ts[i].key ts[i].nonce ts[i].head s).isSome = true ∧ openB (allA l 0 0 ts) ts[i].key ts[i].nonce ts[i].head s = ts[i].plain := by
  obtain ⟨s', h1, h2, -, -⟩ := all_at l ts 0 0 i (by omega) h
  rw [hs] at h1
  obtain rfl := Option.some.inj h1
  have h3 := openA_num (key := ts[i].key) (nonce := ts[i].nonce) (head := ts[i].head) (allA_nums l ts hn) h2 rfl
  rw [if_pos (by simp [RowA.hit])] at h3
  refine ⟨by rw [h3]; rfl, ?_⟩
  unfold openB
  rw [h3]
theorem open_no {l : List (BitVec 8)} {ts : List ThingM} (hn : ts.length < 1000000) {i : Nat} (h : i < ts.length) {key nonce head s : List (BitVec 8)} (hs : (allOf l 0 0 (lens ts))[i]? = some s) (hne : ¬ (ts[i].key = key ∧ ts[i].nonce = nonce ∧ ts[i].head = head)) :
    (openA (allA l 0 0 ts) key nonce head s).isSome = false := by
  obtain ⟨s', h1, h2, -, -⟩ := all_at l ts 0 0 i (by omega) h
  rw [hs] at h1
  obtain rfl := Option.some.inj h1
  have h3 := openA_num (key := key) (nonce := nonce) (head := head) (allA_nums l ts hn) h2 rfl
  rw [h3, if_neg (fun hh => hne (by
    simp only [RowA.hit, Bool.and_eq_true, decide_eq_true_eq] at hh
    exact ⟨hh.1.1.1, hh.1.1.2, hh.1.2⟩))]
  rfl
/-- What nothing was sealed as is not opened. -/
theorem open_strange {l : List (BitVec 8)} {ts : List ThingM} (hn : ts.length < 1000000) {key nonce head s : List (BitVec 8)} (h : ∀ x ∈ allOf l 0 0 (lens ts), x ≠ s) : (openA (allA l 0 0 ts) key nonce head s).isSome = false := by
  cases hf : openA (allA l 0 0 ts) key nonce head s with
  | none => rfl
  | some r =>
    exfalso
    have hh : RowA.hit key nonce head s r = true := List.find?_some hf
    have hm : r ∈ allA l 0 0 ts := List.mem_of_find?_eq_some hf
    obtain ⟨j, hj, he⟩ := List.getElem_of_mem hm
    have hj' := hj
    rw [allA_length] at hj'
    obtain ⟨s', h1, h2, -, -⟩ := all_at l ts 0 0 j (by omega) hj'
    have h5 : (allA l 0 0 ts)[j]? = some (allA l 0 0 ts)[j] := List.getElem?_eq_getElem _
    rw [h2, he] at h5
    have h6 : r.sealed = s' := by rw [← Option.some.inj h5]
    have h7 : r.sealed = s := by
      simp only [RowA.hit, Bool.and_eq_true, decide_eq_true_eq] at hh
      exact hh.2
    exact h s' (List.mem_of_getElem? h1) (h6.symm.trans h7)
theorem all_apart {l : List (BitVec 8)} {ts : List ThingM} (hn : ts.length < 1000000) {i j : Nat} (hi : i < ts.length) (hj : j < ts.length) (hij : i ≠ j) {s s' : List (BitVec 8)} (h : (allOf l 0 0 (lens ts))[i]? = some s) (h' : (allOf l 0 0 (lens ts))[j]? = some s') : s ≠ s' := by
  obtain ⟨x, h1, -, -, h4⟩ := all_at l ts 0 0 i (by omega) hi
  obtain ⟨y, h5, -, -, h6⟩ := all_at l ts 0 0 j (by omega) hj
  rw [h] at h1
  rw [h'] at h5
  obtain rfl := Option.some.inj h1
  obtain rfl := Option.some.inj h5
  intro e
  rw [e] at h4
  have := h4.inj h6
  omega
theorem allA_small {l : List (BitVec 8)} {ts : List ThingM} (hs : Slight ts) : ∀ r ∈ allA l 0 0 ts, r.Small := by
  intro r hr
  have hn : ts.length < 1000000 := by have := hs.1; omega
  obtain ⟨j, hj, he⟩ := List.getElem_of_mem hr
  have hj' := hj
  rw [allA_length] at hj'
  obtain ⟨s', h1, h2, h3, -⟩ := all_at l ts 0 0 j (by omega) hj'
  have h5 : (allA l 0 0 ts)[j]? = some (allA l 0 0 ts)[j] := List.getElem?_eq_getElem _
  rw [h2, he] at h5
  have h6 := Option.some.inj h5
  have h7 := hs.2 ts[j] (List.getElem_mem _)
  rw [← h6]
  exact ⟨by show ts[j].head.length ≤ _; omega, by show ts[j].plain.length ≤ _; omega, by show s'.length ≤ _; omega⟩
theorem ThingM.onesB (t : ThingM) : t.cells.toArray.all (·.oneCell') = true := by
  rw [Array.all_eq_true_iff_forall_mem]
  intro u hu
  simp only [ThingM.cells, bytesV, List.mem_toArray, List.mem_append, List.mem_map, List.mem_cons, List.not_mem_nil, or_false] at hu
  rcases hu with ⟨x, _, rfl⟩ | ⟨x, _, rfl⟩ | rfl | rfl <;> rfl
/-- One of the things, by itself in a block. -/
def ThAt (w : World) (T : Nat) (t : ThingM) : Prop := w.heap[T]? = some (.cells t.cells.toArray 50 (0, 0))
theorem ThAt.on {w w' : World} {T : Nat} {t : ThingM} (h : ThAt w T t) (hb : Below w.heap.size w w') : ThAt w' T t := (hb.block _ (Array.getElem?_eq_some_iff.1 h).1).trans h
theorem ThAt.parts {w : World} {T : Nat} {t : ThingM} (h : ThAt w T t) (hk : t.key.length = 32) (hn : t.nonce.length = 12) : w.rangeAt T (0 + 0) (bytesV t.key) ∧ w.rangeAt T (0 + 32) (bytesV t.nonce) ∧ w.cell? ⟨T, 0 + 44, none⟩ = some (.slice t.hp t.head.length t.hc) ∧ w.cell? ⟨T, 0 + 45, none⟩ = some (.slice t.tp t.plain.length t.tc) :=
  ThingM.parts (fun j u hu => by rw [Nat.zero_add, cell_of_row w T j _ _ _ h]; simpa using hu) hk hn
theorem sameBytes_bigR (l m : List (BitVec 8)) (n1 n2 : Nat) (p q : Option Addr) (c1 c2 : Nat) (w : World) (h1 : l.length = n1) (h2 : m.length = n2) (hn1 : n1 < 1000000) (hp : Lies w p l) (hq : Lies w q m) :
    Calls Try.prog 15 #[.slice p n1 c1, .slice q n2 c2] w fun e w' => e = .returned (.bool (decide (l = m))) ∧ Below w.heap.size w w' := by
  by_cases hne : n1 = n2
  · exact sameBytes_any l m n1 n2 p q c1 c2 w h1 h2 hn1 (by omega) hp hq
  · have HNE : Hid (decide (l = m) = false) := show _ = _ by
      have : l ≠ m := fun e => hne (by rw [← h1, ← h2, e])
      simpa using this
    clear h1 h2
    have q0 : ((n1 : Int) == (n2 : Int)) = false := beq_eq_false_iff_ne.2 (by omega)
    have q1 : ¬ (n1 : Int) = (n2 : Int) := by omega
    go_enter Try.func15, Try.ntmps15
    go_wp2_with fail
    go_ret
    exact ⟨by rw [HNE.out]; rfl, Below.refl _ _⟩
/-- What a step keeps, where a key and a nonce are stored into new blocks. -/
structure KnR (K N : List (BitVec 8)) (w w' : World) : Prop where
  shape : ∀ (g : Nat) (t : TypeId) (l : List (BitVec 8)), (t = 38 ∨ t = 40) → BytesAt w g t l → ∃ l' : List (BitVec 8), l'.length = l.length ∧ BytesAt w' g t l'
  key : ∀ g, BytesAt w g 38 K → BytesAt w' g 38 K
  nonce : ∀ g, BytesAt w g 40 N → BytesAt w' g 40 N
theorem KnR.of_below {K N : List (BitVec 8)} {w w' : World} (h : Below w.heap.size w w') : KnR K N w w' := ⟨fun _ _ l _ hb => ⟨l, rfl, hb.keep h⟩, fun _ hb => hb.keep h, fun _ hb => hb.keep h⟩
theorem knR_setKey {K N : List (BitVec 8)} {w : World} {g : Nat} {kk : List (BitVec 8)} (hK : K.length = 32) (hb : BytesAt w g 38 kk) (hl : kk.length = 32) : KnR K N w (w.setRow g (bytesV K).toArray) ∧ BytesAt (w.setRow g (bytesV K).toArray) g 38 K := by
  have h1 : BytesAt (w.setRow g (bytesV K).toArray) g 38 K := setRow_heap _ _ _ _ _ _ hb
  have h2 := grown_setRow w g (bytesV K).toArray
  refine ⟨⟨fun g' t l ht hb' => ?_, fun g' hb' => ?_, fun g' hb' => ?_⟩, h1⟩
  · by_cases e : g' = g
    · subst e
      have e1 := Obj.cells.inj (Option.some.inj (hb'.symm.trans hb))
      have hln : l.length = kk.length := by simpa [bytesV] using congrArg Array.size e1.1
      have ht2 : t = 38 := e1.2.1
      subst ht2
      exact ⟨_, by rw [hln, hl, hK], h1⟩
    · exact ⟨l, rfl, hb'.past h2 e⟩
  · by_cases e : g' = g
    · subst e; exact h1
    · exact hb'.past h2 e
  · by_cases e : g' = g
    · subst e
      have e1 := Obj.cells.inj (Option.some.inj (hb'.symm.trans hb))
      exact absurd e1.2.1 (by decide)
    · exact hb'.past h2 e
theorem knR_setNonce {K N : List (BitVec 8)} {w : World} {g : Nat} {kk : List (BitVec 8)} (hN : N.length = 12) (hb : BytesAt w g 40 kk) (hl : kk.length = 12) : KnR K N w (w.setRow g (bytesV N).toArray) ∧ BytesAt (w.setRow g (bytesV N).toArray) g 40 N := by
  have h1 : BytesAt (w.setRow g (bytesV N).toArray) g 40 N := setRow_heap _ _ _ _ _ _ hb
  have h2 := grown_setRow w g (bytesV N).toArray
  refine ⟨⟨fun g' t l ht hb' => ?_, fun g' hb' => ?_, fun g' hb' => ?_⟩, h1⟩
  · by_cases e : g' = g
    · subst e
      have e1 := Obj.cells.inj (Option.some.inj (hb'.symm.trans hb))
      have hln : l.length = kk.length := by simpa [bytesV] using congrArg Array.size e1.1
      have ht2 : t = 40 := e1.2.1
      subst ht2
      exact ⟨_, by rw [hln, hl, hN], h1⟩
    · exact ⟨l, rfl, hb'.past h2 e⟩
  · by_cases e : g' = g
    · subst e
      have e1 := Obj.cells.inj (Option.some.inj (hb'.symm.trans hb))
      exact absurd e1.2.1 (by decide)
    · exact hb'.past h2 e
  · by_cases e : g' = g
    · subst e; exact h1
    · exact hb'.past h2 e
/-- What each operation of BoxBack's region has yielded. -/
def BkV (B T : Nat) (K N : List (BitVec 8)) : Nat → (Nat → Value) → World → Prop
  | 0, ρ, _ => ρ 84 = .pointer (some ⟨T, 0 + 0, none⟩)
  | 1, ρ, _ => ρ 85 = .agg (bytesV K).toArray
  | 2, ρ, _ => ρ 86 = .pointer (some ⟨T, 0 + 32, none⟩)
  | 3, ρ, _ => ρ 87 = .agg (bytesV N).toArray
  | 4, ρ, w => ∃ g, ρ 14 = .pointer (some ⟨g, 0, none⟩) ∧ B ≤ g ∧ ∃ kk : List (BitVec 8), kk.length = 32 ∧ BytesAt w g 38 kk
  | 5, ρ, w => ∃ g, ρ 15 = .pointer (some ⟨g, 0, none⟩) ∧ B ≤ g ∧ ∃ kk : List (BitVec 8), kk.length = 12 ∧ BytesAt w g 40 kk
  | 6, ρ, w => ∃ g, ρ 14 = .pointer (some ⟨g, 0, none⟩) ∧ B ≤ g ∧ BytesAt w g 38 K
  | 7, ρ, w => ∃ g, ρ 15 = .pointer (some ⟨g, 0, none⟩) ∧ B ≤ g ∧ BytesAt w g 40 N
  | _, _, _ => True
def bkReads : Nat → List Nat
  | 0 => [84] | 1 => [85] | 2 => [86] | 3 => [87] | 4 => [14] | 5 => [15] | 6 => [14] | 7 => [15] | _ => []
theorem bkV_reads (B T : Nat) (K N : List (BitVec 8)) (i : Nat) (ρ ρ' : Nat → Value) (w : World) (h : ∀ t ∈ bkReads i, ρ t = ρ' t) (hv : BkV B T K N i ρ w) : BkV B T K N i ρ' w := by
  match i, h, hv with
  | 0, h, hv => exact (h 84 (by simp [bkReads])).symm.trans hv
  | 1, h, hv => exact (h 85 (by simp [bkReads])).symm.trans hv
  | 2, h, hv => exact (h 86 (by simp [bkReads])).symm.trans hv
  | 3, h, hv => exact (h 87 (by simp [bkReads])).symm.trans hv
  | 4, h, ⟨g, e, r⟩ => exact ⟨g, (h 14 (by simp [bkReads])).symm.trans e, r⟩
  | 5, h, ⟨g, e, r⟩ => exact ⟨g, (h 15 (by simp [bkReads])).symm.trans e, r⟩
  | 6, h, ⟨g, e, r⟩ => exact ⟨g, (h 14 (by simp [bkReads])).symm.trans e, r⟩
  | 7, h, ⟨g, e, r⟩ => exact ⟨g, (h 15 (by simp [bkReads])).symm.trans e, r⟩
  | n + 8, h, hv => trivial
theorem bkV_on (B T : Nat) (K N : List (BitVec 8)) (i : Nat) (ρ : Nat → Value) (w w' : World) (h : KnR K N w w') (hv : BkV B T K N i ρ w) : BkV B T K N i ρ w' := by
  match i, hv with
  | 0, hv => exact hv
  | 1, hv => exact hv
  | 2, hv => exact hv
  | 3, hv => exact hv
  | 4, ⟨g, e, hg, kk, hl, hb⟩ =>
    obtain ⟨l', h1, h2⟩ := h.shape g _ kk (Or.inl rfl) hb
    exact ⟨g, e, hg, l', h1.trans hl, h2⟩
  | 5, ⟨g, e, hg, kk, hl, hb⟩ =>
    obtain ⟨l', h1, h2⟩ := h.shape g _ kk (Or.inr rfl) hb
    exact ⟨g, e, hg, l', h1.trans hl, h2⟩
  | 6, ⟨g, e, hg, hb⟩ => exact ⟨g, e, hg, h.key g hb⟩
  | 7, ⟨g, e, hg, hb⟩ => exact ⟨g, e, hg, h.nonce g hb⟩
  | n + 8, hv => trivial
end Go.Proofs.Ytacgkfngpeieaaa

/- The kit's Pick: some number below its bound. -/
namespace Go.Proofs.Ytacgkfngpeieaaa
open Go.RowKit Go.Proofs.ShaWords

theorem tmod_bounds (v n : Int) (h : 1 ≤ n) : -n < v.tmod n ∧ v.tmod n < n := by
  have h1 := Int.tmod_lt_of_pos v (show 0 < n by omega)
  have h2 := Int.tmod_lt_of_pos (-v) (show 0 < n by omega)
  rw [Int.neg_tmod] at h2
  omega
def SomeIn (n : Int) (w : World) (e : Ending) (w' : World) : Prop := ∃ r : Nat, (r : Int) < n ∧ e = .returned (.int .i64 (r : Int)) ∧ w = w'
set_option maxHeartbeats 400000 in
theorem pick_any (v n : Int) (w : World) (h1 : 1 ≤ n) (h2 : n ≤ 1000000) : Calls Try.prog 28 #[.int .i64 v, .int .i64 n] w (SomeIn n w) := by
  have hb := tmod_bounds v n h1
  obtain ⟨hb1, hb2⟩ := hb
  have hn0 : ¬ n = 0 := by omega
  by_cases hneg : v.tmod n < 0
  · go_enter Try.func28, Try.ntmps28
    go_wp2_with fail
    go_ret
    exact ⟨(v.tmod n + n).toNat, by omega, by
      have : ((v.tmod n + n).toNat : Int) = v.tmod n + n := by omega
      rw [this]; rfl, rfl⟩
  · go_enter Try.func28, Try.ntmps28
    go_wp2_with fail
    go_ret
    exact ⟨(v.tmod n).toNat, by omega, by
      have : ((v.tmod n).toNat : Int) = v.tmod n := by omega
      rw [this]; rfl, rfl⟩

end Go.Proofs.Ytacgkfngpeieaaa

/-
  A bit of a byte.
-/
namespace Go.Proofs.Ytacgkfngpeieaaa
open Go.RowKit Go.Proofs.ShaWords
theorem pow8 (R : Nat) : (2 : Int) ^ R % 256 = n8 (BitVec.ofNat 8 (2 ^ R)) := by
  unfold n8
  rw [BitVec.toNat_ofNat, show (2 : Int) = ((2 : Nat) : Int) from rfl, ← Int.natCast_pow]
  omega
end Go.Proofs.Ytacgkfngpeieaaa

/-
  The statement's own sealed: what an opening is asked of.
-/
namespace Go.Proofs.Ytacgkfngpeieaaa
open Go.RowKit Go.Proofs.ShaWords

/-- An Op by itself in a block. -/
def OpAt (w : World) (T : Nat) (o : OpM) : Prop := w.heap[T]? = some (.cells o.cells.toArray 35 (0, 0))
theorem OpAt.on {w w' : World} {T : Nat} {o : OpM} (h : OpAt w T o) (hb : Below w.heap.size w w') : OpAt w' T o := (hb.block _ (Array.getElem?_eq_some_iff.1 h).1).trans h
theorem OpAt.onB {B : Nat} {w w' : World} {T : Nat} {o : OpM} (h : OpAt w T o) (hb : Below B w w') (hB : w.heap.size ≤ B) : OpAt w' T o := (hb.block _ (Nat.lt_of_lt_of_le (Array.getElem?_eq_some_iff.1 h).1 hB)).trans h
theorem OpAt.cell {w : World} {T : Nat} {o : OpM} (h : OpAt w T o) (j : Nat) : w.cell? ⟨T, j, none⟩ = o.cells[j]? := by
  rw [cell_of_row w T j _ _ _ h]; simp
theorem wf_i64 {z : Int} (h : (Lit.int .i64 z).wf = true) : -9223372036854775808 ≤ z ∧ z ≤ 9223372036854775807 := by
  simp [Lit.wf, IntKind.min, IntKind.max, IntKind.signed, IntKind.bits] at h
  omega
set_option maxRecDepth 100000 in
set_option maxHeartbeats 2000000 in
theorem sealed_any (o : OpM) (nh ch : Nat) (ph : Option Addr) (w : World) (ht : Lies w o.tp o.text) (htc : o.text.length ≤ o.tc) (h1 : (Lit.int .i64 o.at').wf = true) (h2 : (Lit.int .i64 o.turn).wf = true) (hnh : nh ≤ 1000)
    (hh : nh = 0 ∨ ∃ g, ph = some ⟨g, 0, none⟩ ∧ ∀ i, i < nh → ∃ q c s, w.cell? ⟨g, i, none⟩ = some (.slice q s.length c) ∧ Lies w q s ∧ 16 ≤ s.length ∧ s.length ≤ 2000) :
    Calls Try.prog 16 #[.agg o.cells.toArray, .slice ph nh ch] w fun e w' => ∃ q c s, e = .returned (.slice q s.length c) ∧ s.length ≤ c ∧ (s.length ≤ o.text.length ∨ s.length ≤ 2000) ∧ Lies w' q s ∧ Below w.heap.size w w' := by
  have HT := Lib.hid ht; clear ht
  have HH := Lib.hid hh; clear hh
  have a1 := wf_i64 h1
  have a2 := wf_i64 h2
  clear h1 h2
  go_enter Try.func16, Try.ntmps16
  go_upto_region 1 with (fail)
  refine wp_gen (fun w' => OpAt w' w.heap.size o ∧ Below w.heap.size w w') ⟨heap_new_at rfl, (Below.refl _ _).alloc (Nat.le_refl _) _⟩ ?_
  rintro w0 ⟨ho0, hb0⟩
  have e4 : w0.cell? ⟨w.heap.size, 4, none⟩ = some (.slice o.tp o.text.length o.tc) := by rw [ho0.cell]; rfl
  have e5 : w0.cell? ⟨w.heap.size, 5, none⟩ = some (.int .i64 o.at') := by rw [ho0.cell]; rfl
  have HO0 := Lib.hid ho0; clear ho0
  have HB0 := Lib.hid hb0; clear hb0
  by_cases hat : o.at' < 1
  · go_wp2_with fail
    go_ret
    exact ⟨_, _, o.text, rfl, htc, Or.inl (Nat.le_refl _), HT.out.below HB0.out, HB0.out⟩
  · by_cases hn0 : nh = 0
    · subst hn0
      go_wp2_with fail
      go_ret
      exact ⟨_, _, o.text, rfl, htc, Or.inl (Nat.le_refl _), HT.out.below HB0.out, HB0.out⟩
    · have n0 : ¬ (nh : Int) = 0 := by omega
      have n1 : ((nh : Int) == 0) = false := by simpa using hn0
      obtain ⟨z, hz⟩ : ∃ z, z = o.at' - 1 := ⟨_, rfl⟩
      have t1 : IntKind.i64.wrap (o.at' - 1) = z := by rw [hz]; exact IntWalk.i64_in _ (by omega)
      clear hz
      obtain ⟨g, rfl, hg⟩ : ∃ g, ph = some ⟨g, 0, none⟩ ∧ ∀ i, i < nh → ∃ q c s, w.cell? ⟨g, i, none⟩ = some (.slice q s.length c) ∧ Lies w q s ∧ 16 ≤ s.length ∧ s.length ≤ 2000 := by
        rcases HH.out with h | h
        · exact absurd h hn0
        · exact h
      go_wp2_with fail
      refine (pick_any z (nh : Int) w0 (by omega) (by omega)).mono ?_
      rintro e w1 ⟨r, hr, rfl, rfl⟩
      obtain ⟨q, c, s, hc, hl, hs1, hs2⟩ := hg r (by omega)
      have er := (HB0.out.cell (World.block_lt_of_cell? w _ hc)).trans hc
      have HL := Lib.hid (hl.below HB0.out)
      clear hc hl hg e4
      have r0 : 0 ≤ (r : Int) := by omega
      go_wp2_with fail
      refine (copy_any s q c w0 (by omega) HL.out).mono ?_
      rintro e w2 ⟨v2, rfl, ho2, hb2⟩
      obtain ⟨g2, c2, rfl, hg2, hg2', hc2, hc2', hcell, hfr⟩ := ho2.form8 (by omega)
      have HO2 := Lib.hid ho2; clear ho2
      have e6 : w2.cell? ⟨w.heap.size, 6, none⟩ = some (.int .i64 o.turn) := by rw [(HO0.out.on hb2).cell]; rfl
      have HB2 := Lib.hid (HB0.out.trans (hb2.mono HB0.out.size)); clear hb2 e5 er
      by_cases htu : 0 < o.turn
      · obtain ⟨z2, hz2⟩ : ∃ z2, z2 = o.turn - 1 := ⟨_, rfl⟩
        have t2 : IntKind.i64.wrap (o.turn - 1) = z2 := by rw [hz2]; exact IntWalk.i64_in _ (by omega)
        obtain ⟨L8, hL8⟩ : ∃ L8, L8 = 8 * s.length := ⟨_, rfl⟩
        have t3 : IntKind.i64.wrap (8 * (s.length : Int)) = (L8 : Int) := by rw [IntWalk.i64_in _ (by omega)]; omega
        have HL8 := Lib.hid hL8
        have hL1 : 1 ≤ L8 := by omega
        have hL2 : L8 ≤ 16000 := by omega
        clear hz2 hL8
        go_wp2_with fail
        refine (pick_any z2 (L8 : Int) w2 (by omega) (by omega)).mono ?_
        rintro e w3 ⟨r2, hr2, rfl, rfl⟩
        obtain ⟨D8, hD8⟩ : ∃ D8, D8 = r2 / 8 := ⟨_, rfl⟩
        obtain ⟨R8, hR8⟩ : ∃ R8, R8 = r2 % 8 := ⟨_, rfl⟩
        have u1 : (r2 : Int).tdiv 8 = (D8 : Int) := by rw [Int.tdiv_eq_ediv_of_nonneg (by omega)]; omega
        have u2 : IntKind.i64.wrap (D8 : Int) = (D8 : Int) := IntWalk.i64_in _ (by omega)
        have u3 : (r2 : Int).tmod 8 = (R8 : Int) := by rw [Int.tmod_eq_emod_of_nonneg (by omega)]; omega
        have u4 : IntKind.i64.wrap (R8 : Int) = (R8 : Int) := IntWalk.i64_in _ (by omega)
        have hR7 : R8 < 8 := by omega
        have hDl : D8 < s.length := by have := HL8.out; omega
        have hDl2 : (D8 : Int) < (s.length : Int) := by omega
        have hx := hcell D8 hDl
        have hf := hfr D8
        clear hD8 hR8 hcell hfr e6 hr2
        generalize s.getD D8 0#8 = x at hx
        have p8 := pow8 R8
        generalize BitVec.ofNat 8 (2 ^ R8) = c8 at p8
        have hx8 := xor8 x c8
        go_wp2_with fail
        go_ret
        have HO3 := HO2.out.put D8 (x ^^^ c8)
        refine ⟨some ⟨g2, 0, none⟩, c2, s.set D8 (x ^^^ c8), by rw [List.length_set]; rfl, by rw [List.length_set]; exact hc2, Or.inr (by rw [List.length_set]; exact hs2), ?_, HB2.out.setCell (by show w.heap.size ≤ g2; have := HB0.out.size; omega) _⟩
        obtain ⟨p', c', e', -, -, hl'⟩ := HO3.lies
        rw [List.length_set] at e'
        cases e'
        exact hl'
      · clear hcell hfr
        go_wp2_with fail
        go_ret
        refine ⟨some ⟨g2, 0, none⟩, c2, s, rfl, hc2, Or.inr hs2, ?_, HB2.out⟩
        obtain ⟨p', c', e', -, -, hl'⟩ := HO2.out.lies
        cases e'
        exact hl'
end Go.Proofs.Ytacgkfngpeieaaa

/-
  Arrays whose first byte is given, in new blocks, laid in any order: what the statement BoxPlays does ahead of each call.
-/
namespace Go.Proofs.Ytacgkfngpeieaaa
open Go.RowKit Go.Proofs.ShaWords
section
variable {ρ : Operand → Value} {o : Oper} {x y c : Operand} {w : World}
theorem run_keyOf {b : BitVec 8} (ho : o.op = .build 38 #[(0, x)]) (hx : ρ x = .int .u8 (n8 b)) (w : World) : (execOp ρ o).run Try.prog w = .ok (.value (.agg (bytesV (b :: noughts 31)).toArray)) w := by
  have e : (bytesV (b :: noughts 31)).toArray = #[.int .u8 (n8 b), .int .u8 0, .int .u8 0, .int .u8 0, .int .u8 0, .int .u8 0, .int .u8 0, .int .u8 0, .int .u8 0, .int .u8 0, .int .u8 0, .int .u8 0, .int .u8 0, .int .u8 0, .int .u8 0, .int .u8 0, .int .u8 0, .int .u8 0, .int .u8 0, .int .u8 0, .int .u8 0, .int .u8 0, .int .u8 0, .int .u8 0, .int .u8 0, .int .u8 0, .int .u8 0, .int .u8 0, .int .u8 0, .int .u8 0, .int .u8 0, .int .u8 0] := rfl
  rw [e]
  obtain ⟨dst, op, ty', pos, after, guard⟩ := o
  simp only at ho
  subst ho
  go_simp
theorem run_nonceOf {b : BitVec 8} (ho : o.op = .build 40 #[(0, x)]) (hx : ρ x = .int .u8 (n8 b)) (w : World) : (execOp ρ o).run Try.prog w = .ok (.value (.agg (bytesV (b :: noughts 11)).toArray)) w := by
  have e : (bytesV (b :: noughts 11)).toArray = #[.int .u8 (n8 b), .int .u8 0, .int .u8 0, .int .u8 0, .int .u8 0, .int .u8 0, .int .u8 0, .int .u8 0, .int .u8 0, .int .u8 0, .int .u8 0, .int .u8 0] := rfl
  rw [e]
  obtain ⟨dst, op, ty', pos, after, guard⟩ := o
  simp only at ho
  subst ho
  go_simp
theorem run_allocKey (ho : o.op = .alloc 38) (w : World) : (execOp ρ o).run Try.prog w = .ok (.value (.pointer (some ⟨w.heap.size, 0, none⟩))) (w.alloc (.cells (bytesV (noughts 32)).toArray 38)) := by
  have e : (bytesV (noughts 32)).toArray = Array.replicate 32 (.int .u8 0) := by kernel_rfl
  rw [e]
  obtain ⟨dst, op, ty', pos, after, guard⟩ := o
  simp only at ho
  subst ho
  go_simp
  rfl
theorem run_allocNonce (ho : o.op = .alloc 40) (w : World) : (execOp ρ o).run Try.prog w = .ok (.value (.pointer (some ⟨w.heap.size, 0, none⟩))) (w.alloc (.cells (bytesV (noughts 12)).toArray 40)) := by
  have e : (bytesV (noughts 12)).toArray = Array.replicate 12 (.int .u8 0) := by kernel_rfl
  rw [e]
  obtain ⟨dst, op, ty', pos, after, guard⟩ := o
  simp only at ho
  subst ho
  go_simp
  rfl
end
/-- What each operation has yielded. -/
def KrV (B T : Nat) (o : OpM) : Nat → (Nat → Value) → World → Prop
  | 0, ρ, _ => ρ 66 = .pointer (some ⟨T, 1, none⟩)
  | 1, ρ, _ => ρ 67 = .int .u8 (n8 o.k)
  | 2, ρ, _ => ρ 68 = .agg (bytesV (o.k :: noughts 31)).toArray
  | 3, ρ, _ => ρ 69 = .pointer (some ⟨T, 2, none⟩)
  | 4, ρ, _ => ρ 70 = .int .u8 (n8 o.n)
  | 5, ρ, _ => ρ 71 = .agg (bytesV (o.n :: noughts 11)).toArray
  | 6, ρ, w => ∃ g, ρ 13 = .pointer (some ⟨g, 0, none⟩) ∧ B ≤ g ∧ ∃ kk : List (BitVec 8), kk.length = 32 ∧ BytesAt w g 38 kk
  | 7, ρ, w => ∃ g, ρ 14 = .pointer (some ⟨g, 0, none⟩) ∧ B ≤ g ∧ ∃ kk : List (BitVec 8), kk.length = 12 ∧ BytesAt w g 40 kk
  | 8, ρ, w => ∃ g, ρ 13 = .pointer (some ⟨g, 0, none⟩) ∧ B ≤ g ∧ BytesAt w g 38 (o.k :: noughts 31)
  | 9, ρ, w => ∃ g, ρ 14 = .pointer (some ⟨g, 0, none⟩) ∧ B ≤ g ∧ BytesAt w g 40 (o.n :: noughts 11)
  | _, _, _ => True
def krReads : Nat → List Nat
  | 0 => [66] | 1 => [67] | 2 => [68] | 3 => [69] | 4 => [70] | 5 => [71] | 6 => [13] | 7 => [14] | 8 => [13] | 9 => [14] | _ => []
theorem krV_reads (B T : Nat) (o : OpM) (i : Nat) (ρ ρ' : Nat → Value) (w : World) (h : ∀ t ∈ krReads i, ρ t = ρ' t) (hv : KrV B T o i ρ w) : KrV B T o i ρ' w := by
  match i, h, hv with
  | 0, h, hv => exact (h 66 (by simp [krReads])).symm.trans hv
  | 1, h, hv => exact (h 67 (by simp [krReads])).symm.trans hv
  | 2, h, hv => exact (h 68 (by simp [krReads])).symm.trans hv
  | 3, h, hv => exact (h 69 (by simp [krReads])).symm.trans hv
  | 4, h, hv => exact (h 70 (by simp [krReads])).symm.trans hv
  | 5, h, hv => exact (h 71 (by simp [krReads])).symm.trans hv
  | 6, h, ⟨g, e, r⟩ => exact ⟨g, (h 13 (by simp [krReads])).symm.trans e, r⟩
  | 7, h, ⟨g, e, r⟩ => exact ⟨g, (h 14 (by simp [krReads])).symm.trans e, r⟩
  | 8, h, ⟨g, e, r⟩ => exact ⟨g, (h 13 (by simp [krReads])).symm.trans e, r⟩
  | 9, h, ⟨g, e, r⟩ => exact ⟨g, (h 14 (by simp [krReads])).symm.trans e, r⟩
  | n + 10, h, hv => trivial
/-- What a step keeps. -/
structure KrR (o : OpM) (w w' : World) : Prop where
  shape : ∀ (g : Nat) (t : TypeId) (l : List (BitVec 8)), (t = 38 ∨ t = 40) → BytesAt w g t l → ∃ l' : List (BitVec 8), l'.length = l.length ∧ BytesAt w' g t l'
  key : ∀ g, BytesAt w g 38 (o.k :: noughts 31) → BytesAt w' g 38 (o.k :: noughts 31)
  nonce : ∀ g, BytesAt w g 40 (o.n :: noughts 11) → BytesAt w' g 40 (o.n :: noughts 11)
theorem KrR.of_below {o : OpM} {w w' : World} (h : Below w.heap.size w w') : KrR o w w' := ⟨fun _ _ l _ hb => ⟨l, rfl, hb.keep h⟩, fun _ hb => hb.keep h, fun _ hb => hb.keep h⟩
theorem krV_on (B T : Nat) (o : OpM) (i : Nat) (ρ : Nat → Value) (w w' : World) (h : KrR o w w') (hv : KrV B T o i ρ w) : KrV B T o i ρ w' := by
  match i, hv with
  | 0, hv => exact hv
  | 1, hv => exact hv
  | 2, hv => exact hv
  | 3, hv => exact hv
  | 4, hv => exact hv
  | 5, hv => exact hv
  | 6, ⟨g, e, hg, kk, hl, hb⟩ =>
    obtain ⟨l', h1, h2⟩ := h.shape g _ kk (Or.inl rfl) hb
    exact ⟨g, e, hg, l', h1.trans hl, h2⟩
  | 7, ⟨g, e, hg, kk, hl, hb⟩ =>
    obtain ⟨l', h1, h2⟩ := h.shape g _ kk (Or.inr rfl) hb
    exact ⟨g, e, hg, l', h1.trans hl, h2⟩
  | 8, ⟨g, e, hg, hb⟩ => exact ⟨g, e, hg, h.key g hb⟩
  | 9, ⟨g, e, hg, hb⟩ => exact ⟨g, e, hg, h.nonce g hb⟩
  | n + 10, hv => trivial
theorem krR_setKey {o : OpM} {w : World} {g : Nat} {kk : List (BitVec 8)} (hb : BytesAt w g 38 kk) (hl : kk.length = 32) : KrR o w (w.setRow g (bytesV (o.k :: noughts 31)).toArray) ∧ BytesAt (w.setRow g (bytesV (o.k :: noughts 31)).toArray) g 38 (o.k :: noughts 31) := by
  have h1 : BytesAt (w.setRow g (bytesV (o.k :: noughts 31)).toArray) g 38 (o.k :: noughts 31) := setRow_heap _ _ _ _ _ _ hb
  have h2 := grown_setRow w g (bytesV (o.k :: noughts 31)).toArray
  refine ⟨⟨fun g' t l ht hb' => ?_, fun g' hb' => ?_, fun g' hb' => ?_⟩, h1⟩
  · by_cases e : g' = g
    · subst e
      have e1 := Obj.cells.inj (Option.some.inj (hb'.symm.trans hb))
      have hln : l.length = kk.length := by simpa [bytesV] using congrArg Array.size e1.1
      have ht2 : t = 38 := e1.2.1
      subst ht2
      exact ⟨_, by rw [hln, hl]; simp [noughts], h1⟩
    · exact ⟨l, rfl, hb'.past h2 e⟩
  · by_cases e : g' = g
    · subst e; exact h1
    · exact hb'.past h2 e
  · by_cases e : g' = g
    · subst e
      have e1 := Obj.cells.inj (Option.some.inj (hb'.symm.trans hb))
      exact absurd e1.2.1 (by decide)
    · exact hb'.past h2 e
theorem krR_setNonce {o : OpM} {w : World} {g : Nat} {kk : List (BitVec 8)} (hb : BytesAt w g 40 kk) (hl : kk.length = 12) : KrR o w (w.setRow g (bytesV (o.n :: noughts 11)).toArray) ∧ BytesAt (w.setRow g (bytesV (o.n :: noughts 11)).toArray) g 40 (o.n :: noughts 11) := by
  have h1 : BytesAt (w.setRow g (bytesV (o.n :: noughts 11)).toArray) g 40 (o.n :: noughts 11) := setRow_heap _ _ _ _ _ _ hb
  have h2 := grown_setRow w g (bytesV (o.n :: noughts 11)).toArray
  refine ⟨⟨fun g' t l ht hb' => ?_, fun g' hb' => ?_, fun g' hb' => ?_⟩, h1⟩
  · by_cases e : g' = g
    · subst e
      have e1 := Obj.cells.inj (Option.some.inj (hb'.symm.trans hb))
      have hln : l.length = kk.length := by simpa [bytesV] using congrArg Array.size e1.1
      have ht2 : t = 40 := e1.2.1
      subst ht2
      exact ⟨_, by rw [hln, hl]; simp [noughts], h1⟩
    · exact ⟨l, rfl, hb'.past h2 e⟩
  · by_cases e : g' = g
    · subst e
      have e1 := Obj.cells.inj (Option.some.inj (hb'.symm.trans hb))
      exact absurd e1.2.1 (by decide)
    · exact hb'.past h2 e
  · by_cases e : g' = g
    · subst e; exact h1
    · exact hb'.past h2 e
end Go.Proofs.Ytacgkfngpeieaaa

/-
  A region that draws its order, carried out along a tree: where two of its operations that are not plain may come up, both ways are gone.
-/
namespace Go.Proofs.Ytacgkfngpeieaaa
open Go.RowKit Go.Proofs.ShaWords

inductive Tr
  | nil
  | pure (i : Nat) (t : Tr)
  | one (i : Nat) (t : Tr)
  | two (i j : Nat) (s t : Tr)
def Tr.ok (ops : Array Oper) : Tr → Nat → Array Bool → Bool
  | .nil, 0, L => (Region.ready .any ops L).isEmpty
  | .pure i t, n + 1, L => Region.free .any ops L i && (Region.ready .any ops L).contains i && t.ok ops n (L.setIfInBounds i true)
  | .one i t, n + 1, L => decide (Region.ready .any ops L = [i]) && t.ok ops n (L.setIfInBounds i true)
  | .two i j s t, n + 1, L => decide (Region.ready .any ops L = [i, j]) && s.ok ops n (L.setIfInBounds i true) && t.ok ops n (L.setIfInBounds j true)
  | _, _, _ => false
def Tr.wp (P : Program) (ops : Array Oper) (Q : Exit → Act → World → Prop) (S : World → Prop) : Tr → Act → World → Prop
  | .nil, a, w => Q .normal a w
  | .pure i t, a, w => ∃ o v, ops[i]? = some o ∧ YieldsIf P ops S o v a ∧ t.wp P ops Q S (a.put o.dst v) w
  | .one i t, a, w => wpOp P ops Q i (fun a' w' => S w' ∧ t.wp P ops Q S a' w') a w
  | .two i j s t, a, w => wpOp P ops Q i (fun a' w' => S w' ∧ s.wp P ops Q S a' w') a w ∧ wpOp P ops Q j (fun a' w' => S w' ∧ t.wp P ops Q S a' w') a w
theorem wpAnyH_tree {P : Program} {ops : Array Oper} {Q : Exit → Act → World → Prop} {S : World → Prop} (hs : Region.noSelect ops = true) (hQ : ∀ c a w, ¬ Q (.panic c) a w) :
    ∀ (r : Tr) (n : Nat) (L : Array Bool) (a : Act) (w : World), r.ok ops n L = true → S w → r.wp P ops Q S a w → wpAnyH P .any ops Q S n L a w
  | .nil, 0, L, a, w, hc, _, h => by
    simp only [Tr.ok, List.isEmpty_iff] at hc
    exact wpAnyH_done hc h 0
  | .pure i t, n + 1, L, a, w, hc, hS, h => by
    simp only [Tr.ok, Bool.and_eq_true] at hc
    obtain ⟨o, v, ho, hy, h⟩ := h
    exact wpAnyH_take ho hs hc.1.1 hc.1.2 (fun c a w h => absurd h (hQ c _ w)) hy hS (wpAnyH_tree hs hQ t n _ _ w hc.2 hS h)
  | .one i t, n + 1, L, a, w, hc, hS, h => by
    simp only [Tr.ok, Bool.and_eq_true, decide_eq_true_eq] at hc
    refine wpAnyH_all hc.1 (by simp) (fun j hj => ?_)
    rw [List.mem_singleton.1 hj]
    exact wpOp_mono (fun a' w' h' => ⟨h'.1, wpAnyH_tree hs hQ t n _ a' w' hc.2 h'.1 h'.2⟩) h
  | .two i j s t, n + 1, L, a, w, hc, hS, h => by
    simp only [Tr.ok, Bool.and_eq_true, decide_eq_true_eq] at hc
    refine wpAnyH_all hc.1.1 (by simp) (fun k hk => ?_)
    rcases List.mem_cons.1 hk with rfl | hk
    · exact wpOp_mono (fun a' w' h' => ⟨h'.1, wpAnyH_tree hs hQ s n _ a' w' hc.1.2 h'.1 h'.2⟩) h.1
    · rw [List.mem_singleton.1 hk]
      exact wpOp_mono (fun a' w' h' => ⟨h'.1, wpAnyH_tree hs hQ t n _ a' w' hc.2 h'.1 h'.2⟩) h.2
theorem region_tree {P : Program} {id : Nat} {ops : Array Oper} {Q : Exit → Act → World → Prop} {a : Act} {w : World} (S : World → Prop) (hS : S w.drew) (r : Tr) (hm : P.follows .mixedOrders = true) (hs : Region.noSelect ops = true)
    (hc : r.ok ops ops.size (Array.replicate ops.size false) = true)
    (h : ∀ ops', ops' = ops → ∀ A, A = a → r.wp P ops' (NoPanic Q) S A w.drew) : (Code.region id ops true).wp P Q a w := by
  refine wp_region_noPanic (wp_region_held (S := S) hm ?_)
  exact wpAnyH_tree hs (fun c a w h => h) r ops.size _ a w.drew hc hS (h ops rfl a rfl)
section
variable {P : Program} {ops : Array Oper} {Q : Exit → Act → World → Prop} {S : World → Prop} {i : Nat} {o : Oper} {d : Option Tmp} {v : Value} {a : Act} {w w' : World} {K : Act → World → Prop} {t : Tr}
theorem Tr.takes (ho : ops[i]? = some o) (hd : o.dst = d) (hw : Region.wanted o (yielded ops a.tmps) = true) (hr : ∀ w, S w → (execOp a.eval o).run P w = .ok (.value v) w) (h : t.wp P ops Q S (a.put d v) w) : (Tr.pure i t).wp P ops Q S a w :=
  ⟨o, v, ho, .inl ⟨hw, hr⟩, by rw [hd]; exact h⟩
theorem at_op (ho : ops[i]? = some o) (hd : o.dst = d) (hw : Region.wanted o (yielded ops a.tmps) = true) (hr : (execOp a.eval o).run P w = .ok (.value v) w') (h : K (a.put d v) w') : wpOp P ops Q i K a w := by
  unfold wpOp
  rw [ho]
  show if Region.wanted o (yielded ops a.tmps) = true then _ else _
  rw [if_pos hw]
  refine .inl ?_
  unfold Oper.wp
  rw [hr, Oper.upon_value, hd]
  exact h
theorem at_call {f : FuncId} {args : Array Value} {R : World → Prop} (ho : ops[i]? = some o) (hd : o.dst = d) (hw : Region.wanted o (yielded ops a.tmps) = true) (hr : (execOp a.eval o).run P w = .ok (.enter f args) w)
    (hc : Calls P f args w fun e w' => e = .returned v ∧ R w') (h : ∀ w', R w' → K (a.put d v) w') : wpOp P ops Q i K a w := by
  unfold wpOp
  rw [ho]
  show if Region.wanted o (yielded ops a.tmps) = true then _ else _
  rw [if_pos hw]
  exact .inl (wp_enter hr hc (fun w' hR => by rw [hd]; exact h w' hR))
theorem at_wp (ho : ops[i]? = some o) (hw : Region.wanted o (yielded ops a.tmps) = true) (h : o.wp P a w K Q) : wpOp P ops Q i K a w := by
  unfold wpOp
  rw [ho]
  show if Region.wanted o (yielded ops a.tmps) = true then _ else _
  rw [if_pos hw]
  exact .inl h
end
end Go.Proofs.Ytacgkfngpeieaaa

/-
  Operations about an append of bytes in a region that draws its order: a slice built of one byte, of four; the append itself; words read, shifted, cut to bytes.
-/
namespace Go.Proofs.Ytacgkfngpeieaaa
open Go.RowKit Go.Proofs.ShaWords
attribute [local go_sem] and32 or32 xor32 add32 shl32 shr32 wrap32_n8 wrap8_n32

theorem met_wp {P : Program} {ops : Array Oper} {Q : Exit → Act → World → Prop} {S E : World → Prop} {r : List (Nat × Met)} {i : Nat} {o : Oper} {a : Act} {w : World} (ho : ops[i]? = some o) (hw : Region.wanted o (yielded ops a.tmps) = true)
    (h : o.wp P a w (fun a' w' => S w' ∧ wpE P ops Q S E r a' w') Q) : wpE P ops Q S E ((i, .behind) :: r) a w := by
  show wpOp P ops Q i _ a w
  unfold wpOp
  rw [ho]
  show if Region.wanted o (yielded ops a.tmps) = true then _ else _
  rw [if_pos hw]
  exact .inl h
theorem wp_append_bytes {o : Oper} {a : Act} {w : World} {K : Act → World → Prop} {Q : Exit → Act → World → Prop} (s x : Operand)
    (ho : o.op = .call { callee := .builtin .append, args := #[s, x], argTypes := #[22, 22] }) (B : Nat) (v : Value) (l m : List (BitVec 8)) (b off c : Nat) (hs : a.eval s = v) (hown : Own B w l v) (hx : a.eval x = .slice (some ⟨b, off, none⟩) m.length c)
    (hm : w.rangeAt b off (bytesV m)) (hne : 0 < m.length) (hl : l.length + m.length < 1099511627776) (hB : B ≤ w.heap.size)
    (h : ∀ v' w', Own B w' (l ++ m) v' → Below B w w' → K (a.put o.dst v') w') : o.wp Try.prog a w K Q := by
  obtain ⟨i, hi, hz, hsz, hby⟩ := info5'
  refine wp_append_lies w s x 22 ho B 5 i (.int .u8 0) 1 1 Try.underlying22 hi hz hsz hby rfl (by decide) v l.length (bytesV l) hs hown ⟨b, off, none⟩ m.length c (bytesV m) hx (by rw [bytesV_length, Nat.mul_one]) ?_ ?_ hne (by unfold maxLen; omega) (by omega) hB w.heap.size rfl ?_
  · intro j u hu
    rw [Addr.add_mid]
    exact hm j u hu
  · intro u hu
    exact bytesV_mem hu
  · intro g cap w' ho' hg hgo _
    refine h _ w' ?_ ?_
    · unfold Own
      rw [List.length_append, bytesV_append]; exact ho'
    · exact (Below.refl B w).grown hg hB (fun k hk => (hown.lt k hk).1)
section
variable {ρ : Operand → Value} {o : Oper} {x y : Operand} {w : World}
theorem run_ld32 {a : Addr} {v : Int} (ho : o.op = .load 78 x) (hx : ρ x = .pointer (some a)) (hc : w.cell? a = some (.int .u32 v)) : (execOp ρ o).run Try.prog w = .ok (.value (.int .u32 v)) w := by
  obtain ⟨dst, op, ty', pos, after, guard⟩ := o
  simp only at ho
  subst ho
  go_simp
theorem run_shr32 {a : BitVec 32} {k : Nat} {ty : TypeId} (ho : o.op = .binOp .shr 78 x y ty) (hx : ρ x = .int .u32 (n32 a)) (hy : ρ y = .int .u64 (k : Int)) (hk : k < 32) (w : World) : (execOp ρ o).run Try.prog w = .ok (.value (.int .u32 (n32 (a >>> k)))) w := by
  obtain ⟨dst, op, ty', pos, after, guard⟩ := o
  simp only at ho
  subst ho
  have h := shr32 a k
  have q : ¬ (32 : Int) ≤ (k : Int) := by omega
  go_simp
theorem run_cut8 {a : BitVec 32} (ho : o.op = .convert 78 5 x) (hx : ρ x = .int .u32 (n32 a)) (w : World) : (execOp ρ o).run Try.prog w = .ok (.value (.int .u8 (n8 (lo8 a)))) w := by
  obtain ⟨dst, op, ty', pos, after, guard⟩ := o
  simp only at ho
  subst ho
  have h := wrap8_n32 a
  go_simp
theorem run_build1 {i : Int} (ho : o.op = .buildSlice 22 1 #[(0, x)]) (hx : ρ x = .int .u8 i) (w : World) :
    (execOp ρ o).run Try.prog w = .ok (.value (.slice (some ⟨w.heap.size, 0, none⟩) 1 1)) (w.alloc (.cells #[.int .u8 i] 5)) := by
  obtain ⟨dst, op, ty', pos, after, guard⟩ := o
  simp only at ho
  subst ho
  go_simp
theorem run_build4 {x0 x1 x2 x3 : Operand} {i0 i1 i2 i3 : Int} (ho : o.op = .buildSlice 22 4 #[(0, x0), (1, x1), (2, x2), (3, x3)]) (h0 : ρ x0 = .int .u8 i0) (h1 : ρ x1 = .int .u8 i1) (h2 : ρ x2 = .int .u8 i2) (h3 : ρ x3 = .int .u8 i3) (w : World) :
    (execOp ρ o).run Try.prog w = .ok (.value (.slice (some ⟨w.heap.size, 0, none⟩) 4 4)) (w.alloc (.cells #[.int .u8 i0, .int .u8 i1, .int .u8 i2, .int .u8 i3] 5)) := by
  obtain ⟨dst, op, ty', pos, after, guard⟩ := o
  simp only at ho
  subst ho
  go_simp
end
end Go.Proofs.Ytacgkfngpeieaaa

/-
  The walk of the law BoxBack: what was sealed opens as it was, and under nothing else.
-/
namespace Go.Proofs.Ytacgkfngpeieaaa
open Go.RowKit Go.Proofs.ShaWords
theorem wanted_guardF {ops : Array Oper} {a : Act} {o : Oper} {j : Nat} {dj : Tmp} {oj : Oper} (hg : o.guard = some (j, false)) (hj : ops[j]? = some oj) (hd : oj.dst = some dj) (he : a.eval (.tmp dj) = .bool false) : Region.wanted o (yielded ops a.tmps) = true := by
  have h2 : a.tmps[dj]? = some (.bool false) := by
    have h3 : a.tmps.getD dj undef = .bool false := he
    rw [Array.getD_eq_getD_getElem?] at h3
    cases h4 : a.tmps[dj]? with
    | none => rw [h4] at h3; exact absurd h3 (by simp [undef])
    | some u => rw [h4] at h3; simp at h3; rw [h3]
  unfold Region.wanted
  rw [hg]
  simp only [yielded, hj, Option.bind_some, hd, h2]
  rfl
theorem run_extract {ρ : Operand → Value} {o : Oper} {x : Operand} {vs : Array Value} {k : Nat} {v : Value} {P : Program} (ho : o.op = .extract x k) (hx : ρ x = .tuple vs) (hv : vs[k]? = some v) (w : World) : (execOp ρ o).run P w = .ok (.value v) w := by
  obtain ⟨dst, op, ty', pos, after, guard⟩ := o
  simp only at ho
  subst ho
  go_simp
/-- What a round has at hand: the thing in a block, what it was sealed as. -/
structure BkW (w6 : World) (T g1 k : Nat) (t : ThingM) (s : List (BitVec 8)) (qs : Option Addr) (cs : Nat) (wr : World) : Prop where
  th : ThAt wr T t
  cell : wr.cell? ⟨g1, k, none⟩ = some (.slice qs s.length cs)
  ok : t.Ok wr
  lies : Lies wr qs s
  below : Below w6.heap.size w6 wr
theorem BkW.on {w6 wr w' : World} {T g1 k : Nat} {t : ThingM} {s : List (BitVec 8)} {qs : Option Addr} {cs : Nat} (h : BkW w6 T g1 k t s qs cs wr) (hb : Below wr.heap.size wr w') : BkW w6 T g1 k t s qs cs w' :=
  ⟨h.th.on hb, (hb.cell (p := ⟨g1, k, none⟩) (World.block_lt_of_cell? wr _ h.cell)).trans h.cell, h.ok.below hb, h.lies.below hb, h.below.trans (hb.mono h.below.size)⟩
/-- And the key and the nonce, turned. -/
structure BkW2 (w6 : World) (T g1 k : Nat) (t : ThingM) (s : List (BitVec 8)) (qs : Option Addr) (cs gk gn : Nat) (K N : List (BitVec 8)) (wr : World) : Prop where
  bk : BkW w6 T g1 k t s qs cs wr
  key : BytesAt wr gk 38 K
  nonce : BytesAt wr gn 40 N
theorem BkW2.on {w6 wr w' : World} {T g1 k : Nat} {t : ThingM} {s : List (BitVec 8)} {qs : Option Addr} {cs gk gn : Nat} {K N : List (BitVec 8)} (h : BkW2 w6 T g1 k t s qs cs gk gn K N wr) (hb : Below wr.heap.size wr w') : BkW2 w6 T g1 k t s qs cs gk gn K N w' :=
  ⟨h.bk.on hb, h.key.keep hb, h.nonce.keep hb⟩
theorem set_ne {l : List (BitVec 8)} {i : Nat} (hi : i < l.length) {x : BitVec 8} (hx : x ≠ 0#8) : ¬ l = l.set i (l.getD i 0#8 ^^^ x) := fun e => by
  have h1 : l[i] = (l.set i (l.getD i 0#8 ^^^ x))[i]'(by rw [List.length_set]; exact hi) := by
    have := congrArg (·[i]?) e
    simp only [List.getElem?_eq_getElem hi, List.getElem?_eq_getElem (show i < (l.set i (l.getD i 0#8 ^^^ x)).length by rw [List.length_set]; exact hi)] at this
    exact Option.some.inj this
  rw [List.getElem_set_self, List.getD_eq_getElem?_getD, List.getElem?_eq_getElem hi] at h1
  simp only [Option.getD_some] at h1
  apply hx
  have h2 : l[i] ^^^ l[i] = l[i] ^^^ (l[i] ^^^ x) := congrArg (l[i] ^^^ ·) h1
  rw [← BitVec.xor_assoc, BitVec.xor_self, BitVec.zero_xor] at h2
  exact h2.symm
theorem at_enter {P : Program} {ops : Array Oper} {Q : Exit → Act → World → Prop} {i : Nat} {o : Oper} {d : Option Tmp} {a : Act} {w : World} {K : Act → World → Prop} {f : FuncId} {args : Array Value} {R : Ending → World → Prop} (ho : ops[i]? = some o) (hd : o.dst = d) (hw : Region.wanted o (yielded ops a.tmps) = true) (hr : (execOp a.eval o).run P w = .ok (.enter f args) w)
    (hc : Calls P f args w R) (h : ∀ e w', R e w' → ∃ v, e = .returned v ∧ K (a.put d v) w') : wpOp P ops Q i K a w := by
  unfold wpOp
  rw [ho]
  show if Region.wanted o (yielded ops a.tmps) = true then _ else _
  rw [if_pos hw]
  refine .inl ?_
  unfold Oper.wp
  rw [hr, Oper.upon_enter]
  refine hc.mono ?_
  rintro e w' hR
  obtain ⟨v, rfl, h⟩ := h e w' hR
  rw [hd]
  exact h
theorem run_add16 {ρ : Operand → Value} {o : Oper} {y : Operand} {n : Nat} (ho : o.op = .binOp .add 3 (.const (.int .i64 16)) y 3) (h0 : ρ (.const (.int .i64 16)) = .int .i64 16) (hy : ρ y = .int .i64 (n : Int)) (hn : n < 1000000) (w : World) : (execOp ρ o).run Try.prog w = .ok (.value (.int .i64 ((16 + n : Nat) : Int))) w := by
  obtain ⟨dst, op, ty', pos, after, guard⟩ := o
  simp only at ho
  subst ho
  obtain ⟨t, ht⟩ : ∃ t, t = 16 + n := ⟨_, rfl⟩
  have q3 : IntKind.i64.wrap (16 + (n : Int)) = (t : Int) := by rw [IntWalk.i64_in _ (by omega)]; omega
  rw [← ht]
  go_simp
theorem run_neqSame {ρ : Operand → Value} {o : Oper} {x y : Operand} {n m : Nat} {ty : TypeId} (ho : o.op = .binOp .neq 3 x y ty) (hx : ρ x = .int .i64 (n : Int)) (hy : ρ y = .int .i64 (m : Int)) (hn : n = m) (w : World) : (execOp ρ o).run Try.prog w = .ok (.value (.bool false)) w := by
  obtain ⟨dst, op, ty', pos, after, guard⟩ := o
  simp only at ho
  subst ho hn
  go_simp
theorem run_ixNest' {ρ : Operand → Value} {o : Oper} {x y : Operand} {b n c k : Nat} (ho : o.op = .indexAddr 33 x y) (hx : ρ x = .slice (some ⟨b, 0, none⟩) n c) (hy : ρ y = .int .i64 (k : Int)) (hk : k < n) (w : World) :
    (execOp ρ o).run Try.prog w = .ok (.value (.pointer (some ⟨b, k, none⟩))) w := run_ixNest ho hx hy hk w
attribute [local irreducible] boxOf allOf allD allA lens openA openB
set_option maxRecDepth 100000 in
set_option maxHeartbeats 16000000 in
theorem boxBack_any (l : List (BitVec 8)) (ts : List ThingM) (ot : List (BitVec 8)) (n no nt cl co ct : Nat) (pl po pt : Option Addr) (w : World) (hl : l.length = n) (hln : n ≤ 140737488351232) (hp : Lies w pl l) (hos : ts.length = no) (hop : ThingsAt w po ts) (hok : ∀ t ∈ ts, t.Ok w)
    (ht : ot.length = nt) (htc : nt ≤ ct) (_ : nt ≤ 140737488351232) (hpt : Lies w pt ot) :
    Calls Try.prog 4 #[.slice pl n cl, .slice po no co, .slice pt nt ct] w fun e w' => e = .returned (.bool true) ∧ Below w.heap.size w w' := by
  have HL := Lib.hid hl
  have HP := Lib.hid hp; clear hp
  have HOS := Lib.hid hos
  have HOP := Lib.hid hop; clear hop
  have HOK := Lib.hid hok; clear hok
  have HT := Lib.hid ht
  have HPT := Lib.hid hpt; clear hpt
  clear hl hos ht
  go_enter Try.func4, Try.ntmps4
  go_wp2_with fail
  refine (codeNew_any l n pl cl w HL.out (by omega) HP.out).mono ?_
  rintro e w1 ⟨x, Sx, rfl, hcx, hSx, hb1⟩
  obtain ⟨bx, rfl⟩ := hcx.pointer
  have HCX := Lib.hid hcx; clear hcx
  have HSX := Lib.hid hSx; clear hSx
  have HB1 := Lib.hid hb1; clear hb1
  go_wp2_with fail
  refine (great_any ts no po co w1 HOS.out (HOP.out.below HB1.out) (fun t ht => (HOK.out t ht).below HB1.out)).mono ?_
  rintro e w3 ⟨⟨g, rfl, hg⟩, rfl⟩
  cases g with
  | true =>
    go_wp2_with fail
    refine (known6_any w1).mono ?_
    rintro e w3 ⟨rfl, hb3⟩
    go_wp2_with fail
    go_ret
    exact ⟨rfl, HB1.out.trans (hb3.mono HB1.out.size)⟩
  | false =>
    have HSL := Lib.hid (hg rfl); clear hg
    have h40 : no ≤ 40 := by have h1 := HSL.out.1; have h2 := HOS.out; omega
    have HLL : Hid (l.length < 140737488355328) := show _ < _ by rw [HL.out]; omega
    go_wp2_with fail
    refine (all_any Sx _ 0 l [] ts no po co w1 HOS.out HSL.out.modest HLL.out (by simp) (fun w' hs => ?_) HCX.out).mono ?_
    · have hb := HB1.out.trans (hs.below (fun j f => HSX.out j f) HB1.out.size)
      exact ⟨HOP.out.below hb, fun t ht => (HOK.out t ht).below hb⟩
    rintro e w6 ⟨u1, vs1, S1, D1, rfl, hc6, -, hn1, -, hs1⟩
    have hb6 : Below w.heap.size w w6 := HB1.out.trans (hs1.below (fun j f => HSX.out j f) HB1.out.size)
    obtain ⟨p1, c1, hu1, hat1⟩ := hn1.at
    subst hu1
    have e0 : ([] : List RowA).length = 0 := rfl
    rw [e0, List.nil_append] at hc6
    rw [e0] at hat1
    have HX6 := Lib.hid hc6; clear hc6
    have HAT6 := Lib.hid hat1; clear hat1
    have HB6 := Lib.hid hb6; clear hb6
    have hLn : (allOf l 0 ([] : List RowA).length (lens ts)).length = no := by rw [allOf_length, lens_length, HOS.out]
    rw [hLn]
    have HTN : Hid (ts.length < 1000000) := show _ < _ by rw [HOS.out]; omega
    have HSM : Hid (∀ r ∈ allA l 0 0 ts, r.Small) := show ∀ r ∈ _, _ from allA_small HSL.out
    have HAL : Hid ((allA l 0 0 ts).length = no) := show _ = _ by rw [allA_length, HOS.out]
    clear hn1 hs1 e0 hLn HCX HSX HP HL
    go_wp2_with fail
    go_loopw [9, 10] (fun sv i wr => ∃ (k : Nat) (st : Bool), k ≤ no ∧ sv = .bool st ∧ i = .int .i64 (k : Int) ∧ (st = true → ∀ (j : Nat) (s : List (BitVec 8)), j < k → (allOf l 0 0 (lens ts))[j]? = some s → s ≠ ot) ∧ Below w6.heap.size w6 wr) (fun _ i _ => no - (intOf i).toNat)
    case atStart => exact ⟨0, true, by omega, rfl, rfl, fun _ j s h => absurd h (Nat.not_lt_zero j), Below.refl _ _⟩
    case round =>
      obtain ⟨k, st, hk, rfl, rfl, hst, hb⟩ := hrel
      have HST := Lib.hid hst; clear hst
      have HB := Lib.hid hb; clear hb
      have HBW : Hid (Below w.heap.size w wr) := show Below _ _ _ from HB6.out.trans (HB.out.mono HB6.out.size)
      by_cases hlt : k < no
      · have q1 : (k : Int) < (no : Int) := by omega
        have hkt : k < ts.length := by have := HOS.out; omega
        obtain ⟨s, hs, -, hsl, -⟩ := all_at l ts 0 0 k (by have := HTN.out; omega) hkt
        have hyes := open_yes HTN.out hkt hs
        have hno : ∀ K N H, ¬ (ts[k].key = K ∧ ts[k].nonce = N ∧ ts[k].head = H) → (openA (allA l 0 0 ts) K N H s).isSome = false := fun K N H h => open_no HTN.out hkt hs h
        have HAP : Hid (∀ (j : Nat) (s' : List (BitVec 8)), j < k → (allOf l 0 0 (lens ts))[j]? = some s' → s ≠ s') := show ∀ j s', _ from fun j s' hj h' => all_apart HTN.out hkt (by omega) (by omega) hs h'
        rcases HAT6.out.below HB.out with h0 | ⟨g1, rfl, hnest⟩
        · exfalso; rw [h0] at hs; simp at hs
        obtain ⟨qs, cs, hcs, hlc, hls⟩ := hnest k s hs
        have HLC := Lib.hid hlc; clear hlc
        rcases HOP.out with h0 | ⟨b, off, rfl, hr⟩
        · exfalso; rw [h0] at hkt; simp at hkt
        obtain ⟨t, ht⟩ : ∃ t, t = ts[k] := ⟨_, rfl⟩
        have htm : t ∈ ts := by rw [ht]; exact List.getElem_mem _
        have hrange := range_below (hr k hkt) HBW.out
        rw [← ht] at hrange hyes hno hsl
        have HYES := Lib.hid hyes; clear hyes
        have HNO := Lib.hid hno; clear hno
        have HSL2 := Lib.hid hsl; clear hsl
        have HS := Lib.hid hs; clear hs
        have HTO := Lib.hid ((HOK.out t htm).below HBW.out)
        have HTS := Lib.hid (HSL.out.2 t htm)
        have HRG := Lib.hid hrange; clear hrange hr htm ht hkt
        have HCS := Lib.hid hcs; clear hcs
        have HLS := Lib.hid hls; clear hls hnest
        have HCE : Hid (t.cells.length = 46) := show _ = _ from ThingM.cells_length HTO.out.key HTO.out.nonce
        have hsz46 : (Try.prog.info? 50).map (·.size) = some 46 := by kernel_rfl
        have HI : Hid ((Try.prog.info? 50).map (·.size) = some t.cells.length) := show _ = _ from hsz46.trans (congrArg some HCE.out.symm)
        have HCA : Hid (t.cells.toArray.size = 46) := show _ = _ by rw [List.size_toArray]; exact HCE.out
        have HI2 : Hid ((Try.prog.info? 50).map (·.size) = some t.cells.toArray.size) := show _ = _ from hsz46.trans (congrArg some HCA.out.symm)
        have HON : Hid (t.cells.toArray.all (·.oneCell') = true) := show _ = _ from ThingM.onesB t
        clear hsz46
        go_upto_region 10 with (first
          | (refine wpList_load_mid rfl 50 (.tmp 46) rfl b (off + k * 46) rfl t.cells _ HRG.out Try.underlying50 rfl HI.out ?_)
          | (refine wpList_store_new rfl 50 (.tmp 11) (.tmp 47) rfl wr.heap.size rfl t.cells.toArray rfl rfl HI2.out (by rw [HCA.out]; rfl) HON.out ?_; intro w4 h4 b4; have HT4 := Lib.hid h4; have HB4 := Lib.hid b4; clear h4 b4))
        rename World => w4
        have HW4 : Hid (BkW w6 wr.heap.size g1 k t s qs cs w4) := show BkW _ _ _ _ _ _ _ _ _ from
          ⟨HT4.out, (HB4.out.cell (p := ⟨g1, k, none⟩) (World.block_lt_of_cell? wr _ HCS.out)).trans HCS.out, HTO.out.below HB4.out, HLS.out.below HB4.out, HB.out.trans (HB4.out.mono HB.out.size)⟩
        clear HI HI2 HCA HON HCE HRG HT4 HB4 HCS HLS HTO
        generalize wr.heap.size = T at HW4 ⊢
        have HD4 := Lib.hid (HW4.out.on ((Below.refl _ _).drew))
        go_frame
        go_cut [12, 13] from 38 to 172 (fun s12 s13 wx => s13 = .bool true ∧ (∃ qp cpp, s12 = .slice qp t.plain.length cpp ∧ Lies wx qp t.plain) ∧ BkW w6 T g1 k t s qs cs wx)
        case first =>
          refine region_phase (BkW w6 T g1 k t s qs cs) (fun _ => True) 11 (HD4.out) trivial [(0, .free), (1, .free), (2, .free), (3, .free), (4, .free), (5, .free), (6, .free), (7, .free), (8, .free), (9, .free), (10, .free), (11, .behind), (12, .free), (13, .free), (14, .free), (15, .free), (16, .free)] (by kernel_rfl) (by kernel_rfl) (by kernel_rfl) (by kernel_rfl) (fun ops hops A2 hA => ?_)
          have hsz : A2.tmps.size = 212 := by rw [hA]; rfl
          have base7 : A2.eval (.tmp 7) = .pointer (some ⟨bx, 0, none⟩) := by rw [hA]; rfl
          have base8 : A2.eval (.tmp 8) = .slice (some ⟨g1, 0, none⟩) no c1 := by rw [hA]; rfl
          have base10 : A2.eval (.tmp 10) = .int .i64 (k : Int) := by rw [hA]; rfl
          have base11 : A2.eval (.tmp 11) = .pointer (some ⟨T, 0, none⟩) := by rw [hA]; rfl
          have HAA := Lib.hid hA; clear hA
          obtain ⟨o0, po0, q0, d0, gd0⟩ : ∃ o, ops[0]? = some o ∧ o.op = .move (.tmp 7) ∧ o.dst = some 49 ∧ o.guard = none := ⟨_, by rw [hops]; rfl, rfl, rfl, rfl⟩
          obtain ⟨o1, po1, q1, d1, gd1⟩ : ∃ o, ops[1]? = some o ∧ o.op = .fieldAddr 50 (.tmp 11) 0 ∧ o.dst = some 50 ∧ o.guard = none := ⟨_, by rw [hops]; rfl, rfl, rfl, rfl⟩
          obtain ⟨o2, po2, q2, d2, gd2⟩ : ∃ o, ops[2]? = some o ∧ o.op = .load 38 (.tmp 50) ∧ o.dst = some 51 ∧ o.guard = none := ⟨_, by rw [hops]; rfl, rfl, rfl, rfl⟩
          obtain ⟨o3, po3, q3, d3, gd3⟩ : ∃ o, ops[3]? = some o ∧ o.op = .fieldAddr 50 (.tmp 11) 1 ∧ o.dst = some 52 ∧ o.guard = none := ⟨_, by rw [hops]; rfl, rfl, rfl, rfl⟩
          obtain ⟨o4, po4, q4, d4, gd4⟩ : ∃ o, ops[4]? = some o ∧ o.op = .load 40 (.tmp 52) ∧ o.dst = some 53 ∧ o.guard = none := ⟨_, by rw [hops]; rfl, rfl, rfl, rfl⟩
          obtain ⟨o5, po5, q5, d5, gd5⟩ : ∃ o, ops[5]? = some o ∧ o.op = .fieldAddr 50 (.tmp 11) 2 ∧ o.dst = some 54 ∧ o.guard = none := ⟨_, by rw [hops]; rfl, rfl, rfl, rfl⟩
          obtain ⟨o6, po6, q6, d6, gd6⟩ : ∃ o, ops[6]? = some o ∧ o.op = .load 22 (.tmp 54) ∧ o.dst = some 55 ∧ o.guard = none := ⟨_, by rw [hops]; rfl, rfl, rfl, rfl⟩
          obtain ⟨o7, po7, q7, d7, gd7⟩ : ∃ o, ops[7]? = some o ∧ o.op = .move (.tmp 8) ∧ o.dst = some 56 ∧ o.guard = none := ⟨_, by rw [hops]; rfl, rfl, rfl, rfl⟩
          obtain ⟨o8, po8, q8, d8, gd8⟩ : ∃ o, ops[8]? = some o ∧ o.op = .move (.tmp 10) ∧ o.dst = some 57 ∧ o.guard = none := ⟨_, by rw [hops]; rfl, rfl, rfl, rfl⟩
          obtain ⟨o9, po9, q9, d9, gd9⟩ : ∃ o, ops[9]? = some o ∧ o.op = .indexAddr 33 (.tmp 56) (.tmp 57) ∧ o.dst = some 58 ∧ o.guard = none := ⟨_, by rw [hops]; rfl, rfl, rfl, rfl⟩
          obtain ⟨o10, po10, q10, d10, gd10⟩ : ∃ o, ops[10]? = some o ∧ o.op = .load 22 (.tmp 58) ∧ o.dst = some 59 ∧ o.guard = none := ⟨_, by rw [hops]; rfl, rfl, rfl, rfl⟩
          obtain ⟨o11, po11, q11, d11, gd11⟩ : ∃ o, ops[11]? = some o ∧ o.op = .call { callee := .value (.func 17), args := #[.tmp 49, .tmp 51, .tmp 53, .tmp 55, .tmp 59], argTypes := #[25, 38, 40, 22, 22] } ∧ o.dst = some 60 ∧ o.guard = none := ⟨_, by rw [hops]; rfl, rfl, rfl, rfl⟩
          obtain ⟨o12, po12, q12, d12, gd12⟩ : ∃ o, ops[12]? = some o ∧ o.op = .move (.tmp 60) ∧ o.dst = some 48 ∧ o.guard = none := ⟨_, by rw [hops]; rfl, rfl, rfl, rfl⟩
          obtain ⟨o13, po13, q13, d13, gd13⟩ : ∃ o, ops[13]? = some o ∧ o.op = .extract (.tmp 48) 0 ∧ o.dst = some 61 ∧ o.guard = none := ⟨_, by rw [hops]; rfl, rfl, rfl, rfl⟩
          obtain ⟨o14, po14, q14, d14, gd14⟩ : ∃ o, ops[14]? = some o ∧ o.op = .extract (.tmp 48) 1 ∧ o.dst = some 62 ∧ o.guard = none := ⟨_, by rw [hops]; rfl, rfl, rfl, rfl⟩
          obtain ⟨o15, po15, q15, d15, gd15⟩ : ∃ o, ops[15]? = some o ∧ o.op = .assign (.tmp 61) ∧ o.dst = some 12 ∧ o.guard = none := ⟨_, by rw [hops]; rfl, rfl, rfl, rfl⟩
          obtain ⟨o16, po16, q16, d16, gd16⟩ : ∃ o, ops[16]? = some o ∧ o.op = .assign (.tmp 62) ∧ o.dst = some 13 ∧ o.guard = none := ⟨_, by rw [hops]; rfl, rfl, rfl, rfl⟩
          clear hops
          refine met_free po0 d0 (wanted_of gd0) (fun w' h' => run_move q0 base7 w') ?_
          refine met_free po1 d1 (wanted_of gd1) (fun w' h' => run_fieldThing0 q1 ((eval_other _ 49 11 _ (by decide)).trans base11) w') ?_
          refine met_free po2 d2 (wanted_of gd2) (fun w' h' => run_loadKeyT q2 (eval_same _ _ _ (by simp only [put_size, hsz]; decide)) h'.ok.key (h'.th.parts h'.ok.key h'.ok.nonce).1) ?_
          refine met_free po3 d3 (wanted_of gd3) (fun w' h' => run_fieldThing1 q3 ((eval_other _ 51 11 _ (by decide)).trans ((eval_other _ 50 11 _ (by decide)).trans ((eval_other _ 49 11 _ (by decide)).trans base11))) w') ?_
          refine met_free po4 d4 (wanted_of gd4) (fun w' h' => run_loadNonceT q4 (eval_same _ _ _ (by simp only [put_size, hsz]; decide)) h'.ok.nonce (h'.th.parts h'.ok.key h'.ok.nonce).2.1) ?_
          refine met_free po5 d5 (wanted_of gd5) (fun w' h' => run_fieldThing2 q5 ((eval_other _ 53 11 _ (by decide)).trans ((eval_other _ 52 11 _ (by decide)).trans ((eval_other _ 51 11 _ (by decide)).trans ((eval_other _ 50 11 _ (by decide)).trans ((eval_other _ 49 11 _ (by decide)).trans base11))))) w') ?_
          refine met_free po6 d6 (wanted_of gd6) (fun w' h' => run_loadSlT q6 (eval_same _ _ _ (by simp only [put_size, hsz]; decide)) (h'.th.parts h'.ok.key h'.ok.nonce).2.2.1) ?_
          refine met_free po7 d7 (wanted_of gd7) (fun w' h' => run_move q7 ((eval_other _ 55 8 _ (by decide)).trans ((eval_other _ 54 8 _ (by decide)).trans ((eval_other _ 53 8 _ (by decide)).trans ((eval_other _ 52 8 _ (by decide)).trans ((eval_other _ 51 8 _ (by decide)).trans ((eval_other _ 50 8 _ (by decide)).trans ((eval_other _ 49 8 _ (by decide)).trans base8))))))) w') ?_
          refine met_free po8 d8 (wanted_of gd8) (fun w' h' => run_move q8 ((eval_other _ 56 10 _ (by decide)).trans ((eval_other _ 55 10 _ (by decide)).trans ((eval_other _ 54 10 _ (by decide)).trans ((eval_other _ 53 10 _ (by decide)).trans ((eval_other _ 52 10 _ (by decide)).trans ((eval_other _ 51 10 _ (by decide)).trans ((eval_other _ 50 10 _ (by decide)).trans ((eval_other _ 49 10 _ (by decide)).trans base10)))))))) w') ?_
          refine met_free po9 d9 (wanted_of gd9) (fun w' h' => run_ixNest' q9 ((eval_other _ 57 56 _ (by decide)).trans (eval_same _ _ _ (by simp only [put_size, hsz]; decide))) (eval_same _ _ _ (by simp only [put_size, hsz]; decide)) hlt w') ?_
          refine met_free po10 d10 (wanted_of gd10) (fun w' h' => run_loadSlT q10 (eval_same _ _ _ (by simp only [put_size, hsz]; decide)) h'.cell) ?_
          refine m_enter po11 d11 (wanted_of gd11) (run_callf5 q11 rfl ((eval_other _ 59 49 _ (by decide)).trans ((eval_other _ 58 49 _ (by decide)).trans ((eval_other _ 57 49 _ (by decide)).trans ((eval_other _ 56 49 _ (by decide)).trans ((eval_other _ 55 49 _ (by decide)).trans ((eval_other _ 54 49 _ (by decide)).trans ((eval_other _ 53 49 _ (by decide)).trans ((eval_other _ 52 49 _ (by decide)).trans ((eval_other _ 51 49 _ (by decide)).trans ((eval_other _ 50 49 _ (by decide)).trans (eval_same _ _ _ (by rw [hsz]; decide)))))))))))) ((eval_other _ 59 51 _ (by decide)).trans ((eval_other _ 58 51 _ (by decide)).trans ((eval_other _ 57 51 _ (by decide)).trans ((eval_other _ 56 51 _ (by decide)).trans ((eval_other _ 55 51 _ (by decide)).trans ((eval_other _ 54 51 _ (by decide)).trans ((eval_other _ 53 51 _ (by decide)).trans ((eval_other _ 52 51 _ (by decide)).trans (eval_same _ _ _ (by simp only [put_size, hsz]; decide)))))))))) ((eval_other _ 59 53 _ (by decide)).trans ((eval_other _ 58 53 _ (by decide)).trans ((eval_other _ 57 53 _ (by decide)).trans ((eval_other _ 56 53 _ (by decide)).trans ((eval_other _ 55 53 _ (by decide)).trans ((eval_other _ 54 53 _ (by decide)).trans (eval_same _ _ _ (by simp only [put_size, hsz]; decide)))))))) ((eval_other _ 59 55 _ (by decide)).trans ((eval_other _ 58 55 _ (by decide)).trans ((eval_other _ 57 55 _ (by decide)).trans ((eval_other _ 56 55 _ (by decide)).trans (eval_same _ _ _ (by simp only [put_size, hsz]; decide)))))) (eval_same _ _ _ (by simp only [put_size, hsz]; decide)) Try.func17 (by kernel_rfl) _) (codeOpen_any S1 _ _ l t.key t.nonce t.head s (allA l 0 0 ts) _ s.length t.hp qs t.hc cs w4.drew HD4.out.ok.key HD4.out.ok.nonce rfl rfl HLC.out (by rw [HAL.out]; omega) HSM.out HD4.out.ok.head HD4.out.lies (HX6.out.keep (F := fun _ => False) (Below.stays HD4.out.below) (fun _ h => h.elim))) ?_
          rintro e w7 ⟨u7, he, ho7, hb7⟩
          rw [HYES.out.1] at he
          rw [HYES.out.2] at ho7
          obtain ⟨qp, cpp, hu7, -, -, hlp⟩ := ho7.lies
          subst hu7
          have HLP := Lib.hid hlp
          have HW7 := Lib.hid (HD4.out.on hb7)
          clear ho7 hb7 hlp
          refine ⟨_, he, HW7.out, ?_⟩
          refine met_free po12 d12 (wanted_of gd12) (fun w' h' => run_move q12 (eval_same _ _ _ (by simp only [put_size, hsz]; decide)) w') ?_
          refine met_free po13 d13 (wanted_of gd13) (fun w' h' => run_extract q13 (eval_same _ _ _ (by simp only [put_size, hsz]; decide)) rfl w') ?_
          refine met_free po14 d14 (wanted_of gd14) (fun w' h' => run_extract q14 ((eval_other _ 61 48 _ (by decide)).trans (eval_same _ _ _ (by simp only [put_size, hsz]; decide))) rfl w') ?_
          refine met_free po15 d15 (wanted_of gd15) (fun w' h' => run_assign q15 ((eval_other _ 62 61 _ (by decide)).trans (eval_same _ _ _ (by simp only [put_size, hsz]; decide))) w') ?_
          refine met_free po16 d16 (wanted_of gd16) (fun w' h' => run_assign q16 ((eval_other _ 12 62 _ (by decide)).trans (eval_same _ _ _ (by simp only [put_size, hsz]; decide))) w') ?_
          show NoPanic _ .normal _ _
          refine NoPanic.normal ?_
          rw [HAA.out]
          go_frame
          clear HAA
          go_wp2_with fail
          go_meet
          exact ⟨rfl, ⟨_, _, rfl, HLP.out⟩, HW7.out⟩
        case rest =>
          obtain ⟨rfl, ⟨qp, cpp, rfl, hlp⟩, hw7⟩ := hcut
          have HLP := Lib.hid hlp; clear hlp
          have HW7 := Lib.hid hw7; clear hw7 HD4 HW4
          have HD7 := Lib.hid (HW7.out.on ((Below.refl _ _).drew))
          have HLPD : Hid (Lies wc.drew qp t.plain) := show Lies _ _ _ from HLP.out.below ((Below.refl _ _).drew)
          go_upto_region 11 with (fail)
          refine region_phase (BkW w6 T g1 k t s qs cs) (fun _ => True) 6 (HD7.out) trivial [(0, .free), (1, .free), (2, .free), (3, .free), (4, .free), (5, .free), (6, .behind), (7, .free), (8, .free), (9, .free), (10, .free), (11, .free), (12, .free), (13, .free), (14, .free), (15, .free), (16, .free), (17, .free), (18, .free), (19, .free), (20, .free)] (by kernel_rfl) (by kernel_rfl) (by kernel_rfl) (by kernel_rfl) (fun ops hops A2 hA => ?_)
          have hsz : A2.tmps.size = 212 := by rw [hA]; rfl
          have base7 : A2.eval (.tmp 7) = .pointer (some ⟨bx, 0, none⟩) := by rw [hA]; rfl
          have base8 : A2.eval (.tmp 8) = .slice (some ⟨g1, 0, none⟩) no c1 := by rw [hA]; rfl
          have base10 : A2.eval (.tmp 10) = .int .i64 (k : Int) := by rw [hA]; rfl
          have base11 : A2.eval (.tmp 11) = .pointer (some ⟨T, 0, none⟩) := by rw [hA]; rfl
          have base12 : A2.eval (.tmp 12) = .slice qp t.plain.length cpp := by rw [hA]; rfl
          have base13 : A2.eval (.tmp 13) = .bool true := by rw [hA]; rfl
          have HAA := Lib.hid hA; clear hA
          obtain ⟨o0, po0, q0, d0, gd0⟩ : ∃ o, ops[0]? = some o ∧ o.op = .move (.tmp 13) ∧ o.dst = some 63 ∧ o.guard = none := ⟨_, by rw [hops]; rfl, rfl, rfl, rfl⟩
          obtain ⟨o1, po1, q1, d1, gd1⟩ : ∃ o, ops[1]? = some o ∧ o.op = .unOp .not 4 (.tmp 63) ∧ o.dst = some 64 ∧ o.guard = none := ⟨_, by rw [hops]; rfl, rfl, rfl, rfl⟩
          obtain ⟨o2, po2, q2, d2, gd2⟩ : ∃ o, ops[2]? = some o ∧ o.op = .move (.tmp 64) ∧ o.dst = some 65 ∧ o.guard = none := ⟨_, by rw [hops]; rfl, rfl, rfl, rfl⟩
          obtain ⟨o3, po3, q3, d3, gd3⟩ : ∃ o, ops[3]? = some o ∧ o.op = .move (.tmp 12) ∧ o.dst = some 66 ∧ o.guard = some (2, false) := ⟨_, by rw [hops]; rfl, rfl, rfl, rfl⟩
          obtain ⟨o4, po4, q4, d4, gd4⟩ : ∃ o, ops[4]? = some o ∧ o.op = .fieldAddr 50 (.tmp 11) 3 ∧ o.dst = some 67 ∧ o.guard = some (2, false) := ⟨_, by rw [hops]; rfl, rfl, rfl, rfl⟩
          obtain ⟨o5, po5, q5, d5, gd5⟩ : ∃ o, ops[5]? = some o ∧ o.op = .load 22 (.tmp 67) ∧ o.dst = some 68 ∧ o.guard = some (2, false) := ⟨_, by rw [hops]; rfl, rfl, rfl, rfl⟩
          obtain ⟨o6, po6, q6, d6, gd6⟩ : ∃ o, ops[6]? = some o ∧ o.op = .call { callee := .value (.func 15), args := #[.tmp 66, .tmp 68], argTypes := #[22, 22] } ∧ o.dst = some 69 ∧ o.guard = some (2, false) := ⟨_, by rw [hops]; rfl, rfl, rfl, rfl⟩
          obtain ⟨o7, po7, q7, d7, gd7⟩ : ∃ o, ops[7]? = some o ∧ o.op = .unOp .not 4 (.tmp 69) ∧ o.dst = some 70 ∧ o.guard = some (2, false) := ⟨_, by rw [hops]; rfl, rfl, rfl, rfl⟩
          obtain ⟨o8, po8, q8, d8, gd8⟩ : ∃ o, ops[8]? = some o ∧ o.op = .pick (.tmp 65) (.const (.bool true)) (.tmp 70) ∧ o.dst = some 71 ∧ o.guard = none := ⟨_, by rw [hops]; rfl, rfl, rfl, rfl⟩
          obtain ⟨o9, po9, q9, d9, gd9⟩ : ∃ o, ops[9]? = some o ∧ o.op = .move (.tmp 71) ∧ o.dst = some 72 ∧ o.guard = none := ⟨_, by rw [hops]; rfl, rfl, rfl, rfl⟩
          obtain ⟨o10, po10, q10, d10, gd10⟩ : ∃ o, ops[10]? = some o ∧ o.op = .move (.tmp 8) ∧ o.dst = some 73 ∧ o.guard = some (9, false) := ⟨_, by rw [hops]; rfl, rfl, rfl, rfl⟩
          obtain ⟨o11, po11, q11, d11, gd11⟩ : ∃ o, ops[11]? = some o ∧ o.op = .move (.tmp 10) ∧ o.dst = some 74 ∧ o.guard = some (9, false) := ⟨_, by rw [hops]; rfl, rfl, rfl, rfl⟩
          obtain ⟨o12, po12, q12, d12, gd12⟩ : ∃ o, ops[12]? = some o ∧ o.op = .indexAddr 33 (.tmp 73) (.tmp 74) ∧ o.dst = some 75 ∧ o.guard = some (9, false) := ⟨_, by rw [hops]; rfl, rfl, rfl, rfl⟩
          obtain ⟨o13, po13, q13, d13, gd13⟩ : ∃ o, ops[13]? = some o ∧ o.op = .load 22 (.tmp 75) ∧ o.dst = some 76 ∧ o.guard = some (9, false) := ⟨_, by rw [hops]; rfl, rfl, rfl, rfl⟩
          obtain ⟨o14, po14, q14, d14, gd14⟩ : ∃ o, ops[14]? = some o ∧ o.op = .call { callee := .builtin .len, args := #[.tmp 76], argTypes := #[22] } ∧ o.dst = some 77 ∧ o.guard = some (9, false) := ⟨_, by rw [hops]; rfl, rfl, rfl, rfl⟩
          obtain ⟨o15, po15, q15, d15, gd15⟩ : ∃ o, ops[15]? = some o ∧ o.op = .fieldAddr 50 (.tmp 11) 3 ∧ o.dst = some 78 ∧ o.guard = some (9, false) := ⟨_, by rw [hops]; rfl, rfl, rfl, rfl⟩
          obtain ⟨o16, po16, q16, d16, gd16⟩ : ∃ o, ops[16]? = some o ∧ o.op = .load 22 (.tmp 78) ∧ o.dst = some 79 ∧ o.guard = some (9, false) := ⟨_, by rw [hops]; rfl, rfl, rfl, rfl⟩
          obtain ⟨o17, po17, q17, d17, gd17⟩ : ∃ o, ops[17]? = some o ∧ o.op = .call { callee := .builtin .len, args := #[.tmp 79], argTypes := #[22] } ∧ o.dst = some 80 ∧ o.guard = some (9, false) := ⟨_, by rw [hops]; rfl, rfl, rfl, rfl⟩
          obtain ⟨o18, po18, q18, d18, gd18⟩ : ∃ o, ops[18]? = some o ∧ o.op = .binOp .add 3 (.const (.int .i64 16)) (.tmp 80) 3 ∧ o.dst = some 81 ∧ o.guard = some (9, false) := ⟨_, by rw [hops]; rfl, rfl, rfl, rfl⟩
          obtain ⟨o19, po19, q19, d19, gd19⟩ : ∃ o, ops[19]? = some o ∧ o.op = .binOp .neq 3 (.tmp 77) (.tmp 81) 3 ∧ o.dst = some 82 ∧ o.guard = some (9, false) := ⟨_, by rw [hops]; rfl, rfl, rfl, rfl⟩
          obtain ⟨o20, po20, q20, d20, gd20⟩ : ∃ o, ops[20]? = some o ∧ o.op = .pick (.tmp 72) (.const (.bool true)) (.tmp 82) ∧ o.dst = some 83 ∧ o.guard = none := ⟨_, by rw [hops]; rfl, rfl, rfl, rfl⟩
          clear hops
          refine met_free po0 d0 (wanted_of gd0) (fun w' h' => run_move q0 base13 w') ?_
          refine met_free po1 d1 (wanted_of gd1) (fun w' h' => r_not q1 (eval_same _ _ _ (by rw [hsz]; decide)) w') ?_
          refine met_free po2 d2 (wanted_of gd2) (fun w' h' => run_move q2 (eval_same _ _ _ (by simp only [put_size, hsz]; decide)) w') ?_
          refine met_free po3 d3 (wanted_guardF gd3 po2 d2 (eval_same _ _ _ (by simp only [put_size, hsz]; decide))) (fun w' h' => run_move q3 ((eval_other _ 65 12 _ (by decide)).trans ((eval_other _ 64 12 _ (by decide)).trans ((eval_other _ 63 12 _ (by decide)).trans base12))) w') ?_
          refine met_free po4 d4 (wanted_guardF gd4 po2 d2 ((eval_other _ 66 65 _ (by decide)).trans (eval_same _ _ _ (by simp only [put_size, hsz]; decide)))) (fun w' h' => run_fieldThing3 q4 ((eval_other _ 66 11 _ (by decide)).trans ((eval_other _ 65 11 _ (by decide)).trans ((eval_other _ 64 11 _ (by decide)).trans ((eval_other _ 63 11 _ (by decide)).trans base11)))) w') ?_
          refine met_free po5 d5 (wanted_guardF gd5 po2 d2 ((eval_other _ 67 65 _ (by decide)).trans ((eval_other _ 66 65 _ (by decide)).trans (eval_same _ _ _ (by simp only [put_size, hsz]; decide))))) (fun w' h' => run_loadSlT q5 (eval_same _ _ _ (by simp only [put_size, hsz]; decide)) (h'.th.parts h'.ok.key h'.ok.nonce).2.2.2) ?_
          refine m_enter po6 d6 (wanted_guardF gd6 po2 d2 ((eval_other _ 68 65 _ (by decide)).trans ((eval_other _ 67 65 _ (by decide)).trans ((eval_other _ 66 65 _ (by decide)).trans (eval_same _ _ _ (by simp only [put_size, hsz]; decide)))))) (run_callf2 q6 rfl ((eval_other _ 68 66 _ (by decide)).trans ((eval_other _ 67 66 _ (by decide)).trans (eval_same _ _ _ (by simp only [put_size, hsz]; decide)))) (eval_same _ _ _ (by simp only [put_size, hsz]; decide)) Try.func15 (by kernel_rfl) _) (sameBytes_any t.plain t.plain _ _ qp t.tp cpp t.tc wc.drew rfl rfl (by have := HTS.out; omega) (by have := HTS.out; omega) HLPD.out HD7.out.ok.plain) ?_
          rintro e w8 ⟨he, hb8⟩
          rw [decide_eq_true rfl] at he
          have HW8 := Lib.hid (HD7.out.on hb8)
          clear hb8
          refine ⟨_, he, HW8.out, ?_⟩
          refine met_free po7 d7 (wanted_guardF gd7 po2 d2 ((eval_other _ 69 65 _ (by decide)).trans ((eval_other _ 68 65 _ (by decide)).trans ((eval_other _ 67 65 _ (by decide)).trans ((eval_other _ 66 65 _ (by decide)).trans (eval_same _ _ _ (by simp only [put_size, hsz]; decide))))))) (fun w' h' => r_not q7 (eval_same _ _ _ (by simp only [put_size, hsz]; decide)) w') ?_
          refine met_free po8 d8 (wanted_of gd8) (fun w' h' => r_pickF q8 ((eval_other _ 70 65 _ (by decide)).trans ((eval_other _ 69 65 _ (by decide)).trans ((eval_other _ 68 65 _ (by decide)).trans ((eval_other _ 67 65 _ (by decide)).trans ((eval_other _ 66 65 _ (by decide)).trans (eval_same _ _ _ (by simp only [put_size, hsz]; decide))))))) (eval_same _ _ _ (by simp only [put_size, hsz]; decide)) w') ?_
          refine met_free po9 d9 (wanted_of gd9) (fun w' h' => run_move q9 (eval_same _ _ _ (by simp only [put_size, hsz]; decide)) w') ?_
          refine met_free po10 d10 (wanted_guardF gd10 po9 d9 (eval_same _ _ _ (by simp only [put_size, hsz]; decide))) (fun w' h' => run_move q10 ((eval_other _ 72 8 _ (by decide)).trans ((eval_other _ 71 8 _ (by decide)).trans ((eval_other _ 70 8 _ (by decide)).trans ((eval_other _ 69 8 _ (by decide)).trans ((eval_other _ 68 8 _ (by decide)).trans ((eval_other _ 67 8 _ (by decide)).trans ((eval_other _ 66 8 _ (by decide)).trans ((eval_other _ 65 8 _ (by decide)).trans ((eval_other _ 64 8 _ (by decide)).trans ((eval_other _ 63 8 _ (by decide)).trans base8)))))))))) w') ?_
          refine met_free po11 d11 (wanted_guardF gd11 po9 d9 ((eval_other _ 73 72 _ (by decide)).trans (eval_same _ _ _ (by simp only [put_size, hsz]; decide)))) (fun w' h' => run_move q11 ((eval_other _ 73 10 _ (by decide)).trans ((eval_other _ 72 10 _ (by decide)).trans ((eval_other _ 71 10 _ (by decide)).trans ((eval_other _ 70 10 _ (by decide)).trans ((eval_other _ 69 10 _ (by decide)).trans ((eval_other _ 68 10 _ (by decide)).trans ((eval_other _ 67 10 _ (by decide)).trans ((eval_other _ 66 10 _ (by decide)).trans ((eval_other _ 65 10 _ (by decide)).trans ((eval_other _ 64 10 _ (by decide)).trans ((eval_other _ 63 10 _ (by decide)).trans base10))))))))))) w') ?_
          refine met_free po12 d12 (wanted_guardF gd12 po9 d9 ((eval_other _ 74 72 _ (by decide)).trans ((eval_other _ 73 72 _ (by decide)).trans (eval_same _ _ _ (by simp only [put_size, hsz]; decide))))) (fun w' h' => run_ixNest' q12 ((eval_other _ 74 73 _ (by decide)).trans (eval_same _ _ _ (by simp only [put_size, hsz]; decide))) (eval_same _ _ _ (by simp only [put_size, hsz]; decide)) hlt w') ?_
          refine met_free po13 d13 (wanted_guardF gd13 po9 d9 ((eval_other _ 75 72 _ (by decide)).trans ((eval_other _ 74 72 _ (by decide)).trans ((eval_other _ 73 72 _ (by decide)).trans (eval_same _ _ _ (by simp only [put_size, hsz]; decide)))))) (fun w' h' => run_loadSlT q13 (eval_same _ _ _ (by simp only [put_size, hsz]; decide)) h'.cell) ?_
          refine met_free po14 d14 (wanted_guardF gd14 po9 d9 ((eval_other _ 76 72 _ (by decide)).trans ((eval_other _ 75 72 _ (by decide)).trans ((eval_other _ 74 72 _ (by decide)).trans ((eval_other _ 73 72 _ (by decide)).trans (eval_same _ _ _ (by simp only [put_size, hsz]; decide))))))) (fun w' h' => run_len26 q14 (eval_same _ _ _ (by simp only [put_size, hsz]; decide)) w') ?_
          refine met_free po15 d15 (wanted_guardF gd15 po9 d9 ((eval_other _ 77 72 _ (by decide)).trans ((eval_other _ 76 72 _ (by decide)).trans ((eval_other _ 75 72 _ (by decide)).trans ((eval_other _ 74 72 _ (by decide)).trans ((eval_other _ 73 72 _ (by decide)).trans (eval_same _ _ _ (by simp only [put_size, hsz]; decide)))))))) (fun w' h' => run_fieldThing3 q15 ((eval_other _ 77 11 _ (by decide)).trans ((eval_other _ 76 11 _ (by decide)).trans ((eval_other _ 75 11 _ (by decide)).trans ((eval_other _ 74 11 _ (by decide)).trans ((eval_other _ 73 11 _ (by decide)).trans ((eval_other _ 72 11 _ (by decide)).trans ((eval_other _ 71 11 _ (by decide)).trans ((eval_other _ 70 11 _ (by decide)).trans ((eval_other _ 69 11 _ (by decide)).trans ((eval_other _ 68 11 _ (by decide)).trans ((eval_other _ 67 11 _ (by decide)).trans ((eval_other _ 66 11 _ (by decide)).trans ((eval_other _ 65 11 _ (by decide)).trans ((eval_other _ 64 11 _ (by decide)).trans ((eval_other _ 63 11 _ (by decide)).trans base11))))))))))))))) w') ?_
          refine met_free po16 d16 (wanted_guardF gd16 po9 d9 ((eval_other _ 78 72 _ (by decide)).trans ((eval_other _ 77 72 _ (by decide)).trans ((eval_other _ 76 72 _ (by decide)).trans ((eval_other _ 75 72 _ (by decide)).trans ((eval_other _ 74 72 _ (by decide)).trans ((eval_other _ 73 72 _ (by decide)).trans (eval_same _ _ _ (by simp only [put_size, hsz]; decide))))))))) (fun w' h' => run_loadSlT q16 (eval_same _ _ _ (by simp only [put_size, hsz]; decide)) (h'.th.parts h'.ok.key h'.ok.nonce).2.2.2) ?_
          refine met_free po17 d17 (wanted_guardF gd17 po9 d9 ((eval_other _ 79 72 _ (by decide)).trans ((eval_other _ 78 72 _ (by decide)).trans ((eval_other _ 77 72 _ (by decide)).trans ((eval_other _ 76 72 _ (by decide)).trans ((eval_other _ 75 72 _ (by decide)).trans ((eval_other _ 74 72 _ (by decide)).trans ((eval_other _ 73 72 _ (by decide)).trans (eval_same _ _ _ (by simp only [put_size, hsz]; decide)))))))))) (fun w' h' => run_len26 q17 (eval_same _ _ _ (by simp only [put_size, hsz]; decide)) w') ?_
          refine met_free po18 d18 (wanted_guardF gd18 po9 d9 ((eval_other _ 80 72 _ (by decide)).trans ((eval_other _ 79 72 _ (by decide)).trans ((eval_other _ 78 72 _ (by decide)).trans ((eval_other _ 77 72 _ (by decide)).trans ((eval_other _ 76 72 _ (by decide)).trans ((eval_other _ 75 72 _ (by decide)).trans ((eval_other _ 74 72 _ (by decide)).trans ((eval_other _ 73 72 _ (by decide)).trans (eval_same _ _ _ (by simp only [put_size, hsz]; decide))))))))))) (fun w' h' => run_add16 q18 rfl (eval_same _ _ _ (by simp only [put_size, hsz]; decide)) (by have := HTS.out; omega) w') ?_
          refine met_free po19 d19 (wanted_guardF gd19 po9 d9 ((eval_other _ 81 72 _ (by decide)).trans ((eval_other _ 80 72 _ (by decide)).trans ((eval_other _ 79 72 _ (by decide)).trans ((eval_other _ 78 72 _ (by decide)).trans ((eval_other _ 77 72 _ (by decide)).trans ((eval_other _ 76 72 _ (by decide)).trans ((eval_other _ 75 72 _ (by decide)).trans ((eval_other _ 74 72 _ (by decide)).trans ((eval_other _ 73 72 _ (by decide)).trans (eval_same _ _ _ (by simp only [put_size, hsz]; decide)))))))))))) (fun w' h' => run_neqSame q19 ((eval_other _ 81 77 _ (by decide)).trans ((eval_other _ 80 77 _ (by decide)).trans ((eval_other _ 79 77 _ (by decide)).trans ((eval_other _ 78 77 _ (by decide)).trans (eval_same _ _ _ (by simp only [put_size, hsz]; decide)))))) (eval_same _ _ _ (by simp only [put_size, hsz]; decide)) HSL2.out w') ?_
          refine met_free po20 d20 (wanted_of gd20) (fun w' h' => r_pickF q20 ((eval_other _ 82 72 _ (by decide)).trans ((eval_other _ 81 72 _ (by decide)).trans ((eval_other _ 80 72 _ (by decide)).trans ((eval_other _ 79 72 _ (by decide)).trans ((eval_other _ 78 72 _ (by decide)).trans ((eval_other _ 77 72 _ (by decide)).trans ((eval_other _ 76 72 _ (by decide)).trans ((eval_other _ 75 72 _ (by decide)).trans ((eval_other _ 74 72 _ (by decide)).trans ((eval_other _ 73 72 _ (by decide)).trans (eval_same _ _ _ (by simp only [put_size, hsz]; decide)))))))))))) (eval_same _ _ _ (by simp only [put_size, hsz]; decide)) w') ?_
          show NoPanic _ .normal _ _
          refine NoPanic.normal ?_
          rw [HAA.out]
          go_frame
          clear HAA
          clear HD7 HLPD HLP HW7
          go_upto_region 13 with (fail)
          refine region_facts2 (fun W => Below w8.heap.size w8 W) (KnR t.key t.nonce) (BkV w8.heap.size T t.key t.nonce) bkReads (by kernel_rfl) (by kernel_rfl) (by kernel_rfl) (by kernel_rfl) ((Below.refl _ _).drew) (fun i ρ ρ' w h hv => bkV_reads _ _ _ _ i ρ ρ' w h hv) (fun i ρ w w' _ h hv => bkV_on _ _ _ _ i ρ w w' h hv) ?_ ?_
          · intro i op A W hop hS hslot hdep
            have s11 : A.eval (.tmp 11) = .pointer (some ⟨T, 0, none⟩) := hslot 11 (slot_free (by kernel_rfl))
            have hW := HW8.out.on hS
            have hP := hW.th.parts hW.ok.key hW.ok.nonce
            clear hslot
            match i, hop with
            | 0, hop =>
              cases hop
              refine wpOp_value rfl rfl (run_fieldThing0 rfl s11 W) ⟨_, rfl, hS, KnR.of_below (Below.refl _ _), fun ρ _ hd => hd 84 rfl⟩
            | 1, hop =>
              cases hop
              have h0 : A.eval (.tmp 84) = .pointer (some ⟨T, 0 + 0, none⟩) := hdep ⟨0, .data⟩ (by simp) rfl _ rfl
              refine wpOp_value rfl rfl (run_loadKeyT rfl h0 hW.ok.key hP.1) ⟨_, rfl, hS, KnR.of_below (Below.refl _ _), fun ρ _ hd => hd 85 rfl⟩
            | 2, hop =>
              cases hop
              refine wpOp_value rfl rfl (run_fieldThing1 rfl s11 W) ⟨_, rfl, hS, KnR.of_below (Below.refl _ _), fun ρ _ hd => hd 86 rfl⟩
            | 3, hop =>
              cases hop
              have h0 : A.eval (.tmp 86) = .pointer (some ⟨T, 0 + 32, none⟩) := hdep ⟨2, .data⟩ (by simp) rfl _ rfl
              refine wpOp_value rfl rfl (run_loadNonceT rfl h0 hW.ok.nonce hP.2.1) ⟨_, rfl, hS, KnR.of_below (Below.refl _ _), fun ρ _ hd => hd 87 rfl⟩
            | 4, hop =>
              cases hop
              refine wpOp_value rfl rfl (run_allocKey rfl W) ⟨_, rfl, hS.alloc hS.size _, KnR.of_below ((Below.refl _ _).alloc (Nat.le_refl _) _), fun ρ _ hd => ⟨W.heap.size, hd 14 rfl, hS.size, noughts 32, noughts_length 32, heap_new_at rfl⟩⟩
            | 5, hop =>
              cases hop
              refine wpOp_value rfl rfl (run_allocNonce rfl W) ⟨_, rfl, hS.alloc hS.size _, KnR.of_below ((Below.refl _ _).alloc (Nat.le_refl _) _), fun ρ _ hd => ⟨W.heap.size, hd 15 rfl, hS.size, noughts 12, noughts_length 12, heap_new_at rfl⟩⟩
            | 6, hop =>
              cases hop
              obtain ⟨g, s14, hg, kk, hkk, hb⟩ : BkV w8.heap.size T t.key t.nonce 4 (rdA A) W := hdep ⟨4, .data⟩ (by simp) rfl _ rfl
              have h0 : A.eval (.tmp 85) = .agg (bytesV t.key).toArray := hdep ⟨1, .data⟩ (by simp) rfl _ rfl
              refine wpOp_of_wp rfl rfl (wp_store_row 38 _ _ rfl g _ s14 h0 38 _ hb (infoKey _ hW.ok.key) (by rw [bytesV_size _ 32 hkk, bytesV_size _ 32 hW.ok.key]) (bytesV_one _) ?_)
              obtain ⟨h1, h2⟩ := knR_setKey (N := t.nonce) hW.ok.key hb hkk
              exact ⟨_, rfl, below_setRow hS hg _, h1, fun ρ hr _ => ⟨g, (hr 14 (by simp)).trans s14, hg, h2⟩⟩
            | 7, hop =>
              cases hop
              obtain ⟨g, s15, hg, kk, hkk, hb⟩ : BkV w8.heap.size T t.key t.nonce 5 (rdA A) W := hdep ⟨5, .data⟩ (by simp) rfl _ rfl
              have h0 : A.eval (.tmp 87) = .agg (bytesV t.nonce).toArray := hdep ⟨3, .data⟩ (by simp) rfl _ rfl
              refine wpOp_of_wp rfl rfl (wp_store_row 40 _ _ rfl g _ s15 h0 40 _ hb (infoNonce _ hW.ok.nonce) (by rw [bytesV_size _ 12 hkk, bytesV_size _ 12 hW.ok.nonce]) (bytesV_one _) ?_)
              obtain ⟨h1, h2⟩ := knR_setNonce (K := t.key) hW.ok.nonce hb hkk
              exact ⟨_, rfl, below_setRow hS hg _, h1, fun ρ hr _ => ⟨g, (hr 15 (by simp)).trans s15, hg, h2⟩⟩
            | n + 8, hop => simp at hop
          · intro A W hS hD hN hslot hfact
            have HAE := act_of_slots [14, 15, 84, 85, 86, 87] _ hN hD (fun t ht => hslot t (slots_free (by kernel_rfl) t ht))
            obtain ⟨gk, s14, hgk, hbk⟩ : BkV w8.heap.size T t.key t.nonce 6 (rdA A) W := hfact 6 _ rfl
            obtain ⟨gn, s15, hgn, hbn⟩ : BkV w8.heap.size T t.key t.nonce 7 (rdA A) W := hfact 7 _ rfl
            rw [HAE]
            simp only [List.foldl_cons, List.foldl_nil, s14, s15]
            clear HAE hN hD hslot hfact s14 s15
            generalize rdA A 84 = y84
            generalize rdA A 85 = y85
            generalize rdA A 86 = y86
            generalize rdA A 87 = y87
            clear A
            have HW9 := Lib.hid (HW8.out.on hS)
            have HKY := Lib.hid hbk
            have HNC := Lib.hid hbn
            have HGK := Lib.hid hgk
            have HGN := Lib.hid hgn
            have HB8 := Lib.hid hS
            clear hS hbk hbn hgk hgn
            rename World => w9
            go_frame
            have hgne : gn ≠ gk := fun e => by
              have h1 := HKY.out
              have h2 := HNC.out
              rw [e] at h2
              have h3 := Obj.cells.inj (Option.some.inj (h1.symm.trans h2))
              exact absurd h3.2.1 (by decide)
            have hk32 := HW9.out.ok.key
            have hn12 := HW9.out.ok.nonce
            have HKN : Hid (¬ t.key = t.key.set 31 (t.key.getD 31 0#8 ^^^ 1#8)) := show ¬ _ from set_ne (by rw [hk32]; omega) (by decide)
            have HNN : Hid (¬ t.nonce = t.nonce.set 0 (t.nonce.getD 0 0#8 ^^^ 128#8)) := show ¬ _ from set_ne (by rw [hn12]; omega) (by decide)
            have HKL : Hid ((t.key.set 31 (t.key.getD 31 0#8 ^^^ 1#8)).length = 32) := show _ = _ by rw [List.length_set]; exact hk32
            have HNL : Hid ((t.nonce.set 0 (t.nonce.getD 0 0#8 ^^^ 128#8)).length = 12) := show _ = _ by rw [List.length_set]; exact hn12
            have e31 : w9.cell? ⟨gk, 31, none⟩ = some (.int .u8 (n8 (t.key.getD 31 0#8))) := by
              rw [cell_bytesV HKY.out (j := 31) (by rw [hk32]; omega), List.getD_eq_getElem?_getD, List.getElem?_eq_getElem (by rw [hk32]; omega)]; rfl
            have e0 : w9.cell? ⟨gn, 0, none⟩ = some (.int .u8 (n8 (t.nonce.getD 0 0#8))) := by
              rw [cell_bytesV HNC.out (j := 0) (by rw [hn12]; omega), List.getD_eq_getElem?_getD, List.getElem?_eq_getElem (by rw [hn12]; omega)]; rfl
            have f31 : w9.frozen? ⟨gk, 31, none⟩ = false := frozen_of_row _ _ _ _ _ HKY.out
            have x31 : bits .xor .u8 (n8 (t.key.getD 31 0#8)) 1 = n8 (t.key.getD 31 0#8 ^^^ 1#8) := xor8 _ 1#8
            have x0 : bits .xor .u8 (n8 (t.nonce.getD 0 0#8)) 128 = n8 (t.nonce.getD 0 0#8 ^^^ 128#8) := xor8 _ 128#8
            have hkys := setCell_bytes (k := 31) HKY.out (t.key.getD 31 0#8 ^^^ 1#8)
            generalize t.key.getD 31 0#8 = z31 at e31 x31 hkys HKN HKL
            generalize t.nonce.getD 0 0#8 = z0 at e0 x0 HNN HNL
            have HE0 := Lib.hid e0; clear e0
            go_upto_region 15 with (fail)
            have HKY2 : Hid (BytesAt (w9.setCell ⟨gk, 31, none⟩ (.int .u8 (n8 (z31 ^^^ 1#8)))) gk 38 (t.key.set 31 (z31 ^^^ 1#8))) := show BytesAt _ _ _ _ from hkys
            have HNC2 : Hid (BytesAt (w9.setCell ⟨gk, 31, none⟩ (.int .u8 (n8 (z31 ^^^ 1#8)))) gn 40 t.nonce) := show BytesAt _ _ _ _ from HNC.out.putOther hgne _ _
            have HB10 : Hid (Below w8.heap.size w8 (w9.setCell ⟨gk, 31, none⟩ (.int .u8 (n8 (z31 ^^^ 1#8))))) := show Below _ _ _ from HB8.out.setCell HGK.out _
            have e0 : (w9.setCell ⟨gk, 31, none⟩ (.int .u8 (n8 (z31 ^^^ 1#8)))).cell? ⟨gn, 0, none⟩ = some (.int .u8 (n8 z0)) := (World.cell?_of_block (a := ⟨gn, 0, none⟩) (HNC2.out.trans HNC.out.symm)).trans HE0.out
            clear e31 f31 x31 hkys HE0
            generalize w9.setCell ⟨gk, 31, none⟩ (.int .u8 (n8 (z31 ^^^ 1#8))) = w10 at HKY2 HNC2 HB10 e0 ⊢
            have f0 : w10.frozen? ⟨gn, 0, none⟩ = false := frozen_of_row _ _ _ _ _ HNC2.out
            have hncs := setCell_bytes (k := 0) HNC2.out (z0 ^^^ 128#8)
            go_upto_region 16 with (fail)
            have HKY3 : Hid (BytesAt (w10.setCell ⟨gn, 0, none⟩ (.int .u8 (n8 (z0 ^^^ 128#8)))) gk 38 (t.key.set 31 (z31 ^^^ 1#8))) := show BytesAt _ _ _ _ from HKY2.out.putOther (Ne.symm hgne) _ _
            have HNC3 : Hid (BytesAt (w10.setCell ⟨gn, 0, none⟩ (.int .u8 (n8 (z0 ^^^ 128#8)))) gn 40 (t.nonce.set 0 (z0 ^^^ 128#8))) := show BytesAt _ _ _ _ from hncs
            have HB11 : Hid (Below w8.heap.size w8 (w10.setCell ⟨gn, 0, none⟩ (.int .u8 (n8 (z0 ^^^ 128#8))))) := show Below _ _ _ from HB10.out.setCell HGN.out _
            clear e0 f0 x0 hncs
            generalize w10.setCell ⟨gn, 0, none⟩ (.int .u8 (n8 (z0 ^^^ 128#8))) = w11 at HKY3 HNC3 HB11 ⊢
            obtain ⟨K', hK'⟩ : ∃ K', K' = t.key.set 31 (z31 ^^^ 1#8) := ⟨_, rfl⟩
            obtain ⟨N', hN'⟩ : ∃ N', N' = t.nonce.set 0 (z0 ^^^ 128#8) := ⟨_, rfl⟩
            rw [← hK'] at HKN HKL HKY3
            rw [← hN'] at HNN HNL HNC3
            have HW11 : Hid (BkW2 w6 T g1 k t s qs cs gk gn K' N' w11) := show BkW2 _ _ _ _ _ _ _ _ _ _ _ _ _ from ⟨HW8.out.on HB11.out, HKY3.out, HNC3.out⟩
            have HD11 := Lib.hid (HW11.out.on ((Below.refl _ _).drew))
            clear hK' hN' HKY HNC HKY2 HNC2 HKY3 HNC3 HB8 HB10 HB11 HGK HGN hgne hk32 hn12 HW8 HW9
            refine region_phase (BkW2 w6 T g1 k t s qs cs gk gn K' N') (fun _ => True) 10 (HD11.out) trivial [(0, .free), (1, .free), (2, .free), (3, .free), (4, .free), (5, .free), (6, .free), (7, .free), (8, .free), (9, .free), (10, .behind), (11, .free), (12, .free), (13, .free), (14, .free), (15, .free)] (by kernel_rfl) (by kernel_rfl) (by kernel_rfl) (by kernel_rfl) (fun ops hops A2 hA => ?_)
            have hsz : A2.tmps.size = 212 := by rw [hA]; rfl
            have base7 : A2.eval (.tmp 7) = .pointer (some ⟨bx, 0, none⟩) := by rw [hA]; rfl
            have base8 : A2.eval (.tmp 8) = .slice (some ⟨g1, 0, none⟩) no c1 := by rw [hA]; rfl
            have base10 : A2.eval (.tmp 10) = .int .i64 (k : Int) := by rw [hA]; rfl
            have base11 : A2.eval (.tmp 11) = .pointer (some ⟨T, 0, none⟩) := by rw [hA]; rfl
            have base14 : A2.eval (.tmp 14) = .pointer (some ⟨gk, 0, none⟩) := by rw [hA]; rfl
            have base15 : A2.eval (.tmp 15) = .pointer (some ⟨gn, 0, none⟩) := by rw [hA]; rfl
            have HAA := Lib.hid hA; clear hA
            obtain ⟨o0, po0, q0, d0, gd0⟩ : ∃ o, ops[0]? = some o ∧ o.op = .move (.tmp 7) ∧ o.dst = some 97 ∧ o.guard = none := ⟨_, by rw [hops]; rfl, rfl, rfl, rfl⟩
            obtain ⟨o1, po1, q1, d1, gd1⟩ : ∃ o, ops[1]? = some o ∧ o.op = .load 38 (.tmp 14) ∧ o.dst = some 98 ∧ o.guard = none := ⟨_, by rw [hops]; rfl, rfl, rfl, rfl⟩
            obtain ⟨o2, po2, q2, d2, gd2⟩ : ∃ o, ops[2]? = some o ∧ o.op = .fieldAddr 50 (.tmp 11) 1 ∧ o.dst = some 99 ∧ o.guard = none := ⟨_, by rw [hops]; rfl, rfl, rfl, rfl⟩
            obtain ⟨o3, po3, q3, d3, gd3⟩ : ∃ o, ops[3]? = some o ∧ o.op = .load 40 (.tmp 99) ∧ o.dst = some 100 ∧ o.guard = none := ⟨_, by rw [hops]; rfl, rfl, rfl, rfl⟩
            obtain ⟨o4, po4, q4, d4, gd4⟩ : ∃ o, ops[4]? = some o ∧ o.op = .fieldAddr 50 (.tmp 11) 2 ∧ o.dst = some 101 ∧ o.guard = none := ⟨_, by rw [hops]; rfl, rfl, rfl, rfl⟩
            obtain ⟨o5, po5, q5, d5, gd5⟩ : ∃ o, ops[5]? = some o ∧ o.op = .load 22 (.tmp 101) ∧ o.dst = some 102 ∧ o.guard = none := ⟨_, by rw [hops]; rfl, rfl, rfl, rfl⟩
            obtain ⟨o6, po6, q6, d6, gd6⟩ : ∃ o, ops[6]? = some o ∧ o.op = .move (.tmp 8) ∧ o.dst = some 103 ∧ o.guard = none := ⟨_, by rw [hops]; rfl, rfl, rfl, rfl⟩
            obtain ⟨o7, po7, q7, d7, gd7⟩ : ∃ o, ops[7]? = some o ∧ o.op = .move (.tmp 10) ∧ o.dst = some 104 ∧ o.guard = none := ⟨_, by rw [hops]; rfl, rfl, rfl, rfl⟩
            obtain ⟨o8, po8, q8, d8, gd8⟩ : ∃ o, ops[8]? = some o ∧ o.op = .indexAddr 33 (.tmp 103) (.tmp 104) ∧ o.dst = some 105 ∧ o.guard = none := ⟨_, by rw [hops]; rfl, rfl, rfl, rfl⟩
            obtain ⟨o9, po9, q9, d9, gd9⟩ : ∃ o, ops[9]? = some o ∧ o.op = .load 22 (.tmp 105) ∧ o.dst = some 106 ∧ o.guard = none := ⟨_, by rw [hops]; rfl, rfl, rfl, rfl⟩
            obtain ⟨o10, po10, q10, d10, gd10⟩ : ∃ o, ops[10]? = some o ∧ o.op = .call { callee := .value (.func 17), args := #[.tmp 97, .tmp 98, .tmp 100, .tmp 102, .tmp 106], argTypes := #[25, 38, 40, 22, 22] } ∧ o.dst = some 107 ∧ o.guard = none := ⟨_, by rw [hops]; rfl, rfl, rfl, rfl⟩
            obtain ⟨o11, po11, q11, d11, gd11⟩ : ∃ o, ops[11]? = some o ∧ o.op = .move (.tmp 107) ∧ o.dst = some 96 ∧ o.guard = none := ⟨_, by rw [hops]; rfl, rfl, rfl, rfl⟩
            obtain ⟨o12, po12, q12, d12, gd12⟩ : ∃ o, ops[12]? = some o ∧ o.op = .extract (.tmp 96) 0 ∧ o.dst = some 108 ∧ o.guard = none := ⟨_, by rw [hops]; rfl, rfl, rfl, rfl⟩
            obtain ⟨o13, po13, q13, d13, gd13⟩ : ∃ o, ops[13]? = some o ∧ o.op = .extract (.tmp 96) 1 ∧ o.dst = some 109 ∧ o.guard = none := ⟨_, by rw [hops]; rfl, rfl, rfl, rfl⟩
            obtain ⟨o14, po14, q14, d14, gd14⟩ : ∃ o, ops[14]? = some o ∧ o.op = .assign (.tmp 108) ∧ o.dst = some 16 ∧ o.guard = none := ⟨_, by rw [hops]; rfl, rfl, rfl, rfl⟩
            obtain ⟨o15, po15, q15, d15, gd15⟩ : ∃ o, ops[15]? = some o ∧ o.op = .assign (.tmp 109) ∧ o.dst = some 17 ∧ o.guard = none := ⟨_, by rw [hops]; rfl, rfl, rfl, rfl⟩
            clear hops
            refine met_free po0 d0 (wanted_of gd0) (fun w' h' => run_move q0 base7 w') ?_
            refine met_free po1 d1 (wanted_of gd1) (fun w' h' => run_loadKeyB q1 ((eval_other _ 97 14 _ (by decide)).trans base14) HKL.out h'.key) ?_
            refine met_free po2 d2 (wanted_of gd2) (fun w' h' => run_fieldThing1 q2 ((eval_other _ 98 11 _ (by decide)).trans ((eval_other _ 97 11 _ (by decide)).trans base11)) w') ?_
            refine met_free po3 d3 (wanted_of gd3) (fun w' h' => run_loadNonceT q3 (eval_same _ _ _ (by simp only [put_size, hsz]; decide)) h'.bk.ok.nonce (h'.bk.th.parts h'.bk.ok.key h'.bk.ok.nonce).2.1) ?_
            refine met_free po4 d4 (wanted_of gd4) (fun w' h' => run_fieldThing2 q4 ((eval_other _ 100 11 _ (by decide)).trans ((eval_other _ 99 11 _ (by decide)).trans ((eval_other _ 98 11 _ (by decide)).trans ((eval_other _ 97 11 _ (by decide)).trans base11)))) w') ?_
            refine met_free po5 d5 (wanted_of gd5) (fun w' h' => run_loadSlT q5 (eval_same _ _ _ (by simp only [put_size, hsz]; decide)) (h'.bk.th.parts h'.bk.ok.key h'.bk.ok.nonce).2.2.1) ?_
            refine met_free po6 d6 (wanted_of gd6) (fun w' h' => run_move q6 ((eval_other _ 102 8 _ (by decide)).trans ((eval_other _ 101 8 _ (by decide)).trans ((eval_other _ 100 8 _ (by decide)).trans ((eval_other _ 99 8 _ (by decide)).trans ((eval_other _ 98 8 _ (by decide)).trans ((eval_other _ 97 8 _ (by decide)).trans base8)))))) w') ?_
            refine met_free po7 d7 (wanted_of gd7) (fun w' h' => run_move q7 ((eval_other _ 103 10 _ (by decide)).trans ((eval_other _ 102 10 _ (by decide)).trans ((eval_other _ 101 10 _ (by decide)).trans ((eval_other _ 100 10 _ (by decide)).trans ((eval_other _ 99 10 _ (by decide)).trans ((eval_other _ 98 10 _ (by decide)).trans ((eval_other _ 97 10 _ (by decide)).trans base10))))))) w') ?_
            refine met_free po8 d8 (wanted_of gd8) (fun w' h' => run_ixNest' q8 ((eval_other _ 104 103 _ (by decide)).trans (eval_same _ _ _ (by simp only [put_size, hsz]; decide))) (eval_same _ _ _ (by simp only [put_size, hsz]; decide)) hlt w') ?_
            refine met_free po9 d9 (wanted_of gd9) (fun w' h' => run_loadSlT q9 (eval_same _ _ _ (by simp only [put_size, hsz]; decide)) h'.bk.cell) ?_
            refine m_enter po10 d10 (wanted_of gd10) (run_callf5 q10 rfl ((eval_other _ 106 97 _ (by decide)).trans ((eval_other _ 105 97 _ (by decide)).trans ((eval_other _ 104 97 _ (by decide)).trans ((eval_other _ 103 97 _ (by decide)).trans ((eval_other _ 102 97 _ (by decide)).trans ((eval_other _ 101 97 _ (by decide)).trans ((eval_other _ 100 97 _ (by decide)).trans ((eval_other _ 99 97 _ (by decide)).trans ((eval_other _ 98 97 _ (by decide)).trans (eval_same _ _ _ (by rw [hsz]; decide))))))))))) ((eval_other _ 106 98 _ (by decide)).trans ((eval_other _ 105 98 _ (by decide)).trans ((eval_other _ 104 98 _ (by decide)).trans ((eval_other _ 103 98 _ (by decide)).trans ((eval_other _ 102 98 _ (by decide)).trans ((eval_other _ 101 98 _ (by decide)).trans ((eval_other _ 100 98 _ (by decide)).trans ((eval_other _ 99 98 _ (by decide)).trans (eval_same _ _ _ (by simp only [put_size, hsz]; decide)))))))))) ((eval_other _ 106 100 _ (by decide)).trans ((eval_other _ 105 100 _ (by decide)).trans ((eval_other _ 104 100 _ (by decide)).trans ((eval_other _ 103 100 _ (by decide)).trans ((eval_other _ 102 100 _ (by decide)).trans ((eval_other _ 101 100 _ (by decide)).trans (eval_same _ _ _ (by simp only [put_size, hsz]; decide)))))))) ((eval_other _ 106 102 _ (by decide)).trans ((eval_other _ 105 102 _ (by decide)).trans ((eval_other _ 104 102 _ (by decide)).trans ((eval_other _ 103 102 _ (by decide)).trans (eval_same _ _ _ (by simp only [put_size, hsz]; decide)))))) (eval_same _ _ _ (by simp only [put_size, hsz]; decide)) Try.func17 (by kernel_rfl) _) (codeOpen_any S1 _ _ l K' t.nonce t.head s (allA l 0 0 ts) _ s.length t.hp qs t.hc cs w11.drew HKL.out HD11.out.bk.ok.nonce rfl rfl HLC.out (by rw [HAL.out]; omega) HSM.out HD11.out.bk.ok.head HD11.out.bk.lies (HX6.out.keep (F := fun _ => False) (Below.stays HD11.out.bk.below) (fun _ h => h.elim))) ?_
            rintro e w12 ⟨u12', he, -, hb12⟩
            rw [HNO.out K' t.nonce t.head (fun h => HKN.out h.1)] at he
            have HW12 := Lib.hid (HD11.out.on hb12)
            clear hb12
            refine ⟨_, he, HW12.out, ?_⟩
            refine met_free po11 d11 (wanted_of gd11) (fun w' h' => run_move q11 (eval_same _ _ _ (by simp only [put_size, hsz]; decide)) w') ?_
            refine met_free po12 d12 (wanted_of gd12) (fun w' h' => run_extract q12 (eval_same _ _ _ (by simp only [put_size, hsz]; decide)) rfl w') ?_
            refine met_free po13 d13 (wanted_of gd13) (fun w' h' => run_extract q13 ((eval_other _ 108 96 _ (by decide)).trans (eval_same _ _ _ (by simp only [put_size, hsz]; decide))) rfl w') ?_
            refine met_free po14 d14 (wanted_of gd14) (fun w' h' => run_assign q14 ((eval_other _ 109 108 _ (by decide)).trans (eval_same _ _ _ (by simp only [put_size, hsz]; decide))) w') ?_
            refine met_free po15 d15 (wanted_of gd15) (fun w' h' => run_assign q15 ((eval_other _ 16 109 _ (by decide)).trans (eval_same _ _ _ (by simp only [put_size, hsz]; decide))) w') ?_
            show NoPanic _ .normal _ _
            refine NoPanic.normal ?_
            rw [HAA.out]
            go_frame
            clear HAA
            clear HD11 HW11
            go_upto_region 17 with (fail)
            have HD12 := Lib.hid (HW12.out.on ((Below.refl _ _).drew))
            refine region_phase (BkW2 w6 T g1 k t s qs cs gk gn K' N') (fun _ => True) 10 (HD12.out) trivial [(0, .free), (1, .free), (2, .free), (3, .free), (4, .free), (5, .free), (6, .free), (7, .free), (8, .free), (9, .free), (10, .behind), (11, .free), (12, .free), (13, .free), (14, .free), (15, .free)] (by kernel_rfl) (by kernel_rfl) (by kernel_rfl) (by kernel_rfl) (fun ops hops A2 hA => ?_)
            have hsz : A2.tmps.size = 212 := by rw [hA]; rfl
            have base7 : A2.eval (.tmp 7) = .pointer (some ⟨bx, 0, none⟩) := by rw [hA]; rfl
            have base8 : A2.eval (.tmp 8) = .slice (some ⟨g1, 0, none⟩) no c1 := by rw [hA]; rfl
            have base10 : A2.eval (.tmp 10) = .int .i64 (k : Int) := by rw [hA]; rfl
            have base11 : A2.eval (.tmp 11) = .pointer (some ⟨T, 0, none⟩) := by rw [hA]; rfl
            have base14 : A2.eval (.tmp 14) = .pointer (some ⟨gk, 0, none⟩) := by rw [hA]; rfl
            have base15 : A2.eval (.tmp 15) = .pointer (some ⟨gn, 0, none⟩) := by rw [hA]; rfl
            have HAA := Lib.hid hA; clear hA
            obtain ⟨o0, po0, q0, d0, gd0⟩ : ∃ o, ops[0]? = some o ∧ o.op = .move (.tmp 7) ∧ o.dst = some 111 ∧ o.guard = none := ⟨_, by rw [hops]; rfl, rfl, rfl, rfl⟩
            obtain ⟨o1, po1, q1, d1, gd1⟩ : ∃ o, ops[1]? = some o ∧ o.op = .fieldAddr 50 (.tmp 11) 0 ∧ o.dst = some 112 ∧ o.guard = none := ⟨_, by rw [hops]; rfl, rfl, rfl, rfl⟩
            obtain ⟨o2, po2, q2, d2, gd2⟩ : ∃ o, ops[2]? = some o ∧ o.op = .load 38 (.tmp 112) ∧ o.dst = some 113 ∧ o.guard = none := ⟨_, by rw [hops]; rfl, rfl, rfl, rfl⟩
            obtain ⟨o3, po3, q3, d3, gd3⟩ : ∃ o, ops[3]? = some o ∧ o.op = .load 40 (.tmp 15) ∧ o.dst = some 114 ∧ o.guard = none := ⟨_, by rw [hops]; rfl, rfl, rfl, rfl⟩
            obtain ⟨o4, po4, q4, d4, gd4⟩ : ∃ o, ops[4]? = some o ∧ o.op = .fieldAddr 50 (.tmp 11) 2 ∧ o.dst = some 115 ∧ o.guard = none := ⟨_, by rw [hops]; rfl, rfl, rfl, rfl⟩
            obtain ⟨o5, po5, q5, d5, gd5⟩ : ∃ o, ops[5]? = some o ∧ o.op = .load 22 (.tmp 115) ∧ o.dst = some 116 ∧ o.guard = none := ⟨_, by rw [hops]; rfl, rfl, rfl, rfl⟩
            obtain ⟨o6, po6, q6, d6, gd6⟩ : ∃ o, ops[6]? = some o ∧ o.op = .move (.tmp 8) ∧ o.dst = some 117 ∧ o.guard = none := ⟨_, by rw [hops]; rfl, rfl, rfl, rfl⟩
            obtain ⟨o7, po7, q7, d7, gd7⟩ : ∃ o, ops[7]? = some o ∧ o.op = .move (.tmp 10) ∧ o.dst = some 118 ∧ o.guard = none := ⟨_, by rw [hops]; rfl, rfl, rfl, rfl⟩
            obtain ⟨o8, po8, q8, d8, gd8⟩ : ∃ o, ops[8]? = some o ∧ o.op = .indexAddr 33 (.tmp 117) (.tmp 118) ∧ o.dst = some 119 ∧ o.guard = none := ⟨_, by rw [hops]; rfl, rfl, rfl, rfl⟩
            obtain ⟨o9, po9, q9, d9, gd9⟩ : ∃ o, ops[9]? = some o ∧ o.op = .load 22 (.tmp 119) ∧ o.dst = some 120 ∧ o.guard = none := ⟨_, by rw [hops]; rfl, rfl, rfl, rfl⟩
            obtain ⟨o10, po10, q10, d10, gd10⟩ : ∃ o, ops[10]? = some o ∧ o.op = .call { callee := .value (.func 17), args := #[.tmp 111, .tmp 113, .tmp 114, .tmp 116, .tmp 120], argTypes := #[25, 38, 40, 22, 22] } ∧ o.dst = some 121 ∧ o.guard = none := ⟨_, by rw [hops]; rfl, rfl, rfl, rfl⟩
            obtain ⟨o11, po11, q11, d11, gd11⟩ : ∃ o, ops[11]? = some o ∧ o.op = .move (.tmp 121) ∧ o.dst = some 110 ∧ o.guard = none := ⟨_, by rw [hops]; rfl, rfl, rfl, rfl⟩
            obtain ⟨o12, po12, q12, d12, gd12⟩ : ∃ o, ops[12]? = some o ∧ o.op = .extract (.tmp 110) 0 ∧ o.dst = some 122 ∧ o.guard = none := ⟨_, by rw [hops]; rfl, rfl, rfl, rfl⟩
            obtain ⟨o13, po13, q13, d13, gd13⟩ : ∃ o, ops[13]? = some o ∧ o.op = .extract (.tmp 110) 1 ∧ o.dst = some 123 ∧ o.guard = none := ⟨_, by rw [hops]; rfl, rfl, rfl, rfl⟩
            obtain ⟨o14, po14, q14, d14, gd14⟩ : ∃ o, ops[14]? = some o ∧ o.op = .assign (.tmp 122) ∧ o.dst = some 18 ∧ o.guard = none := ⟨_, by rw [hops]; rfl, rfl, rfl, rfl⟩
            obtain ⟨o15, po15, q15, d15, gd15⟩ : ∃ o, ops[15]? = some o ∧ o.op = .assign (.tmp 123) ∧ o.dst = some 19 ∧ o.guard = none := ⟨_, by rw [hops]; rfl, rfl, rfl, rfl⟩
            clear hops
            refine met_free po0 d0 (wanted_of gd0) (fun w' h' => run_move q0 base7 w') ?_
            refine met_free po1 d1 (wanted_of gd1) (fun w' h' => run_fieldThing0 q1 ((eval_other _ 111 11 _ (by decide)).trans base11) w') ?_
            refine met_free po2 d2 (wanted_of gd2) (fun w' h' => run_loadKeyT q2 (eval_same _ _ _ (by simp only [put_size, hsz]; decide)) h'.bk.ok.key (h'.bk.th.parts h'.bk.ok.key h'.bk.ok.nonce).1) ?_
            refine met_free po3 d3 (wanted_of gd3) (fun w' h' => run_loadNonceB q3 ((eval_other _ 113 15 _ (by decide)).trans ((eval_other _ 112 15 _ (by decide)).trans ((eval_other _ 111 15 _ (by decide)).trans base15))) HNL.out h'.nonce) ?_
            refine met_free po4 d4 (wanted_of gd4) (fun w' h' => run_fieldThing2 q4 ((eval_other _ 114 11 _ (by decide)).trans ((eval_other _ 113 11 _ (by decide)).trans ((eval_other _ 112 11 _ (by decide)).trans ((eval_other _ 111 11 _ (by decide)).trans base11)))) w') ?_
            refine met_free po5 d5 (wanted_of gd5) (fun w' h' => run_loadSlT q5 (eval_same _ _ _ (by simp only [put_size, hsz]; decide)) (h'.bk.th.parts h'.bk.ok.key h'.bk.ok.nonce).2.2.1) ?_
            refine met_free po6 d6 (wanted_of gd6) (fun w' h' => run_move q6 ((eval_other _ 116 8 _ (by decide)).trans ((eval_other _ 115 8 _ (by decide)).trans ((eval_other _ 114 8 _ (by decide)).trans ((eval_other _ 113 8 _ (by decide)).trans ((eval_other _ 112 8 _ (by decide)).trans ((eval_other _ 111 8 _ (by decide)).trans base8)))))) w') ?_
            refine met_free po7 d7 (wanted_of gd7) (fun w' h' => run_move q7 ((eval_other _ 117 10 _ (by decide)).trans ((eval_other _ 116 10 _ (by decide)).trans ((eval_other _ 115 10 _ (by decide)).trans ((eval_other _ 114 10 _ (by decide)).trans ((eval_other _ 113 10 _ (by decide)).trans ((eval_other _ 112 10 _ (by decide)).trans ((eval_other _ 111 10 _ (by decide)).trans base10))))))) w') ?_
            refine met_free po8 d8 (wanted_of gd8) (fun w' h' => run_ixNest' q8 ((eval_other _ 118 117 _ (by decide)).trans (eval_same _ _ _ (by simp only [put_size, hsz]; decide))) (eval_same _ _ _ (by simp only [put_size, hsz]; decide)) hlt w') ?_
            refine met_free po9 d9 (wanted_of gd9) (fun w' h' => run_loadSlT q9 (eval_same _ _ _ (by simp only [put_size, hsz]; decide)) h'.bk.cell) ?_
            refine m_enter po10 d10 (wanted_of gd10) (run_callf5 q10 rfl ((eval_other _ 120 111 _ (by decide)).trans ((eval_other _ 119 111 _ (by decide)).trans ((eval_other _ 118 111 _ (by decide)).trans ((eval_other _ 117 111 _ (by decide)).trans ((eval_other _ 116 111 _ (by decide)).trans ((eval_other _ 115 111 _ (by decide)).trans ((eval_other _ 114 111 _ (by decide)).trans ((eval_other _ 113 111 _ (by decide)).trans ((eval_other _ 112 111 _ (by decide)).trans (eval_same _ _ _ (by rw [hsz]; decide))))))))))) ((eval_other _ 120 113 _ (by decide)).trans ((eval_other _ 119 113 _ (by decide)).trans ((eval_other _ 118 113 _ (by decide)).trans ((eval_other _ 117 113 _ (by decide)).trans ((eval_other _ 116 113 _ (by decide)).trans ((eval_other _ 115 113 _ (by decide)).trans ((eval_other _ 114 113 _ (by decide)).trans (eval_same _ _ _ (by simp only [put_size, hsz]; decide))))))))) ((eval_other _ 120 114 _ (by decide)).trans ((eval_other _ 119 114 _ (by decide)).trans ((eval_other _ 118 114 _ (by decide)).trans ((eval_other _ 117 114 _ (by decide)).trans ((eval_other _ 116 114 _ (by decide)).trans ((eval_other _ 115 114 _ (by decide)).trans (eval_same _ _ _ (by simp only [put_size, hsz]; decide)))))))) ((eval_other _ 120 116 _ (by decide)).trans ((eval_other _ 119 116 _ (by decide)).trans ((eval_other _ 118 116 _ (by decide)).trans ((eval_other _ 117 116 _ (by decide)).trans (eval_same _ _ _ (by simp only [put_size, hsz]; decide)))))) (eval_same _ _ _ (by simp only [put_size, hsz]; decide)) Try.func17 (by kernel_rfl) _) (codeOpen_any S1 _ _ l t.key N' t.head s (allA l 0 0 ts) _ s.length t.hp qs t.hc cs w12.drew HD12.out.bk.ok.key HNL.out rfl rfl HLC.out (by rw [HAL.out]; omega) HSM.out HD12.out.bk.ok.head HD12.out.bk.lies (HX6.out.keep (F := fun _ => False) (Below.stays HD12.out.bk.below) (fun _ h => h.elim))) ?_
            rintro e w13 ⟨u13', he, -, hb13⟩
            rw [HNO.out t.key N' t.head (fun h => HNN.out h.2.1)] at he
            have HW13 := Lib.hid (HD12.out.on hb13)
            clear hb13
            refine ⟨_, he, HW13.out, ?_⟩
            refine met_free po11 d11 (wanted_of gd11) (fun w' h' => run_move q11 (eval_same _ _ _ (by simp only [put_size, hsz]; decide)) w') ?_
            refine met_free po12 d12 (wanted_of gd12) (fun w' h' => run_extract q12 (eval_same _ _ _ (by simp only [put_size, hsz]; decide)) rfl w') ?_
            refine met_free po13 d13 (wanted_of gd13) (fun w' h' => run_extract q13 ((eval_other _ 122 110 _ (by decide)).trans (eval_same _ _ _ (by simp only [put_size, hsz]; decide))) rfl w') ?_
            refine met_free po14 d14 (wanted_of gd14) (fun w' h' => run_assign q14 ((eval_other _ 123 122 _ (by decide)).trans (eval_same _ _ _ (by simp only [put_size, hsz]; decide))) w') ?_
            refine met_free po15 d15 (wanted_of gd15) (fun w' h' => run_assign q15 ((eval_other _ 18 123 _ (by decide)).trans (eval_same _ _ _ (by simp only [put_size, hsz]; decide))) w') ?_
            show NoPanic _ .normal _ _
            refine NoPanic.normal ?_
            rw [HAA.out]
            go_frame
            clear HAA
            clear HD12 HW12
            go_upto_region 18 with (fail)
            have HD13 := Lib.hid (HW13.out.on ((Below.refl _ _).drew))
            go_cut [20, 21] from 38 to 172 (fun s20 s21 wx => s21 = .bool false ∧ BkW w6 T g1 k t s qs cs wx)
            case first =>
              refine region_tree (BkW2 w6 T g1 k t s qs cs gk gn K' N') HD13.out (.pure 0 (.pure 1 (.pure 2 (.pure 3 (.pure 4 (.pure 5 (.pure 6 (.pure 10 (.pure 11 (.pure 12 (.pure 13 (.two 7 8 (.one 8 (.one 9 (.one 14 (.pure 15 (.pure 16 (.pure 17 (.pure 18 (.pure 19 .nil)))))))) (.one 7 (.one 9 (.one 14 (.pure 15 (.pure 16 (.pure 17 (.pure 18 (.pure 19 .nil)))))))))))))))))))) (by kernel_rfl) (by kernel_rfl) (by kernel_rfl) (fun ops hops A2 hA => ?_)
              have hsz : A2.tmps.size = 212 := by rw [hA]; rfl
              have base7 : A2.eval (.tmp 7) = .pointer (some ⟨bx, 0, none⟩) := by rw [hA]; rfl
              have base8 : A2.eval (.tmp 8) = .slice (some ⟨g1, 0, none⟩) no c1 := by rw [hA]; rfl
              have base10 : A2.eval (.tmp 10) = .int .i64 (k : Int) := by rw [hA]; rfl
              have base11 : A2.eval (.tmp 11) = .pointer (some ⟨T, 0, none⟩) := by rw [hA]; rfl
              have HAA := Lib.hid hA; clear hA
              obtain ⟨o0, po0, q0, d0, gd0⟩ : ∃ o, ops[0]? = some o ∧ o.op = .move (.tmp 7) ∧ o.dst = some 125 ∧ o.guard = none := ⟨_, by rw [hops]; rfl, rfl, rfl, rfl⟩
              obtain ⟨o1, po1, q1, d1, gd1⟩ : ∃ o, ops[1]? = some o ∧ o.op = .fieldAddr 50 (.tmp 11) 0 ∧ o.dst = some 126 ∧ o.guard = none := ⟨_, by rw [hops]; rfl, rfl, rfl, rfl⟩
              obtain ⟨o2, po2, q2, d2, gd2⟩ : ∃ o, ops[2]? = some o ∧ o.op = .load 38 (.tmp 126) ∧ o.dst = some 127 ∧ o.guard = none := ⟨_, by rw [hops]; rfl, rfl, rfl, rfl⟩
              obtain ⟨o3, po3, q3, d3, gd3⟩ : ∃ o, ops[3]? = some o ∧ o.op = .fieldAddr 50 (.tmp 11) 1 ∧ o.dst = some 128 ∧ o.guard = none := ⟨_, by rw [hops]; rfl, rfl, rfl, rfl⟩
              obtain ⟨o4, po4, q4, d4, gd4⟩ : ∃ o, ops[4]? = some o ∧ o.op = .load 40 (.tmp 128) ∧ o.dst = some 129 ∧ o.guard = none := ⟨_, by rw [hops]; rfl, rfl, rfl, rfl⟩
              obtain ⟨o5, po5, q5, d5, gd5⟩ : ∃ o, ops[5]? = some o ∧ o.op = .fieldAddr 50 (.tmp 11) 2 ∧ o.dst = some 130 ∧ o.guard = none := ⟨_, by rw [hops]; rfl, rfl, rfl, rfl⟩
              obtain ⟨o6, po6, q6, d6, gd6⟩ : ∃ o, ops[6]? = some o ∧ o.op = .load 22 (.tmp 130) ∧ o.dst = some 131 ∧ o.guard = none := ⟨_, by rw [hops]; rfl, rfl, rfl, rfl⟩
              obtain ⟨o7, po7, q7, d7, gd7⟩ : ∃ o, ops[7]? = some o ∧ o.op = .call { callee := .value (.func 21), args := #[.tmp 131], argTypes := #[22] } ∧ o.dst = some 132 ∧ o.guard = none := ⟨_, by rw [hops]; rfl, rfl, rfl, rfl⟩
              obtain ⟨o8, po8, q8, d8, gd8⟩ : ∃ o, ops[8]? = some o ∧ o.op = .buildSlice 22 1 #[(0, (.const (.int .u8 0)))] ∧ o.dst = some 133 ∧ o.guard = none := ⟨_, by rw [hops]; rfl, rfl, rfl, rfl⟩
              obtain ⟨o9, po9, q9, d9, gd9⟩ : ∃ o, ops[9]? = some o ∧ o.op = .call { callee := .builtin .append, args := #[.tmp 132, .tmp 133], argTypes := #[22, 22] } ∧ o.dst = some 134 ∧ o.guard = none := ⟨_, by rw [hops]; rfl, rfl, rfl, rfl⟩
              obtain ⟨o10, po10, q10, d10, gd10⟩ : ∃ o, ops[10]? = some o ∧ o.op = .move (.tmp 8) ∧ o.dst = some 135 ∧ o.guard = none := ⟨_, by rw [hops]; rfl, rfl, rfl, rfl⟩
              obtain ⟨o11, po11, q11, d11, gd11⟩ : ∃ o, ops[11]? = some o ∧ o.op = .move (.tmp 10) ∧ o.dst = some 136 ∧ o.guard = none := ⟨_, by rw [hops]; rfl, rfl, rfl, rfl⟩
              obtain ⟨o12, po12, q12, d12, gd12⟩ : ∃ o, ops[12]? = some o ∧ o.op = .indexAddr 33 (.tmp 135) (.tmp 136) ∧ o.dst = some 137 ∧ o.guard = none := ⟨_, by rw [hops]; rfl, rfl, rfl, rfl⟩
              obtain ⟨o13, po13, q13, d13, gd13⟩ : ∃ o, ops[13]? = some o ∧ o.op = .load 22 (.tmp 137) ∧ o.dst = some 138 ∧ o.guard = none := ⟨_, by rw [hops]; rfl, rfl, rfl, rfl⟩
              obtain ⟨o14, po14, q14, d14, gd14⟩ : ∃ o, ops[14]? = some o ∧ o.op = .call { callee := .value (.func 17), args := #[.tmp 125, .tmp 127, .tmp 129, .tmp 134, .tmp 138], argTypes := #[25, 38, 40, 22, 22] } ∧ o.dst = some 139 ∧ o.guard = none := ⟨_, by rw [hops]; rfl, rfl, rfl, rfl⟩
              obtain ⟨o15, po15, q15, d15, gd15⟩ : ∃ o, ops[15]? = some o ∧ o.op = .move (.tmp 139) ∧ o.dst = some 124 ∧ o.guard = none := ⟨_, by rw [hops]; rfl, rfl, rfl, rfl⟩
              obtain ⟨o16, po16, q16, d16, gd16⟩ : ∃ o, ops[16]? = some o ∧ o.op = .extract (.tmp 124) 0 ∧ o.dst = some 140 ∧ o.guard = none := ⟨_, by rw [hops]; rfl, rfl, rfl, rfl⟩
              obtain ⟨o17, po17, q17, d17, gd17⟩ : ∃ o, ops[17]? = some o ∧ o.op = .extract (.tmp 124) 1 ∧ o.dst = some 141 ∧ o.guard = none := ⟨_, by rw [hops]; rfl, rfl, rfl, rfl⟩
              obtain ⟨o18, po18, q18, d18, gd18⟩ : ∃ o, ops[18]? = some o ∧ o.op = .assign (.tmp 140) ∧ o.dst = some 20 ∧ o.guard = none := ⟨_, by rw [hops]; rfl, rfl, rfl, rfl⟩
              obtain ⟨o19, po19, q19, d19, gd19⟩ : ∃ o, ops[19]? = some o ∧ o.op = .assign (.tmp 141) ∧ o.dst = some 21 ∧ o.guard = none := ⟨_, by rw [hops]; rfl, rfl, rfl, rfl⟩
              clear hops
              refine Tr.takes po0 d0 (wanted_of gd0) (fun w' h' => run_move q0 base7 w') ?_
              refine Tr.takes po1 d1 (wanted_of gd1) (fun w' h' => run_fieldThing0 q1 ((eval_other _ 125 11 _ (by decide)).trans base11) w') ?_
              refine Tr.takes po2 d2 (wanted_of gd2) (fun w' h' => run_loadKeyT q2 (eval_same _ _ _ (by simp only [put_size, hsz]; decide)) h'.bk.ok.key (h'.bk.th.parts h'.bk.ok.key h'.bk.ok.nonce).1) ?_
              refine Tr.takes po3 d3 (wanted_of gd3) (fun w' h' => run_fieldThing1 q3 ((eval_other _ 127 11 _ (by decide)).trans ((eval_other _ 126 11 _ (by decide)).trans ((eval_other _ 125 11 _ (by decide)).trans base11))) w') ?_
              refine Tr.takes po4 d4 (wanted_of gd4) (fun w' h' => run_loadNonceT q4 (eval_same _ _ _ (by simp only [put_size, hsz]; decide)) h'.bk.ok.nonce (h'.bk.th.parts h'.bk.ok.key h'.bk.ok.nonce).2.1) ?_
              refine Tr.takes po5 d5 (wanted_of gd5) (fun w' h' => run_fieldThing2 q5 ((eval_other _ 129 11 _ (by decide)).trans ((eval_other _ 128 11 _ (by decide)).trans ((eval_other _ 127 11 _ (by decide)).trans ((eval_other _ 126 11 _ (by decide)).trans ((eval_other _ 125 11 _ (by decide)).trans base11))))) w') ?_
              refine Tr.takes po6 d6 (wanted_of gd6) (fun w' h' => run_loadSlT q6 (eval_same _ _ _ (by simp only [put_size, hsz]; decide)) (h'.bk.th.parts h'.bk.ok.key h'.bk.ok.nonce).2.2.1) ?_
              refine Tr.takes po10 d10 (wanted_of gd10) (fun w' h' => run_move q10 ((eval_other _ 131 8 _ (by decide)).trans ((eval_other _ 130 8 _ (by decide)).trans ((eval_other _ 129 8 _ (by decide)).trans ((eval_other _ 128 8 _ (by decide)).trans ((eval_other _ 127 8 _ (by decide)).trans ((eval_other _ 126 8 _ (by decide)).trans ((eval_other _ 125 8 _ (by decide)).trans base8))))))) w') ?_
              refine Tr.takes po11 d11 (wanted_of gd11) (fun w' h' => run_move q11 ((eval_other _ 135 10 _ (by decide)).trans ((eval_other _ 131 10 _ (by decide)).trans ((eval_other _ 130 10 _ (by decide)).trans ((eval_other _ 129 10 _ (by decide)).trans ((eval_other _ 128 10 _ (by decide)).trans ((eval_other _ 127 10 _ (by decide)).trans ((eval_other _ 126 10 _ (by decide)).trans ((eval_other _ 125 10 _ (by decide)).trans base10)))))))) w') ?_
              refine Tr.takes po12 d12 (wanted_of gd12) (fun w' h' => run_ixNest' q12 ((eval_other _ 136 135 _ (by decide)).trans (eval_same _ _ _ (by simp only [put_size, hsz]; decide))) (eval_same _ _ _ (by simp only [put_size, hsz]; decide)) hlt w') ?_
              refine Tr.takes po13 d13 (wanted_of gd13) (fun w' h' => run_loadSlT q13 (eval_same _ _ _ (by simp only [put_size, hsz]; decide)) h'.bk.cell) ?_
              refine ⟨?_, ?_⟩
              · skip
                refine at_enter po7 d7 (wanted_of gd7) (run_callf1 q7 rfl ((eval_other _ 138 131 _ (by decide)).trans ((eval_other _ 137 131 _ (by decide)).trans ((eval_other _ 136 131 _ (by decide)).trans ((eval_other _ 135 131 _ (by decide)).trans (eval_same _ _ _ (by simp only [put_size, hsz]; decide)))))) Try.func21 (by kernel_rfl) _) (copy_any t.head t.hp t.hc w13.drew (by have := HTS.out; omega) HD13.out.bk.ok.head) ?_
                rintro e wa ⟨va, rfl, hoa, hba⟩
                have hwa : BkW2 w6 T g1 k t s qs cs gk gn K' N' wa := HD13.out.on hba
                refine ⟨_, rfl, hwa, ?_⟩
                refine at_op po8 d8 (wanted_of gd8) (run_build1 q8 rfl wa) ⟨hwa.on ((Below.refl _ _).alloc (Nat.le_refl _) _), ?_⟩
                have hbz : Below wa.heap.size wa (wa.alloc (.cells #[.int .u8 0] 5)) := (Below.refl _ _).alloc (Nat.le_refl _) _
                have hz : BytesAt (wa.alloc (.cells #[.int .u8 0] 5)) wa.heap.size 5 [0#8] := heap_new_at rfl
                have hwb := hwa.on hbz
                have hob := hoa.below hbz
                generalize wa.alloc (.cells #[.int .u8 0] 5) = wb at hbz hz hwb hob ⊢
                have zab : wa.heap.size ≤ wb.heap.size := hbz.size
                have z0a : w13.drew.heap.size ≤ wa.heap.size := hba.size
                refine at_wp po9 (wanted_of gd9) (wp_append_bytes _ _ q9 w13.drew.heap.size _ t.head [0#8] wa.heap.size 0 1 ((eval_other _ 133 132 _ (by decide)).trans (eval_same _ _ _ (by simp only [put_size, hsz]; decide))) hob (eval_same _ _ _ (by simp only [put_size, hsz]; decide)) hz.range (by simp) (by have := HTS.out; simp; omega) (by omega) ?_)
                intro v9 w9 ho9 hb9
                rw [d9]
                have hw9 : BkW2 w6 T g1 k t s qs cs gk gn K' N' w9 := HD13.out.on ((hba.trans (hbz.mono z0a)).trans hb9)
                refine ⟨hw9, ?_⟩
                obtain ⟨p9, c9, hv9, -, -, hl9⟩ := ho9.lies
                subst hv9
                refine at_enter po14 d14 (wanted_of gd14) (run_callf5 q14 rfl ((eval_other _ 134 125 _ (by decide)).trans ((eval_other _ 133 125 _ (by decide)).trans ((eval_other _ 132 125 _ (by decide)).trans ((eval_other _ 138 125 _ (by decide)).trans ((eval_other _ 137 125 _ (by decide)).trans ((eval_other _ 136 125 _ (by decide)).trans ((eval_other _ 135 125 _ (by decide)).trans ((eval_other _ 131 125 _ (by decide)).trans ((eval_other _ 130 125 _ (by decide)).trans ((eval_other _ 129 125 _ (by decide)).trans ((eval_other _ 128 125 _ (by decide)).trans ((eval_other _ 127 125 _ (by decide)).trans ((eval_other _ 126 125 _ (by decide)).trans (eval_same _ _ _ (by rw [hsz]; decide))))))))))))))) ((eval_other _ 134 127 _ (by decide)).trans ((eval_other _ 133 127 _ (by decide)).trans ((eval_other _ 132 127 _ (by decide)).trans ((eval_other _ 138 127 _ (by decide)).trans ((eval_other _ 137 127 _ (by decide)).trans ((eval_other _ 136 127 _ (by decide)).trans ((eval_other _ 135 127 _ (by decide)).trans ((eval_other _ 131 127 _ (by decide)).trans ((eval_other _ 130 127 _ (by decide)).trans ((eval_other _ 129 127 _ (by decide)).trans ((eval_other _ 128 127 _ (by decide)).trans (eval_same _ _ _ (by simp only [put_size, hsz]; decide))))))))))))) ((eval_other _ 134 129 _ (by decide)).trans ((eval_other _ 133 129 _ (by decide)).trans ((eval_other _ 132 129 _ (by decide)).trans ((eval_other _ 138 129 _ (by decide)).trans ((eval_other _ 137 129 _ (by decide)).trans ((eval_other _ 136 129 _ (by decide)).trans ((eval_other _ 135 129 _ (by decide)).trans ((eval_other _ 131 129 _ (by decide)).trans ((eval_other _ 130 129 _ (by decide)).trans (eval_same _ _ _ (by simp only [put_size, hsz]; decide))))))))))) (eval_same _ _ _ (by simp only [put_size, hsz]; decide)) ((eval_other _ 134 138 _ (by decide)).trans ((eval_other _ 133 138 _ (by decide)).trans ((eval_other _ 132 138 _ (by decide)).trans (eval_same _ _ _ (by simp only [put_size, hsz]; decide))))) Try.func17 (by kernel_rfl) _) (codeOpen_any S1 _ _ l t.key t.nonce (t.head ++ [0#8]) s (allA l 0 0 ts) _ s.length p9 qs c9 cs w9 hw9.bk.ok.key hw9.bk.ok.nonce rfl rfl HLC.out (by rw [HAL.out]; omega) HSM.out hl9 hw9.bk.lies (HX6.out.keep (F := fun _ => False) (Below.stays hw9.bk.below) (fun _ h => h.elim))) ?_
                rintro e w14 ⟨u14', he, -, hb14⟩
                rw [HNO.out t.key t.nonce (t.head ++ [0#8]) (fun h => by have := congrArg List.length h.2.2; simp at this)] at he
                have HW14 := Lib.hid (hw9.on hb14)
                refine ⟨_, he, HW14.out, ?_⟩
                refine Tr.takes po15 d15 (wanted_of gd15) (fun w' h' => run_move q15 (eval_same _ _ _ (by simp only [put_size, hsz]; decide)) w') ?_
                refine Tr.takes po16 d16 (wanted_of gd16) (fun w' h' => run_extract q16 (eval_same _ _ _ (by simp only [put_size, hsz]; decide)) rfl w') ?_
                refine Tr.takes po17 d17 (wanted_of gd17) (fun w' h' => run_extract q17 ((eval_other _ 140 124 _ (by decide)).trans (eval_same _ _ _ (by simp only [put_size, hsz]; decide))) rfl w') ?_
                refine Tr.takes po18 d18 (wanted_of gd18) (fun w' h' => run_assign q18 ((eval_other _ 141 140 _ (by decide)).trans (eval_same _ _ _ (by simp only [put_size, hsz]; decide))) w') ?_
                refine Tr.takes po19 d19 (wanted_of gd19) (fun w' h' => run_assign q19 ((eval_other _ 20 141 _ (by decide)).trans (eval_same _ _ _ (by simp only [put_size, hsz]; decide))) w') ?_
                show NoPanic _ .normal _ _
                refine NoPanic.normal ?_
                rw [HAA.out]
                go_frame
                go_wp2_with fail
                go_meet
                exact ⟨rfl, HW14.out.bk⟩
              · skip
                refine at_op po8 d8 (wanted_of gd8) (run_build1 q8 rfl w13.drew) ⟨HD13.out.on ((Below.refl _ _).alloc (Nat.le_refl _) _), ?_⟩
                have hbz : Below w13.drew.heap.size w13.drew (w13.drew.alloc (.cells #[.int .u8 0] 5)) := (Below.refl _ _).alloc (Nat.le_refl _) _
                have hz : BytesAt (w13.drew.alloc (.cells #[.int .u8 0] 5)) w13.drew.heap.size 5 [0#8] := heap_new_at rfl
                have hwz := HD13.out.on hbz
                generalize w13.drew.alloc (.cells #[.int .u8 0] 5) = wz at hbz hz hwz ⊢
                have z0z : w13.drew.heap.size ≤ wz.heap.size := hbz.size
                refine at_enter po7 d7 (wanted_of gd7) (run_callf1 q7 rfl ((eval_other _ 133 131 _ (by decide)).trans ((eval_other _ 138 131 _ (by decide)).trans ((eval_other _ 137 131 _ (by decide)).trans ((eval_other _ 136 131 _ (by decide)).trans ((eval_other _ 135 131 _ (by decide)).trans (eval_same _ _ _ (by simp only [put_size, hsz]; decide))))))) Try.func21 (by kernel_rfl) _) (copy_any t.head t.hp t.hc wz (by have := HTS.out; omega) hwz.bk.ok.head) ?_
                rintro e wa ⟨va, rfl, hoa, hba⟩
                have hwa : BkW2 w6 T g1 k t s qs cs gk gn K' N' wa := hwz.on hba
                have hza := hz.keep hba
                have zza : wz.heap.size ≤ wa.heap.size := hba.size
                refine ⟨_, rfl, hwa, ?_⟩
                refine at_wp po9 (wanted_of gd9) (wp_append_bytes _ _ q9 wz.heap.size _ t.head [0#8] w13.drew.heap.size 0 1 (eval_same _ _ _ (by simp only [put_size, hsz]; decide)) hoa ((eval_other _ 132 133 _ (by decide)).trans (eval_same _ _ _ (by simp only [put_size, hsz]; decide))) hza.range (by simp) (by have := HTS.out; simp; omega) (by omega) ?_)
                intro v9 w9 ho9 hb9
                rw [d9]
                have hw9 : BkW2 w6 T g1 k t s qs cs gk gn K' N' w9 := HD13.out.on (hbz.trans ((hba.trans hb9).mono z0z))
                refine ⟨hw9, ?_⟩
                obtain ⟨p9, c9, hv9, -, -, hl9⟩ := ho9.lies
                subst hv9
                refine at_enter po14 d14 (wanted_of gd14) (run_callf5 q14 rfl ((eval_other _ 134 125 _ (by decide)).trans ((eval_other _ 132 125 _ (by decide)).trans ((eval_other _ 133 125 _ (by decide)).trans ((eval_other _ 138 125 _ (by decide)).trans ((eval_other _ 137 125 _ (by decide)).trans ((eval_other _ 136 125 _ (by decide)).trans ((eval_other _ 135 125 _ (by decide)).trans ((eval_other _ 131 125 _ (by decide)).trans ((eval_other _ 130 125 _ (by decide)).trans ((eval_other _ 129 125 _ (by decide)).trans ((eval_other _ 128 125 _ (by decide)).trans ((eval_other _ 127 125 _ (by decide)).trans ((eval_other _ 126 125 _ (by decide)).trans (eval_same _ _ _ (by rw [hsz]; decide))))))))))))))) ((eval_other _ 134 127 _ (by decide)).trans ((eval_other _ 132 127 _ (by decide)).trans ((eval_other _ 133 127 _ (by decide)).trans ((eval_other _ 138 127 _ (by decide)).trans ((eval_other _ 137 127 _ (by decide)).trans ((eval_other _ 136 127 _ (by decide)).trans ((eval_other _ 135 127 _ (by decide)).trans ((eval_other _ 131 127 _ (by decide)).trans ((eval_other _ 130 127 _ (by decide)).trans ((eval_other _ 129 127 _ (by decide)).trans ((eval_other _ 128 127 _ (by decide)).trans (eval_same _ _ _ (by simp only [put_size, hsz]; decide))))))))))))) ((eval_other _ 134 129 _ (by decide)).trans ((eval_other _ 132 129 _ (by decide)).trans ((eval_other _ 133 129 _ (by decide)).trans ((eval_other _ 138 129 _ (by decide)).trans ((eval_other _ 137 129 _ (by decide)).trans ((eval_other _ 136 129 _ (by decide)).trans ((eval_other _ 135 129 _ (by decide)).trans ((eval_other _ 131 129 _ (by decide)).trans ((eval_other _ 130 129 _ (by decide)).trans (eval_same _ _ _ (by simp only [put_size, hsz]; decide))))))))))) (eval_same _ _ _ (by simp only [put_size, hsz]; decide)) ((eval_other _ 134 138 _ (by decide)).trans ((eval_other _ 132 138 _ (by decide)).trans ((eval_other _ 133 138 _ (by decide)).trans (eval_same _ _ _ (by simp only [put_size, hsz]; decide))))) Try.func17 (by kernel_rfl) _) (codeOpen_any S1 _ _ l t.key t.nonce (t.head ++ [0#8]) s (allA l 0 0 ts) _ s.length p9 qs c9 cs w9 hw9.bk.ok.key hw9.bk.ok.nonce rfl rfl HLC.out (by rw [HAL.out]; omega) HSM.out hl9 hw9.bk.lies (HX6.out.keep (F := fun _ => False) (Below.stays hw9.bk.below) (fun _ h => h.elim))) ?_
                rintro e w14 ⟨u14', he, -, hb14⟩
                rw [HNO.out t.key t.nonce (t.head ++ [0#8]) (fun h => by have := congrArg List.length h.2.2; simp at this)] at he
                have HW14 := Lib.hid (hw9.on hb14)
                refine ⟨_, he, HW14.out, ?_⟩
                refine Tr.takes po15 d15 (wanted_of gd15) (fun w' h' => run_move q15 (eval_same _ _ _ (by simp only [put_size, hsz]; decide)) w') ?_
                refine Tr.takes po16 d16 (wanted_of gd16) (fun w' h' => run_extract q16 (eval_same _ _ _ (by simp only [put_size, hsz]; decide)) rfl w') ?_
                refine Tr.takes po17 d17 (wanted_of gd17) (fun w' h' => run_extract q17 ((eval_other _ 140 124 _ (by decide)).trans (eval_same _ _ _ (by simp only [put_size, hsz]; decide))) rfl w') ?_
                refine Tr.takes po18 d18 (wanted_of gd18) (fun w' h' => run_assign q18 ((eval_other _ 141 140 _ (by decide)).trans (eval_same _ _ _ (by simp only [put_size, hsz]; decide))) w') ?_
                refine Tr.takes po19 d19 (wanted_of gd19) (fun w' h' => run_assign q19 ((eval_other _ 20 141 _ (by decide)).trans (eval_same _ _ _ (by simp only [put_size, hsz]; decide))) w') ?_
                show NoPanic _ .normal _ _
                refine NoPanic.normal ?_
                rw [HAA.out]
                go_frame
                go_wp2_with fail
                go_meet
                exact ⟨rfl, HW14.out.bk⟩
            case rest =>
              obtain ⟨rfl, hw14⟩ := hcut
              have HW14 := Lib.hid hw14; clear hw14 HD13 HW13
              go_wp2_with fail
              go_loopw [22] (fun i wq => ∃ j : Nat, j ≤ k ∧ i = .int .i64 (j : Int) ∧ BkW w6 T g1 k t s qs cs wq) (fun i _ => k - (intOf i).toNat)
              case atStart => exact ⟨0, by omega, rfl, HW14.out⟩
              case round =>
                clear HW14
                obtain ⟨j, hj, rfl, hw⟩ := hrel
                have HW := Lib.hid hw; clear hw
                have hsl3 : s.length < 1000000 := by have h1 := HSL2.out; have h2 := HTS.out; omega
                by_cases hjk : j < k
                · have q2 : (j : Int) < (k : Int) := by omega
                  have hjn : j < no := by omega
                  have hjt : j < ts.length := by have := HOS.out; omega
                  obtain ⟨s', hs', -, hsl', -⟩ := all_at l ts 0 0 j (by have := HTN.out; omega) hjt
                  have HNE := Lib.hid (HAP.out j s' hjk hs')
                  have HD := Lib.hid (HW.out.on ((Below.refl _ _).drew))
                  have hsl4 : s'.length < 1000000 := by
                    have h1 := (HSL.out.2 (ts[j]'hjt) (List.getElem_mem _)).2
                    omega
                  rcases HAT6.out.below HD.out.below with h0 | ⟨g', e', hnest⟩
                  · exfalso; rw [h0] at hs'; simp at hs'
                  cases e'
                  obtain ⟨qj, cj, hcj, -, hlj⟩ := hnest j s' hs'
                  have HE24 : Hid (wr.drew.cell? ⟨g1, k, none⟩ = some (.slice qs s.length cs) ∧ wr.drew.cell? ⟨g1, j, none⟩ = some (.slice qj s'.length cj)) := show _ ∧ _ from ⟨HD.out.cell, hcj⟩
                  have HLJ := Lib.hid hlj
                  clear hnest hcj hlj hs' hsl'
                  go_upto_region 24 with (fail)
                  refine region_phase (fun _ => True) (fun wr' => wr'.cell? ⟨g1, k, none⟩ = some (.slice qs s.length cs) ∧ wr'.cell? ⟨g1, j, none⟩ = some (.slice qj s'.length cj)) 8 (trivial) HE24.out [(0, .free), (1, .free), (2, .free), (3, .early), (4, .free), (5, .free), (6, .free), (7, .early), (8, .behind)] (by kernel_rfl) (by kernel_rfl) (by kernel_rfl) (by kernel_rfl) (fun ops hops A2 hA => ?_)
                  have hsz : A2.tmps.size = 212 := by rw [hA]; rfl
                  have base8 : A2.eval (.tmp 8) = .slice (some ⟨g1, 0, none⟩) no c1 := by rw [hA]; rfl
                  have base10 : A2.eval (.tmp 10) = .int .i64 (k : Int) := by rw [hA]; rfl
                  have base22 : A2.eval (.tmp 22) = .int .i64 (j : Int) := by rw [hA]; rfl
                  have HAA := Lib.hid hA; clear hA
                  obtain ⟨o0, po0, q0, d0, gd0⟩ : ∃ o, ops[0]? = some o ∧ o.op = .move (.tmp 8) ∧ o.dst = some 154 ∧ o.guard = none := ⟨_, by rw [hops]; rfl, rfl, rfl, rfl⟩
                  obtain ⟨o1, po1, q1, d1, gd1⟩ : ∃ o, ops[1]? = some o ∧ o.op = .move (.tmp 10) ∧ o.dst = some 155 ∧ o.guard = none := ⟨_, by rw [hops]; rfl, rfl, rfl, rfl⟩
                  obtain ⟨o2, po2, q2, d2, gd2⟩ : ∃ o, ops[2]? = some o ∧ o.op = .indexAddr 33 (.tmp 154) (.tmp 155) ∧ o.dst = some 156 ∧ o.guard = none := ⟨_, by rw [hops]; rfl, rfl, rfl, rfl⟩
                  obtain ⟨o3, po3, q3, d3, gd3⟩ : ∃ o, ops[3]? = some o ∧ o.op = .load 22 (.tmp 156) ∧ o.dst = some 157 ∧ o.guard = none := ⟨_, by rw [hops]; rfl, rfl, rfl, rfl⟩
                  obtain ⟨o4, po4, q4, d4, gd4⟩ : ∃ o, ops[4]? = some o ∧ o.op = .move (.tmp 8) ∧ o.dst = some 158 ∧ o.guard = none := ⟨_, by rw [hops]; rfl, rfl, rfl, rfl⟩
                  obtain ⟨o5, po5, q5, d5, gd5⟩ : ∃ o, ops[5]? = some o ∧ o.op = .move (.tmp 22) ∧ o.dst = some 159 ∧ o.guard = none := ⟨_, by rw [hops]; rfl, rfl, rfl, rfl⟩
                  obtain ⟨o6, po6, q6, d6, gd6⟩ : ∃ o, ops[6]? = some o ∧ o.op = .indexAddr 33 (.tmp 158) (.tmp 159) ∧ o.dst = some 160 ∧ o.guard = none := ⟨_, by rw [hops]; rfl, rfl, rfl, rfl⟩
                  obtain ⟨o7, po7, q7, d7, gd7⟩ : ∃ o, ops[7]? = some o ∧ o.op = .load 22 (.tmp 160) ∧ o.dst = some 161 ∧ o.guard = none := ⟨_, by rw [hops]; rfl, rfl, rfl, rfl⟩
                  obtain ⟨o8, po8, q8, d8, gd8⟩ : ∃ o, ops[8]? = some o ∧ o.op = .call { callee := .value (.func 15), args := #[.tmp 157, .tmp 161], argTypes := #[22, 22] } ∧ o.dst = some 162 ∧ o.guard = none := ⟨_, by rw [hops]; rfl, rfl, rfl, rfl⟩
                  clear hops
                  refine met_free po0 d0 (wanted_of gd0) (fun w' h' => run_move q0 base8 w') ?_
                  refine met_free po1 d1 (wanted_of gd1) (fun w' h' => run_move q1 ((eval_other _ 154 10 _ (by decide)).trans base10) w') ?_
                  refine met_free po2 d2 (wanted_of gd2) (fun w' h' => run_ixNest' q2 ((eval_other _ 155 154 _ (by decide)).trans (eval_same _ _ _ (by rw [hsz]; decide))) (eval_same _ _ _ (by simp only [put_size, hsz]; decide)) hlt w') ?_
                  refine met_early po3 d3 (wanted_of gd3) (fun w' h' hE' => run_loadSlT q3 (eval_same _ _ _ (by simp only [put_size, hsz]; decide)) hE'.1) ?_
                  refine met_free po4 d4 (wanted_of gd4) (fun w' h' => run_move q4 ((eval_other _ 157 8 _ (by decide)).trans ((eval_other _ 156 8 _ (by decide)).trans ((eval_other _ 155 8 _ (by decide)).trans ((eval_other _ 154 8 _ (by decide)).trans base8)))) w') ?_
                  refine met_free po5 d5 (wanted_of gd5) (fun w' h' => run_move q5 ((eval_other _ 158 22 _ (by decide)).trans ((eval_other _ 157 22 _ (by decide)).trans ((eval_other _ 156 22 _ (by decide)).trans ((eval_other _ 155 22 _ (by decide)).trans ((eval_other _ 154 22 _ (by decide)).trans base22))))) w') ?_
                  refine met_free po6 d6 (wanted_of gd6) (fun w' h' => run_ixNest' q6 ((eval_other _ 159 158 _ (by decide)).trans (eval_same _ _ _ (by simp only [put_size, hsz]; decide))) (eval_same _ _ _ (by simp only [put_size, hsz]; decide)) hjn w') ?_
                  refine met_early po7 d7 (wanted_of gd7) (fun w' h' hE' => run_loadSlT q7 (eval_same _ _ _ (by simp only [put_size, hsz]; decide)) hE'.2) ?_
                  refine m_enter po8 d8 (wanted_of gd8) (run_callf2 q8 rfl ((eval_other _ 161 157 _ (by decide)).trans ((eval_other _ 160 157 _ (by decide)).trans ((eval_other _ 159 157 _ (by decide)).trans ((eval_other _ 158 157 _ (by decide)).trans (eval_same _ _ _ (by simp only [put_size, hsz]; decide)))))) (eval_same _ _ _ (by simp only [put_size, hsz]; decide)) Try.func15 (by kernel_rfl) _) (sameBytes_any s s' _ _ qs qj cs cj wr.drew rfl rfl hsl3 hsl4 HD.out.lies HLJ.out) ?_
                  rintro e w20 ⟨he, hb20⟩
                  rw [decide_eq_false HNE.out] at he
                  have HW20 := Lib.hid (HD.out.on hb20)
                  clear hb20
                  refine ⟨_, he, trivial, ?_⟩
                  show NoPanic _ .normal _ _
                  refine NoPanic.normal ?_
                  rw [HAA.out]
                  go_frame
                  clear HAA
                  clear HE24 HLJ HD HW
                  go_wp2_with fail
                  go_roundw
                  case rel => exact ⟨j + 1, by omega, by go_num, HW20.out⟩
                  case measure => simp [intOf]; omega
                · have q2 : ¬ (j : Int) < (k : Int) := by omega
                  have ek := HW.out.cell
                  have HLO : Hid (Lies wr pt ot) := show Lies _ _ _ from HPT.out.below (HB6.out.trans (HW.out.below.mono HB6.out.size))
                  cases st with
                  | true =>
                    go_wp2_with fail
                    refine (sameBytes_bigR s ot _ nt qs pt cs ct wr rfl HT.out hsl3 HW.out.lies HLO.out).mono ?_
                    rintro e w21 ⟨rfl, hb21⟩
                    have HB21 : Hid (Below w6.heap.size w6 w21) := show Below _ _ _ from HW.out.below.trans (hb21.mono HW.out.below.size)
                    have HNX : Hid ((!decide (s = ot)) = true → ∀ (j : Nat) (s' : List (BitVec 8)), j < k + 1 → (allOf l 0 0 (lens ts))[j]? = some s' → s' ≠ ot) := show _ → _ from fun h j s' hj' hs' => by
                      by_cases hjk' : j < k
                      · exact HST.out (by simp) j s' hjk' hs'
                      · obtain rfl : j = k := by omega
                        have h1 := HS.out
                        rw [hs'] at h1
                        rw [Option.some.inj h1]
                        simpa using h
                    clear hb21 ek HLO HW HST
                    generalize decide (s = ot) = dd at HNX ⊢
                    go_wp2_with fail
                    go_roundw
                    case rel => exact ⟨k + 1, !dd, by omega, rfl, by go_num, HNX.out, HB21.out⟩
                    case measure => simp [intOf]; omega
                  | false =>
                    go_wp2_with fail
                    go_roundw
                    case rel => exact ⟨k + 1, false, by omega, rfl, by go_num, (fun h => by cases h), HW.out.below⟩
                    case measure => simp [intOf]; omega
      · have q1 : ¬ (k : Int) < (no : Int) := by omega
        have hkn : k = no := by omega
        have HSR : Hid (st = true → ∀ s ∈ allOf l 0 0 (lens ts), s ≠ ot) := show st = true → _ from fun h s hs => by
          obtain ⟨j, hj⟩ := List.getElem?_of_mem hs
          exact HST.out h j s (by have h1 := (List.getElem?_eq_some_iff.1 hj).1; rw [allOf_length, lens_length, HOS.out] at h1; omega) hj
        clear HST hkn hk
        go_wp2_with fail
        go_loopw [23] (fun i wq => ∃ j : Nat, j ≤ no ∧ i = .int .i64 (j : Int) ∧ Below w6.heap.size w6 wq) (fun i _ => no - (intOf i).toNat)
        case atStart => exact ⟨0, by omega, rfl, HB.out⟩
        case round =>
          clear HB HBW
          obtain ⟨j, hj, rfl, hb⟩ := hrel
          have HB := Lib.hid hb; clear hb
          have HBW : Hid (Below w.heap.size w wr) := show Below _ _ _ from HB6.out.trans (HB.out.mono HB6.out.size)
          by_cases hjn : j < no
          · have q1 : (j : Int) < (no : Int) := by omega
            cases st with
            | true =>
              have HBD : Hid (Below w.heap.size w wr.drew) := show Below _ _ _ from HBW.out.trans (((Below.refl wr.heap.size wr).drew).mono HBW.out.size)
              have HBD6 : Hid (Below w6.heap.size w6 wr.drew) := show Below _ _ _ from HB.out.trans (((Below.refl wr.heap.size wr).drew).mono HB.out.size)
              have hjt : j < ts.length := by have := HOS.out; omega
              obtain ⟨t, ht⟩ : ∃ t, t = ts[j] := ⟨_, rfl⟩
              have htm : t ∈ ts := by rw [ht]; exact List.getElem_mem _
              have HTO := Lib.hid ((HOK.out t htm).below HBD.out)
              rcases HOP.out.below HBD.out with h0 | ⟨b, off, rfl, hr⟩
              · exfalso; rw [h0] at hjt; simp at hjt
              have hp := ThingM.parts (hr j hjt) ((HOK.out ts[j] (List.getElem_mem _)).key) ((HOK.out ts[j] (List.getElem_mem _)).nonce)
              rw [← ht] at hp
              have HPR := Lib.hid hp
              have HOTH : Hid ((openA (allA l 0 0 ts) t.key t.nonce t.head ot).isSome = false) := show _ = _ from open_strange HTN.out (HSR.out rfl)
              clear hp hr htm ht hjt
              go_upto_region 30 with (fail)
              refine region_phase (fun _ => True) (fun wr' => wr'.rangeAt b (off + j * 46 + 0) (bytesV t.key) ∧ wr'.rangeAt b (off + j * 46 + 32) (bytesV t.nonce) ∧ wr'.cell? ⟨b, off + j * 46 + 44, none⟩ = some (.slice t.hp t.head.length t.hc) ∧ wr'.cell? ⟨b, off + j * 46 + 45, none⟩ = some (.slice t.tp t.plain.length t.tc)) 17 (trivial) HPR.out [(0, .free), (1, .free), (2, .free), (3, .free), (4, .free), (5, .early), (6, .free), (7, .free), (8, .free), (9, .free), (10, .early), (11, .free), (12, .free), (13, .free), (14, .free), (15, .early), (16, .free), (17, .behind), (18, .free), (19, .free), (20, .free), (21, .free), (22, .free)] (by kernel_rfl) (by kernel_rfl) (by kernel_rfl) (by kernel_rfl) (fun ops hops A2 hA => ?_)
              have hsz : A2.tmps.size = 212 := by rw [hA]; rfl
              have base1 : A2.eval (.tmp 1) = .slice (some ⟨b, off, none⟩) no co := by rw [hA]; rfl
              have base2 : A2.eval (.tmp 2) = .slice pt nt ct := by rw [hA]; rfl
              have base7 : A2.eval (.tmp 7) = .pointer (some ⟨bx, 0, none⟩) := by rw [hA]; rfl
              have base23 : A2.eval (.tmp 23) = .int .i64 (j : Int) := by rw [hA]; rfl
              have HAA := Lib.hid hA; clear hA
              obtain ⟨o0, po0, q0, d0, gd0⟩ : ∃ o, ops[0]? = some o ∧ o.op = .move (.tmp 7) ∧ o.dst = some 183 ∧ o.guard = none := ⟨_, by rw [hops]; rfl, rfl, rfl, rfl⟩
              obtain ⟨o1, po1, q1, d1, gd1⟩ : ∃ o, ops[1]? = some o ∧ o.op = .move (.tmp 1) ∧ o.dst = some 184 ∧ o.guard = none := ⟨_, by rw [hops]; rfl, rfl, rfl, rfl⟩
              obtain ⟨o2, po2, q2, d2, gd2⟩ : ∃ o, ops[2]? = some o ∧ o.op = .move (.tmp 23) ∧ o.dst = some 185 ∧ o.guard = none := ⟨_, by rw [hops]; rfl, rfl, rfl, rfl⟩
              obtain ⟨o3, po3, q3, d3, gd3⟩ : ∃ o, ops[3]? = some o ∧ o.op = .indexAddr 46 (.tmp 184) (.tmp 185) ∧ o.dst = some 186 ∧ o.guard = none := ⟨_, by rw [hops]; rfl, rfl, rfl, rfl⟩
              obtain ⟨o4, po4, q4, d4, gd4⟩ : ∃ o, ops[4]? = some o ∧ o.op = .fieldAddr 50 (.tmp 186) 0 ∧ o.dst = some 187 ∧ o.guard = none := ⟨_, by rw [hops]; rfl, rfl, rfl, rfl⟩
              obtain ⟨o5, po5, q5, d5, gd5⟩ : ∃ o, ops[5]? = some o ∧ o.op = .load 38 (.tmp 187) ∧ o.dst = some 188 ∧ o.guard = none := ⟨_, by rw [hops]; rfl, rfl, rfl, rfl⟩
              obtain ⟨o6, po6, q6, d6, gd6⟩ : ∃ o, ops[6]? = some o ∧ o.op = .move (.tmp 1) ∧ o.dst = some 189 ∧ o.guard = none := ⟨_, by rw [hops]; rfl, rfl, rfl, rfl⟩
              obtain ⟨o7, po7, q7, d7, gd7⟩ : ∃ o, ops[7]? = some o ∧ o.op = .move (.tmp 23) ∧ o.dst = some 190 ∧ o.guard = none := ⟨_, by rw [hops]; rfl, rfl, rfl, rfl⟩
              obtain ⟨o8, po8, q8, d8, gd8⟩ : ∃ o, ops[8]? = some o ∧ o.op = .indexAddr 46 (.tmp 189) (.tmp 190) ∧ o.dst = some 191 ∧ o.guard = none := ⟨_, by rw [hops]; rfl, rfl, rfl, rfl⟩
              obtain ⟨o9, po9, q9, d9, gd9⟩ : ∃ o, ops[9]? = some o ∧ o.op = .fieldAddr 50 (.tmp 191) 1 ∧ o.dst = some 192 ∧ o.guard = none := ⟨_, by rw [hops]; rfl, rfl, rfl, rfl⟩
              obtain ⟨o10, po10, q10, d10, gd10⟩ : ∃ o, ops[10]? = some o ∧ o.op = .load 40 (.tmp 192) ∧ o.dst = some 193 ∧ o.guard = none := ⟨_, by rw [hops]; rfl, rfl, rfl, rfl⟩
              obtain ⟨o11, po11, q11, d11, gd11⟩ : ∃ o, ops[11]? = some o ∧ o.op = .move (.tmp 1) ∧ o.dst = some 194 ∧ o.guard = none := ⟨_, by rw [hops]; rfl, rfl, rfl, rfl⟩
              obtain ⟨o12, po12, q12, d12, gd12⟩ : ∃ o, ops[12]? = some o ∧ o.op = .move (.tmp 23) ∧ o.dst = some 195 ∧ o.guard = none := ⟨_, by rw [hops]; rfl, rfl, rfl, rfl⟩
              obtain ⟨o13, po13, q13, d13, gd13⟩ : ∃ o, ops[13]? = some o ∧ o.op = .indexAddr 46 (.tmp 194) (.tmp 195) ∧ o.dst = some 196 ∧ o.guard = none := ⟨_, by rw [hops]; rfl, rfl, rfl, rfl⟩
              obtain ⟨o14, po14, q14, d14, gd14⟩ : ∃ o, ops[14]? = some o ∧ o.op = .fieldAddr 50 (.tmp 196) 2 ∧ o.dst = some 197 ∧ o.guard = none := ⟨_, by rw [hops]; rfl, rfl, rfl, rfl⟩
              obtain ⟨o15, po15, q15, d15, gd15⟩ : ∃ o, ops[15]? = some o ∧ o.op = .load 22 (.tmp 197) ∧ o.dst = some 198 ∧ o.guard = none := ⟨_, by rw [hops]; rfl, rfl, rfl, rfl⟩
              obtain ⟨o16, po16, q16, d16, gd16⟩ : ∃ o, ops[16]? = some o ∧ o.op = .move (.tmp 2) ∧ o.dst = some 199 ∧ o.guard = none := ⟨_, by rw [hops]; rfl, rfl, rfl, rfl⟩
              obtain ⟨o17, po17, q17, d17, gd17⟩ : ∃ o, ops[17]? = some o ∧ o.op = .call { callee := .value (.func 17), args := #[.tmp 183, .tmp 188, .tmp 193, .tmp 198, .tmp 199], argTypes := #[25, 38, 40, 22, 22] } ∧ o.dst = some 200 ∧ o.guard = none := ⟨_, by rw [hops]; rfl, rfl, rfl, rfl⟩
              obtain ⟨o18, po18, q18, d18, gd18⟩ : ∃ o, ops[18]? = some o ∧ o.op = .move (.tmp 200) ∧ o.dst = some 182 ∧ o.guard = none := ⟨_, by rw [hops]; rfl, rfl, rfl, rfl⟩
              obtain ⟨o19, po19, q19, d19, gd19⟩ : ∃ o, ops[19]? = some o ∧ o.op = .extract (.tmp 182) 0 ∧ o.dst = some 201 ∧ o.guard = none := ⟨_, by rw [hops]; rfl, rfl, rfl, rfl⟩
              obtain ⟨o20, po20, q20, d20, gd20⟩ : ∃ o, ops[20]? = some o ∧ o.op = .extract (.tmp 182) 1 ∧ o.dst = some 202 ∧ o.guard = none := ⟨_, by rw [hops]; rfl, rfl, rfl, rfl⟩
              obtain ⟨o21, po21, q21, d21, gd21⟩ : ∃ o, ops[21]? = some o ∧ o.op = .assign (.tmp 201) ∧ o.dst = some 24 ∧ o.guard = none := ⟨_, by rw [hops]; rfl, rfl, rfl, rfl⟩
              obtain ⟨o22, po22, q22, d22, gd22⟩ : ∃ o, ops[22]? = some o ∧ o.op = .assign (.tmp 202) ∧ o.dst = some 25 ∧ o.guard = none := ⟨_, by rw [hops]; rfl, rfl, rfl, rfl⟩
              clear hops
              refine met_free po0 d0 (wanted_of gd0) (fun w' h' => run_move q0 base7 w') ?_
              refine met_free po1 d1 (wanted_of gd1) (fun w' h' => run_move q1 ((eval_other _ 183 1 _ (by decide)).trans base1) w') ?_
              refine met_free po2 d2 (wanted_of gd2) (fun w' h' => run_move q2 ((eval_other _ 184 23 _ (by decide)).trans ((eval_other _ 183 23 _ (by decide)).trans base23)) w') ?_
              refine met_free po3 d3 (wanted_of gd3) (fun w' h' => run_ixThing q3 ((eval_other _ 185 184 _ (by decide)).trans (eval_same _ _ _ (by simp only [put_size, hsz]; decide))) (eval_same _ _ _ (by simp only [put_size, hsz]; decide)) hjn w') ?_
              refine met_free po4 d4 (wanted_of gd4) (fun w' h' => run_fieldThing0 q4 (eval_same _ _ _ (by simp only [put_size, hsz]; decide)) w') ?_
              refine met_early po5 d5 (wanted_of gd5) (fun w' h' hE' => run_loadKeyT q5 (eval_same _ _ _ (by simp only [put_size, hsz]; decide)) HTO.out.key hE'.1) ?_
              refine met_free po6 d6 (wanted_of gd6) (fun w' h' => run_move q6 ((eval_other _ 188 1 _ (by decide)).trans ((eval_other _ 187 1 _ (by decide)).trans ((eval_other _ 186 1 _ (by decide)).trans ((eval_other _ 185 1 _ (by decide)).trans ((eval_other _ 184 1 _ (by decide)).trans ((eval_other _ 183 1 _ (by decide)).trans base1)))))) w') ?_
              refine met_free po7 d7 (wanted_of gd7) (fun w' h' => run_move q7 ((eval_other _ 189 23 _ (by decide)).trans ((eval_other _ 188 23 _ (by decide)).trans ((eval_other _ 187 23 _ (by decide)).trans ((eval_other _ 186 23 _ (by decide)).trans ((eval_other _ 185 23 _ (by decide)).trans ((eval_other _ 184 23 _ (by decide)).trans ((eval_other _ 183 23 _ (by decide)).trans base23))))))) w') ?_
              refine met_free po8 d8 (wanted_of gd8) (fun w' h' => run_ixThing q8 ((eval_other _ 190 189 _ (by decide)).trans (eval_same _ _ _ (by simp only [put_size, hsz]; decide))) (eval_same _ _ _ (by simp only [put_size, hsz]; decide)) hjn w') ?_
              refine met_free po9 d9 (wanted_of gd9) (fun w' h' => run_fieldThing1 q9 (eval_same _ _ _ (by simp only [put_size, hsz]; decide)) w') ?_
              refine met_early po10 d10 (wanted_of gd10) (fun w' h' hE' => run_loadNonceT q10 (eval_same _ _ _ (by simp only [put_size, hsz]; decide)) HTO.out.nonce hE'.2.1) ?_
              refine met_free po11 d11 (wanted_of gd11) (fun w' h' => run_move q11 ((eval_other _ 193 1 _ (by decide)).trans ((eval_other _ 192 1 _ (by decide)).trans ((eval_other _ 191 1 _ (by decide)).trans ((eval_other _ 190 1 _ (by decide)).trans ((eval_other _ 189 1 _ (by decide)).trans ((eval_other _ 188 1 _ (by decide)).trans ((eval_other _ 187 1 _ (by decide)).trans ((eval_other _ 186 1 _ (by decide)).trans ((eval_other _ 185 1 _ (by decide)).trans ((eval_other _ 184 1 _ (by decide)).trans ((eval_other _ 183 1 _ (by decide)).trans base1))))))))))) w') ?_
              refine met_free po12 d12 (wanted_of gd12) (fun w' h' => run_move q12 ((eval_other _ 194 23 _ (by decide)).trans ((eval_other _ 193 23 _ (by decide)).trans ((eval_other _ 192 23 _ (by decide)).trans ((eval_other _ 191 23 _ (by decide)).trans ((eval_other _ 190 23 _ (by decide)).trans ((eval_other _ 189 23 _ (by decide)).trans ((eval_other _ 188 23 _ (by decide)).trans ((eval_other _ 187 23 _ (by decide)).trans ((eval_other _ 186 23 _ (by decide)).trans ((eval_other _ 185 23 _ (by decide)).trans ((eval_other _ 184 23 _ (by decide)).trans ((eval_other _ 183 23 _ (by decide)).trans base23)))))))))))) w') ?_
              refine met_free po13 d13 (wanted_of gd13) (fun w' h' => run_ixThing q13 ((eval_other _ 195 194 _ (by decide)).trans (eval_same _ _ _ (by simp only [put_size, hsz]; decide))) (eval_same _ _ _ (by simp only [put_size, hsz]; decide)) hjn w') ?_
              refine met_free po14 d14 (wanted_of gd14) (fun w' h' => run_fieldThing2 q14 (eval_same _ _ _ (by simp only [put_size, hsz]; decide)) w') ?_
              refine met_early po15 d15 (wanted_of gd15) (fun w' h' hE' => run_loadSlT q15 (eval_same _ _ _ (by simp only [put_size, hsz]; decide)) hE'.2.2.1) ?_
              refine met_free po16 d16 (wanted_of gd16) (fun w' h' => run_move q16 ((eval_other _ 198 2 _ (by decide)).trans ((eval_other _ 197 2 _ (by decide)).trans ((eval_other _ 196 2 _ (by decide)).trans ((eval_other _ 195 2 _ (by decide)).trans ((eval_other _ 194 2 _ (by decide)).trans ((eval_other _ 193 2 _ (by decide)).trans ((eval_other _ 192 2 _ (by decide)).trans ((eval_other _ 191 2 _ (by decide)).trans ((eval_other _ 190 2 _ (by decide)).trans ((eval_other _ 189 2 _ (by decide)).trans ((eval_other _ 188 2 _ (by decide)).trans ((eval_other _ 187 2 _ (by decide)).trans ((eval_other _ 186 2 _ (by decide)).trans ((eval_other _ 185 2 _ (by decide)).trans ((eval_other _ 184 2 _ (by decide)).trans ((eval_other _ 183 2 _ (by decide)).trans base2)))))))))))))))) w') ?_
              refine m_enter po17 d17 (wanted_of gd17) (run_callf5 q17 rfl ((eval_other _ 199 183 _ (by decide)).trans ((eval_other _ 198 183 _ (by decide)).trans ((eval_other _ 197 183 _ (by decide)).trans ((eval_other _ 196 183 _ (by decide)).trans ((eval_other _ 195 183 _ (by decide)).trans ((eval_other _ 194 183 _ (by decide)).trans ((eval_other _ 193 183 _ (by decide)).trans ((eval_other _ 192 183 _ (by decide)).trans ((eval_other _ 191 183 _ (by decide)).trans ((eval_other _ 190 183 _ (by decide)).trans ((eval_other _ 189 183 _ (by decide)).trans ((eval_other _ 188 183 _ (by decide)).trans ((eval_other _ 187 183 _ (by decide)).trans ((eval_other _ 186 183 _ (by decide)).trans ((eval_other _ 185 183 _ (by decide)).trans ((eval_other _ 184 183 _ (by decide)).trans (eval_same _ _ _ (by rw [hsz]; decide)))))))))))))))))) ((eval_other _ 199 188 _ (by decide)).trans ((eval_other _ 198 188 _ (by decide)).trans ((eval_other _ 197 188 _ (by decide)).trans ((eval_other _ 196 188 _ (by decide)).trans ((eval_other _ 195 188 _ (by decide)).trans ((eval_other _ 194 188 _ (by decide)).trans ((eval_other _ 193 188 _ (by decide)).trans ((eval_other _ 192 188 _ (by decide)).trans ((eval_other _ 191 188 _ (by decide)).trans ((eval_other _ 190 188 _ (by decide)).trans ((eval_other _ 189 188 _ (by decide)).trans (eval_same _ _ _ (by simp only [put_size, hsz]; decide))))))))))))) ((eval_other _ 199 193 _ (by decide)).trans ((eval_other _ 198 193 _ (by decide)).trans ((eval_other _ 197 193 _ (by decide)).trans ((eval_other _ 196 193 _ (by decide)).trans ((eval_other _ 195 193 _ (by decide)).trans ((eval_other _ 194 193 _ (by decide)).trans (eval_same _ _ _ (by simp only [put_size, hsz]; decide)))))))) ((eval_other _ 199 198 _ (by decide)).trans (eval_same _ _ _ (by simp only [put_size, hsz]; decide))) (eval_same _ _ _ (by simp only [put_size, hsz]; decide)) Try.func17 (by kernel_rfl) _) (codeOpen_any S1 _ _ l t.key t.nonce t.head ot (allA l 0 0 ts) _ nt t.hp pt t.hc ct wr.drew HTO.out.key HTO.out.nonce rfl HT.out htc (by rw [HAL.out]; omega) HSM.out HTO.out.head (HPT.out.below HBD.out) (HX6.out.keep (F := fun _ => False) (Below.stays HBD6.out) (fun _ h => h.elim))) ?_
              rintro e w9 ⟨u9', he, -, hb9⟩
              rw [HOTH.out] at he
              have HB9 : Hid (Below w6.heap.size w6 w9) := show Below _ _ _ from HBD6.out.trans (hb9.mono HBD6.out.size)
              clear hb9
              refine ⟨_, he, trivial, ?_⟩
              refine met_free po18 d18 (wanted_of gd18) (fun w' h' => run_move q18 (eval_same _ _ _ (by simp only [put_size, hsz]; decide)) w') ?_
              refine met_free po19 d19 (wanted_of gd19) (fun w' h' => run_extract q19 (eval_same _ _ _ (by simp only [put_size, hsz]; decide)) rfl w') ?_
              refine met_free po20 d20 (wanted_of gd20) (fun w' h' => run_extract q20 ((eval_other _ 201 182 _ (by decide)).trans (eval_same _ _ _ (by simp only [put_size, hsz]; decide))) rfl w') ?_
              refine met_free po21 d21 (wanted_of gd21) (fun w' h' => run_assign q21 ((eval_other _ 202 201 _ (by decide)).trans (eval_same _ _ _ (by simp only [put_size, hsz]; decide))) w') ?_
              refine met_free po22 d22 (wanted_of gd22) (fun w' h' => run_assign q22 ((eval_other _ 24 202 _ (by decide)).trans (eval_same _ _ _ (by simp only [put_size, hsz]; decide))) w') ?_
              show NoPanic _ .normal _ _
              refine NoPanic.normal ?_
              rw [HAA.out]
              go_frame
              clear HAA
              go_wp2_with fail
              go_roundw
              case rel => exact ⟨j + 1, by omega, by go_num, HB9.out⟩
              case measure => simp [intOf]; omega
            | false =>
              go_wp2_with fail
              refine (codeLen_any S1 _ _ _ (allA l 0 0 ts) wr (HX6.out.keep (F := fun _ => False) (Below.stays HB.out) (fun _ h => h.elim))).mono ?_
              rintro e w8 ⟨rfl, rfl⟩
              rw [HAL.out]
              go_wp2_with fail
              refine (known6_any wr).mono ?_
              rintro e w9 ⟨rfl, hb9⟩
              go_wp2_with fail
              go_ret
              exact ⟨rfl, HBW.out.trans (hb9.mono HBW.out.size)⟩
          · have q1 : ¬ (j : Int) < (no : Int) := by omega
            go_wp2_with fail
            refine (codeLen_any S1 _ _ _ (allA l 0 0 ts) wr (HX6.out.keep (F := fun _ => False) (Below.stays HB.out) (fun _ h => h.elim))).mono ?_
            rintro e w8 ⟨rfl, rfl⟩
            rw [HAL.out]
            go_wp2_with fail
            refine (known6_any wr).mono ?_
            rintro e w9 ⟨rfl, hb9⟩
            go_wp2_with fail
            go_ret
            exact ⟨rfl, HBW.out.trans (hb9.mono HBW.out.size)⟩
end Go.Proofs.Ytacgkfngpeieaaa

/-
  BoxBack, for any list, any things and any other bytes: the law returns true, and what came in reads afterwards as it read before. Without any condition.
-/
namespace Go.Proofs.Ytacgkfngpeieaaa
open Go.ChangeShapes Go.WideShapes Go.ChangeAt Go.RowKit Go.Proofs.ShaWords

set_option maxRecDepth 100000 in
theorem boxBack_lifted (os : Os) (started : os.Started) (H : Type) (enc : TypeId × Value → H) :
    ReturnsInHanded {} Try.checked os 4 .any (Rows.boxBackSpec.pre6 enc Try.prog Try.f4 Rows.boxBackRow.domain false)
      (Rows.boxBackSpec.post enc Try.prog Try.f4 false true false false) := by
  refine returnsInHanded_of_change_sized (C := Try.checked) own started (by kernel_rfl) Try.func4
    (ChangeSpec.witness6 (enc := enc) (C := Try.checked) false ⟨#[], #[.slice none 0 0, .slice none 0 0, .slice none 0 0], []⟩ 8 (by kernel_rfl) (by kernel_rfl) (by kernel_rfl) (by kernel_rfl)) ?_
  intro W base args ds gs before hval0 hW _ hsz _
  have hW' := hW
  obtain ⟨p, q, hA0, hV, rfl, hfz, hnd⟩ := hW
  have hA : DataW.TrodAll enc Try.prog W 0 (fun _ => true) true Try.f4.params.toList args.toList ds p := hA0
  have hval : ∀ (j : Nat) t v, Try.f4.params[j]? = some t → args[j]? = some v → Value.okWide Try.prog W .any base t v := hval0
  have hsz2 : (DataW.weightsEach Try.prog (Try.f4.params.toList ++ Rows.boxBackSpec.plain.varTypes Try.prog) (ds ++ gs)).all (· ≤ reachBytes) = true := hsz
  rw [Try.params4] at hA hval hsz2
  obtain ⟨v0, vs0, d0, ds0, p0, q0, hargs, rfl, rfl, h0, r0⟩ := trodAll_cons hA
  obtain ⟨v1, vs1, d1, ds1, p1, q1, rfl, rfl, rfl, h1, r1⟩ := trodAll_cons r0
  obtain ⟨v2, vs2, d2, ds2, p2, q2, rfl, rfl, rfl, h2, r2⟩ := trodAll_cons r1
  obtain ⟨rfl, rfl, rfl⟩ := trodAll_nil r2
  obtain rfl : args = #[v0, v1, v2] := by cases args; simp_all
  obtain ⟨rfl, rfl⟩ := trodVars_none hV
  have hb5 : Try.prog.bytesOf 5 = 1 := by kernel_rfl
  obtain ⟨a0, len0, cap0, rfl⟩ := okWide_slice Try.underlying22 (hval 0 22 v0 rfl rfl)
  have k0 := h0
  have lt0 : ∀ x ∈ p0, x.block < W.heap.size := by obtain ⟨m, hm⟩ := k0; exact DataW.trod_lt m _ _ _ hm
  obtain ⟨f0, hf0⟩ := h0
  obtain ⟨xs0, hx0a, hx0b, hx0c, hx0d⟩ := open_bytes hf0
  have hc0 : cap0 ≤ 140737488351232 := by
    rcases hx0d with ⟨_, h⟩ | ⟨e, sp, he, hl⟩
    · omega
    · have h := sized_slice hsz2 (j := 0) (t := 22) (elems := e) (spare := sp) rfl (by rw [← he]; rfl) Try.underlying22
      rw [hb5] at h; unfold reachBytes at h; omega
  obtain ⟨a1, len1, cap1, rfl⟩ := okWide_slice Try.underlying46 (hval 1 46 v1 rfl rfl)
  have k1 := h1
  have lt1 : ∀ x ∈ p1, x.block < W.heap.size := by obtain ⟨m, hm⟩ := k1; exact DataW.trod_lt m _ _ _ hm
  obtain ⟨f1, hf1⟩ := h1
  obtain ⟨ps1, hx1a, hx1b, hx1c, hx1d⟩ := open_things hf1
  obtain ⟨a2, len2, cap2, rfl⟩ := okWide_slice Try.underlying22 (hval 2 22 v2 rfl rfl)
  have k2 := h2
  have lt2 : ∀ x ∈ p2, x.block < W.heap.size := by obtain ⟨m, hm⟩ := k2; exact DataW.trod_lt m _ _ _ hm
  obtain ⟨f2, hf2⟩ := h2
  obtain ⟨xs2, hx2a, hx2b, hx2c, hx2d⟩ := open_bytes hf2
  have hc2 : cap2 ≤ 140737488351232 := by
    rcases hx2d with ⟨_, h⟩ | ⟨e, sp, he, hl⟩
    · omega
    · have h := sized_slice hsz2 (j := 2) (t := 22) (elems := e) (spare := sp) rfl (by rw [← he]; rfl) Try.underlying22
      rw [hb5] at h; unfold reachBytes at h; omega
  clear hA0 hval0
  refine (boxBack_any xs0 ps1 xs2 len0 len1 len2 cap0 cap1 cap2 a0 a1 a2 W hx0a (by omega) hx0c hx1a hx1c hx1d hx2a hx2b (by omega) hx2c).mono fun e W' ⟨he, bel⟩ => ?_
  subst he
  exact ⟨_, rfl, _, _, _, [], _, [], hW', trodAll_mk1 (shut_bool Try.underlying4 _), (trodAll_cons_mk (Below.trod laidOut (by kernel_rfl) (of_decide_eq_true (by kernel_rfl)) k0 bel lt0) (trodAll_cons_mk (Below.trod laidOut (by kernel_rfl) (of_decide_eq_true (by kernel_rfl)) k1 bel lt1) (trodAll_cons_mk (Below.trod laidOut (by kernel_rfl) (of_decide_eq_true (by kernel_rfl)) k2 bel lt2) trodAll_mk0))), rfl, bel.frame _, fun h => by cases h⟩

theorem boxBack_holds : Rows.BoxBackSaid :=
  OpenClaim.holds_of_wide 4 Try.f4 rfl rfl rfl rfl rfl rfl rfl ⟨rfl, rfl, rfl, rfl, rfl⟩ rfl rfl rfl rfl rfl (by kernel_rfl) Try.func4 (by kernel_rfl)
    (of_decide_eq_true (by kernel_rfl)) (by unfold Func.isWrapper; first | (rw [if_pos (by decide +kernel)]; kernel_rfl) | (rw [if_neg (by decide +kernel)]; exact ⟨rfl, rfl⟩))
    (fun os started H enc _ => boxBack_lifted os started H enc)

#print axioms boxBack_holds
end Go.Proofs.Ytacgkfngpeieaaa
