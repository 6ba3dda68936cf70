/-
  BoxBlind, for any list, any things and any bytes to turn them by: the law returns true, and what came in reads afterwards as it read before. Without any condition.
-/
import Derived.Test.YtacgkfngpeieaaaPkA
import Derived.Test.YtacgkfngpeieaaaPkV
import Derived.Deep.RegionHeld3
/-
  A region that draws its order, whatever the order: a fact of each operation that no other one turns.
-/
namespace Go.Proofs.Ytacgkfngpeieaaa
open Go.RowKit Go.Proofs.ShaWords

/-- Each operation waits for earlier ones alone. -/
def backward (ops : Array Oper) : Bool := (List.range ops.size).all fun i => match ops[i]? with | none => true | some o => o.after.all fun e => !(Region.binds .any e) || decide (e.on < i)
theorem backward_spec {ops : Array Oper} (h : backward ops = true) {i : Nat} {o : Oper} (ho : ops[i]? = some o) {e : Edge} (he : e ∈ o.after) (hb : Region.binds .any e = true) : e.on < i := by
  have hi : i < ops.size := (Array.getElem?_eq_some_iff.1 ho).1
  have h1 := List.all_eq_true.1 h i (List.mem_range.2 hi)
  rw [ho] at h1
  have h2 := Array.all_eq_true_iff_forall_mem.1 h1 e he
  simpa [hb] using h2
theorem ready_empty {ops : Array Oper} {L : Array Bool} (hb : backward ops = true) (hL : L.size = ops.size) (h : Region.ready .any ops L = []) (i : Nat) : i < ops.size → L.getD i false = true := by
  induction i using Nat.strongRecOn with
  | _ i ih =>
    intro hi
    by_cases hl : L.getD i false = true
    · exact hl
    · exfalso
      have hm : i ∈ Region.ready .any ops L := mem_ready.2 ⟨by
        have h1 : i < L.size := by omega
        simp [h1] at hl ⊢; exact hl, ops[i], by simp [hi], fun e he hbd => ih e.on (backward_spec hb (show ops[i]? = some ops[i] by simp [hi]) he hbd) (by have := backward_spec hb (show ops[i]? = some ops[i] by simp [hi]) he hbd; omega)⟩
      rw [h] at hm; cases hm
/-- How many are still to come. -/
def leftOf (L : Array Bool) : Nat := L.toList.count false
theorem leftOf_set {L : Array Bool} {i : Nat} (h : L.getD i true = false) : leftOf (L.setIfInBounds i true) + 1 = leftOf L := by
  have hi : i < L.size := by
    rcases Nat.lt_or_ge i L.size with h' | h'
    · exact h'
    · simp [Array.getElem?_eq_none h'] at h
  have hv : L.toList[i]'(by simpa using hi) = false := by simpa [hi] using h
  unfold leftOf
  rw [Array.toList_setIfInBounds, List.count_set (by simpa using hi), hv]
  have hpos : 0 < List.count false L.toList := List.count_pos_iff.2 (by rw [← hv]; exact List.getElem_mem _)
  simp only [beq_self_eq_true, if_true, show (true == false) = false from rfl]
  have : (if false = true then 1 else 0) = 0 := rfl
  omega
theorem leftOf_none {L : Array Bool} (h : leftOf L = 0) (i : Nat) (hi : i < L.size) : L.getD i false = true := by
  have h1 : false ∉ L.toList := List.count_eq_zero.1 h
  have h2 : L[i] ∈ L.toList := by simp
  cases hv : L[i] with
  | true => simp [hi, hv]
  | false => rw [hv] at h2; exact absurd h2 h1
section
variable {P : Program} {ops : Array Oper} {Q : Exit → Act → World → Prop}
theorem wpAny_inv (I : Array Bool → Act → World → Prop) (hb : backward ops = true)
    (hstep : ∀ (i : Nat) (o : Oper) (L : Array Bool) (a : Act) (w : World), ops[i]? = some o → L.getD i true = false → (∀ e ∈ o.after, Region.binds .any e = true → L.getD e.on false = true) → I L a w → wpOp P ops Q i (I (L.setIfInBounds i true)) a w)
    (hdone : ∀ L a w, (∀ i, i < ops.size → L.getD i false = true) → I L a w → Q .normal a w) :
    ∀ (fuel : Nat) (L : Array Bool) (a : Act) (w : World), L.size = ops.size → leftOf L ≤ fuel → I L a w → wpAny P .any ops Q fuel L a w
  | 0, L, a, w, hL, hf, h => by
    have hall : ∀ i, i < ops.size → L.getD i false = true := fun i hi => leftOf_none (by omega) i (by omega)
    refine ⟨List.eq_nil_iff_forall_not_mem.2 fun i hi => ?_, hdone L a w hall h⟩
    obtain ⟨h1, o, ho, -⟩ := mem_ready.1 hi
    have h2 := hall i (Array.getElem?_eq_some_iff.1 ho).1
    rw [getD_both h1] at h2; cases h2
  | fuel + 1, L, a, w, hL, hf, h => by
    refine ⟨fun h0 => hdone L a w (ready_empty hb hL h0) h, fun i hi => ?_⟩
    obtain ⟨h1, o, ho, h2⟩ := mem_ready.1 hi
    refine wpOp_mono (fun a' w' h' => wpAny_inv I hb hstep hdone fuel _ a' w' (by rw [Array.size_setIfInBounds]; exact hL) ?_ h') (hstep i o L a w ho h1 h2 h)
    have := leftOf_set h1
    omega
/-- No two operations write one slot. -/
def apartDst (ops : Array Oper) : Bool := (List.range ops.size).all fun i => (List.range ops.size).all fun j => decide (i = j) || match ops[i]?, ops[j]? with | some o, some p => (match o.dst, p.dst with | some d, some e => decide (d ≠ e) | _, _ => true) | _, _ => true
theorem apartDst_spec (h : apartDst ops = true) {i j : Nat} {o p : Oper} {d e : Tmp} (hij : i ≠ j) (hi : ops[i]? = some o) (hj : ops[j]? = some p) (hd : o.dst = some d) (he : p.dst = some e) : d ≠ e := by
  have h1 := List.all_eq_true.1 (List.all_eq_true.1 h i (List.mem_range.2 (Array.getElem?_eq_some_iff.1 hi).1)) j (List.mem_range.2 (Array.getElem?_eq_some_iff.1 hj).1)
  rw [hi, hj] at h1
  simpa [hij, hd, he] using h1
/-- The value that stands where an operation wrote. -/
def valOf (a : Act) (o : Oper) : Value := match o.dst with | some d => a.tmps.getD d undef | none => undef
/-- What holds on the way: the frame but for what was written, and each fact of what has come up. -/
structure InvAt (ops : Array Oper) (a0 : Act) (S : World → Prop) (V : Nat → Value → World → Prop) (L : Array Bool) (a : Act) (w : World) : Prop where
  world : S w
  defers : a.defers = a0.defers
  size : a.tmps.size = a0.tmps.size
  slot : ∀ t, (∀ (i : Nat) (o : Oper), ops[i]? = some o → o.dst ≠ some t) → a.tmps.getD t undef = a0.tmps.getD t undef
  fact : ∀ (i : Nat) (o : Oper), ops[i]? = some o → L.getD i false = true → V i (valOf a o) w
theorem region_facts {id : Nat} {a0 : Act} {w : World} (S : World → Prop) (R : World → World → Prop) (V : Nat → Value → World → Prop) (hm : P.follows .mixedOrders = true)
    (hb : backward ops = true) (hd : apartDst ops = true) (hfit : (List.range ops.size).all (fun i => match ops[i]? with | some o => (match o.dst with | some d => decide (d < a0.tmps.size) | none => true) | none => true) = true) (hS : S w.drew)
    (hR : ∀ i u w w', S w → R w w' → V i u w → V i u w')
    (hop : ∀ (i : Nat) (o : Oper) (A : Act) (W : World), ops[i]? = some o → S W → (∀ t, (∀ (i : Nat) (o : Oper), ops[i]? = some o → o.dst ≠ some t) → A.tmps.getD t undef = a0.tmps.getD t undef) →
      (∀ e ∈ o.after, Region.binds .any e = true → ∀ p, ops[e.on]? = some p → V e.on (valOf A p) W) → wpOp P ops (NoPanic Q) i (fun a' w' => ∃ v, a' = A.put o.dst v ∧ S w' ∧ R W w' ∧ (∀ (u : Value), u = (match o.dst with | some _ => v | none => undef) → V i u w')) A W)
    (h : ∀ A W, S W → A.defers = a0.defers → A.tmps.size = a0.tmps.size → (∀ t, (∀ (i : Nat) (o : Oper), ops[i]? = some o → o.dst ≠ some t) → A.tmps.getD t undef = a0.tmps.getD t undef) → (∀ (i : Nat) (o : Oper), ops[i]? = some o → V i (valOf A o) W) → Q .normal A W) :
    (Code.region id ops true).wp P Q a0 w := by
  refine wp_region_noPanic (wp_region_any hm ?_)
  refine wpAny_inv (InvAt ops a0 S V) hb ?_ ?_ ops.size _ a0 w.drew (by simp) (by simp [leftOf]) ⟨hS, rfl, rfl, fun _ _ => rfl, fun i o ho hl => ?_⟩
  · intro i o L a w1 ho hl hdep hI
    refine wpOp_mono ?_ (hop i o a w1 ho hI.world hI.slot (fun e he hbd p hp => hI.fact e.on p hp (hdep e he hbd)))
    rintro a' w' ⟨v, rfl, hS', hR', hV⟩
    have hdlt : ∀ d, o.dst = some d → d < a.tmps.size := fun d hd' => by
      have h1 := List.all_eq_true.1 hfit i (List.mem_range.2 (Array.getElem?_eq_some_iff.1 ho).1)
      rw [ho] at h1
      simp only [hd', decide_eq_true_eq] at h1
      rw [hI.size]; exact h1
    refine ⟨hS', ?_, ?_, ?_, ?_⟩
    · cases o.dst <;> exact hI.defers
    · rw [← hI.size]; cases o.dst <;> simp [Act.put]
    · intro t ht
      rw [← hI.slot t ht]
      cases hd' : o.dst with
      | none => rfl
      | some d =>
        have hne : d ≠ t := fun e => ht i o ho (by rw [hd', e])
        simp [Act.put, Array.getElem?_setIfInBounds_ne hne]
    · intro j p hp hlj
      by_cases hij : i = j
      · subst hij
        rw [ho] at hp; cases hp
        refine hV _ ?_
        unfold valOf
        cases hd' : o.dst with
        | none => rfl
        | some d => simp [Act.put, hdlt d hd']
      · have hlj' : L.getD j false = true := by rw [getD_set_ne false hij] at hlj; exact hlj
        have h1 := hR j _ w1 w' hI.world hR' (hI.fact j p hp hlj')
        have e : valOf (a.put o.dst v) p = valOf a p := by
          unfold valOf
          cases hpd : p.dst with
          | none => rfl
          | some e =>
            cases hd' : o.dst with
            | none => rfl
            | some d => simp [Act.put, Array.getElem?_setIfInBounds_ne (apartDst_spec hd hij ho hp hd' hpd)]
        rw [e]; exact h1
  · intro L a w1 hall hI
    exact h a w1 hI.world hI.defers hI.size hI.slot (fun i o ho => hI.fact i o ho (hall i (Array.getElem?_eq_some_iff.1 ho).1))
  · exfalso
    have hi := (Array.getElem?_eq_some_iff.1 ho).1
    simp [hi] at hl
end
end Go.Proofs.Ytacgkfngpeieaaa

/-
  A region in any order, where an operation's fact may speak of the slots of those that it waits for.
-/
namespace Go.Proofs.Ytacgkfngpeieaaa
open Go.RowKit Go.Proofs.ShaWords
/-- The slots. -/
def rdA (a : Act) (t : Nat) : Value := a.tmps.getD t undef
/-- Each slot that a fact reads is written by its own operation, or by one that it waits for. -/
def readsOk (ops : Array Oper) (reads : Nat → List Nat) : Bool := (List.range ops.size).all fun j => (reads j).all fun t => (List.range ops.size).all fun i => match ops[i]?, ops[j]? with | some o, some p => (match o.dst with | some d => decide (d ≠ t) || decide (i = j) || p.after.any (fun e => Region.binds .any e && decide (e.on = i)) | none => true) | _, _ => true
theorem readsOk_spec {ops : Array Oper} {reads : Nat → List Nat} (h : readsOk ops reads = true) {i j t : Nat} {o p : Oper} (hi : ops[i]? = some o) (hj : ops[j]? = some p) (ht : t ∈ reads j) (hd : o.dst = some t) (hij : i ≠ j) : ∃ e ∈ p.after, Region.binds .any e = true ∧ e.on = i := by
  have h1 := List.all_eq_true.1 (List.all_eq_true.1 (List.all_eq_true.1 h j (List.mem_range.2 (Array.getElem?_eq_some_iff.1 hj).1)) t ht) i (List.mem_range.2 (Array.getElem?_eq_some_iff.1 hi).1)
  rw [hi, hj] at h1
  simp only [hd, ne_eq, not_true_eq_false, decide_false, Bool.false_or, hij, Array.any_eq_true', Bool.and_eq_true, decide_eq_true_eq] at h1
  obtain ⟨e, he, h2, h3⟩ := h1
  exact ⟨e, he, h2, h3⟩
/-- What holds on the way. -/
structure InvB (ops : Array Oper) (a0 : Act) (S : World → Prop) (V : Nat → (Nat → Value) → World → Prop) (L : Array Bool) (a : Act) (w : World) : Prop where
  world : S w
  defers : a.defers = a0.defers
  size : a.tmps.size = a0.tmps.size
  slot : ∀ t, (∀ (i : Nat) (o : Oper), ops[i]? = some o → o.dst ≠ some t) → a.tmps.getD t undef = a0.tmps.getD t undef
  fact : ∀ (i : Nat) (o : Oper), ops[i]? = some o → L.getD i false = true → V i (rdA a) w
  closed : ∀ (i : Nat) (o : Oper), ops[i]? = some o → L.getD i false = true → ∀ e ∈ o.after, Region.binds .any e = true → L.getD e.on false = true
theorem region_facts2 {P : Program} {ops : Array Oper} {Q : Exit → Act → World → Prop} {id : Nat} {a0 : Act} {w : World} (S : World → Prop) (R : World → World → Prop) (V : Nat → (Nat → Value) → World → Prop) (reads : Nat → List Nat) (hm : P.follows .mixedOrders = true)
    (hb : backward ops = true) (hr : readsOk ops reads = true) (hfit : (List.range ops.size).all (fun i => match ops[i]? with | some o => (match o.dst with | some d => decide (d < a0.tmps.size) | none => true) | none => true) = true) (hS : S w.drew)
    (hV : ∀ i ρ ρ' w, (∀ t ∈ reads i, ρ t = ρ' t) → V i ρ w → V i ρ' w) (hR : ∀ i ρ w w', S w → R w w' → V i ρ w → V i ρ w')
    (hop : ∀ (i : Nat) (o : Oper) (A : Act) (W : World), ops[i]? = some o → S W → (∀ t, (∀ (i : Nat) (o : Oper), ops[i]? = some o → o.dst ≠ some t) → A.tmps.getD t undef = a0.tmps.getD t undef) →
      (∀ e ∈ o.after, Region.binds .any e = true → ∀ p, ops[e.on]? = some p → V e.on (rdA A) W) → wpOp P ops (NoPanic Q) i (fun a' w' => ∃ v, a' = A.put o.dst v ∧ S w' ∧ R W w' ∧ (∀ ρ : Nat → Value, (∀ t, o.dst ≠ some t → ρ t = rdA A t) → (∀ d, o.dst = some d → ρ d = v) → V i ρ w')) A W)
    (h : ∀ A W, S W → A.defers = a0.defers → A.tmps.size = a0.tmps.size → (∀ t, (∀ (i : Nat) (o : Oper), ops[i]? = some o → o.dst ≠ some t) → A.tmps.getD t undef = a0.tmps.getD t undef) → (∀ (i : Nat) (o : Oper), ops[i]? = some o → V i (rdA A) W) → Q .normal A W) :
    (Code.region id ops true).wp P Q a0 w := by
  have hmono : ∀ (L : Array Bool) (i j : Nat), L.getD j false = true → (L.setIfInBounds i true).getD j false = true := fun L i j hj => by
    by_cases hij : i = j
    · subst hij
      have hlt : i < L.size := by
        rcases Nat.lt_or_ge i L.size with h' | h'
        · exact h'
        · simp [Array.getElem?_eq_none h'] at hj
      simp [hlt]
    · rw [getD_set_ne false hij]; exact hj
  refine wp_region_noPanic (wp_region_any hm ?_)
  refine wpAny_inv (InvB ops a0 S V) hb ?_ ?_ ops.size _ a0 w.drew (by simp) (by simp [leftOf]) ⟨hS, rfl, rfl, fun _ _ => rfl, fun i o ho hl => ?_, fun i o ho hl => ?_⟩
  · intro i o L a w1 ho hl hdep hI
    refine wpOp_mono ?_ (hop i o a w1 ho hI.world hI.slot (fun e he hbd p hp => hI.fact e.on p hp (hdep e he hbd)))
    rintro a' w' ⟨v, rfl, hS', hR', hVi⟩
    have hdlt : ∀ d, o.dst = some d → d < a.tmps.size := fun d hd' => by
      have h1 := List.all_eq_true.1 hfit i (List.mem_range.2 (Array.getElem?_eq_some_iff.1 ho).1)
      rw [ho] at h1
      simp only [hd', decide_eq_true_eq] at h1
      rw [hI.size]; exact h1
    have hput : ∀ t, o.dst ≠ some t → rdA (a.put o.dst v) t = rdA a t := fun t ht => by
      unfold rdA
      cases hd' : o.dst with
      | none => rfl
      | some d =>
        have hne : d ≠ t := fun e => ht (by rw [hd', e])
        simp [Act.put, Array.getElem?_setIfInBounds_ne hne]
    refine ⟨hS', ?_, ?_, ?_, ?_, ?_⟩
    · cases o.dst <;> exact hI.defers
    · rw [← hI.size]; cases o.dst <;> simp [Act.put]
    · intro t ht
      rw [← hI.slot t ht]
      exact hput t (ht i o ho)
    · intro j p hp hlj
      by_cases hij : i = j
      · subst hij
        refine hVi _ hput (fun d hd' => ?_)
        unfold rdA
        simp [hd', Act.put, hdlt d hd']
      · have hlj' : L.getD j false = true := by rw [getD_set_ne false hij] at hlj; exact hlj
        have h1 := hR j _ w1 w' hI.world hR' (hI.fact j p hp hlj')
        refine hV j _ _ w' (fun t ht => (hput t (fun hd' => ?_)).symm) h1
        obtain ⟨e, he, hbd, hon⟩ := readsOk_spec hr ho hp ht hd' hij
        have h2 := hI.closed j p hp hlj' e he hbd
        rw [hon] at h2
        have h3 : i < L.size := by
          rcases Nat.lt_or_ge i L.size with h' | h'
          · exact h'
          · simp [Array.getElem?_eq_none h'] at hl
        simp [h3] at hl h2
        rw [hl] at h2; cases h2
    · intro j p hp hlj e he hbd
      by_cases hij : i = j
      · subst hij
        rw [ho] at hp; cases hp
        exact hmono L i e.on (hdep e he hbd)
      · have hlj' : L.getD j false = true := by rw [getD_set_ne false hij] at hlj; exact hlj
        exact hmono L i e.on (hI.closed j p hp hlj' e he hbd)
  · intro L a w1 hall hI
    exact h a w1 hI.world hI.defers hI.size hI.slot (fun i o ho => hI.fact i o ho (hall i (Array.getElem?_eq_some_iff.1 ho).1))
  · exfalso
    have hi := (Array.getElem?_eq_some_iff.1 ho).1
    simp [hi] at hl
  · exfalso
    have hi := (Array.getElem?_eq_some_iff.1 ho).1
    simp [hi] at hl
theorem slot_free {ops : Array Oper} {t : Nat} (h : ops.all (fun o => decide (o.dst ≠ some t)) = true) (i : Nat) (o : Oper) (ho : ops[i]? = some o) : o.dst ≠ some t := by
  have h1 := Array.all_eq_true_iff_forall_mem.1 h o (Array.mem_of_getElem? ho)
  simpa using h1
theorem wpOp_value {P : Program} {ops : Array Oper} {Q : Exit → Act → World → Prop} {i : Nat} {K : Act → World → Prop} {a : Act} {w w' : World} {o : Oper} {v : Value} (ho : ops[i]? = some o) (hg : o.guard = none) (hr : (execOp a.eval o).run P w = .ok (.value v) w') (h : K (a.put o.dst v) w') : wpOp P ops Q i K a w := by
  refine wpOp_of_wp ho hg ?_
  unfold Oper.wp
  rw [hr, Oper.upon_value]
  exact h
theorem act_ext {a : Act} {N : Nat} {X : Array Value} {D : List Deferred} (h1 : a.tmps.size = N) (h2 : X.size = N) (h3 : a.defers = D) (h : ∀ t, t < N → a.tmps.getD t undef = X.getD t undef) : a = { tmps := X, defers := D } := by
  obtain ⟨tm, df⟩ := a
  simp only at h1 h3 h
  subst h3
  have : tm = X := by
    apply Array.ext (by omega)
    intro i hi hj
    have := h i (by omega)
    simpa [hi, hj] using this
  rw [this]
theorem put_get (a : Act) (d t : Nat) (v : Value) : (a.put (some d) v).tmps.getD t undef = if d = t ∧ t < a.tmps.size then v else a.tmps.getD t undef := by
  by_cases h : d = t
  · subst h
    by_cases h2 : d < a.tmps.size
    · simp [Act.put, h2]
    · simp [Act.put, h2]
  · simp [Act.put, h, Array.getElem?_setIfInBounds_ne h]
theorem act_of_slots {A : Act} : ∀ (ts : List Nat) (a0 : Act), A.tmps.size = a0.tmps.size → A.defers = a0.defers → (∀ t, t ∉ ts → A.tmps.getD t undef = a0.tmps.getD t undef) → A = ts.foldl (fun a t => a.put (some t) (rdA A t)) a0
  | [], a0, h1, h2, h3 => act_ext (X := a0.tmps) (D := a0.defers) rfl h1.symm h2 (fun t _ => h3 t (by simp))
  | d :: ts, a0, h1, h2, h3 => by
    refine act_of_slots ts (a0.put (some d) (rdA A d)) (by simp [Act.put, h1]) (by simp [Act.put, h2]) (fun t ht => ?_)
    rw [put_get]
    by_cases h : d = t
    · subst h
      by_cases h4 : d < a0.tmps.size
      · rw [if_pos ⟨rfl, h4⟩]; rfl
      · rw [if_neg (fun h => h4 h.2)]
        simp [Array.getElem?_eq_none (show A.tmps.size ≤ d by omega), Array.getElem?_eq_none (show a0.tmps.size ≤ d by omega)]
    · rw [if_neg (fun h' => h h'.1)]
      exact h3 t (by simp [Ne.symm h, ht])
/-- Slots that no operation writes. -/
theorem slots_free {ops : Array Oper} {ts : List Nat} (h : ops.all (fun o => match o.dst with | some d => ts.contains d | none => true) = true) (t : Nat) (ht : t ∉ ts) (i : Nat) (o : Oper) (ho : ops[i]? = some o) : o.dst ≠ some t := fun hd => by
  have h1 := Array.all_eq_true_iff_forall_mem.1 h o (Array.mem_of_getElem? ho)
  rw [hd] at h1
  exact ht (by simpa using h1)
end Go.Proofs.Ytacgkfngpeieaaa

/- The kit's Pick: some number below its bound. -/
namespace Go.Proofs.Ytacgkfngpeieaaa
open Go.RowKit Go.Proofs.ShaWords

theorem tmod_bounds (v n : Int) (h : 1 ≤ n) : -n < v.tmod n ∧ v.tmod n < n := by
  have h1 := Int.tmod_lt_of_pos v (show 0 < n by omega)
  have h2 := Int.tmod_lt_of_pos (-v) (show 0 < n by omega)
  rw [Int.neg_tmod] at h2
  omega
def SomeIn (n : Int) (w : World) (e : Ending) (w' : World) : Prop := ∃ r : Nat, (r : Int) < n ∧ e = .returned (.int .i64 (r : Int)) ∧ w = w'
set_option maxHeartbeats 400000 in
theorem pick_any (v n : Int) (w : World) (h1 : 1 ≤ n) (h2 : n ≤ 1000000) : Calls Try.prog 28 #[.int .i64 v, .int .i64 n] w (SomeIn n w) := by
  have hb := tmod_bounds v n h1
  obtain ⟨hb1, hb2⟩ := hb
  have hn0 : ¬ n = 0 := by omega
  by_cases hneg : v.tmod n < 0
  · go_enter Try.func28, Try.ntmps28
    go_wp2_with fail
    go_ret
    exact ⟨(v.tmod n + n).toNat, by omega, by
      have : ((v.tmod n + n).toNat : Int) = v.tmod n + n := by omega
      rw [this]; rfl, rfl⟩
  · go_enter Try.func28, Try.ntmps28
    go_wp2_with fail
    go_ret
    exact ⟨(v.tmod n).toNat, by omega, by
      have : ((v.tmod n).toNat : Int) = v.tmod n := by omega
      rw [this]; rfl, rfl⟩

end Go.Proofs.Ytacgkfngpeieaaa

/-
  A bit of a byte.
-/
namespace Go.Proofs.Ytacgkfngpeieaaa
open Go.RowKit Go.Proofs.ShaWords
theorem pow8 (R : Nat) : (2 : Int) ^ R % 256 = n8 (BitVec.ofNat 8 (2 ^ R)) := by
  unfold n8
  rw [BitVec.toNat_ofNat, show (2 : Int) = ((2 : Nat) : Int) from rfl, ← Int.natCast_pow]
  omega
end Go.Proofs.Ytacgkfngpeieaaa

/-
  The statement's own sealed: what an opening is asked of.
-/
namespace Go.Proofs.Ytacgkfngpeieaaa
open Go.RowKit Go.Proofs.ShaWords

/-- An Op by itself in a block. -/
def OpAt (w : World) (T : Nat) (o : OpM) : Prop := w.heap[T]? = some (.cells o.cells.toArray 35 (0, 0))
theorem OpAt.on {w w' : World} {T : Nat} {o : OpM} (h : OpAt w T o) (hb : Below w.heap.size w w') : OpAt w' T o := (hb.block _ (Array.getElem?_eq_some_iff.1 h).1).trans h
theorem OpAt.onB {B : Nat} {w w' : World} {T : Nat} {o : OpM} (h : OpAt w T o) (hb : Below B w w') (hB : w.heap.size ≤ B) : OpAt w' T o := (hb.block _ (Nat.lt_of_lt_of_le (Array.getElem?_eq_some_iff.1 h).1 hB)).trans h
theorem OpAt.cell {w : World} {T : Nat} {o : OpM} (h : OpAt w T o) (j : Nat) : w.cell? ⟨T, j, none⟩ = o.cells[j]? := by
  rw [cell_of_row w T j _ _ _ h]; simp
theorem wf_i64 {z : Int} (h : (Lit.int .i64 z).wf = true) : -9223372036854775808 ≤ z ∧ z ≤ 9223372036854775807 := by
  simp [Lit.wf, IntKind.min, IntKind.max, IntKind.signed, IntKind.bits] at h
  omega
set_option maxRecDepth 100000 in
set_option maxHeartbeats 2000000 in
theorem sealed_any (o : OpM) (nh ch : Nat) (ph : Option Addr) (w : World) (ht : Lies w o.tp o.text) (htc : o.text.length ≤ o.tc) (h1 : (Lit.int .i64 o.at').wf = true) (h2 : (Lit.int .i64 o.turn).wf = true) (hnh : nh ≤ 1000)
    (hh : nh = 0 ∨ ∃ g, ph = some ⟨g, 0, none⟩ ∧ ∀ i, i < nh → ∃ q c s, w.cell? ⟨g, i, none⟩ = some (.slice q s.length c) ∧ Lies w q s ∧ 16 ≤ s.length ∧ s.length ≤ 2000) :
    Calls Try.prog 16 #[.agg o.cells.toArray, .slice ph nh ch] w fun e w' => ∃ q c s, e = .returned (.slice q s.length c) ∧ s.length ≤ c ∧ (s.length ≤ o.text.length ∨ s.length ≤ 2000) ∧ Lies w' q s ∧ Below w.heap.size w w' := by
  have HT := Lib.hid ht; clear ht
  have HH := Lib.hid hh; clear hh
  have a1 := wf_i64 h1
  have a2 := wf_i64 h2
  clear h1 h2
  go_enter Try.func16, Try.ntmps16
  go_upto_region 1 with (fail)
  refine wp_gen (fun w' => OpAt w' w.heap.size o ∧ Below w.heap.size w w') ⟨heap_new_at rfl, (Below.refl _ _).alloc (Nat.le_refl _) _⟩ ?_
  rintro w0 ⟨ho0, hb0⟩
  have e4 : w0.cell? ⟨w.heap.size, 4, none⟩ = some (.slice o.tp o.text.length o.tc) := by rw [ho0.cell]; rfl
  have e5 : w0.cell? ⟨w.heap.size, 5, none⟩ = some (.int .i64 o.at') := by rw [ho0.cell]; rfl
  have HO0 := Lib.hid ho0; clear ho0
  have HB0 := Lib.hid hb0; clear hb0
  by_cases hat : o.at' < 1
  · go_wp2_with fail
    go_ret
    exact ⟨_, _, o.text, rfl, htc, Or.inl (Nat.le_refl _), HT.out.below HB0.out, HB0.out⟩
  · by_cases hn0 : nh = 0
    · subst hn0
      go_wp2_with fail
      go_ret
      exact ⟨_, _, o.text, rfl, htc, Or.inl (Nat.le_refl _), HT.out.below HB0.out, HB0.out⟩
    · have n0 : ¬ (nh : Int) = 0 := by omega
      have n1 : ((nh : Int) == 0) = false := by simpa using hn0
      obtain ⟨z, hz⟩ : ∃ z, z = o.at' - 1 := ⟨_, rfl⟩
      have t1 : IntKind.i64.wrap (o.at' - 1) = z := by rw [hz]; exact IntWalk.i64_in _ (by omega)
      clear hz
      obtain ⟨g, rfl, hg⟩ : ∃ g, ph = some ⟨g, 0, none⟩ ∧ ∀ i, i < nh → ∃ q c s, w.cell? ⟨g, i, none⟩ = some (.slice q s.length c) ∧ Lies w q s ∧ 16 ≤ s.length ∧ s.length ≤ 2000 := by
        rcases HH.out with h | h
        · exact absurd h hn0
        · exact h
      go_wp2_with fail
      refine (pick_any z (nh : Int) w0 (by omega) (by omega)).mono ?_
      rintro e w1 ⟨r, hr, rfl, rfl⟩
      obtain ⟨q, c, s, hc, hl, hs1, hs2⟩ := hg r (by omega)
      have er := (HB0.out.cell (World.block_lt_of_cell? w _ hc)).trans hc
      have HL := Lib.hid (hl.below HB0.out)
      clear hc hl hg e4
      have r0 : 0 ≤ (r : Int) := by omega
      go_wp2_with fail
      refine (copy_any s q c w0 (by omega) HL.out).mono ?_
      rintro e w2 ⟨v2, rfl, ho2, hb2⟩
      obtain ⟨g2, c2, rfl, hg2, hg2', hc2, hc2', hcell, hfr⟩ := ho2.form8 (by omega)
      have HO2 := Lib.hid ho2; clear ho2
      have e6 : w2.cell? ⟨w.heap.size, 6, none⟩ = some (.int .i64 o.turn) := by rw [(HO0.out.on hb2).cell]; rfl
      have HB2 := Lib.hid (HB0.out.trans (hb2.mono HB0.out.size)); clear hb2 e5 er
      by_cases htu : 0 < o.turn
      · obtain ⟨z2, hz2⟩ : ∃ z2, z2 = o.turn - 1 := ⟨_, rfl⟩
        have t2 : IntKind.i64.wrap (o.turn - 1) = z2 := by rw [hz2]; exact IntWalk.i64_in _ (by omega)
        obtain ⟨L8, hL8⟩ : ∃ L8, L8 = 8 * s.length := ⟨_, rfl⟩
        have t3 : IntKind.i64.wrap (8 * (s.length : Int)) = (L8 : Int) := by rw [IntWalk.i64_in _ (by omega)]; omega
        have HL8 := Lib.hid hL8
        have hL1 : 1 ≤ L8 := by omega
        have hL2 : L8 ≤ 16000 := by omega
        clear hz2 hL8
        go_wp2_with fail
        refine (pick_any z2 (L8 : Int) w2 (by omega) (by omega)).mono ?_
        rintro e w3 ⟨r2, hr2, rfl, rfl⟩
        obtain ⟨D8, hD8⟩ : ∃ D8, D8 = r2 / 8 := ⟨_, rfl⟩
        obtain ⟨R8, hR8⟩ : ∃ R8, R8 = r2 % 8 := ⟨_, rfl⟩
        have u1 : (r2 : Int).tdiv 8 = (D8 : Int) := by rw [Int.tdiv_eq_ediv_of_nonneg (by omega)]; omega
        have u2 : IntKind.i64.wrap (D8 : Int) = (D8 : Int) := IntWalk.i64_in _ (by omega)
        have u3 : (r2 : Int).tmod 8 = (R8 : Int) := by rw [Int.tmod_eq_emod_of_nonneg (by omega)]; omega
        have u4 : IntKind.i64.wrap (R8 : Int) = (R8 : Int) := IntWalk.i64_in _ (by omega)
        have hR7 : R8 < 8 := by omega
        have hDl : D8 < s.length := by have := HL8.out; omega
        have hDl2 : (D8 : Int) < (s.length : Int) := by omega
        have hx := hcell D8 hDl
        have hf := hfr D8
        clear hD8 hR8 hcell hfr e6 hr2
        generalize s.getD D8 0#8 = x at hx
        have p8 := pow8 R8
        generalize BitVec.ofNat 8 (2 ^ R8) = c8 at p8
        have hx8 := xor8 x c8
        go_wp2_with fail
        go_ret
        have HO3 := HO2.out.put D8 (x ^^^ c8)
        refine ⟨some ⟨g2, 0, none⟩, c2, s.set D8 (x ^^^ c8), by rw [List.length_set]; rfl, by rw [List.length_set]; exact hc2, Or.inr (by rw [List.length_set]; exact hs2), ?_, HB2.out.setCell (by show w.heap.size ≤ g2; have := HB0.out.size; omega) _⟩
        obtain ⟨p', c', e', -, -, hl'⟩ := HO3.lies
        rw [List.length_set] at e'
        cases e'
        exact hl'
      · clear hcell hfr
        go_wp2_with fail
        go_ret
        refine ⟨some ⟨g2, 0, none⟩, c2, s, rfl, hc2, Or.inr hs2, ?_, HB2.out⟩
        obtain ⟨p', c', e', -, -, hl'⟩ := HO2.out.lies
        cases e'
        exact hl'
end Go.Proofs.Ytacgkfngpeieaaa

/-
  Arrays whose first byte is given, in new blocks, laid in any order: what the statement BoxPlays does ahead of each call.
-/
namespace Go.Proofs.Ytacgkfngpeieaaa
open Go.RowKit Go.Proofs.ShaWords
section
variable {ρ : Operand → Value} {o : Oper} {x y c : Operand} {w : World}
theorem run_keyOf {b : BitVec 8} (ho : o.op = .build 38 #[(0, x)]) (hx : ρ x = .int .u8 (n8 b)) (w : World) : (execOp ρ o).run Try.prog w = .ok (.value (.agg (bytesV (b :: noughts 31)).toArray)) w := by
  have e : (bytesV (b :: noughts 31)).toArray = #[.int .u8 (n8 b), .int .u8 0, .int .u8 0, .int .u8 0, .int .u8 0, .int .u8 0, .int .u8 0, .int .u8 0, .int .u8 0, .int .u8 0, .int .u8 0, .int .u8 0, .int .u8 0, .int .u8 0, .int .u8 0, .int .u8 0, .int .u8 0, .int .u8 0, .int .u8 0, .int .u8 0, .int .u8 0, .int .u8 0, .int .u8 0, .int .u8 0, .int .u8 0, .int .u8 0, .int .u8 0, .int .u8 0, .int .u8 0, .int .u8 0, .int .u8 0, .int .u8 0] := rfl
  rw [e]
  obtain ⟨dst, op, ty', pos, after, guard⟩ := o
  simp only at ho
  subst ho
  go_simp
theorem run_nonceOf {b : BitVec 8} (ho : o.op = .build 40 #[(0, x)]) (hx : ρ x = .int .u8 (n8 b)) (w : World) : (execOp ρ o).run Try.prog w = .ok (.value (.agg (bytesV (b :: noughts 11)).toArray)) w := by
  have e : (bytesV (b :: noughts 11)).toArray = #[.int .u8 (n8 b), .int .u8 0, .int .u8 0, .int .u8 0, .int .u8 0, .int .u8 0, .int .u8 0, .int .u8 0, .int .u8 0, .int .u8 0, .int .u8 0, .int .u8 0] := rfl
  rw [e]
  obtain ⟨dst, op, ty', pos, after, guard⟩ := o
  simp only at ho
  subst ho
  go_simp
theorem run_allocKey (ho : o.op = .alloc 38) (w : World) : (execOp ρ o).run Try.prog w = .ok (.value (.pointer (some ⟨w.heap.size, 0, none⟩))) (w.alloc (.cells (bytesV (noughts 32)).toArray 38)) := by
  have e : (bytesV (noughts 32)).toArray = Array.replicate 32 (.int .u8 0) := by kernel_rfl
  rw [e]
  obtain ⟨dst, op, ty', pos, after, guard⟩ := o
  simp only at ho
  subst ho
  go_simp
  rfl
theorem run_allocNonce (ho : o.op = .alloc 40) (w : World) : (execOp ρ o).run Try.prog w = .ok (.value (.pointer (some ⟨w.heap.size, 0, none⟩))) (w.alloc (.cells (bytesV (noughts 12)).toArray 40)) := by
  have e : (bytesV (noughts 12)).toArray = Array.replicate 12 (.int .u8 0) := by kernel_rfl
  rw [e]
  obtain ⟨dst, op, ty', pos, after, guard⟩ := o
  simp only at ho
  subst ho
  go_simp
  rfl
end
/-- What each operation has yielded. -/
def KrV (B T : Nat) (o : OpM) : Nat → (Nat → Value) → World → Prop
  | 0, ρ, _ => ρ 66 = .pointer (some ⟨T, 1, none⟩)
  | 1, ρ, _ => ρ 67 = .int .u8 (n8 o.k)
  | 2, ρ, _ => ρ 68 = .agg (bytesV (o.k :: noughts 31)).toArray
  | 3, ρ, _ => ρ 69 = .pointer (some ⟨T, 2, none⟩)
  | 4, ρ, _ => ρ 70 = .int .u8 (n8 o.n)
  | 5, ρ, _ => ρ 71 = .agg (bytesV (o.n :: noughts 11)).toArray
  | 6, ρ, w => ∃ g, ρ 13 = .pointer (some ⟨g, 0, none⟩) ∧ B ≤ g ∧ ∃ kk : List (BitVec 8), kk.length = 32 ∧ BytesAt w g 38 kk
  | 7, ρ, w => ∃ g, ρ 14 = .pointer (some ⟨g, 0, none⟩) ∧ B ≤ g ∧ ∃ kk : List (BitVec 8), kk.length = 12 ∧ BytesAt w g 40 kk
  | 8, ρ, w => ∃ g, ρ 13 = .pointer (some ⟨g, 0, none⟩) ∧ B ≤ g ∧ BytesAt w g 38 (o.k :: noughts 31)
  | 9, ρ, w => ∃ g, ρ 14 = .pointer (some ⟨g, 0, none⟩) ∧ B ≤ g ∧ BytesAt w g 40 (o.n :: noughts 11)
  | _, _, _ => True
def krReads : Nat → List Nat
  | 0 => [66] | 1 => [67] | 2 => [68] | 3 => [69] | 4 => [70] | 5 => [71] | 6 => [13] | 7 => [14] | 8 => [13] | 9 => [14] | _ => []
theorem krV_reads (B T : Nat) (o : OpM) (i : Nat) (ρ ρ' : Nat → Value) (w : World) (h : ∀ t ∈ krReads i, ρ t = ρ' t) (hv : KrV B T o i ρ w) : KrV B T o i ρ' w := by
  match i, h, hv with
  | 0, h, hv => exact (h 66 (by simp [krReads])).symm.trans hv
  | 1, h, hv => exact (h 67 (by simp [krReads])).symm.trans hv
  | 2, h, hv => exact (h 68 (by simp [krReads])).symm.trans hv
  | 3, h, hv => exact (h 69 (by simp [krReads])).symm.trans hv
  | 4, h, hv => exact (h 70 (by simp [krReads])).symm.trans hv
  | 5, h, hv => exact (h 71 (by simp [krReads])).symm.trans hv
  | 6, h, ⟨g, e, r⟩ => exact ⟨g, (h 13 (by simp [krReads])).symm.trans e, r⟩
  | 7, h, ⟨g, e, r⟩ => exact ⟨g, (h 14 (by simp [krReads])).symm.trans e, r⟩
  | 8, h, ⟨g, e, r⟩ => exact ⟨g, (h 13 (by simp [krReads])).symm.trans e, r⟩
  | 9, h, ⟨g, e, r⟩ => exact ⟨g, (h 14 (by simp [krReads])).symm.trans e, r⟩
  | n + 10, h, hv => trivial
/-- What a step keeps. -/
structure KrR (o : OpM) (w w' : World) : Prop where
  shape : ∀ (g : Nat) (t : TypeId) (l : List (BitVec 8)), (t = 38 ∨ t = 40) → BytesAt w g t l → ∃ l' : List (BitVec 8), l'.length = l.length ∧ BytesAt w' g t l'
  key : ∀ g, BytesAt w g 38 (o.k :: noughts 31) → BytesAt w' g 38 (o.k :: noughts 31)
  nonce : ∀ g, BytesAt w g 40 (o.n :: noughts 11) → BytesAt w' g 40 (o.n :: noughts 11)
theorem KrR.of_below {o : OpM} {w w' : World} (h : Below w.heap.size w w') : KrR o w w' := ⟨fun _ _ l _ hb => ⟨l, rfl, hb.keep h⟩, fun _ hb => hb.keep h, fun _ hb => hb.keep h⟩
theorem krV_on (B T : Nat) (o : OpM) (i : Nat) (ρ : Nat → Value) (w w' : World) (h : KrR o w w') (hv : KrV B T o i ρ w) : KrV B T o i ρ w' := by
  match i, hv with
  | 0, hv => exact hv
  | 1, hv => exact hv
  | 2, hv => exact hv
  | 3, hv => exact hv
  | 4, hv => exact hv
  | 5, hv => exact hv
  | 6, ⟨g, e, hg, kk, hl, hb⟩ =>
    obtain ⟨l', h1, h2⟩ := h.shape g _ kk (Or.inl rfl) hb
    exact ⟨g, e, hg, l', h1.trans hl, h2⟩
  | 7, ⟨g, e, hg, kk, hl, hb⟩ =>
    obtain ⟨l', h1, h2⟩ := h.shape g _ kk (Or.inr rfl) hb
    exact ⟨g, e, hg, l', h1.trans hl, h2⟩
  | 8, ⟨g, e, hg, hb⟩ => exact ⟨g, e, hg, h.key g hb⟩
  | 9, ⟨g, e, hg, hb⟩ => exact ⟨g, e, hg, h.nonce g hb⟩
  | n + 10, hv => trivial
theorem krR_setKey {o : OpM} {w : World} {g : Nat} {kk : List (BitVec 8)} (hb : BytesAt w g 38 kk) (hl : kk.length = 32) : KrR o w (w.setRow g (bytesV (o.k :: noughts 31)).toArray) ∧ BytesAt (w.setRow g (bytesV (o.k :: noughts 31)).toArray) g 38 (o.k :: noughts 31) := by
  have h1 : BytesAt (w.setRow g (bytesV (o.k :: noughts 31)).toArray) g 38 (o.k :: noughts 31) := setRow_heap _ _ _ _ _ _ hb
  have h2 := grown_setRow w g (bytesV (o.k :: noughts 31)).toArray
  refine ⟨⟨fun g' t l ht hb' => ?_, fun g' hb' => ?_, fun g' hb' => ?_⟩, h1⟩
  · by_cases e : g' = g
    · subst e
      have e1 := Obj.cells.inj (Option.some.inj (hb'.symm.trans hb))
      have hln : l.length = kk.length := by simpa [bytesV] using congrArg Array.size e1.1
      have ht2 : t = 38 := e1.2.1
      subst ht2
      exact ⟨_, by rw [hln, hl]; simp [noughts], h1⟩
    · exact ⟨l, rfl, hb'.past h2 e⟩
  · by_cases e : g' = g
    · subst e; exact h1
    · exact hb'.past h2 e
  · by_cases e : g' = g
    · subst e
      have e1 := Obj.cells.inj (Option.some.inj (hb'.symm.trans hb))
      exact absurd e1.2.1 (by decide)
    · exact hb'.past h2 e
theorem krR_setNonce {o : OpM} {w : World} {g : Nat} {kk : List (BitVec 8)} (hb : BytesAt w g 40 kk) (hl : kk.length = 12) : KrR o w (w.setRow g (bytesV (o.n :: noughts 11)).toArray) ∧ BytesAt (w.setRow g (bytesV (o.n :: noughts 11)).toArray) g 40 (o.n :: noughts 11) := by
  have h1 : BytesAt (w.setRow g (bytesV (o.n :: noughts 11)).toArray) g 40 (o.n :: noughts 11) := setRow_heap _ _ _ _ _ _ hb
  have h2 := grown_setRow w g (bytesV (o.n :: noughts 11)).toArray
  refine ⟨⟨fun g' t l ht hb' => ?_, fun g' hb' => ?_, fun g' hb' => ?_⟩, h1⟩
  · by_cases e : g' = g
    · subst e
      have e1 := Obj.cells.inj (Option.some.inj (hb'.symm.trans hb))
      have hln : l.length = kk.length := by simpa [bytesV] using congrArg Array.size e1.1
      have ht2 : t = 40 := e1.2.1
      subst ht2
      exact ⟨_, by rw [hln, hl]; simp [noughts], h1⟩
    · exact ⟨l, rfl, hb'.past h2 e⟩
  · by_cases e : g' = g
    · subst e
      have e1 := Obj.cells.inj (Option.some.inj (hb'.symm.trans hb))
      exact absurd e1.2.1 (by decide)
    · exact hb'.past h2 e
  · by_cases e : g' = g
    · subst e; exact h1
    · exact hb'.past h2 e
end Go.Proofs.Ytacgkfngpeieaaa

/-
  The walk of the law BoxBlind: what is sealed hangs on lengths alone.
-/
namespace Go.Proofs.Ytacgkfngpeieaaa
open Go.RowKit Go.Proofs.ShaWords
theorem thingT : ElemT 50 46 46 96 := ⟨Try.underlying46, elemInfo (by kernel_rfl) (by kernel_rfl), by decide, by decide⟩
section
variable {ρ : Operand → Value} {o : Oper} {x y z : Operand}
set_option maxRecDepth 100000 in
theorem run_thingOf {b : BitVec 8} {p q : Option Addr} {hd pl : List (BitVec 8)} {c d nh np : Nat} (hh : hd.length = nh) (hp : pl.length = np) (ho : o.op = .build 50 #[(0, x), (2, y), (3, z)]) (hx : ρ x = .agg (bytesV (b :: noughts 31)).toArray) (hy : ρ y = .slice p nh c) (hz : ρ z = .slice q np d) (w : World) :
    (execOp ρ o).run Try.prog w = .ok (.value (.agg (ThingM.cells ⟨b :: noughts 31, noughts 12, p, c, hd, q, d, pl⟩).toArray)) w := by
  subst hh hp
  have e1 : (bytesV (b :: noughts 31)).toArray = #[.int .u8 (n8 b), .int .u8 0, .int .u8 0, .int .u8 0, .int .u8 0, .int .u8 0, .int .u8 0, .int .u8 0, .int .u8 0, .int .u8 0, .int .u8 0, .int .u8 0, .int .u8 0, .int .u8 0, .int .u8 0, .int .u8 0, .int .u8 0, .int .u8 0, .int .u8 0, .int .u8 0, .int .u8 0, .int .u8 0, .int .u8 0, .int .u8 0, .int .u8 0, .int .u8 0, .int .u8 0, .int .u8 0, .int .u8 0, .int .u8 0, .int .u8 0, .int .u8 0] := rfl
  have e2 : (ThingM.cells ⟨b :: noughts 31, noughts 12, p, c, hd, q, d, pl⟩).toArray = #[.int .u8 (n8 b), .int .u8 0, .int .u8 0, .int .u8 0, .int .u8 0, .int .u8 0, .int .u8 0, .int .u8 0, .int .u8 0, .int .u8 0, .int .u8 0, .int .u8 0, .int .u8 0, .int .u8 0, .int .u8 0, .int .u8 0, .int .u8 0, .int .u8 0, .int .u8 0, .int .u8 0, .int .u8 0, .int .u8 0, .int .u8 0, .int .u8 0, .int .u8 0, .int .u8 0, .int .u8 0, .int .u8 0, .int .u8 0, .int .u8 0, .int .u8 0, .int .u8 0,
    .int .u8 0, .int .u8 0, .int .u8 0, .int .u8 0, .int .u8 0, .int .u8 0, .int .u8 0, .int .u8 0, .int .u8 0, .int .u8 0, .int .u8 0, .int .u8 0, .slice p hd.length c, .slice q pl.length d] := rfl
  rw [e1] at hx
  rw [e2]
  obtain ⟨dst, op, ty', pos, after, guard⟩ := o
  simp only at ho
  subst ho
  go_simp
end
theorem ThingM.ones (t : ThingM) : t.cells.toArray.all (·.oneCell') = true := by
  rw [Array.all_eq_true_iff_forall_mem]
  intro u hu
  simp only [ThingM.cells, bytesV, List.mem_toArray, List.mem_append, List.mem_map, List.mem_cons, List.not_mem_nil, or_false] at hu
  rcases hu with ⟨x, _, rfl⟩ | ⟨x, _, rfl⟩ | rfl | rfl <;> rfl
theorem run_toU8 {ρ : Operand → Value} {o : Oper} {x : Operand} {k : Nat} (ho : o.op = .convert 3 5 x) (hx : ρ x = .int .i64 (k : Int)) (hk : k < 256) (w : World) : (execOp ρ o).run Try.prog w = .ok (.value (.int .u8 (n8 (BitVec.ofNat 8 k)))) w := by
  obtain ⟨dst, op, ty', pos, after, guard⟩ := o
  simp only at ho
  subst ho
  have h : IntKind.u8.wrap (k : Int) = (k : Int) := by rw [IntKind.wrap_u8']; omega
  have e : n8 (BitVec.ofNat 8 k) = (k : Int) := by unfold n8; rw [BitVec.toNat_ofNat]; omega
  rw [e]
  go_simp
theorem r_remV {ρ : Operand → Value} {o : Oper} {x y : Operand} {n k : Nat} {ty : TypeId} (ho : o.op = .binOp .rem 3 x y ty) (hx : ρ x = .int .i64 (n : Int)) (hy : ρ y = .int .i64 (k : Int)) (hk : 0 < k) (hn : n < 1000000) (w : World) : (execOp ρ o).run Try.prog w = .ok (.value (.int .i64 ((n % k : Nat) : Int))) w := by
  obtain ⟨dst, op, ty', pos, after, guard⟩ := o
  simp only at ho
  subst ho
  have q0 : ¬ (k : Int) = 0 := by omega
  have q1 : ¬ k = 0 := by omega
  obtain ⟨t, ht⟩ : ∃ t, t = n % k := ⟨_, rfl⟩
  have hle : t ≤ n := by rw [ht]; exact Nat.mod_le n k
  have q2 : (n : Int).tmod (k : Int) = (t : Int) := by rw [ht, Int.tmod_eq_emod_of_nonneg (by omega)]; rfl
  have q4 : (n : Int) % (k : Int) = (t : Int) := by rw [ht]; rfl
  have q3 : IntKind.i64.wrap (t : Int) = (t : Int) := IntWalk.i64_in _ (by omega)
  rw [← ht]
  clear ht hle
  go_simp
theorem r_addV {ρ : Operand → Value} {o : Oper} {x y : Operand} {n k : Nat} {ty : TypeId} (ho : o.op = .binOp .add 3 x y ty) (hx : ρ x = .int .i64 (n : Int)) (hy : ρ y = .int .i64 (k : Int)) (hn : n < 1000000) (hk : k < 1000000) (w : World) : (execOp ρ o).run Try.prog w = .ok (.value (.int .i64 ((n + k : Nat) : Int))) w := by
  obtain ⟨dst, op, ty', pos, after, guard⟩ := o
  simp only at ho
  subst ho
  obtain ⟨t, ht⟩ : ∃ t, t = n + k := ⟨_, rfl⟩
  have q3 : IntKind.i64.wrap ((n : Int) + (k : Int)) = (t : Int) := by rw [IntWalk.i64_in _ (by omega)]; omega
  rw [← ht]
  go_simp
/-- The other things, as they are made: ov in a block of one's own; what is to be sealed in blocks of D; the heads came in. -/
structure OthW (w : World) (B : Nat) (D : Nat → Prop) (ov : Value) (O : List ThingM) (wr : World) : Prop where
  rows : wr.ownsRow B 50 46 ov O.length (O.flatMap ThingM.cells)
  size : ∀ t ∈ O, t.key.length = 32 ∧ t.nonce.length = 12 ∧ t.head.length ≤ t.hc ∧ t.plain.length ≤ t.tc
  heads : ∀ t ∈ O, LiesIn (fun k => k < w.heap.size) wr t.hp t.head
  plains : ∀ t ∈ O, LiesIn D wr t.tp t.plain
  clear : ∀ k, ov.ownBlock = some k → ¬ D k
  dom : ∀ k, D k → B ≤ k ∧ k < wr.heap.size
theorem OthW.keep {w wr w' : World} {B : Nat} {D F : Nat → Prop} {ov : Value} {O : List ThingM} (h : OthW w B D ov O wr) (hk : Stays F wr w') (hF : ∀ k, F k → w.heap.size ≤ k ∧ ¬ D k ∧ ov.ownBlock ≠ some k) : OthW w B D ov O w' :=
  ⟨ownsRow_stays h.rows hk (fun k e f => (hF k f).2.2 e), h.size, fun t ht => (h.heads t ht).keep hk (fun k f hl => by have := (hF k f).1; omega), fun t ht => (h.plains t ht).keep hk (fun k f => (hF k f).2.1), h.clear, fun k d => ⟨(h.dom k d).1, Nat.lt_of_lt_of_le (h.dom k d).2 hk.size⟩⟩
/-- One more. -/
theorem OthW.snoc {w wr w' : World} {B B2 : Nat} {D : Nat → Prop} {ov ov' pv : Value} {O : List ThingM} {t : ThingM} (h : OthW w B D ov O wr) (hp : Own B2 wr t.plain pv) (hpv : pv = .slice t.tp t.plain.length t.tc) (hB : B ≤ B2) (hB2 : ∀ k, D k ∨ ov.ownBlock = some k → k < B2)
    (ht : t.key.length = 32 ∧ t.nonce.length = 12 ∧ t.head.length ≤ t.hc) (hh : LiesIn (fun k => k < w.heap.size) wr t.hp t.head) (hw : w.heap.size ≤ B)
    (hrow : w'.ownsRow B 50 46 ov' (O.length + 1) (O.flatMap ThingM.cells ++ t.cells)) (hs : Stays (fun k => ov.ownBlock = some k) wr w') (hfr : ∀ k, ov'.ownBlock = some k → ov.ownBlock = some k ∨ wr.heap.size ≤ k) :
    OthW w B (fun k => D k ∨ pv.ownBlock = some k) ov' (O ++ [t]) w' := by
  have hou : ∀ k, pv.ownBlock = some k → B2 ≤ k ∧ k < wr.heap.size := fun k hk => World.ownsRow.lt hp k hk
  have hov : ∀ k, ov.ownBlock = some k → B ≤ k ∧ k < wr.heap.size := fun k hk => World.ownsRow.lt h.rows k hk
  have hFD : ∀ k, ov.ownBlock = some k → ¬ (D k ∨ pv.ownBlock = some k) := fun k f hd => by
    rcases hd with h2 | h2
    · exact h.clear k f h2
    · have := hou k h2; have := hB2 k (Or.inr f); omega
  have hcap : t.plain.length ≤ t.tc := by
    obtain ⟨p', c', e, h1, -⟩ := hp.lies
    rw [hpv] at e
    cases e
    exact h1
  refine ⟨?_, fun x hx => ?_, fun x hx => ?_, fun x hx => ?_, fun k hk hd => ?_, fun k hk => ?_⟩
  · rw [List.length_append, List.flatMap_append]
    simpa using hrow
  · rcases List.mem_append.1 hx with hx | hx
    · exact h.size x hx
    · rw [List.mem_singleton.1 hx]; exact ⟨ht.1, ht.2.1, ht.2.2, hcap⟩
  · rcases List.mem_append.1 hx with hx | hx
    · exact (h.heads x hx).keep hs (fun k f hl => by have := (hov k f).1; omega)
    · rw [List.mem_singleton.1 hx]; exact hh.keep hs (fun k f hl => by have := (hov k f).1; omega)
  · rcases List.mem_append.1 hx with hx | hx
    · exact ((h.plains x hx).keep hs (fun k f hd => h.clear k f hd)).more (fun k hk _ => Or.inl hk)
    · rw [List.mem_singleton.1 hx]
      obtain ⟨p', c', e, -, -, hl⟩ := hp.sliceIn (D := fun k => D k ∨ pv.ownBlock = some k) (fun k hk => Or.inr hk)
      rw [hpv] at e
      cases e
      exact hl.keep hs (fun k f hd => hFD k f hd)
  · rcases hfr k hk with h1 | h1
    · exact hFD k h1 hd
    · rcases hd with h2 | h2
      · have := (h.dom k h2).2; omega
      · have := hou k h2; omega
  · have hz := hs.size
    rcases hk with h1 | h1
    · have := h.dom k h1; omega
    · have := hou k h1; omega
theorem flatMap_cells {O : List ThingM} (h : ∀ t ∈ O, t.key.length = 32 ∧ t.nonce.length = 12) (i : Nat) (hi : i < O.length) (j : Nat) (hj : j < 46) : (O.flatMap ThingM.cells)[i * 46 + j]? = O[i].cells[j]? := by
  induction O generalizing i with
  | nil => simp at hi
  | cons r O ih =>
    have h1 := ThingM.cells_length (h r (by simp)).1 (h r (by simp)).2
    rw [List.flatMap_cons]
    cases i with
    | zero => rw [List.getElem?_append_left (by omega)]; simp
    | succ i =>
      rw [List.getElem?_append_right (by omega), h1, show (i + 1) * 46 + j - 46 = i * 46 + j by omega]
      exact ih (fun x hx => h x (by simp [hx])) i (by simpa using hi)
/-- They are things, as all asks. -/
theorem OthW.things {w wr : World} {B : Nat} {D : Nat → Prop} {ov : Value} {O : List ThingM} (h : OthW w B D ov O wr) : ∃ p c, ov = .slice p O.length c ∧ ThingsAt wr p O ∧ ∀ t ∈ O, t.Ok wr := by
  have hok : ∀ t ∈ O, t.Ok wr := fun t ht => ⟨(h.size t ht).1, (h.size t ht).2.1, (h.heads t ht).lies, (h.plains t ht).lies, (h.size t ht).2.2.1, (h.size t ht).2.2.2⟩
  rcases h.rows.2 with ⟨h0, h1⟩ | ⟨g, cap, cur, he, hb, hh, h3, h4, h5, h6⟩
  · exact ⟨none, 0, by rw [h0, h1], Or.inl (List.length_eq_zero_iff.1 h1), hok⟩
  · refine ⟨_, cap, he, Or.inr ⟨g, 0, rfl, fun i hi => ?_⟩, hok⟩
    intro j v hv
    have hj : j < 46 := by
      have h1 := (List.getElem?_eq_some_iff.1 hv).1
      have h2 := ThingM.cells_length (h.size O[i] (List.getElem_mem _)).1 (h.size O[i] (List.getElem_mem _)).2.1
      omega
    have hc := World.ownsRow.cells h.rows (g := g) (by rw [he]; rfl) (i * 46 + j) v (by rw [flatMap_cells (fun t ht => ⟨(h.size t ht).1, (h.size t ht).2.1⟩) i hi j hj]; exact hv)
    rw [Addr.add_mid, Nat.zero_add] at hc
    rw [Nat.zero_add]; exact hc
theorem allOf_mem {l : List (BitVec 8)} : ∀ (ms : List Nat) (d n : Nat), (∀ m ∈ ms, m ≤ 1024) → ∀ s ∈ allOf l d n ms, s.length < 1000000
  | [], _, _, _, s, hs => by unfold allOf at hs; cases hs
  | m :: ms, d, n, h, s, hs => by
    unfold allOf at hs
    rcases List.mem_cons.1 hs with rfl | hs
    · rw [boxOf_length]; have := h m (by simp); omega
    · exact allOf_mem ms _ _ (fun x hx => h x (by simp [hx])) s hs
theorem wpList_runW {P : Program} {ops : Array Oper} {rest : List Oper} {o : Oper} {a : Act} {w w' : World} {Q : Exit → Act → World → Prop} {v : Value} (hw : Region.wanted o (yielded ops a.tmps) = true) (hr : (execOp a.eval o).run P w = .ok (.value v) w')
    (h : wpList P ops Q rest (a.put o.dst v) w') : wpList P ops Q (o :: rest) a w := by
  unfold wpList
  rw [if_pos hw]
  refine .inl ?_
  unfold Oper.wp
  rw [hr, Oper.upon_value]
  exact h
attribute [local irreducible] boxOf allOf allD allA lens
set_option maxRecDepth 100000 in
set_option maxHeartbeats 8000000 in
theorem boxBlind_any (l : List (BitVec 8)) (ts : List ThingM) (tn : List (BitVec 8)) (n no nt cl co ct : Nat) (pl po pt : Option Addr) (w : World) (hl : l.length = n) (hln : n ≤ 140737488351232) (hp : Lies w pl l) (hos : ts.length = no) (hop : ThingsAt w po ts) (hok : ∀ t ∈ ts, t.Ok w)
    (ht : tn.length = nt) (htc : nt ≤ ct) (htn : nt ≤ 140737488351232) (hpt : Lies w pt tn) :
    Calls Try.prog 5 #[.slice pl n cl, .slice po no co, .slice pt nt ct] w fun e w' => e = .returned (.bool true) ∧ Below w.heap.size w w' := by
  have HL := Lib.hid hl
  have HP := Lib.hid hp; clear hp
  have HOS := Lib.hid hos
  have HOP := Lib.hid hop; clear hop
  have HOK := Lib.hid hok; clear hok
  have HT := Lib.hid ht
  have HPT := Lib.hid hpt; clear hpt
  clear hl hos ht
  go_enter Try.func5, Try.ntmps5
  go_wp2_with fail
  refine (codeNew_any l n pl cl w HL.out (by omega) HP.out).mono ?_
  rintro e w1 ⟨x, Sx, rfl, hcx, hSx, hb1⟩
  obtain ⟨bx, rfl⟩ := hcx.pointer
  have HCX := Lib.hid hcx; clear hcx
  have HSX := Lib.hid hSx; clear hSx
  have HB1 := Lib.hid hb1; clear hb1
  go_wp2_with fail
  refine (codeNew_any l n pl cl w1 HL.out (by omega) (HP.out.below HB1.out)).mono ?_
  rintro e w2 ⟨y, Sy, rfl, hcy, hSy, hb2⟩
  obtain ⟨by', rfl⟩ := hcy.pointer
  have HCY := Lib.hid hcy; clear hcy
  have HSY := Lib.hid hSy; clear hSy
  have HB12 := Lib.hid hb2
  have HB2 : Hid (Below w.heap.size w w2) := show Below _ _ _ from HB1.out.trans (hb2.mono HB1.out.size)
  have HCX2 := Lib.hid (HCX.out.keep (F := fun _ => False) (Below.stays hb2) (fun _ h => h.elim))
  have HXD : Hid (∀ k, Sx k → k < w1.heap.size) := show ∀ k, _ from fun k hk => HCX.out.dom k hk
  clear hb2 HCX
  have HOK2 : Hid (∀ t ∈ ts, t.Ok w2) := show ∀ t ∈ ts, _ from fun t ht => (HOK.out t ht).below HB2.out
  go_wp2_with fail
  refine (great_any ts no po co w2 HOS.out (HOP.out.below HB2.out) HOK2.out).mono ?_
  rintro e w3 ⟨⟨g, rfl, hg⟩, rfl⟩
  cases g with
  | true =>
    go_wp2_with fail
    refine (known6_any w2).mono ?_
    rintro e w3 ⟨rfl, hb3⟩
    go_wp2_with fail
    go_ret
    exact ⟨rfl, HB2.out.trans (hb3.mono HB2.out.size)⟩
  | false =>
    have HSL := Lib.hid (hg rfl); clear hg
    have h40 : no ≤ 40 := by have h1 := HSL.out.1; have h2 := HOS.out; omega
    have z12 : w1.heap.size ≤ w2.heap.size := HB12.out.size
    have zw1 : w.heap.size ≤ w1.heap.size := HB1.out.size
    have H0 : Hid (lens ([] : List ThingM) = lens (ts.take 0)) := show _ = _ from rfl
    go_wp2_with fail
    go_loopw [9, 10] (fun ov i wr => ∃ (k : Nat) (O : List ThingM) (D : Nat → Prop), k ≤ no ∧ i = .int .i64 (k : Int) ∧ OthW w w2.heap.size D ov O wr ∧ O.length = k ∧ lens O = lens (ts.take k) ∧ (∀ t ∈ O, t.head = tn) ∧ Below w2.heap.size w2 wr) (fun _ i _ => no - (intOf i).toNat)
    case atStart =>
      refine ⟨0, [], fun _ => False, by omega, rfl, ⟨World.ownsRow_nil _ _ _ _, by simp, by simp, by simp, by simp [Value.ownBlock], fun _ h => h.elim⟩, rfl, H0.out, by simp, Below.refl _ _⟩
    case round =>
      obtain ⟨k, O, D, hk, rfl, hoth, hol, holn, hoh, hb⟩ := hrel
      have HO := Lib.hid hoth; clear hoth
      have HOL := Lib.hid hol; clear hol
      have HLN := Lib.hid holn; clear holn
      have HOH := Lib.hid hoh; clear hoh
      have HB := Lib.hid hb; clear hb
      have HBW : Hid (Below w.heap.size w wr) := show Below _ _ _ from HB2.out.trans (HB.out.mono HB2.out.size)
      by_cases hlt : k < no
      · have q1 : (k : Int) < (no : Int) := by omega
        have hkt : k < ts.length := by have := HOS.out; omega
        rcases HOP.out with h0 | ⟨b, off, rfl, hr⟩
        · exfalso; rw [h0] at hkt; simp at hkt
        obtain ⟨t, ht⟩ : ∃ t, t = ts[k] := ⟨_, rfl⟩
        have htm : t ∈ ts := by rw [ht]; exact List.getElem_mem _
        have HTO := Lib.hid ((HOK.out t htm).below HBW.out)
        have HTS := Lib.hid (HSL.out.2 t htm)
        have HTK : Hid (ts.take (k + 1) = ts.take k ++ [t]) := show _ = _ by rw [ht]; exact List.take_succ_eq_append_getElem hkt
        have hrange := range_below (hr k hkt) HBW.out
        rw [← ht] at hrange
        have HRG := Lib.hid hrange; clear hrange hr htm ht hkt
        have HCS : Hid (t.cells.length = 46) := show _ = _ from ThingM.cells_length HTO.out.key HTO.out.nonce
        have hsz46 : (Try.prog.info? 50).map (·.size) = some 46 := by kernel_rfl
        have HI : Hid ((Try.prog.info? 50).map (·.size) = some t.cells.length) := show _ = _ from hsz46.trans (congrArg some HCS.out.symm)
        have HCA : Hid (t.cells.toArray.size = 46) := show _ = _ by rw [List.size_toArray]; exact HCS.out
        have HI2 : Hid ((Try.prog.info? 50).map (·.size) = some t.cells.toArray.size) := show _ = _ from hsz46.trans (congrArg some HCA.out.symm)
        have HON : Hid (t.cells.toArray.all (·.oneCell') = true) := show _ = _ from ThingM.ones t
        clear hsz46
        go_upto_region 10 with (first
          | (refine wpList_load_mid rfl 50 (.tmp 37) rfl b (off + k * 46) rfl t.cells _ HRG.out Try.underlying50 rfl HI.out ?_)
          | (refine wpList_store_new rfl 50 (.tmp 11) (.tmp 38) rfl wr.heap.size rfl t.cells.toArray rfl rfl HI2.out (by rw [HCA.out]; rfl) HON.out ?_; intro w4 h4 b4; have HT4 := Lib.hid h4; have HB4 := Lib.hid b4; clear h4 b4))
        rename World => w4
        have e45 : w4.cell? ⟨wr.heap.size, 45, none⟩ = some (.slice t.tp t.plain.length t.tc) := by
          have h : w4.rangeAt wr.heap.size 0 t.cells := fun j u hu => by rw [Nat.zero_add, cell_of_row w4 _ j _ _ _ HT4.out]; simpa using hu
          have := (ThingM.parts h HTO.out.key HTO.out.nonce).2.2.2
          rwa [Nat.zero_add] at this
        have HB24 : Hid (Below w2.heap.size w2 w4) := show Below _ _ _ from HB.out.trans (HB4.out.mono HB.out.size)
        have HPL : Hid (Lies w4 t.tp t.plain) := show Lies _ _ _ from HTO.out.plain.below HB4.out
        have zr4 : wr.heap.size ≤ w4.heap.size := HB4.out.size
        have HO4 : Hid (OthW w w2.heap.size D u9 O w4) := show OthW _ _ _ _ _ _ from HO.out.keep (F := fun _ => False) (Below.stays HB4.out) (fun _ h => h.elim)
        clear HI HI2 HCA HON HCS HRG HT4
        go_wp2_with fail
        clear e45
        refine (copy_any t.plain t.tp t.tc w4 (by have := HTS.out; omega) HPL.out).mono ?_
        rintro e w5 ⟨pv, rfl, ho5, hb5⟩
        obtain ⟨qp, cpp, hpv, hcp1, -, -⟩ := ho5.lies
        subst hpv
        have HO5 := Lib.hid ho5; clear ho5
        have HB5 := Lib.hid hb5; clear hb5
        obtain ⟨m, hm⟩ : ∃ m, m = t.plain.length := ⟨_, rfl⟩
        have hm1 : m ≤ 1024 := by have := HTS.out; omega
        rw [← hm] at HO5 hcp1 ⊢
        have HML := Lib.hid hm; clear hm
        go_wp2_with fail
        go_loopw [13] (fun i wq => ∃ (j : Nat) (ys : List (BitVec 8)), j ≤ m ∧ i = .int .i64 (j : Int) ∧ ys.length = m ∧ Own w4.heap.size wq ys (.slice qp m cpp) ∧ Below w4.heap.size w4 wq) (fun i _ => m - (intOf i).toNat)
        case atStart => exact ⟨0, t.plain, by omega, rfl, HML.out.symm, HO5.out, HB5.out⟩
        case round =>
          clear HO5 HB5
          obtain ⟨j, ys, hj, rfl, hys, hoq, hbq⟩ := hrel
          have HYS := Lib.hid hys; clear hys
          have HOQ := Lib.hid hoq; clear hoq
          have HBQ := Lib.hid hbq; clear hbq
          by_cases hjm : j < m
          · have q2 : (j : Int) < (m : Int) := by omega
            by_cases hnt : 0 < nt
            · have q3 : (0 : Int) < (nt : Int) := by omega
              obtain ⟨gp, cq', hpv, hgp, -, -⟩ := (HOQ.out.below (w' := wr.drew) ((Below.refl _ _).drew)).form8 (by rw [HYS.out]; omega)
              rw [HYS.out] at hpv
              cases hpv
              have hoD : Own w4.heap.size wr.drew ys (.slice (some ⟨gp, 0, none⟩) m cpp) := HOQ.out.below ((Below.refl _ _).drew)
              have hbD : Below w4.heap.size w4 wr.drew := HBQ.out.trans (((Below.refl wr.heap.size wr).drew).mono HBQ.out.size)
              have hbw : Below w.heap.size w wr.drew := HB2.out.trans ((HB24.out.trans (hbD.mono HB24.out.size)).mono HB2.out.size)
              rcases HPT.out.below hbw with h0 | ⟨bt, ot, rfl, hrt⟩
              · exfalso
                have := HT.out
                rw [h0] at this
                simp at this
                omega
              obtain ⟨i, hi⟩ : ∃ i, i = (k + j) % nt := ⟨_, rfl⟩
              have hil : i < nt := by rw [hi]; exact Nat.mod_lt _ hnt
              have hct : wr.drew.cell? ⟨bt, ot + i, none⟩ = some (.int .u8 (n8 (tn.getD i 0#8))) := hrt i _ (by
                have h1 : i < tn.length := by rw [HT.out]; exact hil
                rw [List.getD_eq_getElem?_getD, List.getElem?_eq_getElem h1]
                simp [bytesV, h1])
              have hcp : wr.drew.cell? ⟨gp, j, none⟩ = some (.int .u8 (n8 (ys.getD j 0#8))) := by
                have h1 : j < ys.length := by rw [HYS.out]; exact hjm
                have h2 := World.ownsRow.cellAt (show wr.drew.ownsRow w4.heap.size 5 1 (.slice (some ⟨gp, 0, none⟩) ys.length cpp) ys.length (bytesV ys) from by rw [HYS.out]; have h3 := hoD; unfold Own at h3; rwa [HYS.out] at h3) j (by omega)
                rw [h2, List.getD_eq_getElem?_getD, List.getElem?_eq_getElem h1]
                simp [bytesV, h1]
              have hfz : wr.drew.frozen? ⟨gp, j, none⟩ = false := World.ownsRow.frozenAt (show wr.drew.ownsRow w4.heap.size 5 1 (.slice (some ⟨gp, 0, none⟩) ys.length cpp) ys.length (bytesV ys) from by rw [HYS.out]; have h3 := hoD; unfold Own at h3; rwa [HYS.out] at h3) j
              have HE : Hid (wr.drew.cell? ⟨gp, j, none⟩ = some (.int .u8 (n8 (ys.getD j 0#8))) ∧ wr.drew.cell? ⟨bt, ot + i, none⟩ = some (.int .u8 (n8 (tn.getD i 0#8)))) := show _ ∧ _ from ⟨hcp, hct⟩
              have HPX : Hid (Own w4.heap.size (wr.drew.setCell ⟨gp, j, none⟩ (.int .u8 (n8 (ys.getD j 0#8 ^^^ tn.getD i 0#8)))) (ys.set j (ys.getD j 0#8 ^^^ tn.getD i 0#8)) (.slice (some ⟨gp, 0, none⟩) m cpp)) := show Own _ _ _ _ from hoD.put j _
              have HBX : Hid (Below w4.heap.size w4 (wr.drew.setCell ⟨gp, j, none⟩ (.int .u8 (n8 (ys.getD j 0#8 ^^^ tn.getD i 0#8))))) := show Below _ _ _ from hbD.setCell hgp _
              have HFZ := Lib.hid hfz
              clear hoD hbD hbw hrt hct hcp hfz
              go_upto_region 14 with (fail)
              refine region_phase (fun _ => True) (fun wr' => wr'.cell? ⟨gp, j, none⟩ = some (.int .u8 (n8 (ys.getD j 0#8))) ∧ wr'.cell? ⟨bt, ot + i, none⟩ = some (.int .u8 (n8 (tn.getD i 0#8)))) 17 (trivial) HE.out [(0, .free), (1, .free), (2, .free), (3, .free), (4, .free), (5, .early), (6, .free), (7, .free), (8, .free), (9, .free), (10, .free), (11, .free), (12, .free), (13, .free), (14, .early), (15, .free), (16, .free), (17, .behind)] (by kernel_rfl) (by kernel_rfl) (by kernel_rfl) (by kernel_rfl) (fun ops hops A2 hA => ?_)
              have hsz : A2.tmps.size = 89 := by rw [hA]; rfl
              have base2 : A2.eval (.tmp 2) = .slice (some ⟨bt, ot, none⟩) nt ct := by rw [hA]; rfl
              have base10 : A2.eval (.tmp 10) = .int .i64 (k : Int) := by rw [hA]; rfl
              have base12 : A2.eval (.tmp 12) = .slice (some ⟨gp, 0, none⟩) m cpp := by rw [hA]; rfl
              have base13 : A2.eval (.tmp 13) = .int .i64 (j : Int) := by rw [hA]; rfl
              have HAA := Lib.hid hA; clear hA
              obtain ⟨o0, po0, q0, d0, gd0⟩ : ∃ o, ops[0]? = some o ∧ o.op = .move (.tmp 12) ∧ o.dst = some 53 ∧ o.guard = none := ⟨_, by rw [hops]; rfl, rfl, rfl, rfl⟩
              obtain ⟨o1, po1, q1, d1, gd1⟩ : ∃ o, ops[1]? = some o ∧ o.op = .move (.tmp 13) ∧ o.dst = some 54 ∧ o.guard = none := ⟨_, by rw [hops]; rfl, rfl, rfl, rfl⟩
              obtain ⟨o2, po2, q2, d2, gd2⟩ : ∃ o, ops[2]? = some o ∧ o.op = .move (.tmp 12) ∧ o.dst = some 55 ∧ o.guard = none := ⟨_, by rw [hops]; rfl, rfl, rfl, rfl⟩
              obtain ⟨o3, po3, q3, d3, gd3⟩ : ∃ o, ops[3]? = some o ∧ o.op = .move (.tmp 13) ∧ o.dst = some 56 ∧ o.guard = none := ⟨_, by rw [hops]; rfl, rfl, rfl, rfl⟩
              obtain ⟨o4, po4, q4, d4, gd4⟩ : ∃ o, ops[4]? = some o ∧ o.op = .indexAddr 22 (.tmp 55) (.tmp 56) ∧ o.dst = some 57 ∧ o.guard = none := ⟨_, by rw [hops]; rfl, rfl, rfl, rfl⟩
              obtain ⟨o5, po5, q5, d5, gd5⟩ : ∃ o, ops[5]? = some o ∧ o.op = .load 5 (.tmp 57) ∧ o.dst = some 58 ∧ o.guard = none := ⟨_, by rw [hops]; rfl, rfl, rfl, rfl⟩
              obtain ⟨o6, po6, q6, d6, gd6⟩ : ∃ o, ops[6]? = some o ∧ o.op = .move (.tmp 2) ∧ o.dst = some 59 ∧ o.guard = none := ⟨_, by rw [hops]; rfl, rfl, rfl, rfl⟩
              obtain ⟨o7, po7, q7, d7, gd7⟩ : ∃ o, ops[7]? = some o ∧ o.op = .move (.tmp 10) ∧ o.dst = some 60 ∧ o.guard = none := ⟨_, by rw [hops]; rfl, rfl, rfl, rfl⟩
              obtain ⟨o8, po8, q8, d8, gd8⟩ : ∃ o, ops[8]? = some o ∧ o.op = .move (.tmp 13) ∧ o.dst = some 61 ∧ o.guard = none := ⟨_, by rw [hops]; rfl, rfl, rfl, rfl⟩
              obtain ⟨o9, po9, q9, d9, gd9⟩ : ∃ o, ops[9]? = some o ∧ o.op = .binOp .add 3 (.tmp 60) (.tmp 61) 3 ∧ o.dst = some 62 ∧ o.guard = none := ⟨_, by rw [hops]; rfl, rfl, rfl, rfl⟩
              obtain ⟨o10, po10, q10, d10, gd10⟩ : ∃ o, ops[10]? = some o ∧ o.op = .move (.tmp 2) ∧ o.dst = some 63 ∧ o.guard = none := ⟨_, by rw [hops]; rfl, rfl, rfl, rfl⟩
              obtain ⟨o11, po11, q11, d11, gd11⟩ : ∃ o, ops[11]? = some o ∧ o.op = .call { callee := .builtin .len, args := #[.tmp 63], argTypes := #[22] } ∧ o.dst = some 64 ∧ o.guard = none := ⟨_, by rw [hops]; rfl, rfl, rfl, rfl⟩
              obtain ⟨o12, po12, q12, d12, gd12⟩ : ∃ o, ops[12]? = some o ∧ o.op = .binOp .rem 3 (.tmp 62) (.tmp 64) 3 ∧ o.dst = some 65 ∧ o.guard = none := ⟨_, by rw [hops]; rfl, rfl, rfl, rfl⟩
              obtain ⟨o13, po13, q13, d13, gd13⟩ : ∃ o, ops[13]? = some o ∧ o.op = .indexAddr 22 (.tmp 59) (.tmp 65) ∧ o.dst = some 66 ∧ o.guard = none := ⟨_, by rw [hops]; rfl, rfl, rfl, rfl⟩
              obtain ⟨o14, po14, q14, d14, gd14⟩ : ∃ o, ops[14]? = some o ∧ o.op = .load 5 (.tmp 66) ∧ o.dst = some 67 ∧ o.guard = none := ⟨_, by rw [hops]; rfl, rfl, rfl, rfl⟩
              obtain ⟨o15, po15, q15, d15, gd15⟩ : ∃ o, ops[15]? = some o ∧ o.op = .binOp .xor 5 (.tmp 58) (.tmp 67) 5 ∧ o.dst = some 68 ∧ o.guard = none := ⟨_, by rw [hops]; rfl, rfl, rfl, rfl⟩
              obtain ⟨o16, po16, q16, d16, gd16⟩ : ∃ o, ops[16]? = some o ∧ o.op = .indexAddr 22 (.tmp 53) (.tmp 54) ∧ o.dst = some 69 ∧ o.guard = none := ⟨_, by rw [hops]; rfl, rfl, rfl, rfl⟩
              obtain ⟨o17, po17, q17, d17, gd17⟩ : ∃ o, ops[17]? = some o ∧ o.op = .store 5 (.tmp 69) (.tmp 68) ∧ o.dst = none ∧ o.guard = none := ⟨_, by rw [hops]; rfl, rfl, rfl, rfl⟩
              clear hops
              refine met_free po0 d0 (wanted_of gd0) (fun w' h' => run_move q0 base12 w') ?_
              refine met_free po1 d1 (wanted_of gd1) (fun w' h' => run_move q1 ((eval_other _ 53 13 _ (by decide)).trans base13) w') ?_
              refine met_free po2 d2 (wanted_of gd2) (fun w' h' => run_move q2 ((eval_other _ 54 12 _ (by decide)).trans ((eval_other _ 53 12 _ (by decide)).trans base12)) w') ?_
              refine met_free po3 d3 (wanted_of gd3) (fun w' h' => run_move q3 ((eval_other _ 55 13 _ (by decide)).trans ((eval_other _ 54 13 _ (by decide)).trans ((eval_other _ 53 13 _ (by decide)).trans base13))) w') ?_
              refine met_free po4 d4 (wanted_of gd4) (fun w' h' => run_ixSlice0 q4 ((eval_other _ 56 55 _ (by decide)).trans (eval_same _ _ _ (by simp only [put_size, hsz]; decide))) (eval_same _ _ _ (by simp only [put_size, hsz]; decide)) hjm w') ?_
              refine met_early po5 d5 (wanted_of gd5) (fun w' h' hE' => run_load8 q5 (eval_same _ _ _ (by simp only [put_size, hsz]; decide)) hE'.1) ?_
              refine met_free po6 d6 (wanted_of gd6) (fun w' h' => run_move q6 ((eval_other _ 58 2 _ (by decide)).trans ((eval_other _ 57 2 _ (by decide)).trans ((eval_other _ 56 2 _ (by decide)).trans ((eval_other _ 55 2 _ (by decide)).trans ((eval_other _ 54 2 _ (by decide)).trans ((eval_other _ 53 2 _ (by decide)).trans base2)))))) w') ?_
              refine met_free po7 d7 (wanted_of gd7) (fun w' h' => run_move q7 ((eval_other _ 59 10 _ (by decide)).trans ((eval_other _ 58 10 _ (by decide)).trans ((eval_other _ 57 10 _ (by decide)).trans ((eval_other _ 56 10 _ (by decide)).trans ((eval_other _ 55 10 _ (by decide)).trans ((eval_other _ 54 10 _ (by decide)).trans ((eval_other _ 53 10 _ (by decide)).trans base10))))))) w') ?_
              refine met_free po8 d8 (wanted_of gd8) (fun w' h' => run_move q8 ((eval_other _ 60 13 _ (by decide)).trans ((eval_other _ 59 13 _ (by decide)).trans ((eval_other _ 58 13 _ (by decide)).trans ((eval_other _ 57 13 _ (by decide)).trans ((eval_other _ 56 13 _ (by decide)).trans ((eval_other _ 55 13 _ (by decide)).trans ((eval_other _ 54 13 _ (by decide)).trans ((eval_other _ 53 13 _ (by decide)).trans base13)))))))) w') ?_
              refine met_free po9 d9 (wanted_of gd9) (fun w' h' => r_addV q9 ((eval_other _ 61 60 _ (by decide)).trans (eval_same _ _ _ (by simp only [put_size, hsz]; decide))) (eval_same _ _ _ (by simp only [put_size, hsz]; decide)) (by omega) (by omega) w') ?_
              refine met_free po10 d10 (wanted_of gd10) (fun w' h' => run_move q10 ((eval_other _ 62 2 _ (by decide)).trans ((eval_other _ 61 2 _ (by decide)).trans ((eval_other _ 60 2 _ (by decide)).trans ((eval_other _ 59 2 _ (by decide)).trans ((eval_other _ 58 2 _ (by decide)).trans ((eval_other _ 57 2 _ (by decide)).trans ((eval_other _ 56 2 _ (by decide)).trans ((eval_other _ 55 2 _ (by decide)).trans ((eval_other _ 54 2 _ (by decide)).trans ((eval_other _ 53 2 _ (by decide)).trans base2)))))))))) w') ?_
              refine met_free po11 d11 (wanted_of gd11) (fun w' h' => run_len26 q11 (eval_same _ _ _ (by simp only [put_size, hsz]; decide)) w') ?_
              refine met_free po12 d12 (wanted_of gd12) (fun w' h' => (r_remV q12 ((eval_other _ 64 62 _ (by decide)).trans ((eval_other _ 63 62 _ (by decide)).trans (eval_same _ _ _ (by simp only [put_size, hsz]; decide)))) (eval_same _ _ _ (by simp only [put_size, hsz]; decide)) hnt (by omega) w').trans (by rw [← hi])) ?_
              refine met_free po13 d13 (wanted_of gd13) (fun w' h' => run_ixSlice q13 ((eval_other _ 65 59 _ (by decide)).trans ((eval_other _ 64 59 _ (by decide)).trans ((eval_other _ 63 59 _ (by decide)).trans ((eval_other _ 62 59 _ (by decide)).trans ((eval_other _ 61 59 _ (by decide)).trans ((eval_other _ 60 59 _ (by decide)).trans (eval_same _ _ _ (by simp only [put_size, hsz]; decide)))))))) (eval_same _ _ _ (by simp only [put_size, hsz]; decide)) hil w') ?_
              refine met_early po14 d14 (wanted_of gd14) (fun w' h' hE' => run_load8 q14 (eval_same _ _ _ (by simp only [put_size, hsz]; decide)) hE'.2) ?_
              refine met_free po15 d15 (wanted_of gd15) (fun w' h' => run_xor8 q15 ((eval_other _ 67 58 _ (by decide)).trans ((eval_other _ 66 58 _ (by decide)).trans ((eval_other _ 65 58 _ (by decide)).trans ((eval_other _ 64 58 _ (by decide)).trans ((eval_other _ 63 58 _ (by decide)).trans ((eval_other _ 62 58 _ (by decide)).trans ((eval_other _ 61 58 _ (by decide)).trans ((eval_other _ 60 58 _ (by decide)).trans ((eval_other _ 59 58 _ (by decide)).trans (eval_same _ _ _ (by simp only [put_size, hsz]; decide))))))))))) (eval_same _ _ _ (by simp only [put_size, hsz]; decide)) w') ?_
              refine met_free po16 d16 (wanted_of gd16) (fun w' h' => run_ixSlice0 q16 ((eval_other _ 68 53 _ (by decide)).trans ((eval_other _ 67 53 _ (by decide)).trans ((eval_other _ 66 53 _ (by decide)).trans ((eval_other _ 65 53 _ (by decide)).trans ((eval_other _ 64 53 _ (by decide)).trans ((eval_other _ 63 53 _ (by decide)).trans ((eval_other _ 62 53 _ (by decide)).trans ((eval_other _ 61 53 _ (by decide)).trans ((eval_other _ 60 53 _ (by decide)).trans ((eval_other _ 59 53 _ (by decide)).trans ((eval_other _ 58 53 _ (by decide)).trans ((eval_other _ 57 53 _ (by decide)).trans ((eval_other _ 56 53 _ (by decide)).trans ((eval_other _ 55 53 _ (by decide)).trans ((eval_other _ 54 53 _ (by decide)).trans (eval_same _ _ _ (by rw [hsz]; decide))))))))))))))))) ((eval_other _ 68 54 _ (by decide)).trans ((eval_other _ 67 54 _ (by decide)).trans ((eval_other _ 66 54 _ (by decide)).trans ((eval_other _ 65 54 _ (by decide)).trans ((eval_other _ 64 54 _ (by decide)).trans ((eval_other _ 63 54 _ (by decide)).trans ((eval_other _ 62 54 _ (by decide)).trans ((eval_other _ 61 54 _ (by decide)).trans ((eval_other _ 60 54 _ (by decide)).trans ((eval_other _ 59 54 _ (by decide)).trans ((eval_other _ 58 54 _ (by decide)).trans ((eval_other _ 57 54 _ (by decide)).trans ((eval_other _ 56 54 _ (by decide)).trans ((eval_other _ 55 54 _ (by decide)).trans (eval_same _ _ _ (by simp only [put_size, hsz]; decide)))))))))))))))) hjm w') ?_
              refine met_skip po17 d17 (wanted_of gd17) (run_store8 q17 (eval_same _ _ _ (by simp only [put_size, hsz]; decide)) ((eval_other _ 69 68 _ (by decide)).trans (eval_same _ _ _ (by simp only [put_size, hsz]; decide))) HE.out.1 HFZ.out) trivial ?_
              show NoPanic _ .normal _ _
              refine NoPanic.normal ?_
              rw [HAA.out]
              go_frame
              clear HAA
              have HZL : Hid ((ys.set j (ys.getD j 0#8 ^^^ tn.getD i 0#8)).length = m) := show _ = _ by rw [List.length_set]; exact HYS.out
              clear HE HFZ
              generalize ys.set j (ys.getD j 0#8 ^^^ tn.getD i 0#8) = zs at HPX HZL
              generalize wr.drew.setCell ⟨gp, j, none⟩ (.int .u8 (n8 (ys.getD j 0#8 ^^^ tn.getD i 0#8))) = wz at HPX HBX ⊢
              go_wp2_with fail
              go_roundw
              case rel => exact ⟨j + 1, zs, by omega, by go_num, HZL.out, HPX.out, HBX.out⟩
              case measure => simp [intOf]; omega
            · have q3 : ¬ (0 : Int) < (nt : Int) := by omega
              go_upto_region 15 with (fail)
              refine wp_act fun A2 hA => ?_
              have hsz : A2.tmps.size = 89 := by rw [hA]; rfl
              have base2 : A2.eval (.tmp 2) = .slice pt nt ct := by rw [hA]; rfl
              have base9 : A2.eval (.tmp 9) = u9 := by rw [hA]; rfl
              have base10 : A2.eval (.tmp 10) = .int .i64 (k : Int) := by rw [hA]; rfl
              have base12 : A2.eval (.tmp 12) = .slice qp m cpp := by rw [hA]; rfl
              have HAA := Lib.hid hA; clear hA
              refine wp_region_lit ?_
              refine wpList_run (wanted_of rfl) (run_move (v := u9) rfl base9 _) ?_
              refine wpList_run (wanted_of rfl) (run_move (v := .int .i64 (k : Int)) rfl ((eval_other _ 70 10 _ (by decide)).trans base10) _) ?_
              refine wpList_run (wanted_of rfl) (run_toU8 (k := k) rfl (eval_same _ _ _ (by simp only [put_size, hsz]; decide)) (by omega) _) ?_
              refine wpList_run (wanted_of rfl) (run_keyOf (b := BitVec.ofNat 8 k) rfl (eval_same _ _ _ (by simp only [put_size, hsz]; decide)) _) ?_
              refine wpList_run (wanted_of rfl) (run_move (v := .slice pt nt ct) rfl ((eval_other _ 73 2 _ (by decide)).trans ((eval_other _ 72 2 _ (by decide)).trans ((eval_other _ 71 2 _ (by decide)).trans ((eval_other _ 70 2 _ (by decide)).trans base2)))) _) ?_
              refine wpList_run (wanted_of rfl) (run_move (v := .slice qp m cpp) rfl ((eval_other _ 74 12 _ (by decide)).trans ((eval_other _ 73 12 _ (by decide)).trans ((eval_other _ 72 12 _ (by decide)).trans ((eval_other _ 71 12 _ (by decide)).trans ((eval_other _ 70 12 _ (by decide)).trans base12))))) _) ?_
              obtain ⟨t', ht'⟩ : ∃ t' : ThingM, t' = ⟨BitVec.ofNat 8 k :: noughts 31, noughts 12, pt, ct, tn, qp, cpp, ys⟩ := ⟨_, rfl⟩
              refine wpList_run (wanted_of rfl) ((run_thingOf (b := BitVec.ofNat 8 k) (p := pt) (q := qp) (hd := tn) (pl := ys) (c := ct) (d := cpp) HT.out HYS.out rfl ((eval_other _ 75 73 _ (by decide)).trans ((eval_other _ 74 73 _ (by decide)).trans (eval_same _ _ _ (by simp only [put_size, hsz]; decide)))) ((eval_other _ 75 74 _ (by decide)).trans (eval_same _ _ _ (by simp only [put_size, hsz]; decide))) (eval_same _ _ _ (by simp only [put_size, hsz]; decide)) _).trans (by rw [← ht'])) ?_
              have hcs' : t'.cells.toArray.size = 46 := by rw [List.size_toArray]; exact ThingM.cells_length (by rw [ht']; rfl) (by rw [ht']; rfl)
              refine wpList_runW (wanted_of rfl) (thingT.run_one rfl (eval_same _ _ _ (by simp only [put_size, hsz]; decide)) hcs' _) ?_
              obtain ⟨wq, hwq⟩ : ∃ wq, wq = wr := ⟨_, rfl⟩
              rw [← hwq] at HBQ HOQ ⊢
              have HB7 : Hid (Below wq.heap.size wq (wq.alloc (.cells t'.cells.toArray 50))) := show Below _ _ _ from (Below.refl _ _).alloc (Nat.le_refl _) _
              have hc7 : (wq.alloc (.cells t'.cells.toArray 50)).heap[wq.heap.size]? = some (.cells t'.cells.toArray 50 (0, 0)) := heap_new_at rfl
              generalize wq.alloc (.cells t'.cells.toArray 50) = w7 at HB7 hc7 ⊢
              have hb47 : Below w4.heap.size w4 w7 := HBQ.out.trans (HB7.out.mono HBQ.out.size)
              have HB47 := Lib.hid hb47
              have HO7 : Hid (OthW w w2.heap.size D u9 O w7) := show OthW _ _ _ _ _ _ from HO4.out.keep (F := fun _ => False) (Below.stays hb47) (fun _ h => h.elim)
              clear hb47
              refine thingT.wpList_append (wanted_of rfl) rfl ((eval_other _ 77 70 _ (by decide)).trans ((eval_other _ 76 70 _ (by decide)).trans ((eval_other _ 75 70 _ (by decide)).trans ((eval_other _ 74 70 _ (by decide)).trans ((eval_other _ 73 70 _ (by decide)).trans ((eval_other _ 72 70 _ (by decide)).trans ((eval_other _ 71 70 _ (by decide)).trans (eval_same _ _ _ (by rw [hsz]; decide))))))))) HO7.out.rows (eval_same _ _ _ (by simp only [put_size, hsz]; decide)) hc7 hcs' (fun u hu => by have h1 := ThingM.ones t'; rw [Array.all_eq_true_iff_forall_mem] at h1; exact h1 u (by simpa using hu)) (by rw [HOL.out]; omega) (by have h1 := HB24.out.size; have h2 := HB47.out.size; omega) ?_
              intro v8 w8 hrow8 hg8 hat8
              have HR8 := Lib.hid hrow8; clear hrow8
              have HG8 := Lib.hid hg8; clear hg8
              have HAT8 := Lib.hid hat8; clear hat8
              refine wpList_run (wanted_of rfl) (run_assign (v := v8) rfl (eval_same _ _ _ (by simp only [put_size, hsz]; decide)) _) ?_
              refine wpList_nil ?_
              rw [HAA.out]
              go_frame
              clear HAA
              clear hc7 hcs'
              go_wp2_with fail
              go_roundw
              case rel =>
                have zz : w2.heap.size ≤ w4.heap.size := HB24.out.size
                have z47 : w4.heap.size ≤ w7.heap.size := HB47.out.size
                have hs78 : Stays (fun j => u9.ownBlock = some j) w7 w8 := grown_stays HG8.out (fun j e => e)
                have hfr : ∀ j, v8.ownBlock = some j → u9.ownBlock = some j ∨ w7.heap.size ≤ j := fun j hj => by
                  rcases HAT8.out with e | e
                  · exact Or.inl (e ▸ hj)
                  · rw [e] at hj; have := Option.some.inj hj; exact Or.inr (by omega)
                have hp7 : Own w4.heap.size w7 t'.plain (.slice qp m cpp) := by rw [ht']; exact HOQ.out.below HB7.out
                have hh7 : LiesIn (fun k => k < w.heap.size) w7 t'.hp t'.head := by
                  rw [ht']
                  have hbw : Below w.heap.size w w7 := HB2.out.trans ((HB24.out.trans (HB47.out.mono zz)).mono HB2.out.size)
                  exact (HPT.out.inAll).keep (Below.staysB hbw) (fun j h1 h2 => by omega)
                have hsn := HO7.out.snoc (t := t') hp7 (by rw [ht']; show _ = Value.slice qp ys.length cpp; rw [HYS.out]) zz (fun j hj => by
                  rcases hj with h | h
                  · exact (HO4.out.dom j h).2
                  · exact (World.ownsRow.lt HO4.out.rows j h).2) ⟨by rw [ht']; rfl, by rw [ht']; rfl, by rw [ht']; show tn.length ≤ ct; rw [HT.out]; exact htc⟩ hh7 HB2.out.size HR8.out hs78 hfr
                refine ⟨k + 1, O ++ [t'], _, by omega, by go_num, hsn, by rw [List.length_append, HOL.out]; rfl, ?_, fun x hx => ?_, ?_⟩
                · rw [HTK.out, lens_snoc, lens_snoc, HLN.out, ht']
                  show _ ++ [ys.length] = _ ++ [t.plain.length]
                  rw [HYS.out, HML.out]
                · rcases List.mem_append.1 hx with hx | hx
                  · exact HOH.out x hx
                  · rw [List.mem_singleton.1 hx, ht']
                · exact HB24.out.trans (((HB47.out).mono zz).trans (hs78.below (fun j hj => (World.ownsRow.lt HO7.out.rows j hj).1) (by omega)))
              case measure => simp [intOf]; omega
          · have q2 : ¬ (j : Int) < (m : Int) := by omega
            go_upto_region 15 with (fail)
            refine wp_act fun A2 hA => ?_
            have hsz : A2.tmps.size = 89 := by rw [hA]; rfl
            have base2 : A2.eval (.tmp 2) = .slice pt nt ct := by rw [hA]; rfl
            have base9 : A2.eval (.tmp 9) = u9 := by rw [hA]; rfl
            have base10 : A2.eval (.tmp 10) = .int .i64 (k : Int) := by rw [hA]; rfl
            have base12 : A2.eval (.tmp 12) = .slice qp m cpp := by rw [hA]; rfl
            have HAA := Lib.hid hA; clear hA
            refine wp_region_lit ?_
            refine wpList_run (wanted_of rfl) (run_move (v := u9) rfl base9 _) ?_
            refine wpList_run (wanted_of rfl) (run_move (v := .int .i64 (k : Int)) rfl ((eval_other _ 70 10 _ (by decide)).trans base10) _) ?_
            refine wpList_run (wanted_of rfl) (run_toU8 (k := k) rfl (eval_same _ _ _ (by simp only [put_size, hsz]; decide)) (by omega) _) ?_
            refine wpList_run (wanted_of rfl) (run_keyOf (b := BitVec.ofNat 8 k) rfl (eval_same _ _ _ (by simp only [put_size, hsz]; decide)) _) ?_
            refine wpList_run (wanted_of rfl) (run_move (v := .slice pt nt ct) rfl ((eval_other _ 73 2 _ (by decide)).trans ((eval_other _ 72 2 _ (by decide)).trans ((eval_other _ 71 2 _ (by decide)).trans ((eval_other _ 70 2 _ (by decide)).trans base2)))) _) ?_
            refine wpList_run (wanted_of rfl) (run_move (v := .slice qp m cpp) rfl ((eval_other _ 74 12 _ (by decide)).trans ((eval_other _ 73 12 _ (by decide)).trans ((eval_other _ 72 12 _ (by decide)).trans ((eval_other _ 71 12 _ (by decide)).trans ((eval_other _ 70 12 _ (by decide)).trans base12))))) _) ?_
            obtain ⟨t', ht'⟩ : ∃ t' : ThingM, t' = ⟨BitVec.ofNat 8 k :: noughts 31, noughts 12, pt, ct, tn, qp, cpp, ys⟩ := ⟨_, rfl⟩
            refine wpList_run (wanted_of rfl) ((run_thingOf (b := BitVec.ofNat 8 k) (p := pt) (q := qp) (hd := tn) (pl := ys) (c := ct) (d := cpp) HT.out HYS.out rfl ((eval_other _ 75 73 _ (by decide)).trans ((eval_other _ 74 73 _ (by decide)).trans (eval_same _ _ _ (by simp only [put_size, hsz]; decide)))) ((eval_other _ 75 74 _ (by decide)).trans (eval_same _ _ _ (by simp only [put_size, hsz]; decide))) (eval_same _ _ _ (by simp only [put_size, hsz]; decide)) _).trans (by rw [← ht'])) ?_
            have hcs' : t'.cells.toArray.size = 46 := by rw [List.size_toArray]; exact ThingM.cells_length (by rw [ht']; rfl) (by rw [ht']; rfl)
            refine wpList_runW (wanted_of rfl) (thingT.run_one rfl (eval_same _ _ _ (by simp only [put_size, hsz]; decide)) hcs' _) ?_
            obtain ⟨wq, hwq⟩ : ∃ wq, wq = wr := ⟨_, rfl⟩
            rw [← hwq] at HBQ HOQ ⊢
            have HB7 : Hid (Below wq.heap.size wq (wq.alloc (.cells t'.cells.toArray 50))) := show Below _ _ _ from (Below.refl _ _).alloc (Nat.le_refl _) _
            have hc7 : (wq.alloc (.cells t'.cells.toArray 50)).heap[wq.heap.size]? = some (.cells t'.cells.toArray 50 (0, 0)) := heap_new_at rfl
            generalize wq.alloc (.cells t'.cells.toArray 50) = w7 at HB7 hc7 ⊢
            have hb47 : Below w4.heap.size w4 w7 := HBQ.out.trans (HB7.out.mono HBQ.out.size)
            have HB47 := Lib.hid hb47
            have HO7 : Hid (OthW w w2.heap.size D u9 O w7) := show OthW _ _ _ _ _ _ from HO4.out.keep (F := fun _ => False) (Below.stays hb47) (fun _ h => h.elim)
            clear hb47
            refine thingT.wpList_append (wanted_of rfl) rfl ((eval_other _ 77 70 _ (by decide)).trans ((eval_other _ 76 70 _ (by decide)).trans ((eval_other _ 75 70 _ (by decide)).trans ((eval_other _ 74 70 _ (by decide)).trans ((eval_other _ 73 70 _ (by decide)).trans ((eval_other _ 72 70 _ (by decide)).trans ((eval_other _ 71 70 _ (by decide)).trans (eval_same _ _ _ (by rw [hsz]; decide))))))))) HO7.out.rows (eval_same _ _ _ (by simp only [put_size, hsz]; decide)) hc7 hcs' (fun u hu => by have h1 := ThingM.ones t'; rw [Array.all_eq_true_iff_forall_mem] at h1; exact h1 u (by simpa using hu)) (by rw [HOL.out]; omega) (by have h1 := HB24.out.size; have h2 := HB47.out.size; omega) ?_
            intro v8 w8 hrow8 hg8 hat8
            have HR8 := Lib.hid hrow8; clear hrow8
            have HG8 := Lib.hid hg8; clear hg8
            have HAT8 := Lib.hid hat8; clear hat8
            refine wpList_run (wanted_of rfl) (run_assign (v := v8) rfl (eval_same _ _ _ (by simp only [put_size, hsz]; decide)) _) ?_
            refine wpList_nil ?_
            rw [HAA.out]
            go_frame
            clear HAA
            clear hc7 hcs'
            go_wp2_with fail
            go_roundw
            case rel =>
              have zz : w2.heap.size ≤ w4.heap.size := HB24.out.size
              have z47 : w4.heap.size ≤ w7.heap.size := HB47.out.size
              have hs78 : Stays (fun j => u9.ownBlock = some j) w7 w8 := grown_stays HG8.out (fun j e => e)
              have hfr : ∀ j, v8.ownBlock = some j → u9.ownBlock = some j ∨ w7.heap.size ≤ j := fun j hj => by
                rcases HAT8.out with e | e
                · exact Or.inl (e ▸ hj)
                · rw [e] at hj; have := Option.some.inj hj; exact Or.inr (by omega)
              have hp7 : Own w4.heap.size w7 t'.plain (.slice qp m cpp) := by rw [ht']; exact HOQ.out.below HB7.out
              have hh7 : LiesIn (fun k => k < w.heap.size) w7 t'.hp t'.head := by
                rw [ht']
                have hbw : Below w.heap.size w w7 := HB2.out.trans ((HB24.out.trans (HB47.out.mono zz)).mono HB2.out.size)
                exact (HPT.out.inAll).keep (Below.staysB hbw) (fun j h1 h2 => by omega)
              have hsn := HO7.out.snoc (t := t') hp7 (by rw [ht']; show _ = Value.slice qp ys.length cpp; rw [HYS.out]) zz (fun j hj => by
                rcases hj with h | h
                · exact (HO4.out.dom j h).2
                · exact (World.ownsRow.lt HO4.out.rows j h).2) ⟨by rw [ht']; rfl, by rw [ht']; rfl, by rw [ht']; show tn.length ≤ ct; rw [HT.out]; exact htc⟩ hh7 HB2.out.size HR8.out hs78 hfr
              refine ⟨k + 1, O ++ [t'], _, by omega, by go_num, hsn, by rw [List.length_append, HOL.out]; rfl, ?_, fun x hx => ?_, ?_⟩
              · rw [HTK.out, lens_snoc, lens_snoc, HLN.out, ht']
                show _ ++ [ys.length] = _ ++ [t.plain.length]
                rw [HYS.out, HML.out]
              · rcases List.mem_append.1 hx with hx | hx
                · exact HOH.out x hx
                · rw [List.mem_singleton.1 hx, ht']
              · exact HB24.out.trans (((HB47.out).mono zz).trans (hs78.below (fun j hj => (World.ownsRow.lt HO7.out.rows j hj).1) (by omega)))
            case measure => simp [intOf]; omega
      · have q1 : ¬ (k : Int) < (no : Int) := by omega
        have hkn : k = no := by omega
        have HTK : Hid (ts.take k = ts) := show _ = _ from List.take_of_length_le (by have := HOS.out; omega)
        have zr : w2.heap.size ≤ wr.heap.size := HB.out.size
        have hcx : CodeBox Sx wr (.pointer (some ⟨bx, 0, none⟩)) l 0 [] := HCX2.out.keep (F := fun k => w2.heap.size ≤ k) (Below.staysB HB.out) (fun j h1 h2 => by have := HXD.out j h2; omega)
        have hcy : CodeBox Sy wr (.pointer (some ⟨by', 0, none⟩)) l 0 [] := HCY.out.keep (F := fun k => w2.heap.size ≤ k) (Below.staysB HB.out) (fun j h1 h2 => by have := HCY.out.dom j h2; omega)
        have HX := Lib.hid hcx; clear hcx
        have HY := Lib.hid hcy; clear hcy
        have HLL : Hid (l.length < 140737488355328) := show _ < _ by rw [HL.out]; omega
        have HLO : Hid (lens O = lens ts) := show _ = _ by rw [HLN.out, HTK.out]
        have HYD : Hid (∀ j, Sy j → j < w2.heap.size) := show ∀ j, _ from fun j hj => HCY.out.dom j hj
        have HMO : Hid (Modest O) := show Modest O from by
          refine ⟨by rw [HOL.out]; omega, fun t ht => ⟨by rw [HOH.out t ht, HT.out]; omega, ?_⟩⟩
          have h1 : t.plain.length ∈ lens O := by unfold lens; exact List.mem_map_of_mem ht
          rw [HLO.out] at h1
          unfold lens at h1
          obtain ⟨t', h2, h3⟩ := List.mem_map.1 h1
          have := (HSL.out.2 t' h2).2
          omega
        clear HCX2 HCY HOK2 H0
        obtain ⟨po2, co2, hov, -, -⟩ := HO.out.things
        subst hov
        go_wp2_with fail
        refine (all_any Sx _ 0 l [] ts no po co wr HOS.out HSL.out.modest HLL.out (by simp) (fun w' hs => ?_) HX.out).mono ?_
        · have hb := HBW.out.trans (hs.below (fun j f => HSX.out j f) HBW.out.size)
          exact ⟨HOP.out.below hb, fun t ht => (HOK.out t ht).below hb⟩
        rintro e w6 ⟨u1, vs1, S1, D1, rfl, -, -, hn1, hd1, hs1⟩
        have hb6 : Below w.heap.size w w6 := HBW.out.trans (hs1.below (fun j f => HSX.out j f) HBW.out.size)
        have HO6 : Hid (OthW w w2.heap.size D (.slice po2 O.length co2) O w6) := show OthW _ _ _ _ _ _ from HO.out.keep hs1 (fun j f => by
          have h1 := HSX.out j f
          have h2 := HX.out.dom j f
          have h3 := HXD.out j f
          refine ⟨h1, fun hd => by have := (HO.out.dom j hd).1; omega, fun ho => by have := (World.ownsRow.lt HO.out.rows j ho).1; omega⟩)
        have HY6 : Hid (CodeBox Sy w6 (.pointer (some ⟨by', 0, none⟩)) l 0 []) := show CodeBox _ _ _ _ _ _ from HY.out.keep hs1 (fun j f h2 => by have h3 := HXD.out j f; have h4 := HSY.out j h2; omega)
        obtain ⟨p1, c1, hu1, -⟩ := hn1.at
        subst hu1
        have HN1 := Lib.hid hn1; clear hn1
        have HD1 := Lib.hid hd1; clear hd1
        have HB6 := Lib.hid hb6; clear hb6
        have z6 : wr.heap.size ≤ w6.heap.size := hs1.size
        clear hs1 HX HY HO HOK HOP
        go_wp2_with fail
        refine (all_any Sy _ 0 l [] O O.length po2 co2 w6 rfl HMO.out HLL.out (by simp) (fun w' hs => ?_) HY6.out).mono ?_
        · have h := HO6.out.keep hs (fun j f => by
            have h1 := HSY.out j f
            have h2 := HYD.out j f
            refine ⟨by omega, fun hd => by have := (HO6.out.dom j hd).1; omega, fun ho => by have := (World.ownsRow.lt HO6.out.rows j ho).1; omega⟩)
          obtain ⟨p', c', e, h1, h2⟩ := h.things
          cases e
          exact ⟨h1, h2⟩
        rintro e w7 ⟨u2, vs2, S2, D2, rfl, -, -, hn2, -, hs2⟩
        rw [HLO.out] at hn2
        have hn1 := HN1.out.keep hs2 (fun j f => ⟨fun hd => by have h1 := (HD1.out j (Or.inl hd)).1; have h2 := HYD.out j f; omega, fun ho => by have h1 := (HD1.out j (Or.inr ho)).1; have h2 := HYD.out j f; omega⟩)
        obtain ⟨p2, c2, hu2, hat2⟩ := hn2.at
        subst hu2
        obtain ⟨p1', c1', hu1, hat1⟩ := hn1.at
        cases hu1
        have hb7 : Below w.heap.size w w7 := HB6.out.trans (hs2.below (fun j f => by have := HSY.out j f; omega) HB6.out.size)
        have HB7 := Lib.hid hb7; clear hb7
        have HAT1 := Lib.hid hat1; clear hat1
        have HAT2 := Lib.hid hat2; clear hat2
        have HML : Hid (∀ s ∈ allOf l 0 ([] : List RowA).length (lens ts), s.length < 1000000) := show ∀ s ∈ _, _ from allOf_mem _ _ _ (fun m hm => by
          unfold lens at hm
          obtain ⟨t', h2, h3⟩ := List.mem_map.1 hm
          have := (HSL.out.2 t' h2).2
          omega)
        have HLL2 : Hid ((allOf l 0 ([] : List RowA).length (lens ts)).length ≤ 100000) := show _ ≤ _ by rw [allOf_length, lens_length, HOS.out]; omega
        clear hn1 hn2 hs2 HN1 HD1 HO6 HY6
        generalize allOf l 0 ([] : List RowA).length (lens ts) = L at HAT1 HAT2 HML HLL2 ⊢
        go_wp2_with fail
        refine (sameNested_any L L.length p1 p2 c1 c2 w7 rfl HLL2.out HML.out HAT1.out HAT2.out).mono ?_
        rintro e w8 ⟨rfl, hb8⟩
        have HB8 : Hid (Below w.heap.size w w8) := show Below _ _ _ from HB7.out.trans (hb8.mono HB7.out.size)
        clear hb8
        go_wp2_with fail
        refine (known6_any w8).mono ?_
        rintro e w9 ⟨rfl, hb9⟩
        go_wp2_with fail
        go_ret
        exact ⟨rfl, HB8.out.trans (hb9.mono HB8.out.size)⟩
end Go.Proofs.Ytacgkfngpeieaaa

/-
  BoxBlind, for any list, any things and any bytes to turn them by: the law returns true, and what came in reads afterwards as it read before. Without any condition.
-/
namespace Go.Proofs.Ytacgkfngpeieaaa
open Go.ChangeShapes Go.WideShapes Go.ChangeAt Go.RowKit Go.Proofs.ShaWords

set_option maxRecDepth 100000 in
theorem boxBlind_lifted (os : Os) (started : os.Started) (H : Type) (enc : TypeId × Value → H) :
    ReturnsInHanded {} Try.checked os 5 .any (Rows.boxBlindSpec.pre6 enc Try.prog Try.f5 Rows.boxBlindRow.domain false)
      (Rows.boxBlindSpec.post enc Try.prog Try.f5 false true false false) := by
  refine returnsInHanded_of_change_sized (C := Try.checked) own started (by kernel_rfl) Try.func5
    (ChangeSpec.witness6 (enc := enc) (C := Try.checked) false ⟨#[], #[.slice none 0 0, .slice none 0 0, .slice none 0 0], []⟩ 8 (by kernel_rfl) (by kernel_rfl) (by kernel_rfl) (by kernel_rfl)) ?_
  intro W base args ds gs before hval0 hW _ hsz _
  have hW' := hW
  obtain ⟨p, q, hA0, hV, rfl, hfz, hnd⟩ := hW
  have hA : DataW.TrodAll enc Try.prog W 0 (fun _ => true) true Try.f5.params.toList args.toList ds p := hA0
  have hval : ∀ (j : Nat) t v, Try.f5.params[j]? = some t → args[j]? = some v → Value.okWide Try.prog W .any base t v := hval0
  have hsz2 : (DataW.weightsEach Try.prog (Try.f5.params.toList ++ Rows.boxBlindSpec.plain.varTypes Try.prog) (ds ++ gs)).all (· ≤ reachBytes) = true := hsz
  rw [Try.params5] at hA hval hsz2
  obtain ⟨v0, vs0, d0, ds0, p0, q0, hargs, rfl, rfl, h0, r0⟩ := trodAll_cons hA
  obtain ⟨v1, vs1, d1, ds1, p1, q1, rfl, rfl, rfl, h1, r1⟩ := trodAll_cons r0
  obtain ⟨v2, vs2, d2, ds2, p2, q2, rfl, rfl, rfl, h2, r2⟩ := trodAll_cons r1
  obtain ⟨rfl, rfl, rfl⟩ := trodAll_nil r2
  obtain rfl : args = #[v0, v1, v2] := by cases args; simp_all
  obtain ⟨rfl, rfl⟩ := trodVars_none hV
  have hb5 : Try.prog.bytesOf 5 = 1 := by kernel_rfl
  obtain ⟨a0, len0, cap0, rfl⟩ := okWide_slice Try.underlying22 (hval 0 22 v0 rfl rfl)
  have k0 := h0
  have lt0 : ∀ x ∈ p0, x.block < W.heap.size := by obtain ⟨m, hm⟩ := k0; exact DataW.trod_lt m _ _ _ hm
  obtain ⟨f0, hf0⟩ := h0
  obtain ⟨xs0, hx0a, hx0b, hx0c, hx0d⟩ := open_bytes hf0
  have hc0 : cap0 ≤ 140737488351232 := by
    rcases hx0d with ⟨_, h⟩ | ⟨e, sp, he, hl⟩
    · omega
    · have h := sized_slice hsz2 (j := 0) (t := 22) (elems := e) (spare := sp) rfl (by rw [← he]; rfl) Try.underlying22
      rw [hb5] at h; unfold reachBytes at h; omega
  obtain ⟨a1, len1, cap1, rfl⟩ := okWide_slice Try.underlying46 (hval 1 46 v1 rfl rfl)
  have k1 := h1
  have lt1 : ∀ x ∈ p1, x.block < W.heap.size := by obtain ⟨m, hm⟩ := k1; exact DataW.trod_lt m _ _ _ hm
  obtain ⟨f1, hf1⟩ := h1
  obtain ⟨ps1, hx1a, hx1b, hx1c, hx1d⟩ := open_things hf1
  obtain ⟨a2, len2, cap2, rfl⟩ := okWide_slice Try.underlying22 (hval 2 22 v2 rfl rfl)
  have k2 := h2
  have lt2 : ∀ x ∈ p2, x.block < W.heap.size := by obtain ⟨m, hm⟩ := k2; exact DataW.trod_lt m _ _ _ hm
  obtain ⟨f2, hf2⟩ := h2
  obtain ⟨xs2, hx2a, hx2b, hx2c, hx2d⟩ := open_bytes hf2
  have hc2 : cap2 ≤ 140737488351232 := by
    rcases hx2d with ⟨_, h⟩ | ⟨e, sp, he, hl⟩
    · omega
    · have h := sized_slice hsz2 (j := 2) (t := 22) (elems := e) (spare := sp) rfl (by rw [← he]; rfl) Try.underlying22
      rw [hb5] at h; unfold reachBytes at h; omega
  clear hA0 hval0
  refine (boxBlind_any xs0 ps1 xs2 len0 len1 len2 cap0 cap1 cap2 a0 a1 a2 W hx0a (by omega) hx0c hx1a hx1c hx1d hx2a hx2b (by omega) hx2c).mono fun e W' ⟨he, bel⟩ => ?_
  subst he
  exact ⟨_, rfl, _, _, _, [], _, [], hW', trodAll_mk1 (shut_bool Try.underlying4 _), (trodAll_cons_mk (Below.trod laidOut (by kernel_rfl) (of_decide_eq_true (by kernel_rfl)) k0 bel lt0) (trodAll_cons_mk (Below.trod laidOut (by kernel_rfl) (of_decide_eq_true (by kernel_rfl)) k1 bel lt1) (trodAll_cons_mk (Below.trod laidOut (by kernel_rfl) (of_decide_eq_true (by kernel_rfl)) k2 bel lt2) trodAll_mk0))), rfl, bel.frame _, fun h => by cases h⟩

theorem boxBlind_holds : Rows.BoxBlindSaid :=
  OpenClaim.holds_of_wide 5 Try.f5 rfl rfl rfl rfl rfl rfl rfl ⟨rfl, rfl, rfl, rfl, rfl⟩ rfl rfl rfl rfl rfl (by kernel_rfl) Try.func5 (by kernel_rfl)
    (of_decide_eq_true (by kernel_rfl)) (by unfold Func.isWrapper; first | (rw [if_pos (by decide +kernel)]; kernel_rfl) | (rw [if_neg (by decide +kernel)]; exact ⟨rfl, rfl⟩))
    (fun os started H enc _ => boxBlind_lifted os started H enc)

#print axioms boxBlind_holds
end Go.Proofs.Ytacgkfngpeieaaa
