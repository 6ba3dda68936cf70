/-
  A region that draws its order, whatever the order: a fact of each operation that no other one turns.
-/
import Derived.Test.YtagkkihnfipfeaaDoorPhase
import Derived.Deep.RegionHeld3
namespace Go.Proofs.YtagkkihnfipfeaaDoor
open Go.RowKit Go.Proofs.ShaWords

/-- Each operation waits for earlier ones alone. -/
def backward (ops : Array Oper) : Bool := (List.range ops.size).all fun i => match ops[i]? with | none => true | some o => o.after.all fun e => !(Region.binds .any e) || decide (e.on < i)
theorem backward_spec {ops : Array Oper} (h : backward ops = true) {i : Nat} {o : Oper} (ho : ops[i]? = some o) {e : Edge} (he : e ∈ o.after) (hb : Region.binds .any e = true) : e.on < i := by
  have hi : i < ops.size := (Array.getElem?_eq_some_iff.1 ho).1
  have h1 := List.all_eq_true.1 h i (List.mem_range.2 hi)
  rw [ho] at h1
  have h2 := Array.all_eq_true_iff_forall_mem.1 h1 e he
  simpa [hb] using h2
theorem ready_empty {ops : Array Oper} {L : Array Bool} (hb : backward ops = true) (hL : L.size = ops.size) (h : Region.ready .any ops L = []) (i : Nat) : i < ops.size → L.getD i false = true := by
  induction i using Nat.strongRecOn with
  | _ i ih =>
    intro hi
    by_cases hl : L.getD i false = true
    · exact hl
    · exfalso
      have hm : i ∈ Region.ready .any ops L := mem_ready.2 ⟨by
        have h1 : i < L.size := by omega
        simp [h1] at hl ⊢; exact hl, ops[i], by simp [hi], fun e he hbd => ih e.on (backward_spec hb (show ops[i]? = some ops[i] by simp [hi]) he hbd) (by have := backward_spec hb (show ops[i]? = some ops[i] by simp [hi]) he hbd; omega)⟩
      rw [h] at hm; cases hm
/-- How many are still to come. -/
def leftOf (L : Array Bool) : Nat := L.toList.count false
theorem leftOf_set {L : Array Bool} {i : Nat} (h : L.getD i true = false) : leftOf (L.setIfInBounds i true) + 1 = leftOf L := by
  have hi : i < L.size := by
    rcases Nat.lt_or_ge i L.size with h' | h'
    · exact h'
    · simp [Array.getElem?_eq_none h'] at h
  have hv : L.toList[i]'(by simpa using hi) = false := by simpa [hi] using h
  unfold leftOf
  rw [Array.toList_setIfInBounds, List.count_set (by simpa using hi), hv]
  have hpos : 0 < List.count false L.toList := List.count_pos_iff.2 (by rw [← hv]; exact List.getElem_mem _)
  simp only [beq_self_eq_true, if_true, show (true == false) = false from rfl]
  have : (if false = true then 1 else 0) = 0 := rfl
  omega
theorem leftOf_none {L : Array Bool} (h : leftOf L = 0) (i : Nat) (hi : i < L.size) : L.getD i false = true := by
  have h1 : false ∉ L.toList := List.count_eq_zero.1 h
  have h2 : L[i] ∈ L.toList := by simp
  cases hv : L[i] with
  | true => simp [hi, hv]
  | false => rw [hv] at h2; exact absurd h2 h1
section
variable {P : Program} {ops : Array Oper} {Q : Exit → Act → World → Prop}
theorem wpAny_inv (I : Array Bool → Act → World → Prop) (hb : backward ops = true)
    (hstep : ∀ (i : Nat) (o : Oper) (L : Array Bool) (a : Act) (w : World), ops[i]? = some o → L.getD i true = false → (∀ e ∈ o.after, Region.binds .any e = true → L.getD e.on false = true) → I L a w → wpOp P ops Q i (I (L.setIfInBounds i true)) a w)
    (hdone : ∀ L a w, (∀ i, i < ops.size → L.getD i false = true) → I L a w → Q .normal a w) :
    ∀ (fuel : Nat) (L : Array Bool) (a : Act) (w : World), L.size = ops.size → leftOf L ≤ fuel → I L a w → wpAny P .any ops Q fuel L a w
  | 0, L, a, w, hL, hf, h => by
    have hall : ∀ i, i < ops.size → L.getD i false = true := fun i hi => leftOf_none (by omega) i (by omega)
    refine ⟨List.eq_nil_iff_forall_not_mem.2 fun i hi => ?_, hdone L a w hall h⟩
    obtain ⟨h1, o, ho, -⟩ := mem_ready.1 hi
    have h2 := hall i (Array.getElem?_eq_some_iff.1 ho).1
    rw [getD_both h1] at h2; cases h2
  | fuel + 1, L, a, w, hL, hf, h => by
    refine ⟨fun h0 => hdone L a w (ready_empty hb hL h0) h, fun i hi => ?_⟩
    obtain ⟨h1, o, ho, h2⟩ := mem_ready.1 hi
    refine wpOp_mono (fun a' w' h' => wpAny_inv I hb hstep hdone fuel _ a' w' (by rw [Array.size_setIfInBounds]; exact hL) ?_ h') (hstep i o L a w ho h1 h2 h)
    have := leftOf_set h1
    omega
/-- No two operations write one slot. -/
def apartDst (ops : Array Oper) : Bool := (List.range ops.size).all fun i => (List.range ops.size).all fun j => decide (i = j) || match ops[i]?, ops[j]? with | some o, some p => (match o.dst, p.dst with | some d, some e => decide (d ≠ e) | _, _ => true) | _, _ => true
theorem apartDst_spec (h : apartDst ops = true) {i j : Nat} {o p : Oper} {d e : Tmp} (hij : i ≠ j) (hi : ops[i]? = some o) (hj : ops[j]? = some p) (hd : o.dst = some d) (he : p.dst = some e) : d ≠ e := by
  have h1 := List.all_eq_true.1 (List.all_eq_true.1 h i (List.mem_range.2 (Array.getElem?_eq_some_iff.1 hi).1)) j (List.mem_range.2 (Array.getElem?_eq_some_iff.1 hj).1)
  rw [hi, hj] at h1
  simpa [hij, hd, he] using h1
/-- The value that stands where an operation wrote. -/
def valOf (a : Act) (o : Oper) : Value := match o.dst with | some d => a.tmps.getD d undef | none => undef
/-- What holds on the way: the frame but for what was written, and each fact of what has come up. -/
structure InvAt (ops : Array Oper) (a0 : Act) (S : World → Prop) (V : Nat → Value → World → Prop) (L : Array Bool) (a : Act) (w : World) : Prop where
  world : S w
  defers : a.defers = a0.defers
  size : a.tmps.size = a0.tmps.size
  slot : ∀ t, (∀ (i : Nat) (o : Oper), ops[i]? = some o → o.dst ≠ some t) → a.tmps.getD t undef = a0.tmps.getD t undef
  fact : ∀ (i : Nat) (o : Oper), ops[i]? = some o → L.getD i false = true → V i (valOf a o) w
theorem region_facts {id : Nat} {a0 : Act} {w : World} (S : World → Prop) (R : World → World → Prop) (V : Nat → Value → World → Prop) (hm : P.follows .mixedOrders = true)
    (hb : backward ops = true) (hd : apartDst ops = true) (hfit : (List.range ops.size).all (fun i => match ops[i]? with | some o => (match o.dst with | some d => decide (d < a0.tmps.size) | none => true) | none => true) = true) (hS : S w.drew)
    (hR : ∀ i u w w', S w → R w w' → V i u w → V i u w')
    (hop : ∀ (i : Nat) (o : Oper) (A : Act) (W : World), ops[i]? = some o → S W → (∀ t, (∀ (i : Nat) (o : Oper), ops[i]? = some o → o.dst ≠ some t) → A.tmps.getD t undef = a0.tmps.getD t undef) →
      (∀ e ∈ o.after, Region.binds .any e = true → ∀ p, ops[e.on]? = some p → V e.on (valOf A p) W) → wpOp P ops (NoPanic Q) i (fun a' w' => ∃ v, a' = A.put o.dst v ∧ S w' ∧ R W w' ∧ (∀ (u : Value), u = (match o.dst with | some _ => v | none => undef) → V i u w')) A W)
    (h : ∀ A W, S W → A.defers = a0.defers → A.tmps.size = a0.tmps.size → (∀ t, (∀ (i : Nat) (o : Oper), ops[i]? = some o → o.dst ≠ some t) → A.tmps.getD t undef = a0.tmps.getD t undef) → (∀ (i : Nat) (o : Oper), ops[i]? = some o → V i (valOf A o) W) → Q .normal A W) :
    (Code.region id ops true).wp P Q a0 w := by
  refine wp_region_noPanic (wp_region_any hm ?_)
  refine wpAny_inv (InvAt ops a0 S V) hb ?_ ?_ ops.size _ a0 w.drew (by simp) (by simp [leftOf]) ⟨hS, rfl, rfl, fun _ _ => rfl, fun i o ho hl => ?_⟩
  · intro i o L a w1 ho hl hdep hI
    refine wpOp_mono ?_ (hop i o a w1 ho hI.world hI.slot (fun e he hbd p hp => hI.fact e.on p hp (hdep e he hbd)))
    rintro a' w' ⟨v, rfl, hS', hR', hV⟩
    have hdlt : ∀ d, o.dst = some d → d < a.tmps.size := fun d hd' => by
      have h1 := List.all_eq_true.1 hfit i (List.mem_range.2 (Array.getElem?_eq_some_iff.1 ho).1)
      rw [ho] at h1
      simp only [hd', decide_eq_true_eq] at h1
      rw [hI.size]; exact h1
    refine ⟨hS', ?_, ?_, ?_, ?_⟩
    · cases o.dst <;> exact hI.defers
    · rw [← hI.size]; cases o.dst <;> simp [Act.put]
    · intro t ht
      rw [← hI.slot t ht]
      cases hd' : o.dst with
      | none => rfl
      | some d =>
        have hne : d ≠ t := fun e => ht i o ho (by rw [hd', e])
        simp [Act.put, Array.getElem?_setIfInBounds_ne hne]
    · intro j p hp hlj
      by_cases hij : i = j
      · subst hij
        rw [ho] at hp; cases hp
        refine hV _ ?_
        unfold valOf
        cases hd' : o.dst with
        | none => rfl
        | some d => simp [Act.put, hdlt d hd']
      · have hlj' : L.getD j false = true := by rw [getD_set_ne false hij] at hlj; exact hlj
        have h1 := hR j _ w1 w' hI.world hR' (hI.fact j p hp hlj')
        have e : valOf (a.put o.dst v) p = valOf a p := by
          unfold valOf
          cases hpd : p.dst with
          | none => rfl
          | some e =>
            cases hd' : o.dst with
            | none => rfl
            | some d => simp [Act.put, Array.getElem?_setIfInBounds_ne (apartDst_spec hd hij ho hp hd' hpd)]
        rw [e]; exact h1
  · intro L a w1 hall hI
    exact h a w1 hI.world hI.defers hI.size hI.slot (fun i o ho => hI.fact i o ho (hall i (Array.getElem?_eq_some_iff.1 ho).1))
  · exfalso
    have hi := (Array.getElem?_eq_some_iff.1 ho).1
    simp [hi] at hl
end
end Go.Proofs.YtagkkihnfipfeaaDoor
