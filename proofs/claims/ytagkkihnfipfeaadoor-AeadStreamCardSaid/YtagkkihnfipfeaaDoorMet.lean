/-
  Steps of region_phase for every kind of operation: calls, values, operations that are not wanted.
-/
import Derived.Test.YtagkkihnfipfeaaDoorPhase
namespace Go.Proofs.YtagkkihnfipfeaaDoor
open Go.RowKit Go.Proofs.ShaWords
section
variable {P : Program} {ops : Array Oper} {Q : Exit → Act → World → Prop} {S E : World → Prop} {r : List (Nat × Met)} {i : Nat} {o : Oper} {d : Option Tmp} {v : Value} {a : Act} {w w' : World}
theorem m_behind (ho : ops[i]? = some o) (hw : Region.wanted o (yielded ops a.tmps) = true)
    (h : o.wp P a w (fun a' w' => S w' ∧ wpE P ops Q S E r a' w') Q) : wpE P ops Q S E ((i, .behind) :: r) a w := by
  show wpOp P ops Q i _ a w
  unfold wpOp
  rw [ho]
  show if Region.wanted o (yielded ops a.tmps) = true then _ else _
  rw [if_pos hw]
  exact .inl h
theorem m_value (ho : ops[i]? = some o) (hd : o.dst = d) (hw : Region.wanted o (yielded ops a.tmps) = true) (hr : (execOp a.eval o).run P w = .ok (.value v) w')
    (h : S w' ∧ wpE P ops Q S E r (a.put d v) w') : wpE P ops Q S E ((i, .behind) :: r) a w := by
  refine m_behind ho hw ?_
  unfold Oper.wp
  rw [hr, Oper.upon_value, hd]
  exact h
theorem m_enter {f : FuncId} {args : Array Value} {R : Ending → World → Prop} (ho : ops[i]? = some o) (hd : o.dst = d) (hw : Region.wanted o (yielded ops a.tmps) = true) (hr : (execOp a.eval o).run P w = .ok (.enter f args) w) (hc : Calls P f args w R)
    (h : ∀ e w', R e w' → ∃ v, e = .returned v ∧ S w' ∧ wpE P ops Q S E r (a.put d v) w') : wpE P ops Q S E ((i, .behind) :: r) a w := by
  refine m_behind ho hw ?_
  unfold Oper.wp
  rw [hr, Oper.upon_enter]
  refine hc.mono ?_
  rintro e w' hR
  obtain ⟨v, rfl, hS, h⟩ := h e w' hR
  rw [hd]
  exact ⟨hS, h⟩
theorem m_unwanted (ho : ops[i]? = some o) (hd : o.dst = d) (hw : Region.wanted o (yielded ops a.tmps) = false) (h : wpE P ops Q S E r (a.put d undef) w) : wpE P ops Q S E ((i, .free) :: r) a w :=
  ⟨o, undef, ho, .inr ⟨hw, rfl⟩, by rw [hd]; exact h⟩
theorem m_skipped (ho : ops[i]? = some o) (hd : o.dst = d) (hw : Region.wanted o (yielded ops a.tmps) = false) (h : S w ∧ wpE P ops Q S E r (a.put d undef) w) : wpE P ops Q S E ((i, .behind) :: r) a w := by
  show wpOp P ops Q i _ a w
  unfold wpOp
  rw [ho]
  show if Region.wanted o (yielded ops a.tmps) = true then _ else _
  rw [if_neg (by rw [hw]; decide), hd]
  exact h
theorem tmp_at {t : Nat} {b : Bool} (he : a.eval (.tmp t) = .bool b) : a.tmps[t]? = some (.bool b) := by
  have h3 : a.tmps.getD t undef = .bool b := he
  rw [Array.getD_eq_getD_getElem?] at h3
  cases h4 : a.tmps[t]? with
  | none => rw [h4] at h3; exact absurd h3 (by simp [undef])
  | some u => rw [h4] at h3; simp at h3; rw [h3]
theorem w_false {j : Nat} {dj : Tmp} {oj : Oper} (hg : o.guard = some (j, false)) (hj : ops[j]? = some oj) (hd : oj.dst = some dj) (he : a.eval (.tmp dj) = .bool false) : Region.wanted o (yielded ops a.tmps) = true := by
  have h2 := tmp_at he
  unfold Region.wanted
  rw [hg]
  simp only [yielded, hj, Option.bind_some, hd, h2]
  rfl
theorem w_not {j : Nat} {dj : Tmp} {oj : Oper} (hg : o.guard = some (j, true)) (hj : ops[j]? = some oj) (hd : oj.dst = some dj) (he : a.eval (.tmp dj) = .bool false) : Region.wanted o (yielded ops a.tmps) = false := by
  have h2 := tmp_at he
  unfold Region.wanted
  rw [hg]
  simp only [yielded, hj, Option.bind_some, hd, h2]
  rfl
end
section
variable {P : Program} {ρ : Operand → Value} {o : Oper} {x y c : Operand} {v : Value}
theorem r_not {b : Bool} {ty : TypeId} (ho : o.op = .unOp .not ty x) (hx : ρ x = .bool b) (w : World) : (execOp ρ o).run P w = .ok (.value (.bool (!b))) w := by
  obtain ⟨dst, op, ty', pos, after, guard⟩ := o
  simp only at ho
  subst ho
  go_simp
theorem r_pickF (ho : o.op = .pick c x y) (hc : ρ c = .bool false) (h : ρ y = v) (w : World) : (execOp ρ o).run P w = .ok (.value v) w := by
  unfold execOp; simp only [ho, hc, h, Sem.run_bind]; rfl
theorem r_quo {n k : Nat} {ty : TypeId} (ho : o.op = .binOp .quo 3 x (.const (.int .i64 (k : Int))) ty) (h0 : ∀ u, ρ (.const u) = u) (hx : ρ x = .int .i64 (n : Int)) (hk : 0 < k) (hn : n < 1000000) (w : World) : (execOp ρ o).run Tryd.prog w = .ok (.value (.int .i64 ((n / k : Nat) : Int))) w := by
  obtain ⟨dst, op, ty', pos, after, guard⟩ := o
  simp only at ho
  subst ho
  have h1 := h0 (.int .i64 (k : Int))
  have q0 : ¬ (k : Int) = 0 := by omega
  have q1 : ¬ k = 0 := by omega
  obtain ⟨t, ht⟩ : ∃ t, t = n / k := ⟨_, rfl⟩
  have hle : t ≤ n := by rw [ht]; exact Nat.div_le_self n k
  have q2 : (n : Int).tdiv (k : Int) = (t : Int) := by rw [ht, Int.tdiv_eq_ediv_of_nonneg (by omega)]; rfl
  have q4 : (n : Int) / (k : Int) = (t : Int) := by rw [ht]; rfl
  have q3 : IntKind.i64.wrap (t : Int) = (t : Int) := IntWalk.i64_in _ (by omega)
  rw [← ht]
  clear ht hle
  go_simp
theorem r_rem {n k : Nat} {ty : TypeId} (ho : o.op = .binOp .rem 3 x (.const (.int .i64 (k : Int))) ty) (h0 : ∀ u, ρ (.const u) = u) (hx : ρ x = .int .i64 (n : Int)) (hk : 0 < k) (hn : n < 1000000) (w : World) : (execOp ρ o).run Tryd.prog w = .ok (.value (.int .i64 ((n % k : Nat) : Int))) w := by
  obtain ⟨dst, op, ty', pos, after, guard⟩ := o
  simp only at ho
  subst ho
  have h1 := h0 (.int .i64 (k : Int))
  have q0 : ¬ (k : Int) = 0 := by omega
  have q1 : ¬ k = 0 := by omega
  obtain ⟨t, ht⟩ : ∃ t, t = n % k := ⟨_, rfl⟩
  have hle : t ≤ n := by rw [ht]; exact Nat.mod_le n k
  have q2 : (n : Int).tmod (k : Int) = (t : Int) := by rw [ht, Int.tmod_eq_emod_of_nonneg (by omega)]; rfl
  have q4 : (n : Int) % (k : Int) = (t : Int) := by rw [ht]; rfl
  have q3 : IntKind.i64.wrap (t : Int) = (t : Int) := IntWalk.i64_in _ (by omega)
  rw [← ht]
  clear ht hle
  go_simp
theorem r_eql0 {n : Nat} {ty : TypeId} (ho : o.op = .binOp .eql 3 x (.const (.int .i64 0)) ty) (h0 : ∀ u, ρ (.const u) = u) (hx : ρ x = .int .i64 (n : Int)) (w : World) : (execOp ρ o).run Tryd.prog w = .ok (.value (.bool (decide (n = 0)))) w := by
  obtain ⟨dst, op, ty', pos, after, guard⟩ := o
  simp only at ho
  subst ho
  have h1 := h0 (.int .i64 0)
  by_cases h : n = 0
  · subst h; go_simp
  · have q : ¬ (n : Int) = 0 := by omega
    go_simp
theorem r_to {p : Option Addr} {n cp k : Nat} (ho : o.op = .slice 26 x none (some y) none) (hk : k ≤ cp) (hx : ρ x = .slice p n cp) (hy : ρ y = .int .i64 (k : Int)) (w : World) :
    (execOp ρ o).run Tryd.prog w = .ok (.value (.slice p k cp)) w := by
  obtain ⟨dst, op, ty, pos, after, guard⟩ := o
  simp only at ho
  subst ho
  have h0 : (0 : Int) ≤ (k : Int) := by omega
  have h1 : (k : Int) ≤ (cp : Int) := by omega
  go_simp
theorem r_from {p p2 : Option Addr} {n cp k : Nat} (ho : o.op = .slice 26 x (some y) none none) (hk : k ≤ n) (hn : n ≤ cp) (hp : (p = none ∧ p2 = none ∧ cp = 0) ∨ ∃ g off, p = some ⟨g, off, none⟩ ∧ (if cp = k then some (⟨g, off, none⟩ : Addr) else some ⟨g, off + k, none⟩) = p2) (hx : ρ x = .slice p n cp) (hy : ρ y = .int .i64 (k : Int)) (w : World) :
    (execOp ρ o).run Tryd.prog w = .ok (.value (.slice p2 (n - k) (cp - k))) w := by
  obtain ⟨dst, op, ty, pos, after, guard⟩ := o
  simp only at ho
  subst ho
  have h0 : (0 : Int) ≤ (k : Int) := by omega
  have h1 : (k : Int) ≤ (n : Int) := by omega
  have h2 : (n : Int) ≤ (cp : Int) := by omega
  rcases hp with ⟨rfl, rfl, rfl⟩ | ⟨g, off, rfl, he⟩
  · obtain rfl : n = 0 := by omega
    obtain rfl : k = 0 := by omega
    go_simp
  · go_simp
end
end Go.Proofs.YtagkkihnfipfeaaDoor
