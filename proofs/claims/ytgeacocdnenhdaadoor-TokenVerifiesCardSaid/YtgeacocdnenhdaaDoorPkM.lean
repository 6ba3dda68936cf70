/-
  What other texts lean on: TreeOps, RowsT, RowsF.
-/
import Derived.Test.YtgeacocdnenhdaaDoorPkA
import Derived.Test.YtgeacocdnenhdaaDoorPkZ
/-
  Steps of region_tree for every kind of operation: calls, values, operations that are not wanted.
-/
namespace Go.Proofs.YtgeacocdnenhdaaDoor
open Go.RowKit Go.Proofs.ShaWords
section
variable {P : Program} {ops : Array Oper} {Q : Exit → Act → World → Prop} {S : World → Prop} {i : Nat} {o : Oper} {d : Option Tmp} {v : Value} {a : Act} {w w' : World} {K : Act → World → Prop} {t : Tr}
theorem at_unw (ho : ops[i]? = some o) (hd : o.dst = d) (hw : Region.wanted o (yielded ops a.tmps) = false) (h : K (a.put d undef) w) : wpOp P ops Q i K a w := by
  unfold wpOp
  rw [ho]
  show if Region.wanted o (yielded ops a.tmps) = true then _ else _
  rw [if_neg (by rw [hw]; decide), hd]
  exact h
theorem at_enterT {f : FuncId} {args : Array Value} {R : Ending → World → Prop} (ho : ops[i]? = some o) (hd : o.dst = d) (hw : Region.wanted o (yielded ops a.tmps) = true) (hr : (execOp a.eval o).run P w = .ok (.enter f args) w) (hc : Calls P f args w R)
    (h : ∀ e w', R e w' → ∃ v, e = .returned v ∧ K (a.put d v) w') : wpOp P ops Q i K a w := by
  refine at_wp ho hw ?_
  unfold Oper.wp
  rw [hr, Oper.upon_enter]
  refine hc.mono ?_
  rintro e w' hR
  obtain ⟨v, rfl, h⟩ := h e w' hR
  rw [hd]
  exact h
end
end Go.Proofs.YtgeacocdnenhdaaDoor

/-
  Lists of structs of any kind: of a call's own, read by an index, grown by one or by many.
-/
namespace Go.Proofs.YtgeacocdnenhdaaDoor
open Go.RowKit Go.Proofs.ShaWords
section
variable {α : Type} {cells : α → List Value} {N : Nat}
def flatV (cells : α → List Value) (l : List α) : List Value := l.flatMap cells
theorem flatV_append (l r : List α) : flatV cells (l ++ r) = flatV cells l ++ flatV cells r := by simp [flatV]
theorem flatV_snoc (l : List α) (x : α) : flatV cells (l ++ [x]) = flatV cells l ++ cells x := by simp [flatV]
theorem flatV_length (hc : ∀ o, (cells o).length = N) (l : List α) : (flatV cells l).length = l.length * N := by
  induction l with
  | nil => simp [flatV]
  | cons x l ih =>
    have : flatV cells (x :: l) = cells x ++ flatV cells l := by simp [flatV]
    rw [this, List.length_append, ih, hc, List.length_cons, Nat.add_mul]
    omega
theorem flatV_at (hc : ∀ o, (cells o).length = N) : ∀ (l : List α) (k : Nat) (h : k < l.length) (j : Nat), j < N → (flatV cells l)[k * N + j]? = (cells l[k])[j]?
  | x :: l, 0, _, j, hj => by
    have : flatV cells (x :: l) = cells x ++ flatV cells l := by simp [flatV]
    rw [this, Nat.zero_mul, Nat.zero_add, List.getElem?_append_left (by rw [hc]; exact hj)]
    rfl
  | x :: l, k + 1, h, j, hj => by
    have : flatV cells (x :: l) = cells x ++ flatV cells l := by simp [flatV]
    rw [this, List.getElem?_append_right (by rw [hc, Nat.add_mul]; omega), hc, show (k + 1) * N + j - N = k * N + j by rw [Nat.add_mul]; omega, flatV_at hc l k (by simpa using h) j hj]
    rfl
/-- A list of one's own. -/
def OwnR (tr : TypeId) (N : Nat) (cells : α → List Value) (B : Nat) (w : World) (l : List α) (v : Value) : Prop := w.ownsRow B tr N v l.length (flatV cells l)
variable {tr ts : TypeId} {Z B : Nat} {w w' : World} {l : List α} {v : Value}
theorem OwnR.nil (tr : TypeId) (N : Nat) (cells : α → List Value) (B : Nat) (w : World) : OwnR tr N cells B w [] (.slice none 0 0) := World.ownsRow_nil w B tr N
theorem OwnR.below (h : OwnR tr N cells B w l v) (hb : Below w.heap.size w w') : OwnR tr N cells B w' l v :=
  World.ownsRow.kept h (grown_below hb (Nat.le_refl _) none) (by cases v.ownBlock <;> simp)
theorem OwnR.lies (hc : ∀ o, (cells o).length = N) (h : OwnR tr N cells B w l v) : ∃ p cap, v = .slice p l.length cap ∧ l.length ≤ cap ∧ cap ≤ maxLen ∧ RowOf N cells w p l ∧ (∀ a, p = some a → B ≤ a.block ∧ a.block < w.heap.size) := by
  have hlt := World.ownsRow.lt h
  rcases h.2 with ⟨rfl, h0⟩ | ⟨g, cap, cur, rfl, hg, hh, hcp, hm, hs, ht⟩
  · have : l = [] := List.length_eq_zero_iff.1 h0
    subst this
    exact ⟨none, 0, rfl, Nat.le_refl _, Nat.zero_le _, ⟨.inl rfl⟩, fun a e => by cases e⟩
  · refine ⟨some ⟨g, 0, none⟩, cap, rfl, hcp, hm, ⟨.inr ⟨g, 0, rfl, fun k hk j u hu => ?_⟩⟩, fun a e => by cases e; exact hlt g rfl⟩
    have hj : j < N := by have := (List.getElem?_eq_some_iff.1 hu).1; rw [hc] at this; exact this
    rw [Nat.zero_add, cell_of_row w g _ cur tr (0, 0) hh]
    have h1 := flatV_at hc l k hk j hj
    rw [hu, ← ht, List.getElem?_take] at h1
    split at h1
    · simpa using h1
    · cases h1
theorem RowOf.take {a : Option Addr} (h : RowOf N cells w a l) (k : Nat) : RowOf N cells w a (l.take k) := by
  refine ⟨?_⟩
  rcases h.at' with rfl | ⟨b, off, rfl, hr⟩
  · exact .inl (by simp)
  · refine .inr ⟨b, off, rfl, fun i hi => ?_⟩
    rw [List.getElem_take]
    exact hr i (by rw [List.length_take] at hi; omega)
theorem RowOf.drop {b off : Nat} (hr : ∀ k (h : k < l.length), w.rangeAt b (off + k * N) (cells l[k])) (m : Nat) : RowOf N cells w (some ⟨b, off + m * N, none⟩) (l.drop m) := by
  refine ⟨.inr ⟨b, off + m * N, rfl, fun i hi => ?_⟩⟩
  rw [List.getElem_drop, show off + m * N + i * N = off + (m + i) * N by rw [Nat.add_mul]; omega]
  exact hr (m + i) (by rw [List.length_drop] at hi; omega)
theorem OwnR.grow {x : α} {u : Value} {y : World} (h1 : y.ownsRow B tr N u (l.length + 1) (flatV cells l ++ (cells x).toArray.toList)) : OwnR tr N cells B y (l ++ [x]) u := by
  unfold OwnR
  rw [List.length_append, flatV_snoc]
  simpa using h1
theorem ElemT.wpList_grow (T : ElemT tr ts N Z) (hc : ∀ o, (cells o).length = N) {ops : Array Oper} {rest : List Oper} {o : Oper} {a : Act} {Q : Exit → Act → World → Prop} (hw : Region.wanted o (yielded ops a.tmps) = true) {s x : Operand} {g : Nat} {e : α}
    (ho : o.op = .call { callee := .builtin .append, args := #[s, x], argTypes := #[ts, ts] }) (hs : a.eval s = v) (hown : OwnR tr N cells B w l v) (hx : a.eval x = .slice (some ⟨g, 0, none⟩) 1 1) (hg : w.heap[g]? = some (.cells (cells e).toArray tr (0, 0))) (h1 : ∀ u ∈ cells e, u.oneCell' = true) (hn : l.length ≤ 1000000) (hb : B ≤ w.heap.size)
    (h : ∀ v' w', OwnR tr N cells B w' (l ++ [e]) v' → Below B w w' → (v'.ownBlock = v.ownBlock ∨ v'.ownBlock = some w.heap.size) → w.grownBy w' v.ownBlock → wpList Tryd.prog ops Q rest (a.put o.dst v') w') : wpList Tryd.prog ops Q (o :: rest) a w := by
  refine T.wpList_append hw ho hs hown hx hg (by simp [hc]) (by simpa using h1) hn hb (fun v' w' ho' hg' hbk => ?_)
  refine h v' w' (OwnR.grow ho') ((Below.refl B w).grown hg' hb (fun k hk => (World.ownsRow.lt hown k hk).1)) hbk hg'
end
section
variable {α : Type} {cells : α → List Value} {N : Nat} {tr ts : TypeId} {Z B : Nat} {w w' : World} {l : List α} {v : Value} {ρ : Operand → Value} {o : Oper} {x y : Operand}
theorem ElemT.row (T : ElemT tr ts N Z) : (Tryd.prog.info? tr).map (·.size) = some N := by
  obtain ⟨i, z, h1, -, h2, -⟩ := T.info
  rw [h1]; simp [h2]
theorem ElemT.run_ix (T : ElemT tr ts N Z) {b off n c i : Nat} (ho : o.op = .indexAddr ts x y) (hx : ρ x = .slice (some ⟨b, off, none⟩) n c) (hy : ρ y = .int .i64 (i : Int)) (hi : i < n) (w : World) : (execOp ρ o).run Tryd.prog w = .ok (.value (.pointer (some ⟨b, off + i * N, none⟩))) w := by
  obtain ⟨dst, op, ty', pos, after, guard⟩ := o
  simp only at ho
  subst ho
  have hu := T.sl
  obtain ⟨ti, z, hti, -, hts, -⟩ := T.info
  have hsz : ∀ w, (sizeOf tr).run Tryd.prog w = .ok N w := fun w => by simp [sizeOf, run_typeInfo w hti, hts]
  have q0 : ¬ (i : Int) < 0 := by omega
  have q1 : (i : Int) < (n : Int) := by omega
  go_simp
theorem ElemT.run_ld (T : ElemT tr ts N Z) {b off : Nat} {cs : List Value} {d : TypeDesc} (hd : Tryd.prog.underlying tr = some d) (hrow : d.isRow = true) (hl : cs.length = N) (ho : o.op = .load tr x) (hx : ρ x = .pointer (some ⟨b, off, none⟩)) (h : w.rangeAt b off cs) : (execOp ρ o).run Tryd.prog w = .ok (.value (.agg cs.toArray)) w := by
  have h1 := run_loadAt_mid (P := Tryd.prog) w b off tr cs d h hd hrow (by rw [hl]; exact T.row)
  unfold execOp
  simp only [ho, hx, Sem.run_bind, h1, Result.andThen_ok, Sem.run_pure]
end
end Go.Proofs.YtgeacocdnenhdaaDoor

/-
  Lists of structs: cut from a place on; appended, as many as come.
-/
namespace Go.Proofs.YtgeacocdnenhdaaDoor
open Go.RowKit Go.Proofs.ShaWords Go.ChangeShapes Go.WideShapes Go.ChangeAt Go.Deep
section
variable {α : Type} {cells : α → List Value} {N : Nat} {tr ts : TypeId} {Z B : Nat} {w w' : World} {l m : List α} {v : Value} {ρ : Operand → Value} {o : Oper} {x y : Operand}
def fromP (N : Nat) (p : Option Addr) (cap k : Nat) : Option Addr := if cap = k then p else p.map (·.add (k * N))
theorem RowOf.from {p : Option Addr} {n cap k : Nat} (h : RowOf N cells w p l) (hln : l.length = n) (hk : k ≤ n) (hn : n ≤ cap) : RowOf N cells w (fromP N p cap k) (l.drop k) := by
  unfold fromP
  by_cases hc : cap = k
  · rw [if_pos hc, List.drop_of_length_le (by omega)]
    exact ⟨.inl rfl⟩
  · rw [if_neg hc]
    rcases h.at' with rfl | ⟨b, off, rfl, hr⟩
    · exact ⟨.inl (by simp)⟩
    · have h2 := RowOf.drop hr k
      simpa [Addr.add_mid] using h2
theorem ElemT.run_append_nilT (T : ElemT tr ts N Z) (ty : TypeId) (w : World) (hown : OwnR tr N cells B w l v) (c : Nat) : (Builtin.append_ #[ts, ts] ty #[v, .slice none 0 c]).run Tryd.prog w = .ok v w := by
  obtain ⟨ti, z, hti, -, hts, -⟩ := T.info
  rcases hown.2 with ⟨rfl, -⟩ | ⟨g, cap, cur, rfl, _, _, hnc, _⟩
  · simp [Builtin.append_, run_underlying T.sl, sizeOf, typeInfo, hti, Builtin.lenOf, Builtin.firstCells]
  · simp [Builtin.append_, run_underlying T.sl, sizeOf, typeInfo, hti, Builtin.lenOf, Builtin.firstCells, hnc, storeCells]
theorem ElemT.run_appendMany (T : ElemT tr ts N Z) (hc : ∀ o, (cells o).length = N) (h1 : ∀ o, ∀ u ∈ cells o, u.oneCell' = true) {s q : Operand} {p : Option Addr} {k c : Nat} (ho : o.op = .call { callee := .builtin .append, args := #[s, q], argTypes := #[ts, ts] }) (hs : ρ s = v) (hx : ρ q = .slice p k c)
    (hown : OwnR tr N cells B w l v) (hk : m.length = k) (hm : RowOf N cells w p m) (hl : l.length + k ≤ 1000000) (hb : B ≤ w.heap.size) :
    ∃ v' w', (execOp ρ o).run Tryd.prog w = .ok (.value v') w' ∧ OwnR tr N cells B w' (l ++ m) v' ∧ Below B w w' ∧ w.grownBy w' v.ownBlock ∧ (v'.ownBlock = v.ownBlock ∨ v'.ownBlock = some w.heap.size) := by
  obtain ⟨it, z, hit, hz, hsz, hzs, hby⟩ := T.info
  have hN := T.few
  have hN1 := T.pos
  obtain ⟨dst, op, ty', pos, after, guard⟩ := o
  simp only at ho
  subst ho
  cases p with
  | none =>
    have hm0 : m = [] := by
      rcases hm.at' with h0 | ⟨b, off, h0, _⟩
      · exact h0
      · cases h0
    subst hm0
    obtain rfl : k = 0 := by simpa using hk.symm
    have hrun := T.run_append_nilT ty' w hown c
    refine ⟨v, w, ?_, by rw [List.append_nil]; exact hown, Below.refl _ _, ⟨rfl, rfl, rfl, Nat.le_refl _, fun _ _ _ => rfl⟩, .inl rfl⟩
    unfold execOp
    simp only [resolve, invoke, builtin, Sem.run_bind, Sem.run_pure, Result.andThen_ok, List.map_toArray, List.map_cons, List.map_nil, hs, hx, hrun]
  | some ad =>
    have hbd : (l.length + k) * Z ≤ 1000001 * 10000 := Nat.mul_le_mul (by omega) hN.2
    obtain ⟨v', w', hr, h2, h3, -, h5⟩ := run_append_own_at (P := Tryd.prog) (w := w) B ts ty' tr it z N Z T.sl hit hz hsz hby hzs (by omega) v l.length (flatV cells l) hown ad k c (flatV cells m) (by rw [flatV_length hc, hk]) (fun j u hu => by
      rcases hm.at' with h0 | ⟨b, off, h0, hr⟩
      · subst h0; simp [flatV] at hu
      · cases h0
        have hj : j < (flatV cells m).length := (List.getElem?_eq_some_iff.1 hu).1
        rw [flatV_length hc] at hj
        have hdm := Nat.div_add_mod j N
        have hlt : j % N < N := Nat.mod_lt _ hN1
        have hq : j / N < m.length := Nat.div_lt_of_lt_mul (by rw [Nat.mul_comm]; exact hj)
        have hj2 : j = j / N * N + j % N := by rw [Nat.mul_comm]; exact hdm.symm
        rw [hj2, flatV_at hc m (j / N) hq (j % N) hlt] at hu
        rw [Addr.add_mid, hj2, ← Nat.add_assoc]
        exact hr (j / N) hq (j % N) u hu) (fun u hu => by
      unfold flatV at hu
      obtain ⟨e, -, hu⟩ := List.mem_flatMap.1 hu
      exact h1 e u hu) (by unfold maxLen; omega) (by omega) hb
    refine ⟨v', w', ?_, ?_, (Below.refl B w).grown h3 hb (fun k hk => (World.ownsRow.lt hown k hk).1), h3, h5⟩
    · unfold execOp
      simp only [resolve, invoke, builtin, Sem.run_bind, Sem.run_pure, Result.andThen_ok, List.map_toArray, List.map_cons, List.map_nil, hs, hx, hr]
    · unfold OwnR
      rw [List.length_append, hk, flatV_append]
      exact h2
/-- A block of things is a row of them. -/
theorem rowOf_flat (hc : ∀ o, (cells o).length = N) {b : Nat} {t : TypeId} (h : w.heap[b]? = some (.cells (flatV cells l).toArray t (0, 0))) : RowOf N cells w (some ⟨b, 0, none⟩) l :=
  ⟨.inr ⟨b, 0, rfl, fun k hk j u hu => by
    have hj : j < N := by have := (List.getElem?_eq_some_iff.1 hu).1; rw [hc] at this; exact this
    rw [Nat.zero_add, cell_of_row w b (k * N + j) _ _ _ h, List.getElem?_toArray, flatV_at hc l k hk j hj]
    exact hu⟩⟩
end
end Go.Proofs.YtgeacocdnenhdaaDoor
