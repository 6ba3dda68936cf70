/-
  PackKnown: the law returns true. Without any condition.
-/
import Derived.Test.YtadlpidhemjkgaaPkA
import Derived.Test.YtadlpidhemjkgaaPkX
import Derived.Maps.AppendAt
import Derived.Great.BuildSlice
import Derived.Deep.DeepCutAuto
import Derived.Deep.CutRange
/-
  Slices of structs, of one's own: a slice of one struct, and one more behind such a slice.
-/
namespace Go.Proofs.Ytadlpidhemjkgaa
open Go.RowKit Go.Proofs.ShaWords
/-- A struct type of N cells and Z bytes, and the slices of it. -/
structure ElemT (tr ts : TypeId) (N Z : Nat) : Prop where
  sl : Try.prog.underlying ts = some (.slice tr)
  info : ∃ i z, Try.prog.info? tr = some i ∧ i.zero = some z ∧ i.size = N ∧ z.cells.size = N ∧ i.bytes = Z
  pos : 0 < N
  few : N ≤ 1000 ∧ Z ≤ 10000
theorem elemInfo {tr : TypeId} {N Z : Nat} (h1 : (Try.prog.info? tr).isSome = true) (h2 : (Try.prog.info? tr).map (fun i => (i.zero.map (·.cells.size), i.size, i.bytes)) = some (some N, N, Z)) : ∃ i z, Try.prog.info? tr = some i ∧ i.zero = some z ∧ i.size = N ∧ z.cells.size = N ∧ i.bytes = Z := by
  cases hi : Try.prog.info? tr with
  | none => rw [hi] at h1; cases h1
  | some i =>
    rw [hi] at h2
    simp only [Option.map_some, Option.some.injEq, Prod.mk.injEq] at h2
    cases hz : i.zero with
    | none => rw [hz] at h2; simp at h2
    | some z =>
      rw [hz] at h2
      simp only [Option.map_some, Option.some.injEq] at h2
      exact ⟨i, z, rfl, hz, h2.2.1, h2.1, h2.2.2⟩
section
variable {tr ts : TypeId} {N Z : Nat} {ρ : Operand → Value} {o : Oper} {w : World}
theorem ElemT.run_one (T : ElemT tr ts N Z) {x : Operand} {C : Array Value} (ho : o.op = .buildSlice ts 1 #[(0, x)]) (hx : ρ x = .agg C) (hC : C.size = N) (w : World) :
    (execOp ρ o).run Try.prog w = .ok (.value (.slice (some ⟨w.heap.size, 0, none⟩) 1 1)) (w.alloc (.cells C tr)) := by
  obtain ⟨i, z, hi, hz, hs, hzs, -⟩ := T.info
  have hN := T.few
  have hca : (Value.agg C).cells = C := rfl
  have hf : Instr.fill (fun j => some (j * i.size, i.size)) ((Array.range (1 * i.size)).map (z.cells[· % z.cells.size]!)) [(0, .agg C)] = some C := by
    have h := fill_seq (fun j => some (j * i.size, i.size)) [.agg C] 0 [] ((Array.range (1 * i.size)).map (z.cells[· % z.cells.size]!)).toList [] (by simp [Fits, hca, hC, hs]) (by simp [hca, hC, hs])
    rw [List.nil_append, List.append_nil, Array.toArray_toList] at h
    exact h.trans (by simp [hca])
  have hr := run_buildSlice (P := Try.prog) w ts tr 1 #[(0, .agg C)] C i z T.sl hi hz (by rw [hs, Nat.one_mul]; omega) (by rw [hs, Nat.one_mul]; have := T.pos; omega) hf
  obtain ⟨dst, op, ty', pos, after, guard⟩ := o
  simp only at ho
  subst ho
  unfold execOp
  simp only [List.map_toArray, List.map_cons, List.map_nil, hx, Sem.run_bind, hr, Result.andThen_ok, Sem.run_pure]
theorem ElemT.run_append (T : ElemT tr ts N Z) {s x : Operand} {base g n : Nat} {v : Value} {xs : List Value} {C : Array Value} (ho : o.op = .call { callee := .builtin .append, args := #[s, x], argTypes := #[ts, ts] }) (hs : ρ s = v) (hown : w.ownsRow base tr N v n xs)
    (hx : ρ x = .slice (some ⟨g, 0, none⟩) 1 1) (hc : w.heap[g]? = some (.cells C tr (0, 0))) (hC : C.size = N) (h1 : ∀ u ∈ C.toList, u.oneCell' = true) (hn : n ≤ 1000000) (hb : base ≤ w.heap.size) :
    ∃ v' w', (execOp ρ o).run Try.prog w = .ok (.value v') w' ∧ w'.ownsRow base tr N v' (n + 1) (xs ++ C.toList) ∧ w.grownBy w' v.ownBlock ∧ (v'.ownBlock = v.ownBlock ∨ v'.ownBlock = some w.heap.size) := by
  obtain ⟨it, z, hit, hz, hsz, hzs, hby⟩ := T.info
  have hN := T.few
  have hN1 := T.pos
  obtain ⟨dst, op, ty', pos, after, guard⟩ := o
  simp only at ho
  subst ho
  have hbd : (n + 1) * Z ≤ 1000001 * 10000 := Nat.mul_le_mul (by omega) hN.2
  obtain ⟨v', w', hr, h2, h3, -, h5⟩ := run_append_own_at (P := Try.prog) (w := w) base ts ty' tr it z N Z T.sl hit hz hsz hby hzs (by omega) v n xs hown ⟨g, 0, none⟩ 1 1 C.toList (by rw [Array.length_toList, hC, Nat.one_mul]) (fun j u hu => by
    rw [Addr.add_mid, Nat.zero_add, cell_of_row w g j C tr (0, 0) hc]
    simpa using hu) h1 (by unfold maxLen; omega) (by omega) hb
  refine ⟨v', w', ?_, h2, h3, h5⟩
  unfold execOp
  simp only [resolve, invoke, builtin, Sem.run_bind, Sem.run_pure, Result.andThen_ok, List.map_toArray, List.map_cons, List.map_nil, hs, hx, hr]
theorem ElemT.wpList_append (T : ElemT tr ts N Z) {ops : Array Oper} {rest : List Oper} {a : Act} {Q : Exit → Act → World → Prop} (hw : Region.wanted o (yielded ops a.tmps) = true) {s x : Operand} {base g n : Nat} {v : Value} {xs : List Value} {C : Array Value} (ho : o.op = .call { callee := .builtin .append, args := #[s, x], argTypes := #[ts, ts] }) (hs : a.eval s = v) (hown : w.ownsRow base tr N v n xs)
    (hx : a.eval x = .slice (some ⟨g, 0, none⟩) 1 1) (hc : w.heap[g]? = some (.cells C tr (0, 0))) (hC : C.size = N) (h1 : ∀ u ∈ C.toList, u.oneCell' = true) (hn : n ≤ 1000000) (hb : base ≤ w.heap.size)
    (h : ∀ v' w', w'.ownsRow base tr N v' (n + 1) (xs ++ C.toList) → w.grownBy w' v.ownBlock → (v'.ownBlock = v.ownBlock ∨ v'.ownBlock = some w.heap.size) → wpList Try.prog ops Q rest (a.put o.dst v') w') : wpList Try.prog ops Q (o :: rest) a w := by
  obtain ⟨v', w', hr, h2, h3, h4⟩ := T.run_append (ρ := a.eval) ho hs hown hx hc hC h1 hn hb
  unfold wpList
  rw [if_pos hw]
  refine .inl ?_
  unfold Oper.wp
  rw [hr, Oper.upon_value]
  exact h v' w' h2 h3 h4
end
end Go.Proofs.Ytadlpidhemjkgaa

/-
  What PackKnown's regions are made of: structs and slices of structs that are built, tables of ints.
-/
namespace Go.Proofs.Ytadlpidhemjkgaa
open Go.RowKit Go.Proofs.ShaWords
theorem thingE : ElemT 28 37 35 72 where
  sl := Try.underlying37
  info := elemInfo (by kernel_rfl) (by kernel_rfl)
  pos := by decide
  few := by decide
theorem askE : ElemT 34 35 2 16 where
  sl := Try.underlying35
  info := elemInfo (by kernel_rfl) (by kernel_rfl)
  pos := by decide
  few := by decide
section
variable {tr ts : TypeId} {N Z : Nat} {ρ : Operand → Value} {o : Oper} {w : World}
/-- A slice of three structs. -/
theorem ElemT.run_three (T : ElemT tr ts N Z) {x0 x1 x2 : Operand} {C0 C1 C2 : Array Value} (ho : o.op = .buildSlice ts 3 #[(0, x0), (1, x1), (2, x2)]) (h0 : ρ x0 = .agg C0) (h1 : ρ x1 = .agg C1) (h2 : ρ x2 = .agg C2) (c0 : C0.size = N) (c1 : C1.size = N) (c2 : C2.size = N) (w : World) :
    (execOp ρ o).run Try.prog w = .ok (.value (.slice (some ⟨w.heap.size, 0, none⟩) 3 3)) (w.alloc (.cells (C0.toList ++ (C1.toList ++ C2.toList)).toArray tr)) := by
  obtain ⟨i, z, hi, hz, hs, hzs, -⟩ := T.info
  have hN := T.few
  have hca : ∀ C : Array Value, (Value.agg C).cells = C := fun _ => rfl
  have hf : Instr.fill (fun j => some (j * i.size, i.size)) ((Array.range (3 * i.size)).map (z.cells[· % z.cells.size]!)) [(0, .agg C0), (1, .agg C1), (2, .agg C2)] = some (C0.toList ++ (C1.toList ++ C2.toList)).toArray := by
    have h := fill_seq (fun j => some (j * i.size, i.size)) [.agg C0, .agg C1, .agg C2] 0 [] ((Array.range (3 * i.size)).map (z.cells[· % z.cells.size]!)).toList [] (by simp [Fits, hca, c0, c1, c2, hs]; omega) (by simp [hca, c0, c1, c2, hs]; omega)
    rw [List.nil_append, List.append_nil, Array.toArray_toList] at h
    exact h.trans (by simp [hca])
  have hr := run_buildSlice (P := Try.prog) w ts tr 3 #[(0, .agg C0), (1, .agg C1), (2, .agg C2)] _ i z T.sl hi hz (by rw [hs]; omega) (by rw [hs]; have := T.pos; omega) hf
  obtain ⟨dst, op, ty', pos, after, guard⟩ := o
  simp only at ho
  subst ho
  unfold execOp
  simp only [List.map_toArray, List.map_cons, List.map_nil, h0, h1, h2, Sem.run_bind, hr, Result.andThen_ok, Sem.run_pure]
/-- A slice of four structs. -/
theorem ElemT.run_four (T : ElemT tr ts N Z) {x0 x1 x2 x3 : Operand} {C0 C1 C2 C3 : Array Value} (ho : o.op = .buildSlice ts 4 #[(0, x0), (1, x1), (2, x2), (3, x3)]) (h0 : ρ x0 = .agg C0) (h1 : ρ x1 = .agg C1) (h2 : ρ x2 = .agg C2) (h3 : ρ x3 = .agg C3) (c0 : C0.size = N) (c1 : C1.size = N) (c2 : C2.size = N) (c3 : C3.size = N) (w : World) :
    (execOp ρ o).run Try.prog w = .ok (.value (.slice (some ⟨w.heap.size, 0, none⟩) 4 4)) (w.alloc (.cells (C0.toList ++ (C1.toList ++ (C2.toList ++ C3.toList))).toArray tr)) := by
  obtain ⟨i, z, hi, hz, hs, hzs, -⟩ := T.info
  have hN := T.few
  have hca : ∀ C : Array Value, (Value.agg C).cells = C := fun _ => rfl
  have hf : Instr.fill (fun j => some (j * i.size, i.size)) ((Array.range (4 * i.size)).map (z.cells[· % z.cells.size]!)) [(0, .agg C0), (1, .agg C1), (2, .agg C2), (3, .agg C3)] = some (C0.toList ++ (C1.toList ++ (C2.toList ++ C3.toList))).toArray := by
    have h := fill_seq (fun j => some (j * i.size, i.size)) [.agg C0, .agg C1, .agg C2, .agg C3] 0 [] ((Array.range (4 * i.size)).map (z.cells[· % z.cells.size]!)).toList [] (by simp [Fits, hca, c0, c1, c2, c3, hs]; omega) (by simp [hca, c0, c1, c2, c3, hs]; omega)
    rw [List.nil_append, List.append_nil, Array.toArray_toList] at h
    exact h.trans (by simp [hca])
  have hr := run_buildSlice (P := Try.prog) w ts tr 4 #[(0, .agg C0), (1, .agg C1), (2, .agg C2), (3, .agg C3)] _ i z T.sl hi hz (by rw [hs]; omega) (by rw [hs]; have := T.pos; omega) hf
  obtain ⟨dst, op, ty', pos, after, guard⟩ := o
  simp only at ho
  subst ho
  unfold execOp
  simp only [List.map_toArray, List.map_cons, List.map_nil, h0, h1, h2, h3, Sem.run_bind, hr, Result.andThen_ok, Sem.run_pure]
end
/-- Things that were built lie one behind the other. -/
theorem things_built {w : World} {g : Nat} {ts : List Thing7} {C : Array Value} (h : w.heap[g]? = some (.cells C 28 (0, 0))) (hC : C.toList = ts.flatMap Thing7.cells) (hok : ∀ t ∈ ts, t.Ok w) : ThingsIn w (some ⟨g, 0, none⟩) ts := by
  refine ⟨Or.inr ⟨g, 0, rfl, fun k hk j v hv => ?_⟩, hok⟩
  have hlen : ∀ t ∈ ts, t.cells.length = 35 := fun t ht => Thing7.cells_length (hok t ht).sum
  have hj : j < 35 := by
    have := (List.getElem?_eq_some_iff.1 hv).1
    rwa [hlen _ (List.getElem_mem hk)] at this
  have hget : ∀ (l : List Thing7), (∀ t ∈ l, t.cells.length = 35) → ∀ (k : Nat) (hk : k < l.length), (l.flatMap Thing7.cells)[k * 35 + j]? = l[k].cells[j]? := by
    intro l
    induction l with
    | nil => intro _ k hk; simp at hk
    | cons x l ih =>
      intro hl k hk
      have hx := hl x List.mem_cons_self
      rw [List.flatMap_cons]
      cases k with
      | zero => rw [Nat.zero_mul, Nat.zero_add, List.getElem?_append_left (by rw [hx]; exact hj)]; rfl
      | succ k =>
        rw [List.getElem?_append_right (by rw [hx]; omega), hx, show (k + 1) * 35 + j - 35 = k * 35 + j by omega]
        exact ih (fun t ht => hl t (List.mem_cons_of_mem _ ht)) k (by simpa using hk)
  rw [Nat.zero_add, cell_of_row w g _ C _ _ h, ← Array.getElem?_toList, hC, hget ts hlen k hk]
  exact hv
theorem built_ask (a b : Int) : Try.prog.built 34 [(0, .int .i64 a), (1, .int .i64 b)] = some #[.int .i64 a, .int .i64 b] := by kernel_rfl
theorem built_KN (k n : Int) : Try.prog.built 28 [(0, .int .i64 k), (1, .int .i64 n)] = some (⟨k, n, none, 0, [], noughts 32⟩ : Thing7).cells.toArray := by kernel_rfl
theorem built_K (k : Int) : Try.prog.built 28 [(0, .int .i64 k)] = some (⟨k, 0, none, 0, [], noughts 32⟩ : Thing7).cells.toArray := by kernel_rfl
theorem built_KB (k : Int) (p : Option Addr) (b : List (BitVec 8)) (c : Nat) : Try.prog.built 28 [(0, .int .i64 k), (2, .slice p b.length c)] = some (⟨k, 0, p, c, b, noughts 32⟩ : Thing7).cells.toArray := by kernel_rfl
end Go.Proofs.Ytadlpidhemjkgaa

/-
  A list of slices of bytes, of one's own: one more at its end.
-/
namespace Go.Proofs.Ytadlpidhemjkgaa
open Go.RowKit Go.Proofs.ShaWords

/-- The list hv of the slices vs; their bytes lie in blocks of D. -/
structure HadR (D : Nat → Prop) (w : World) (hv : Value) (vs : List Value) : Prop where
  rows : w.ownsRow 0 23 1 hv vs.length vs
  each : ∀ v ∈ vs, ∃ s, SliceIn D w v s ∧ 16 ≤ s.length ∧ s.length ≤ 2000
  clear : ∀ k, hv.ownBlock = some k → ¬ D k
  dom : ∀ k, D k → k < w.heap.size
theorem HadR.nil (w : World) : HadR (fun _ => False) w (.slice none 0 0) [] := ⟨World.ownsRow_nil w 0 _ 1, by simp, by simp [Value.ownBlock], fun _ h => h.elim⟩
theorem HadR.keep {D F : Nat → Prop} {w w' : World} {hv : Value} {vs : List Value} (h : HadR D w hv vs) (hk : Stays F w w') (hF : ∀ k, F k → ¬ D k ∧ hv.ownBlock ≠ some k) : HadR D w' hv vs :=
  ⟨ownsRow_stays h.rows hk (fun k e f => (hF k f).2 e), fun v hv' => by
    obtain ⟨s, h1, h2⟩ := h.each v hv'
    exact ⟨s, h1.keep hk (fun k f => (hF k f).1), h2⟩, h.clear, fun k d => Nat.lt_of_lt_of_le (h.dom k d) hk.size⟩
theorem HadR.form {D : Nat → Prop} {w : World} {hv : Value} {vs : List Value} (h : HadR D w hv vs) : ∃ ph ch, hv = .slice ph vs.length ch ∧ (vs.length = 0 ∨ ∃ g, ph = some ⟨g, 0, none⟩ ∧ ∀ i, i < vs.length → ∃ q c s, w.cell? ⟨g, i, none⟩ = some (.slice q s.length c) ∧ Lies w q s ∧ 16 ≤ s.length ∧ s.length ≤ 2000) := by
  rcases h.rows.2 with ⟨h0, h1⟩ | ⟨g, cap, cur, he, hb, hh, h3, h4, h5, h6⟩
  · exact ⟨none, 0, by rw [h0, h1], Or.inl h1⟩
  · refine ⟨_, cap, he, Or.inr ⟨g, rfl, fun i hi => ?_⟩⟩
    obtain ⟨s, ⟨q, c, e, -, -, hl⟩, h7, h8⟩ := h.each vs[i] (List.getElem_mem _)
    refine ⟨q, c, s, ?_, hl.lies, h7, h8⟩
    have hc := World.ownsRow.cells h.rows (g := g) (by rw [he]; rfl) i (.slice q s.length c) (by rw [List.getElem?_eq_getElem hi, e])
    rwa [Addr.add_mid, Nat.zero_add] at hc
theorem infoBytes : ∃ i : TypeInfo, Try.prog.info? 23 = some i ∧ i.zero = some (.slice none 0 0) ∧ i.size = 1 ∧ i.bytes = 24 := by
  cases hi : Try.prog.info? 23 with
  | none =>
    have : (Try.prog.info? 23).isSome = true := by kernel_rfl
    rw [hi] at this; cases this
  | some i =>
    have e : (Try.prog.info? 23).map (fun i => (i.zero.map (fun z => match z with | .slice none 0 0 => true | _ => false), i.size, i.bytes)) = some (some true, 1, 24) := by kernel_rfl
    rw [hi] at e
    simp only [Option.map_some, Option.some.injEq, Prod.mk.injEq] at e
    cases hz : i.zero with
    | none => rw [hz] at e; simp at e
    | some z =>
      rw [hz] at e
      simp only [Option.map_some, Option.some.injEq] at e
      refine ⟨i, rfl, ?_, e.2.1, e.2.2⟩
      have h1 := e.1
      split at h1
      · exact hz
      · cases h1
theorem wpList_append_slice {ops : Array Oper} {rest : List Oper} {o : Oper} {a : Act} {w : World} {Q : Exit → Act → World → Prop} {D : Nat → Prop} (hgd : o.guard = none) (s x : Operand)
    (ho : o.op = .call { callee := .builtin .append, args := #[s, x], argTypes := #[66, 66] }) (hv v : Value) (vs : List Value) (hs : a.eval s = hv) (had : HadR D w hv vs) (h1 : v.oneCell' = true) (hx : a.eval x = .slice (some ⟨w.heap.size, 0, none⟩) 1 1)
    (hl : vs.length ≤ 100000)
    (h : ∀ hv' w', w'.ownsRow 0 23 1 hv' (vs ++ [v]).length (vs ++ [v]) → Stays (fun k => hv.ownBlock = some k) w w' → (∀ k, hv'.ownBlock = some k → hv.ownBlock = some k ∨ w.heap.size ≤ k) → wpList Try.prog ops Q rest (a.put o.dst hv') w') : wpList Try.prog ops Q (o :: rest) a (w.alloc (.cells #[v] 23)) := by
  obtain ⟨i, hi, hz, hsz, hby⟩ := infoBytes
  refine wpList_append_own_at (w := w.alloc (.cells #[v] 23)) hgd s x 66 ho 0 23 i (.slice none 0 0) 1 24 Try.underlying66 hi hz hsz hby rfl (by decide) hv vs.length vs hs (had.rows.alloc _) ⟨w.heap.size, 0, none⟩ 1 1 [v] hx rfl ?_ ?_ (by unfold maxLen; omega) (by omega) (Nat.zero_le _) ?_
  · intro j u hu
    have hj : j = 0 := by have := (List.getElem?_eq_some_iff.1 hu).1; simp at this; exact this
    subst hj
    rw [Addr.add_mid, cell_of_row _ _ _ _ _ _ (heap_new_at rfl)]
    simpa using hu
  · intro u hu
    rw [List.mem_singleton.1 hu]; exact h1
  · intro v' w' ho' hg _ hat
    refine h v' w' (by rw [List.length_append]; exact ho') ?_ ?_
    · exact (Below.stays (F := fun k => hv.ownBlock = some k) ((Below.refl _ _).alloc (Nat.le_refl _) _)).trans (grown_stays (F := fun k => hv.ownBlock = some k) hg (fun k e => e)) (fun k e _ => e)
    · intro k hk
      rcases hat with e | e
      · exact Or.inl (e ▸ hk)
      · rw [e, size_alloc] at hk
        have := Option.some.inj hk
        exact Or.inr (by omega)
end Go.Proofs.Ytadlpidhemjkgaa

/-
  Single operations on slices of bytes: a slice loaded, an element's address, a byte loaded, stored, combined.
-/
namespace Go.Proofs.Ytadlpidhemjkgaa
open Go.RowKit Go.Proofs.ShaWords
theorem xor8 (x y : BitVec 8) : bits .xor .u8 (n8 x) (n8 y) = n8 (x ^^^ y) := by
  unfold n8; rw [u8_xor_nat _ _ (by have := x.isLt; omega) (by have := y.isLt; omega), BitVec.toNat_xor]
theorem put_none (a : Act) (v : Value) : a.put none v = a := rfl
theorem eval_none (a : Act) (v : Value) (t : Nat) : (a.put none v).eval (.tmp t) = a.eval (.tmp t) := rfl
section
variable {ρ : Operand → Value} {o : Oper} {x y : Operand} {w : World}
theorem run_loadSlice {a : Addr} {p : Option Addr} {n c : Nat} (ho : o.op = .load 23 x) (hx : ρ x = .pointer (some a)) (hc : w.cell? a = some (.slice p n c)) : (execOp ρ o).run Try.prog w = .ok (.value (.slice p n c)) w := by
  obtain ⟨dst, op, ty', pos, after, guard⟩ := o
  simp only at ho
  subst ho
  go_simp
theorem run_ixSlice {b off n c k : Nat} (ho : o.op = .indexAddr 23 x y) (hx : ρ x = .slice (some ⟨b, off, none⟩) n c) (hy : ρ y = .int .i64 (k : Int)) (hk : k < n) (w : World) :
    (execOp ρ o).run Try.prog w = .ok (.value (.pointer (some ⟨b, off + k, none⟩))) w := by
  obtain ⟨dst, op, ty', pos, after, guard⟩ := o
  simp only at ho
  subst ho
  have q : (k : Int) < (n : Int) := by omega
  go_simp
theorem run_ixSlice0 {b n c k : Nat} (ho : o.op = .indexAddr 23 x y) (hx : ρ x = .slice (some ⟨b, 0, none⟩) n c) (hy : ρ y = .int .i64 (k : Int)) (hk : k < n) (w : World) :
    (execOp ρ o).run Try.prog w = .ok (.value (.pointer (some ⟨b, k, none⟩))) w := by
  have h := run_ixSlice ho hx hy hk w
  rw [Nat.zero_add] at h; exact h
theorem run_load8 {a : Addr} {v : Int} (ho : o.op = .load 5 x) (hx : ρ x = .pointer (some a)) (hc : w.cell? a = some (.int .u8 v)) : (execOp ρ o).run Try.prog w = .ok (.value (.int .u8 v)) w := by
  obtain ⟨dst, op, ty', pos, after, guard⟩ := o
  simp only at ho
  subst ho
  go_simp
theorem run_store8 {a : Addr} {v : Int} {u : Value} (ho : o.op = .store 5 x y) (hx : ρ x = .pointer (some a)) (hy : ρ y = .int .u8 v) (hc : w.cell? a = some u) (hf : w.frozen? a = false) :
    (execOp ρ o).run Try.prog w = .ok .skip (w.setCell a (.int .u8 v)) := by
  obtain ⟨dst, op, ty', pos, after, guard⟩ := o
  simp only at ho
  subst ho
  go_simp
theorem run_xor8 {a b : BitVec 8} (ho : o.op = .binOp .xor 5 x y 5) (hx : ρ x = .int .u8 (n8 a)) (hy : ρ y = .int .u8 (n8 b)) (w : World) : (execOp ρ o).run Try.prog w = .ok (.value (.int .u8 (n8 (a ^^^ b)))) w := by
  obtain ⟨dst, op, ty', pos, after, guard⟩ := o
  simp only at ho
  subst ho
  have h := xor8 a b
  go_simp
end
end Go.Proofs.Ytadlpidhemjkgaa

/-
  A list of slices of bytes, of one's own, and the bytes of each; two such lists compared.
-/
namespace Go.Proofs.Ytadlpidhemjkgaa
open Go.RowKit Go.Proofs.ShaWords
/-- The list hv of the slices vs, whose bytes are those of L; they lie in blocks of D. -/
structure NestL (D : Nat → Prop) (w : World) (hv : Value) (vs : List Value) (L : List (List (BitVec 8))) : Prop where
  rows : w.ownsRow 0 23 1 hv vs.length vs
  len : vs.length = L.length
  each : ∀ (i : Nat) (v : Value) (s : List (BitVec 8)), vs[i]? = some v → L[i]? = some s → SliceIn D w v s
  clear : ∀ k, hv.ownBlock = some k → ¬ D k
  dom : ∀ k, D k → k < w.heap.size
theorem NestL.nil (w : World) : NestL (fun _ => False) w (.slice none 0 0) [] [] := ⟨World.ownsRow_nil w 0 _ 1, rfl, by simp, by simp [Value.ownBlock], fun _ h => h.elim⟩
theorem NestL.keep {D F : Nat → Prop} {w w' : World} {hv : Value} {vs : List Value} {L : List (List (BitVec 8))} (h : NestL D w hv vs L) (hk : Stays F w w') (hF : ∀ k, F k → ¬ D k ∧ hv.ownBlock ≠ some k) : NestL D w' hv vs L :=
  ⟨ownsRow_stays h.rows hk (fun k e f => (hF k f).2 e), h.len, fun i v s h1 h2 => (h.each i v s h1 h2).keep hk (fun k f => (hF k f).1), h.clear, fun k d => Nat.lt_of_lt_of_le (h.dom k d) hk.size⟩
/-- One more at its end. -/
theorem NestL.snoc {D F : Nat → Prop} {w w' : World} {hv hv' u : Value} {vs : List Value} {L : List (List (BitVec 8))} {bx : List (BitVec 8)} {B : Nat} (h : NestL D w hv vs L) (hu : Own B w bx u) (hB : ∀ k, D k ∨ hv.ownBlock = some k → k < B) (hrow : w'.ownsRow 0 23 1 hv' (vs ++ [u]).length (vs ++ [u])) (hs : Stays F w w') (hF : ∀ k, F k → hv.ownBlock = some k ∨ w.heap.size ≤ k)
    (hfr : ∀ k, hv'.ownBlock = some k → hv.ownBlock = some k ∨ w.heap.size ≤ k) : NestL (fun k => D k ∨ u.ownBlock = some k) w' hv' (vs ++ [u]) (L ++ [bx]) := by
  have hou : ∀ k, u.ownBlock = some k → B ≤ k ∧ k < w.heap.size := fun k hk => World.ownsRow.lt hu k hk
  have hFD : ∀ k, F k → ¬ (D k ∨ u.ownBlock = some k) := fun k f hd => by
    rcases hF k f with h1 | h1
    · rcases hd with h2 | h2
      · exact h.clear k h1 h2
      · have := hou k h2; have := hB k (Or.inr h1); omega
    · rcases hd with h2 | h2
      · have := h.dom k h2; omega
      · have := hou k h2; omega
  refine ⟨hrow, by rw [List.length_append, List.length_append, h.len, List.length_singleton, List.length_singleton], fun i v s hv hs' => ?_, fun k hk hd => ?_, fun k hk => ?_⟩
  · by_cases hi : i < vs.length
    · rw [List.getElem?_append_left hi] at hv
      rw [List.getElem?_append_left (by rw [← h.len]; exact hi)] at hs'
      exact ((h.each i v s hv hs').keep hs (fun k f hd => hFD k f (Or.inl hd))).more (fun k hk _ => Or.inl hk)
    · have hi2 : i < vs.length + 1 := by have := (List.getElem?_eq_some_iff.1 hv).1; simpa using this
      obtain rfl : i = vs.length := by omega
      rw [List.getElem?_append_right (Nat.le_refl _), Nat.sub_self] at hv
      rw [List.getElem?_append_right (by rw [h.len]; exact Nat.le_refl _), h.len, Nat.sub_self] at hs'
      simp only [List.getElem?_cons_zero, Option.some.injEq] at hv hs'
      subst hv hs'
      exact (hu.sliceIn (D := fun k => D k ∨ u.ownBlock = some k) (fun k hk => Or.inr hk)).keep hs (fun k f hd => hFD k f hd)
  · rcases hfr k hk with h1 | h1
    · rcases hd with h2 | h2
      · exact h.clear k h1 h2
      · have := hou k h2; have := hB k (Or.inr h1); omega
    · rcases hd with h2 | h2
      · have := h.dom k h2; omega
      · have := hou k h2; omega
  · have hz := hs.size
    rcases hk with h1 | h1
    · have := h.dom k h1; omega
    · have := hou k h1; omega
/-- What such a list reads as. -/
def NestAt (w : World) (p : Option Addr) (L : List (List (BitVec 8))) : Prop := L = [] ∨ ∃ g, p = some ⟨g, 0, none⟩ ∧ ∀ (i : Nat) (s : List (BitVec 8)), L[i]? = some s → ∃ q c, w.cell? ⟨g, i, none⟩ = some (.slice q s.length c) ∧ s.length ≤ c ∧ Lies w q s
theorem NestAt.below {w w' : World} {p : Option Addr} {L : List (List (BitVec 8))} (h : NestAt w p L) (hb : Below w.heap.size w w') : NestAt w' p L := by
  rcases h with h0 | ⟨g, e, h⟩
  · exact Or.inl h0
  · refine Or.inr ⟨g, e, fun i s hi => ?_⟩
    obtain ⟨q, c, h1, h2, h3⟩ := h i s hi
    exact ⟨q, c, (hb.cell (p := ⟨g, i, none⟩) (World.block_lt_of_cell? w _ h1)).trans h1, h2, h3.below hb⟩
theorem NestL.at {D : Nat → Prop} {w : World} {hv : Value} {vs : List Value} {L : List (List (BitVec 8))} (h : NestL D w hv vs L) : ∃ p c, hv = .slice p L.length c ∧ NestAt w p L := by
  rcases h.rows.2 with ⟨h0, h1⟩ | ⟨g, cap, cur, he, hb, hh, h3, h4, h5, h6⟩
  · refine ⟨none, 0, by rw [h0, ← h.len, h1], Or.inl ?_⟩
    have := h.len; rw [h1] at this
    exact List.length_eq_zero_iff.1 this.symm
  · refine ⟨_, cap, by rw [← h.len]; exact he, Or.inr ⟨g, rfl, fun i s hi => ?_⟩⟩
    have hil : i < L.length := (List.getElem?_eq_some_iff.1 hi).1
    have hiv : i < vs.length := by rw [h.len]; exact hil
    obtain ⟨q, c, e, h7, h8, hl⟩ := h.each i vs[i] s (List.getElem?_eq_getElem hiv) hi
    refine ⟨q, c, ?_, h7, hl.lies⟩
    have hc := World.ownsRow.cells h.rows (g := g) (by rw [he]; rfl) i (.slice q s.length c) (by rw [List.getElem?_eq_getElem hiv, e])
    rwa [Addr.add_mid, Nat.zero_add] at hc
section
variable {ρ : Operand → Value} {o : Oper} {x y s : Operand} {w : World}
theorem run_oneSlice {v : Value} (ho : o.op = .buildSlice 66 1 #[(0, x)]) (hx : ρ x = v) (hv : v.cells = #[v]) (w : World) :
    (execOp ρ o).run Try.prog w = .ok (.value (.slice (some ⟨w.heap.size, 0, none⟩) 1 1)) (w.alloc (.cells #[v] 23)) := by
  obtain ⟨i, hi, hz, hs, -⟩ := infoBytes
  have hzs : (Value.slice none 0 0).cells.size = 1 := rfl
  have hf : Instr.fill (fun j => some (j * i.size, i.size)) ((Array.range (1 * i.size)).map ((Value.slice none 0 0).cells[· % (Value.slice none 0 0).cells.size]!)) [(0, v)] = some #[v] := by
    have h := fill_seq (fun j => some (j * i.size, i.size)) [v] 0 [] ((Array.range (1 * i.size)).map ((Value.slice none 0 0).cells[· % (Value.slice none 0 0).cells.size]!)).toList [] (by simp [Fits, hv, hs]) (by simp [hv, hs])
    rw [List.nil_append, List.append_nil, Array.toArray_toList] at h
    exact h.trans (by simp [hv])
  have hr := run_buildSlice (P := Try.prog) w 66 23 1 #[(0, v)] #[v] i (.slice none 0 0) Try.underlying66 hi hz (by rw [hs]; omega) (by rw [hs]; omega) hf
  obtain ⟨dst, op, ty', pos, after, guard⟩ := o
  simp only at ho
  subst ho
  unfold execOp
  simp only [List.map_toArray, List.map_cons, List.map_nil, hx, Sem.run_bind, hr, Result.andThen_ok, Sem.run_pure]
theorem run_appendSlice {hv v : Value} {vs : List Value} {g : Nat} (ho : o.op = .call { callee := .builtin .append, args := #[s, x], argTypes := #[66, 66] }) (hs : ρ s = hv) (hrow : w.ownsRow 0 23 1 hv vs.length vs)
    (hx : ρ x = .slice (some ⟨g, 0, none⟩) 1 1) (hc : w.heap[g]? = some (.cells #[v] 23 (0, 0))) (h1 : v.oneCell' = true) (hn : vs.length ≤ 1000000) :
    ∃ hv' w', (execOp ρ o).run Try.prog w = .ok (.value hv') w' ∧ w'.ownsRow 0 23 1 hv' (vs ++ [v]).length (vs ++ [v]) ∧ w.grownBy w' hv.ownBlock ∧ (hv'.ownBlock = hv.ownBlock ∨ hv'.ownBlock = some w.heap.size) := by
  obtain ⟨i, hi, hz, hsz, hby⟩ := infoBytes
  obtain ⟨dst, op, ty', pos, after, guard⟩ := o
  simp only at ho
  subst ho
  obtain ⟨v', w', hr, h2, h3, -, h5⟩ := run_append_own_at (P := Try.prog) (w := w) 0 66 ty' 23 i (.slice none 0 0) 1 24 Try.underlying66 hi hz hsz hby rfl (by decide) hv vs.length vs hrow ⟨g, 0, none⟩ 1 1 [v] rfl (fun j u hu => by
    rw [Addr.add_mid, Nat.zero_add, cell_of_row w g j _ _ (0, 0) hc]
    simpa using hu) (fun u hu => by rw [List.mem_singleton.1 hu]; exact h1) (by unfold maxLen; omega) (by omega) (Nat.zero_le _)
  refine ⟨v', w', ?_, by rw [List.length_append]; exact h2, h3, h5⟩
  unfold execOp
  simp only [resolve, invoke, builtin, Sem.run_bind, Sem.run_pure, Result.andThen_ok, List.map_toArray, List.map_cons, List.map_nil, hs, hx, hr]
end
end Go.Proofs.Ytadlpidhemjkgaa

/-
  PackLays' walk.
-/
namespace Go.Proofs.Ytadlpidhemjkgaa
open Go.RowKit Go.Proofs.ShaWords
/-- A slice of four slices of bytes is built. -/
theorem run_four {ρ : Operand → Value} {o : Oper} {x0 x1 x2 x3 : Operand} {v0 v1 v2 v3 : Value} (ho : o.op = .buildSlice 66 4 #[(0, x0), (1, x1), (2, x2), (3, x3)]) (h0 : ρ x0 = v0) (h1 : ρ x1 = v1) (h2 : ρ x2 = v2) (h3 : ρ x3 = v3)
    (c0 : v0.cells = #[v0]) (c1 : v1.cells = #[v1]) (c2 : v2.cells = #[v2]) (c3 : v3.cells = #[v3]) (w : World) :
    (execOp ρ o).run Try.prog w = .ok (.value (.slice (some ⟨w.heap.size, 0, none⟩) 4 4)) (w.alloc (.cells #[v0, v1, v2, v3] 23)) := by
  obtain ⟨i, hi, hz, hs, -⟩ := infoBytes
  have hf : Instr.fill (fun j => some (j * i.size, i.size)) ((Array.range (4 * i.size)).map ((Value.slice none 0 0).cells[· % (Value.slice none 0 0).cells.size]!)) [(0, v0), (1, v1), (2, v2), (3, v3)] = some #[v0, v1, v2, v3] := by
    have h := fill_seq (fun j => some (j * i.size, i.size)) [v0, v1, v2, v3] 0 [] ((Array.range (4 * i.size)).map ((Value.slice none 0 0).cells[· % (Value.slice none 0 0).cells.size]!)).toList [] (by simp [Fits, c0, c1, c2, c3, hs]) (by simp [c0, c1, c2, c3, hs])
    rw [List.nil_append, List.append_nil, Array.toArray_toList] at h
    exact h.trans (by simp [c0, c1, c2, c3])
  have hr := run_buildSlice (P := Try.prog) w 66 23 4 #[(0, v0), (1, v1), (2, v2), (3, v3)] #[v0, v1, v2, v3] i (.slice none 0 0) Try.underlying66 hi hz (by rw [hs]; omega) (by rw [hs]; omega) hf
  obtain ⟨dst, op, ty', pos, after, guard⟩ := o
  simp only at ho
  subst ho
  unfold execOp
  simp only [List.map_toArray, List.map_cons, List.map_nil, h0, h1, h2, h3, Sem.run_bind, hr, Result.andThen_ok, Sem.run_pure]
theorem run_ix4 {ρ : Operand → Value} {o : Oper} {x y : Operand} {g i : Nat} (ho : o.op = .indexAddr 66 x y) (hx : ρ x = .slice (some ⟨g, 0, none⟩) 4 4) (hy : ρ y = .int .i64 (i : Int)) (hi : i < 4) (w : World) : (execOp ρ o).run Try.prog w = .ok (.value (.pointer (some ⟨g, i, none⟩))) w := by
  obtain ⟨dst, op, ty, pos, after, guard⟩ := o
  simp only at ho
  subst ho
  have q : (0 : Int) ≤ (i : Int) ∧ (i : Int) < 4 := ⟨by omega, by omega⟩
  go_simp
/-- A row's slice and its bytes. -/
structure RowS where
  q : Option Addr
  c : Nat
  l : List (BitVec 8)
def RowS.v (r : RowS) : Value := .slice r.q r.l.length r.c
/-- Four rows of one's own, made one behind the other from lo to hi; those from k on are as they were. -/
structure RowsW (lo hi g k : Nat) (R : Nat → RowS) (w : World) : Prop where
  cell : ∀ j, j < 4 → w.cell? ⟨g, j, none⟩ = some (R j).v
  own : ∀ j, k ≤ j → j < 4 → Own lo w (R j).l (R j).v
  glt : hi ≤ g ∧ g < w.heap.size
  blk : ∀ j b, j < 4 → (R j).v.ownBlock = some b → lo ≤ b ∧ b < hi
  part : ∀ i j b, i < 4 → j < 4 → i ≠ j → (R i).v.ownBlock = some b → (R j).v.ownBlock ≠ some b
theorem RowsW.keep {lo hi g k : Nat} {R : Nat → RowS} {w w' : World} {F : Nat → Prop} (h : RowsW lo hi g k R w) (hst : Stays F w w') (hg : ¬ F g) (hF : ∀ j b, k ≤ j → j < 4 → (R j).v.ownBlock = some b → ¬ F b) : RowsW lo hi g k R w' :=
  ⟨fun j hj => (World.cell?_of_block (a := ⟨g, j, none⟩) (hst.block g h.glt.2 hg)).trans (h.cell j hj), fun j hk hj => ownsRow_stays (h.own j hk hj) hst (fun b hb => hF j b hk hj hb), ⟨h.glt.1, Nat.lt_of_lt_of_le h.glt.2 hst.size⟩, h.blk, h.part⟩
theorem RowsW.next {lo hi g k : Nat} {R : Nat → RowS} {w : World} (h : RowsW lo hi g k R w) : RowsW lo hi g (k + 1) R w := ⟨h.cell, fun j hk hj => h.own j (by omega) hj, h.glt, h.blk, h.part⟩
theorem own_cells1 (p : Option Addr) (n c : Nat) : (Value.slice p n c).cells = #[Value.slice p n c] := rfl
/-- Four slices, one behind the other. -/
theorem rows_of {w0 w1 w2 w3 w4 : World} {R : Nat → RowS} (s1 : Below w1.heap.size w1 w2) (s2 : Below w2.heap.size w2 w3) (s3 : Below w3.heap.size w3 w4) (s0 : w0.heap.size ≤ w1.heap.size)
    (h0 : Own w0.heap.size w1 (R 0).l (R 0).v) (h1 : Own w1.heap.size w2 (R 1).l (R 1).v) (h2 : Own w2.heap.size w3 (R 2).l (R 2).v) (h3 : Own w3.heap.size w4 (R 3).l (R 3).v) :
    RowsW w0.heap.size w4.heap.size w4.heap.size 0 R (w4.alloc (.cells #[(R 0).v, (R 1).v, (R 2).v, (R 3).v] 23)) := by
  have z1 := s1.size
  have z2 := s2.size
  have z3 := s3.size
  have hb : Below w4.heap.size w4 (w4.alloc (.cells #[(R 0).v, (R 1).v, (R 2).v, (R 3).v] 23)) := (Below.refl _ _).alloc (Nat.le_refl _) _
  have b0 := fun b e => h0.lt b e
  have b1 := fun b e => h1.lt b e
  have b2 := fun b e => h2.lt b e
  have b3 := fun b e => h3.lt b e
  refine ⟨fun j hj => ?_, fun j _ hj => ?_, ⟨Nat.le_refl _, by rw [size_alloc]; omega⟩, fun j b hj e => ?_, fun i j b hi hj hij e e2 => ?_⟩
  · rw [cell_of_row _ _ _ _ _ _ (heap_new_at rfl)]
    obtain rfl | rfl | rfl | rfl : j = 0 ∨ j = 1 ∨ j = 2 ∨ j = 3 := by omega
    all_goals rfl
  · obtain rfl | rfl | rfl | rfl : j = 0 ∨ j = 1 ∨ j = 2 ∨ j = 3 := by omega
    · exact Own.below (Own.below (Own.below (Own.below h0 s1) s2) s3) hb
    · exact (Own.below (Own.below (Own.below h1 s2) s3) hb).lower (by omega)
    · exact (Own.below (Own.below h2 s3) hb).lower (by omega)
    · exact (Own.below h3 hb).lower (by omega)
  · obtain rfl | rfl | rfl | rfl : j = 0 ∨ j = 1 ∨ j = 2 ∨ j = 3 := by omega
    · have := b0 b e; omega
    · have := b1 b e; omega
    · have := b2 b e; omega
    · have := b3 b e; omega
  · obtain rfl | rfl | rfl | rfl : i = 0 ∨ i = 1 ∨ i = 2 ∨ i = 3 := by omega
    all_goals obtain rfl | rfl | rfl | rfl : j = 0 ∨ j = 1 ∨ j = 2 ∨ j = 3 := by omega
    all_goals first
      | exact absurd rfl hij
      | (have := b0 b e; have := b1 b e2; omega)
      | (have := b0 b e; have := b2 b e2; omega)
      | (have := b0 b e; have := b3 b e2; omega)
      | (have := b1 b e; have := b0 b e2; omega)
      | (have := b1 b e; have := b2 b e2; omega)
      | (have := b1 b e; have := b3 b e2; omega)
      | (have := b2 b e; have := b0 b e2; omega)
      | (have := b2 b e; have := b1 b e2; omega)
      | (have := b2 b e; have := b3 b e2; omega)
      | (have := b3 b e; have := b0 b e2; omega)
      | (have := b3 b e; have := b1 b e2; omega)
      | (have := b3 b e; have := b2 b e2; omega)
def four (a b c d : RowS) : Nat → RowS
  | 0 => a
  | 1 => b
  | 2 => c
  | _ => d
/-- What the loop of PackLays goes on with. -/
structure LaysW (W : World) (lo hi lo2 hi2 gR gW k : Nat) (R M : Nat → RowS) (xs : List (BitVec 8)) (t : Thing7) (vx vy : Value) (w : World) : Prop where
  below : Below W.heap.size W w
  box : BoxedAt w W.heap.size t
  rows : RowsW lo hi gR k R w
  wants : RowsW lo2 hi2 gW 0 M w
  x : Own 0 w (xs ++ marks 5) vx
  y : Own 0 w (t.b ++ marks 5) vy
  gw : hi ≤ gW
  far : W.heap.size < lo ∧ hi ≤ lo2 ∧ gR < lo2 ∧ (∀ b, vx.ownBlock = some b → b < lo) ∧ ∀ b, vy.ownBlock = some b → b < lo
theorem LaysW.on {W : World} {lo hi lo2 hi2 gR gW k : Nat} {R M : Nat → RowS} {xs : List (BitVec 8)} {t : Thing7} {vx vy : Value} {w w' : World} (h : LaysW W lo hi lo2 hi2 gR gW k R M xs t vx vy w) (hb : Below w.heap.size w w') : LaysW W lo hi lo2 hi2 gR gW k R M xs t vx vy w' :=
  ⟨h.below.trans (hb.mono h.below.size), h.box.below hb, h.rows.keep (F := fun _ => False) (Below.stays hb) (fun h => h) (fun _ _ _ _ _ h => h), h.wants.keep (F := fun _ => False) (Below.stays hb) (fun h => h) (fun _ _ _ _ _ h => h), Own.below h.x hb, Own.below h.y hb, h.gw, h.far⟩
/-- A row is written over. -/
theorem LaysW.spoil {W : World} {lo hi lo2 hi2 gR gW k : Nat} {R M : Nat → RowS} {xs : List (BitVec 8)} {t : Thing7} {vx vy : Value} {w w' : World} (h : LaysW W lo hi lo2 hi2 gR gW k R M xs t vx vy w) (hk : k < 4) (hg : w.grownBy w' (R k).v.ownBlock) (ht : Lies W t.p t.b) : LaysW W lo hi lo2 hi2 gR gW (k + 1) R M xs t vx vy w' := by
  have hst : Stays (fun b => (R k).v.ownBlock = some b) w w' := grown_stays hg (fun b e => e)
  have hbl := fun b e => h.rows.blk k b hk e
  have hbx : w'.heap[W.heap.size]? = w.heap[W.heap.size]? := hst.block _ h.box.lt (fun e => by have := hbl _ e; have := h.far.1; omega)
  have hbw : Below W.heap.size W w' := h.below.grown hg h.below.size (fun b e => by have := hbl b e; have := h.far.1; omega)
  refine ⟨hbw, ⟨hbx.trans h.box.blk, h.box.ok.kindw, h.box.ok.nw, ht.below hbw, h.box.ok.cap, h.box.ok.sum⟩, ?_, ?_, ?_, ?_, h.gw, h.far⟩
  · exact (h.rows.next).keep hst (fun e => by have := hbl _ e; have := h.rows.glt.1; omega) (fun j b hj hj4 e e2 => h.rows.part k j b hk hj4 (by omega) e2 e)
  · exact h.wants.keep hst (fun e => by have := hbl _ e; have := h.gw; omega) (fun j b _ hj e e2 => by have := h.wants.blk j b hj e; have := hbl b e2; have := h.far.2.1; omega)
  · exact ownsRow_stays h.x hst (fun b e e2 => by have := h.far.2.2.2.1 b e; have := hbl b e2; omega)
  · exact ownsRow_stays h.y hst (fun b e e2 => by have := h.far.2.2.2.2 b e; have := hbl b e2; omega)
theorem RowsW.cellB {lo hi g k : Nat} {R : Nat → RowS} {w : World} (h : RowsW lo hi g k R w) {j : Nat} (hj : j < 4) {q : Option Addr} {n c : Nat} (e : (R j).v = .slice q n c) : w.cell? ⟨g, j, none⟩ = some (.slice q n c) := by rw [h.cell j hj, e]
set_option maxRecDepth 100000 in
set_option maxHeartbeats 4000000 in
theorem packLays_any (xs : List (BitVec 8)) (t : Thing7) (len0 cap0 : Nat) (a0 : Option Addr) (W : World) (hx : xs.length = len0) (_hc0 : len0 ≤ cap0) (hL : Lies W a0 xs) (ht : t.Ok W) :
    Calls Try.prog 10 #[.slice a0 len0 cap0, .agg t.cells.toArray] W fun e W' => e = .returned (.bool true) ∧ Below W.heap.size W W' := by
  have HL := Lib.hid hL; clear hL
  have HX := Lib.hid hx; clear hx
  have HOK := Lib.hid ht
  obtain ⟨m, hm⟩ : ∃ m, t.b.length = m := ⟨_, rfl⟩
  have HM := Lib.hid hm; clear hm
  have hB1 : Below W.heap.size W (W.alloc (.cells t.cells.toArray 28)) := (Below.refl _ _).alloc (Nat.le_refl _) _
  have hX1 : BoxedAt (W.alloc (.cells t.cells.toArray 28)) W.heap.size t := ⟨heap_new_at rfl, ht.below hB1⟩
  have HX1 : Hid (Below W.heap.size W (W.alloc (.cells t.cells.toArray 28)) ∧ BoxedAt (W.alloc (.cells t.cells.toArray 28)) W.heap.size t) := show _ ∧ _ from ⟨hB1, hX1⟩
  clear ht hB1 hX1
  generalize hC : t.cells.toArray = C at HX1 ⊢
  clear hC
  go_enter Try.func10, Try.ntmps10
  go_upto_region 1 with fail
  refine wp_gen (fun w1 => Below W.heap.size W w1 ∧ BoxedAt w1 W.heap.size t) HX1.out ?_
  clear HX1
  rintro w1 ⟨hb1, hx1⟩
  have HB1 := Lib.hid hb1; have HX1 := Lib.hid hx1
  have c2 := hx1.c2m HM.out
  have hlt1 := hx1.lt
  clear hb1 hx1
  have HWK : Hid (∀ w' : World, Below W.heap.size W w' → Calls Try.prog 21 #[] w' fun e w'' => e = .returned (.bool true) ∧ Below W.heap.size W w'') := show ∀ _, _ from fun w' h => (works7_any w').mono fun e w'' ⟨h1, h2⟩ => ⟨h1, h.trans (h2.mono h.size)⟩
  obtain ⟨mx, hmx⟩ : ∃ k, k = max len0 m := ⟨_, rfl⟩
  by_cases hbig : mx > 4096
  · have q0 : (mx : Int) > 4096 := by omega
    have HW1 := Lib.hid (HWK.out w1 HB1.out)
    go_wp2_with (refine wpList_max2 rfl (.tmp 12) (.tmp 15) rfl len0 m mx rfl rfl hmx ?_)
    refine HW1.out.mono ?_
    rintro e w2 ⟨rfl, hb⟩
    have HB := Lib.hid hb; clear hb
    go_wp2_with fail
    go_ret
    exact ⟨rfl, HB.out⟩
  have q0 : ¬ (mx : Int) > 4096 := by omega
  have hl1 : len0 ≤ 4096 := by omega
  have hl2 : m ≤ 4096 := by omega
  have HXM : Hid ((xs ++ marks 5).length = len0 + 5) := show _ = _ by rw [List.length_append, marks_length, HX.out]
  have HYM : Hid ((t.b ++ marks 5).length = m + 5) := show _ = _ by rw [List.length_append, marks_length, HM.out]
  have HC1 := Lib.hid (lent_bigL xs len0 a0 cap0 w1 HX.out (by omega) (HL.out.below HB1.out))
  go_upto_region 4 with (first
    | (refine wpList_max2 rfl (.tmp 12) (.tmp 15) rfl len0 m mx rfl rfl hmx ?_)
    | (go_at_call 42; refine HC1.out.mono ?_; rintro e w2 ⟨v2, rfl, ho, hb⟩; obtain ⟨qx, kx, rfl, hkx, -, -⟩ := ho.sl HXM.out; have HO2 := Lib.hid ho; have HB2 := Lib.hid hb; clear ho hb))
  rename World => w2
  have HX2 := Lib.hid (HX1.out.below HB2.out)
  have d2 := HX2.out.c2m HM.out
  have HC1 := Lib.hid (lent_bigL t.b m t.p t.c w2 HM.out (by omega) HX2.out.ok.lies)
  go_upto_region 5 with (go_at_call 42; refine HC1.out.mono ?_; rintro e w3 ⟨v3, rfl, ho, hb⟩; obtain ⟨qy, ky, rfl, hky, -, -⟩ := ho.sl HYM.out; have HO3 := Lib.hid ho; have HB3 := Lib.hid hb; clear ho hb)
  rename World => w3
  have z1 : (len0 : Int) ≤ (kx : Int) := by omega
  go_upto_region 6 with fail
  have HBA := Lib.hid ((HB2.out.trans (HB3.out.mono HB2.out.size)).trans ((Below.drew0 w3).mono (Nat.le_trans HB2.out.size HB3.out.size)))
  have HX4 := Lib.hid (HX1.out.below HBA.out)
  have hsx : w1.heap.size ≤ w3.heap.size := Nat.le_trans HB2.out.size HB3.out.size
  have HOX := Lib.hid ((Own.below (Own.below HO2.out HB3.out) (Below.drew0 w3)).lower (Nat.zero_le _))
  have HOY := Lib.hid ((Own.below HO3.out (Below.drew0 w3)).lower (Nat.zero_le _))
  have HFX : Hid (∀ b, (Value.slice qx (len0 + 5) kx).ownBlock = some b → b < w3.heap.size) := show ∀ b, _ → _ from fun b e => by have := (HO2.out.lt b e).2; have := HB3.out.size; omega
  have HFY : Hid (∀ b, (Value.slice qy (m + 5) ky).ownBlock = some b → b < w3.heap.size) := show ∀ b, _ → _ from fun b e => (HO3.out.lt b e).2
  have HLX : Hid (Lies w3.drew qx xs) := show Lies _ _ _ by
    have h := lies_takeB (Own.slLies HOX.out HXM.out) len0
    rwa [List.take_append_of_le_length (by rw [HX.out]; omega), List.take_of_length_le (by rw [HX.out]; omega)] at h
  have HLY : Hid (Lies w3.drew qy t.b) := show Lies _ _ _ by
    have h := lies_takeB (Own.slLies HOY.out HYM.out) m
    rwa [List.take_append_of_le_length (by rw [HM.out]; omega), List.take_of_length_le (by rw [HM.out]; omega)] at h
  clear HX2 HC1 c2 d2 HO2 HO3 HB2 HB3
  refine region_phase (fun w' => BoxedAt w' W.heap.size t) (fun _ => True) 3 (HX4.out) trivial [(0, .free), (1, .free), (2, .free), (4, .free), (5, .free), (6, .free), (7, .free), (8, .free), (9, .free), (11, .free), (12, .free), (13, .free), (14, .free), (16, .free), (17, .free), (18, .free), (3, .behind), (10, .behind), (15, .behind), (19, .behind), (20, .behind), (21, .free)] (by kernel_rfl) (by kernel_rfl) (by kernel_rfl) (by kernel_rfl) (fun ops hops A hA => ?_)
  have hsz : A.tmps.size = 100 := by rw [hA]; rfl
  have base7 : A.eval (.tmp 7) = .slice qx len0 kx := by rw [hA]; rfl
  have base3 : A.eval (.tmp 3) = .pointer (some ⟨W.heap.size, 0, none⟩) := by rw [hA]; rfl
  have base6 : A.eval (.tmp 6) = .slice qy (m + 5) ky := by rw [hA]; rfl
  have HAA := Lib.hid hA; clear hA
  obtain ⟨o0, po0, q0, d0, gd0⟩ : ∃ o, ops[0]? = some o ∧ o.op = .move (.tmp 7) ∧ o.dst = some 28 ∧ o.guard = none := ⟨_, by rw [hops]; rfl, rfl, rfl, rfl⟩
  obtain ⟨o1, po1, q1, d1, gd1⟩ : ∃ o, ops[1]? = some o ∧ o.op = .fieldAddr 28 (.tmp 3) 1 ∧ o.dst = some 29 ∧ o.guard = none := ⟨_, by rw [hops]; rfl, rfl, rfl, rfl⟩
  obtain ⟨o2, po2, q2, d2, gd2⟩ : ∃ o, ops[2]? = some o ∧ o.op = .load 3 (.tmp 29) ∧ o.dst = some 30 ∧ o.guard = none := ⟨_, by rw [hops]; rfl, rfl, rfl, rfl⟩
  obtain ⟨o3, po3, q3, d3, gd3⟩ : ∃ o, ops[3]? = some o ∧ o.op = .call { callee := .value (.func 13), args := #[.tmp 28, .tmp 30], argTypes := #[23, 3] } ∧ o.dst = some 31 ∧ o.guard = none := ⟨_, by rw [hops]; rfl, rfl, rfl, rfl⟩
  obtain ⟨o4, po4, q4, d4, gd4⟩ : ∃ o, ops[4]? = some o ∧ o.op = .move (.tmp 7) ∧ o.dst = some 32 ∧ o.guard = none := ⟨_, by rw [hops]; rfl, rfl, rfl, rfl⟩
  obtain ⟨o5, po5, q5, d5, gd5⟩ : ∃ o, ops[5]? = some o ∧ o.op = .move (.tmp 6) ∧ o.dst = some 33 ∧ o.guard = none := ⟨_, by rw [hops]; rfl, rfl, rfl, rfl⟩
  obtain ⟨o6, po6, q6, d6, gd6⟩ : ∃ o, ops[6]? = some o ∧ o.op = .fieldAddr 28 (.tmp 3) 2 ∧ o.dst = some 34 ∧ o.guard = none := ⟨_, by rw [hops]; rfl, rfl, rfl, rfl⟩
  obtain ⟨o7, po7, q7, d7, gd7⟩ : ∃ o, ops[7]? = some o ∧ o.op = .load 23 (.tmp 34) ∧ o.dst = some 35 ∧ o.guard = none := ⟨_, by rw [hops]; rfl, rfl, rfl, rfl⟩
  obtain ⟨o8, po8, q8, d8, gd8⟩ : ∃ o, ops[8]? = some o ∧ o.op = .call { callee := .builtin .len, args := #[.tmp 35], argTypes := #[23] } ∧ o.dst = some 36 ∧ o.guard = none := ⟨_, by rw [hops]; rfl, rfl, rfl, rfl⟩
  obtain ⟨o9, po9, q9, d9, gd9⟩ : ∃ o, ops[9]? = some o ∧ o.op = .slice 23 (.tmp 33) none (some (.tmp 36)) none ∧ o.dst = some 37 ∧ o.guard = none := ⟨_, by rw [hops]; rfl, rfl, rfl, rfl⟩
  obtain ⟨o10, po10, q10, d10, gd10⟩ : ∃ o, ops[10]? = some o ∧ o.op = .call { callee := .value (.func 43), args := #[.tmp 32, .tmp 37], argTypes := #[23, 23] } ∧ o.dst = some 38 ∧ o.guard = none := ⟨_, by rw [hops]; rfl, rfl, rfl, rfl⟩
  obtain ⟨o11, po11, q11, d11, gd11⟩ : ∃ o, ops[11]? = some o ∧ o.op = .move (.tmp 7) ∧ o.dst = some 39 ∧ o.guard = none := ⟨_, by rw [hops]; rfl, rfl, rfl, rfl⟩
  obtain ⟨o12, po12, q12, d12, gd12⟩ : ∃ o, ops[12]? = some o ∧ o.op = .fieldAddr 28 (.tmp 3) 2 ∧ o.dst = some 40 ∧ o.guard = none := ⟨_, by rw [hops]; rfl, rfl, rfl, rfl⟩
  obtain ⟨o13, po13, q13, d13, gd13⟩ : ∃ o, ops[13]? = some o ∧ o.op = .load 23 (.tmp 40) ∧ o.dst = some 41 ∧ o.guard = none := ⟨_, by rw [hops]; rfl, rfl, rfl, rfl⟩
  obtain ⟨o14, po14, q14, d14, gd14⟩ : ∃ o, ops[14]? = some o ∧ o.op = .convert 23 9 (.tmp 41) ∧ o.dst = some 42 ∧ o.guard = none := ⟨_, by rw [hops]; rfl, rfl, rfl, rfl⟩
  obtain ⟨o15, po15, q15, d15, gd15⟩ : ∃ o, ops[15]? = some o ∧ o.op = .call { callee := .value (.func 20), args := #[.tmp 39, .tmp 42], argTypes := #[23, 9] } ∧ o.dst = some 43 ∧ o.guard = none := ⟨_, by rw [hops]; rfl, rfl, rfl, rfl⟩
  obtain ⟨o16, po16, q16, d16, gd16⟩ : ∃ o, ops[16]? = some o ∧ o.op = .move (.tmp 7) ∧ o.dst = some 44 ∧ o.guard = none := ⟨_, by rw [hops]; rfl, rfl, rfl, rfl⟩
  obtain ⟨o17, po17, q17, d17, gd17⟩ : ∃ o, ops[17]? = some o ∧ o.op = .fieldAddr 28 (.tmp 3) 3 ∧ o.dst = some 45 ∧ o.guard = none := ⟨_, by rw [hops]; rfl, rfl, rfl, rfl⟩
  obtain ⟨o18, po18, q18, d18, gd18⟩ : ∃ o, ops[18]? = some o ∧ o.op = .load 26 (.tmp 45) ∧ o.dst = some 46 ∧ o.guard = none := ⟨_, by rw [hops]; rfl, rfl, rfl, rfl⟩
  obtain ⟨o19, po19, q19, d19, gd19⟩ : ∃ o, ops[19]? = some o ∧ o.op = .call { callee := .value (.func 44), args := #[.tmp 44, .tmp 46], argTypes := #[23, 26] } ∧ o.dst = some 47 ∧ o.guard = none := ⟨_, by rw [hops]; rfl, rfl, rfl, rfl⟩
  obtain ⟨o20, po20, q20, d20, gd20⟩ : ∃ o, ops[20]? = some o ∧ o.op = .buildSlice 66 4 #[(0, (.tmp 31)), (1, (.tmp 38)), (2, (.tmp 43)), (3, (.tmp 47))] ∧ o.dst = some 48 ∧ o.guard = none := ⟨_, by rw [hops]; rfl, rfl, rfl, rfl⟩
  obtain ⟨o21, po21, q21, d21, gd21⟩ : ∃ o, ops[21]? = some o ∧ o.op = .assign (.tmp 48) ∧ o.dst = some 8 ∧ o.guard = none := ⟨_, by rw [hops]; rfl, rfl, rfl, rfl⟩
  clear hops
  refine met_free po0 d0 (wanted_of gd0) (fun w' h' => run_move q0 base7 w') ?_
  refine met_free po1 d1 (wanted_of gd1) (fun w' h' => run_fieldT (off := 1) q1 (fun _ => by kernel_rfl) ((eval_other _ 28 3 _ (by decide)).trans base3) w') ?_
  refine met_free po2 d2 (wanted_of gd2) (fun w' h' => run_loadI q2 (eval_same _ _ _ (by simp only [put_size, hsz]; decide)) h'.c1) ?_
  refine met_free po4 d4 (wanted_of gd4) (fun w' h' => run_move q4 ((eval_other _ 30 7 _ (by decide)).trans ((eval_other _ 29 7 _ (by decide)).trans ((eval_other _ 28 7 _ (by decide)).trans base7))) w') ?_
  refine met_free po5 d5 (wanted_of gd5) (fun w' h' => run_move q5 ((eval_other _ 32 6 _ (by decide)).trans ((eval_other _ 30 6 _ (by decide)).trans ((eval_other _ 29 6 _ (by decide)).trans ((eval_other _ 28 6 _ (by decide)).trans base6)))) w') ?_
  refine met_free po6 d6 (wanted_of gd6) (fun w' h' => run_fieldT (off := 2) q6 (fun _ => by kernel_rfl) ((eval_other _ 33 3 _ (by decide)).trans ((eval_other _ 32 3 _ (by decide)).trans ((eval_other _ 30 3 _ (by decide)).trans ((eval_other _ 29 3 _ (by decide)).trans ((eval_other _ 28 3 _ (by decide)).trans base3))))) w') ?_
  refine met_free po7 d7 (wanted_of gd7) (fun w' h' => run_loadB q7 (eval_same _ _ _ (by simp only [put_size, hsz]; decide)) (h'.c2m HM.out)) ?_
  refine met_free po8 d8 (wanted_of gd8) (fun w' h' => run_len26 q8 (eval_same _ _ _ (by simp only [put_size, hsz]; decide)) w') ?_
  refine met_free po9 d9 (wanted_of gd9) (fun w' h' => r_to q9 (by omega) ((eval_other _ 36 33 _ (by decide)).trans ((eval_other _ 35 33 _ (by decide)).trans ((eval_other _ 34 33 _ (by decide)).trans (eval_same _ _ _ (by simp only [put_size, hsz]; decide))))) (eval_same _ _ _ (by simp only [put_size, hsz]; decide)) w') ?_
  refine met_free po11 d11 (wanted_of gd11) (fun w' h' => run_move q11 ((eval_other _ 37 7 _ (by decide)).trans ((eval_other _ 36 7 _ (by decide)).trans ((eval_other _ 35 7 _ (by decide)).trans ((eval_other _ 34 7 _ (by decide)).trans ((eval_other _ 33 7 _ (by decide)).trans ((eval_other _ 32 7 _ (by decide)).trans ((eval_other _ 30 7 _ (by decide)).trans ((eval_other _ 29 7 _ (by decide)).trans ((eval_other _ 28 7 _ (by decide)).trans base7))))))))) w') ?_
  refine met_free po12 d12 (wanted_of gd12) (fun w' h' => run_fieldT (off := 2) q12 (fun _ => by kernel_rfl) ((eval_other _ 39 3 _ (by decide)).trans ((eval_other _ 37 3 _ (by decide)).trans ((eval_other _ 36 3 _ (by decide)).trans ((eval_other _ 35 3 _ (by decide)).trans ((eval_other _ 34 3 _ (by decide)).trans ((eval_other _ 33 3 _ (by decide)).trans ((eval_other _ 32 3 _ (by decide)).trans ((eval_other _ 30 3 _ (by decide)).trans ((eval_other _ 29 3 _ (by decide)).trans ((eval_other _ 28 3 _ (by decide)).trans base3)))))))))) w') ?_
  refine met_free po13 d13 (wanted_of gd13) (fun w' h' => run_loadB q13 (eval_same _ _ _ (by simp only [put_size, hsz]; decide)) (h'.c2m HM.out)) ?_
  refine met_free po14 d14 (wanted_of gd14) (fun w' h' => run_convS q14 (eval_same _ _ _ (by simp only [put_size, hsz]; decide)) h'.ok.lies HM.out) ?_
  refine met_free po16 d16 (wanted_of gd16) (fun w' h' => run_move q16 ((eval_other _ 42 7 _ (by decide)).trans ((eval_other _ 41 7 _ (by decide)).trans ((eval_other _ 40 7 _ (by decide)).trans ((eval_other _ 39 7 _ (by decide)).trans ((eval_other _ 37 7 _ (by decide)).trans ((eval_other _ 36 7 _ (by decide)).trans ((eval_other _ 35 7 _ (by decide)).trans ((eval_other _ 34 7 _ (by decide)).trans ((eval_other _ 33 7 _ (by decide)).trans ((eval_other _ 32 7 _ (by decide)).trans ((eval_other _ 30 7 _ (by decide)).trans ((eval_other _ 29 7 _ (by decide)).trans ((eval_other _ 28 7 _ (by decide)).trans base7))))))))))))) w') ?_
  refine met_free po17 d17 (wanted_of gd17) (fun w' h' => run_fieldT (off := 3) q17 (fun _ => by kernel_rfl) ((eval_other _ 44 3 _ (by decide)).trans ((eval_other _ 42 3 _ (by decide)).trans ((eval_other _ 41 3 _ (by decide)).trans ((eval_other _ 40 3 _ (by decide)).trans ((eval_other _ 39 3 _ (by decide)).trans ((eval_other _ 37 3 _ (by decide)).trans ((eval_other _ 36 3 _ (by decide)).trans ((eval_other _ 35 3 _ (by decide)).trans ((eval_other _ 34 3 _ (by decide)).trans ((eval_other _ 33 3 _ (by decide)).trans ((eval_other _ 32 3 _ (by decide)).trans ((eval_other _ 30 3 _ (by decide)).trans ((eval_other _ 29 3 _ (by decide)).trans ((eval_other _ 28 3 _ (by decide)).trans base3)))))))))))))) w') ?_
  refine met_free po18 d18 (wanted_of gd18) (fun w' h' => run_loadArr q18 (eval_same _ _ _ (by simp only [put_size, hsz]; decide)) Try.underlying26 (infoSumL t.s h'.ok.sum) h'.c3) ?_
  refine m_enter po3 d3 (wanted_of gd3) (run_callf2 q3 rfl ((eval_other _ 46 28 _ (by decide)).trans ((eval_other _ 45 28 _ (by decide)).trans ((eval_other _ 44 28 _ (by decide)).trans ((eval_other _ 42 28 _ (by decide)).trans ((eval_other _ 41 28 _ (by decide)).trans ((eval_other _ 40 28 _ (by decide)).trans ((eval_other _ 39 28 _ (by decide)).trans ((eval_other _ 37 28 _ (by decide)).trans ((eval_other _ 36 28 _ (by decide)).trans ((eval_other _ 35 28 _ (by decide)).trans ((eval_other _ 34 28 _ (by decide)).trans ((eval_other _ 33 28 _ (by decide)).trans ((eval_other _ 32 28 _ (by decide)).trans ((eval_other _ 30 28 _ (by decide)).trans ((eval_other _ 29 28 _ (by decide)).trans (eval_same _ _ _ (by rw [hsz]; decide))))))))))))))))) ((eval_other _ 46 30 _ (by decide)).trans ((eval_other _ 45 30 _ (by decide)).trans ((eval_other _ 44 30 _ (by decide)).trans ((eval_other _ 42 30 _ (by decide)).trans ((eval_other _ 41 30 _ (by decide)).trans ((eval_other _ 40 30 _ (by decide)).trans ((eval_other _ 39 30 _ (by decide)).trans ((eval_other _ 37 30 _ (by decide)).trans ((eval_other _ 36 30 _ (by decide)).trans ((eval_other _ 35 30 _ (by decide)).trans ((eval_other _ 34 30 _ (by decide)).trans ((eval_other _ 33 30 _ (by decide)).trans ((eval_other _ 32 30 _ (by decide)).trans (eval_same _ _ _ (by simp only [put_size, hsz]; decide))))))))))))))) Try.func13 (by kernel_rfl) _) (intP_any t.n xs len0 qx kx w3.drew HX.out (by omega) HLX.out) ?_
  rintro e w4 ⟨r4, rfl, ho, hb⟩
  obtain ⟨aq4, ak4, rfl, -, -, -⟩ := ho.lies
  have HP4 := Lib.hid ho; have HD4 := Lib.hid hb
  have HE4 := Lib.hid (hb)
  have HX4B := Lib.hid (HX4.out.below HE4.out)
  clear ho hb
  refine ⟨_, rfl, HX4B.out, ?_⟩
  refine m_enter po10 d10 (wanted_of gd10) (run_callf2 q10 rfl ((eval_other _ 31 32 _ (by decide)).trans ((eval_other _ 46 32 _ (by decide)).trans ((eval_other _ 45 32 _ (by decide)).trans ((eval_other _ 44 32 _ (by decide)).trans ((eval_other _ 42 32 _ (by decide)).trans ((eval_other _ 41 32 _ (by decide)).trans ((eval_other _ 40 32 _ (by decide)).trans ((eval_other _ 39 32 _ (by decide)).trans ((eval_other _ 37 32 _ (by decide)).trans ((eval_other _ 36 32 _ (by decide)).trans ((eval_other _ 35 32 _ (by decide)).trans ((eval_other _ 34 32 _ (by decide)).trans ((eval_other _ 33 32 _ (by decide)).trans (eval_same _ _ _ (by simp only [put_size, hsz]; decide))))))))))))))) ((eval_other _ 31 37 _ (by decide)).trans ((eval_other _ 46 37 _ (by decide)).trans ((eval_other _ 45 37 _ (by decide)).trans ((eval_other _ 44 37 _ (by decide)).trans ((eval_other _ 42 37 _ (by decide)).trans ((eval_other _ 41 37 _ (by decide)).trans ((eval_other _ 40 37 _ (by decide)).trans ((eval_other _ 39 37 _ (by decide)).trans (eval_same _ _ _ (by simp only [put_size, hsz]; decide)))))))))) Try.func43 (by kernel_rfl) _) (blobP_any xs t.b len0 m qx qy kx ky _ HX.out HM.out (by omega) (HLX.out.below HE4.out) (HLY.out.below HE4.out)) ?_
  rintro e w5 ⟨r5, rfl, ho, hb⟩
  obtain ⟨aq5, ak5, rfl, -, -, -⟩ := ho.lies
  have HP5 := Lib.hid ho; have HD5 := Lib.hid hb
  have HE5 := Lib.hid ((HE4.out).trans (hb.mono HE4.out.size))
  have HX5B := Lib.hid (HX4.out.below HE5.out)
  clear ho hb
  refine ⟨_, rfl, HX5B.out, ?_⟩
  refine m_enter po15 d15 (wanted_of gd15) (run_callf2 q15 rfl ((eval_other _ 38 39 _ (by decide)).trans ((eval_other _ 31 39 _ (by decide)).trans ((eval_other _ 46 39 _ (by decide)).trans ((eval_other _ 45 39 _ (by decide)).trans ((eval_other _ 44 39 _ (by decide)).trans ((eval_other _ 42 39 _ (by decide)).trans ((eval_other _ 41 39 _ (by decide)).trans ((eval_other _ 40 39 _ (by decide)).trans (eval_same _ _ _ (by simp only [put_size, hsz]; decide)))))))))) ((eval_other _ 38 42 _ (by decide)).trans ((eval_other _ 31 42 _ (by decide)).trans ((eval_other _ 46 42 _ (by decide)).trans ((eval_other _ 45 42 _ (by decide)).trans ((eval_other _ 44 42 _ (by decide)).trans (eval_same _ _ _ (by simp only [put_size, hsz]; decide))))))) Try.func20 (by kernel_rfl) _) (textP_any xs t.b len0 m qx kx _ HX.out HM.out (by omega) (HLX.out.below HE5.out)) ?_
  rintro e w6 ⟨r6, rfl, ho, hb⟩
  obtain ⟨aq6, ak6, rfl, -, -, -⟩ := ho.lies
  have HP6 := Lib.hid ho; have HD6 := Lib.hid hb
  have HE6 := Lib.hid ((HE5.out).trans (hb.mono HE5.out.size))
  have HX6B := Lib.hid (HX4.out.below HE6.out)
  clear ho hb
  refine ⟨_, rfl, HX6B.out, ?_⟩
  refine m_enter po19 d19 (wanted_of gd19) (run_callf2 q19 rfl ((eval_other _ 43 44 _ (by decide)).trans ((eval_other _ 38 44 _ (by decide)).trans ((eval_other _ 31 44 _ (by decide)).trans ((eval_other _ 46 44 _ (by decide)).trans ((eval_other _ 45 44 _ (by decide)).trans (eval_same _ _ _ (by simp only [put_size, hsz]; decide))))))) ((eval_other _ 43 46 _ (by decide)).trans ((eval_other _ 38 46 _ (by decide)).trans ((eval_other _ 31 46 _ (by decide)).trans (eval_same _ _ _ (by simp only [put_size, hsz]; decide))))) Try.func44 (by kernel_rfl) _) (sumP_any xs t.s len0 qx kx _ HX.out HX4.out.ok.sum (by omega) (HLX.out.below HE6.out)) ?_
  rintro e w7 ⟨r7, rfl, ho, hb⟩
  obtain ⟨aq7, ak7, rfl, -, -, -⟩ := ho.lies
  have HP7 := Lib.hid ho; have HD7 := Lib.hid hb
  have HE7 := Lib.hid ((HE6.out).trans (hb.mono HE6.out.size))
  have HX7B := Lib.hid (HX4.out.below HE7.out)
  clear ho hb
  refine ⟨_, rfl, HX7B.out, ?_⟩
  refine met_op po20 d20 (wanted_of gd20) (run_four q20 ((eval_other _ 47 31 _ (by decide)).trans ((eval_other _ 43 31 _ (by decide)).trans ((eval_other _ 38 31 _ (by decide)).trans (eval_same _ _ _ (by simp only [put_size, hsz]; decide))))) ((eval_other _ 47 38 _ (by decide)).trans ((eval_other _ 43 38 _ (by decide)).trans (eval_same _ _ _ (by simp only [put_size, hsz]; decide)))) ((eval_other _ 47 43 _ (by decide)).trans (eval_same _ _ _ (by simp only [put_size, hsz]; decide))) (eval_same _ _ _ (by simp only [put_size, hsz]; decide)) rfl rfl rfl rfl _) (HX7B.out.below ((Below.refl _ _).alloc (Nat.le_refl _) _)) ?_
  refine met_free po21 d21 (wanted_of gd21) (fun w' h' => run_assign q21 (eval_same _ _ _ (by simp only [put_size, hsz]; decide)) w') ?_
  show NoPanic _ .normal _ _
  refine NoPanic.normal ?_
  rw [HAA.out]
  go_frame
  clear HAA
  obtain ⟨R, hR⟩ : ∃ R, R = four ⟨aq4, ak4, xs ++ be8 t.n⟩ ⟨aq5, ak5, xs ++ be8 (m : Int) ++ t.b⟩ ⟨aq6, ak6, xs ++ be8 (m : Int) ++ t.b⟩ ⟨aq7, ak7, xs ++ t.s⟩ := ⟨_, rfl⟩
  have HR8 : Hid (RowsW w3.drew.heap.size w7.heap.size w7.heap.size 0 R (w7.alloc (.cells #[.slice aq4 (xs ++ be8 t.n).length ak4, .slice aq5 (xs ++ be8 (m : Int) ++ t.b).length ak5, .slice aq6 (xs ++ be8 (m : Int) ++ t.b).length ak6, .slice aq7 (xs ++ t.s).length ak7] 23)) ∧ Below w3.drew.heap.size w3.drew (w7.alloc (.cells #[.slice aq4 (xs ++ be8 t.n).length ak4, .slice aq5 (xs ++ be8 (m : Int) ++ t.b).length ak5, .slice aq6 (xs ++ be8 (m : Int) ++ t.b).length ak6, .slice aq7 (xs ++ t.s).length ak7] 23))) := show _ ∧ _ by
    subst hR
    exact ⟨rows_of (R := four ⟨aq4, ak4, xs ++ be8 t.n⟩ ⟨aq5, ak5, xs ++ be8 (m : Int) ++ t.b⟩ ⟨aq6, ak6, xs ++ be8 (m : Int) ++ t.b⟩ ⟨aq7, ak7, xs ++ t.s⟩) HD5.out HD6.out HD7.out HD4.out.size HP4.out HP5.out HP6.out HP7.out, HE7.out.alloc HE7.out.size _⟩
  have hs78 : w7.heap.size < (w7.alloc (.cells #[.slice aq4 (xs ++ be8 t.n).length ak4, .slice aq5 (xs ++ be8 (m : Int) ++ t.b).length ak5, .slice aq6 (xs ++ be8 (m : Int) ++ t.b).length ak6, .slice aq7 (xs ++ t.s).length ak7] 23)).heap.size := by rw [size_alloc]; omega
  go_upto_region 7 with fail
  refine wp_gen (fun w8 => (RowsW w3.drew.heap.size w7.heap.size w7.heap.size 0 R w8 ∧ Below w3.drew.heap.size w3.drew w8) ∧ w7.heap.size < w8.heap.size) ⟨HR8.out, hs78⟩ ?_
  clear hs78
  clear HR8
  rintro w8 ⟨⟨hr8, hb8⟩, hs8⟩
  have HR8 := Lib.hid hr8; have HB8 := Lib.hid hb8
  have HLN : Hid (∀ j, j < 4 → (R j).l.length < 10000) := show ∀ j, _ → _ from fun j hj => by
    subst hR
    have h1 := HX.out
    have h2 := HM.out
    have h3 := HOK.out.sum
    obtain rfl | rfl | rfl | rfl : j = 0 ∨ j = 1 ∨ j = 2 ∨ j = 3 := by omega
    · show (xs ++ be8 t.n).length < _
      rw [List.length_append, be8_length]; omega
    · show (xs ++ be8 (m : Int) ++ t.b).length < _
      rw [List.length_append, List.length_append, be8_length]; omega
    · show (xs ++ be8 (m : Int) ++ t.b).length < _
      rw [List.length_append, List.length_append, be8_length]; omega
    · show (xs ++ t.s).length < _
      rw [List.length_append]; omega
  have HRE := Lib.hid hR
  clear hr8 hb8 hR
  clear HP4 HP5 HP6 HP7 HD4 HD5 HD6 HD7 HE4 HE5 HE6 HX4B HX5B HX6B HX7B HE7 HLX HLY
  have HBX := Lib.hid (HBA.out.trans (HB8.out.mono (by have e : w3.drew.heap.size = w3.heap.size := rfl; omega)))
  have HX9 := Lib.hid ((HX1.out.below HBX.out).below (Below.drew0 w8))
  have HL9 := Lib.hid (((HL.out.below HB1.out).below (HBX.out)).below (Below.drew0 w8))
  refine region_phase (fun w' => BoxedAt w' W.heap.size t) (fun _ => True) 3 (HX9.out) trivial [(0, .free), (1, .free), (2, .free), (4, .free), (5, .free), (6, .free), (8, .free), (9, .free), (10, .free), (11, .free), (13, .free), (14, .free), (15, .free), (3, .behind), (7, .behind), (12, .behind), (16, .behind), (17, .behind), (18, .free)] (by kernel_rfl) (by kernel_rfl) (by kernel_rfl) (by kernel_rfl) (fun ops hops A hA => ?_)
  have hsz : A.tmps.size = 100 := by rw [hA]; rfl
  have base0 : A.eval (.tmp 0) = .slice a0 len0 cap0 := by rw [hA]; rfl
  have base3 : A.eval (.tmp 3) = .pointer (some ⟨W.heap.size, 0, none⟩) := by rw [hA]; rfl
  have HAA := Lib.hid hA; clear hA
  obtain ⟨o0, po0, q0, d0, gd0⟩ : ∃ o, ops[0]? = some o ∧ o.op = .move (.tmp 0) ∧ o.dst = some 49 ∧ o.guard = none := ⟨_, by rw [hops]; rfl, rfl, rfl, rfl⟩
  obtain ⟨o1, po1, q1, d1, gd1⟩ : ∃ o, ops[1]? = some o ∧ o.op = .fieldAddr 28 (.tmp 3) 1 ∧ o.dst = some 50 ∧ o.guard = none := ⟨_, by rw [hops]; rfl, rfl, rfl, rfl⟩
  obtain ⟨o2, po2, q2, d2, gd2⟩ : ∃ o, ops[2]? = some o ∧ o.op = .load 3 (.tmp 50) ∧ o.dst = some 51 ∧ o.guard = none := ⟨_, by rw [hops]; rfl, rfl, rfl, rfl⟩
  obtain ⟨o3, po3, q3, d3, gd3⟩ : ∃ o, ops[3]? = some o ∧ o.op = .call { callee := .value (.func 45), args := #[.tmp 49, .tmp 51], argTypes := #[23, 3] } ∧ o.dst = some 52 ∧ o.guard = none := ⟨_, by rw [hops]; rfl, rfl, rfl, rfl⟩
  obtain ⟨o4, po4, q4, d4, gd4⟩ : ∃ o, ops[4]? = some o ∧ o.op = .move (.tmp 0) ∧ o.dst = some 53 ∧ o.guard = none := ⟨_, by rw [hops]; rfl, rfl, rfl, rfl⟩
  obtain ⟨o5, po5, q5, d5, gd5⟩ : ∃ o, ops[5]? = some o ∧ o.op = .fieldAddr 28 (.tmp 3) 2 ∧ o.dst = some 54 ∧ o.guard = none := ⟨_, by rw [hops]; rfl, rfl, rfl, rfl⟩
  obtain ⟨o6, po6, q6, d6, gd6⟩ : ∃ o, ops[6]? = some o ∧ o.op = .load 23 (.tmp 54) ∧ o.dst = some 55 ∧ o.guard = none := ⟨_, by rw [hops]; rfl, rfl, rfl, rfl⟩
  obtain ⟨o7, po7, q7, d7, gd7⟩ : ∃ o, ops[7]? = some o ∧ o.op = .call { callee := .value (.func 46), args := #[.tmp 53, .tmp 55], argTypes := #[23, 23] } ∧ o.dst = some 56 ∧ o.guard = none := ⟨_, by rw [hops]; rfl, rfl, rfl, rfl⟩
  obtain ⟨o8, po8, q8, d8, gd8⟩ : ∃ o, ops[8]? = some o ∧ o.op = .move (.tmp 0) ∧ o.dst = some 57 ∧ o.guard = none := ⟨_, by rw [hops]; rfl, rfl, rfl, rfl⟩
  obtain ⟨o9, po9, q9, d9, gd9⟩ : ∃ o, ops[9]? = some o ∧ o.op = .fieldAddr 28 (.tmp 3) 2 ∧ o.dst = some 58 ∧ o.guard = none := ⟨_, by rw [hops]; rfl, rfl, rfl, rfl⟩
  obtain ⟨o10, po10, q10, d10, gd10⟩ : ∃ o, ops[10]? = some o ∧ o.op = .load 23 (.tmp 58) ∧ o.dst = some 59 ∧ o.guard = none := ⟨_, by rw [hops]; rfl, rfl, rfl, rfl⟩
  obtain ⟨o11, po11, q11, d11, gd11⟩ : ∃ o, ops[11]? = some o ∧ o.op = .convert 23 9 (.tmp 59) ∧ o.dst = some 60 ∧ o.guard = none := ⟨_, by rw [hops]; rfl, rfl, rfl, rfl⟩
  obtain ⟨o12, po12, q12, d12, gd12⟩ : ∃ o, ops[12]? = some o ∧ o.op = .call { callee := .value (.func 47), args := #[.tmp 57, .tmp 60], argTypes := #[23, 9] } ∧ o.dst = some 61 ∧ o.guard = none := ⟨_, by rw [hops]; rfl, rfl, rfl, rfl⟩
  obtain ⟨o13, po13, q13, d13, gd13⟩ : ∃ o, ops[13]? = some o ∧ o.op = .move (.tmp 0) ∧ o.dst = some 62 ∧ o.guard = none := ⟨_, by rw [hops]; rfl, rfl, rfl, rfl⟩
  obtain ⟨o14, po14, q14, d14, gd14⟩ : ∃ o, ops[14]? = some o ∧ o.op = .fieldAddr 28 (.tmp 3) 3 ∧ o.dst = some 63 ∧ o.guard = none := ⟨_, by rw [hops]; rfl, rfl, rfl, rfl⟩
  obtain ⟨o15, po15, q15, d15, gd15⟩ : ∃ o, ops[15]? = some o ∧ o.op = .load 26 (.tmp 63) ∧ o.dst = some 64 ∧ o.guard = none := ⟨_, by rw [hops]; rfl, rfl, rfl, rfl⟩
  obtain ⟨o16, po16, q16, d16, gd16⟩ : ∃ o, ops[16]? = some o ∧ o.op = .call { callee := .value (.func 48), args := #[.tmp 62, .tmp 64], argTypes := #[23, 26] } ∧ o.dst = some 65 ∧ o.guard = none := ⟨_, by rw [hops]; rfl, rfl, rfl, rfl⟩
  obtain ⟨o17, po17, q17, d17, gd17⟩ : ∃ o, ops[17]? = some o ∧ o.op = .buildSlice 66 4 #[(0, (.tmp 52)), (1, (.tmp 56)), (2, (.tmp 61)), (3, (.tmp 65))] ∧ o.dst = some 66 ∧ o.guard = none := ⟨_, by rw [hops]; rfl, rfl, rfl, rfl⟩
  obtain ⟨o18, po18, q18, d18, gd18⟩ : ∃ o, ops[18]? = some o ∧ o.op = .assign (.tmp 66) ∧ o.dst = some 9 ∧ o.guard = none := ⟨_, by rw [hops]; rfl, rfl, rfl, rfl⟩
  clear hops
  refine met_free po0 d0 (wanted_of gd0) (fun w' h' => run_move q0 base0 w') ?_
  refine met_free po1 d1 (wanted_of gd1) (fun w' h' => run_fieldT (off := 1) q1 (fun _ => by kernel_rfl) ((eval_other _ 49 3 _ (by decide)).trans base3) w') ?_
  refine met_free po2 d2 (wanted_of gd2) (fun w' h' => run_loadI q2 (eval_same _ _ _ (by simp only [put_size, hsz]; decide)) h'.c1) ?_
  refine met_free po4 d4 (wanted_of gd4) (fun w' h' => run_move q4 ((eval_other _ 51 0 _ (by decide)).trans ((eval_other _ 50 0 _ (by decide)).trans ((eval_other _ 49 0 _ (by decide)).trans base0))) w') ?_
  refine met_free po5 d5 (wanted_of gd5) (fun w' h' => run_fieldT (off := 2) q5 (fun _ => by kernel_rfl) ((eval_other _ 53 3 _ (by decide)).trans ((eval_other _ 51 3 _ (by decide)).trans ((eval_other _ 50 3 _ (by decide)).trans ((eval_other _ 49 3 _ (by decide)).trans base3)))) w') ?_
  refine met_free po6 d6 (wanted_of gd6) (fun w' h' => run_loadB q6 (eval_same _ _ _ (by simp only [put_size, hsz]; decide)) (h'.c2m HM.out)) ?_
  refine met_free po8 d8 (wanted_of gd8) (fun w' h' => run_move q8 ((eval_other _ 55 0 _ (by decide)).trans ((eval_other _ 54 0 _ (by decide)).trans ((eval_other _ 53 0 _ (by decide)).trans ((eval_other _ 51 0 _ (by decide)).trans ((eval_other _ 50 0 _ (by decide)).trans ((eval_other _ 49 0 _ (by decide)).trans base0)))))) w') ?_
  refine met_free po9 d9 (wanted_of gd9) (fun w' h' => run_fieldT (off := 2) q9 (fun _ => by kernel_rfl) ((eval_other _ 57 3 _ (by decide)).trans ((eval_other _ 55 3 _ (by decide)).trans ((eval_other _ 54 3 _ (by decide)).trans ((eval_other _ 53 3 _ (by decide)).trans ((eval_other _ 51 3 _ (by decide)).trans ((eval_other _ 50 3 _ (by decide)).trans ((eval_other _ 49 3 _ (by decide)).trans base3))))))) w') ?_
  refine met_free po10 d10 (wanted_of gd10) (fun w' h' => run_loadB q10 (eval_same _ _ _ (by simp only [put_size, hsz]; decide)) (h'.c2m HM.out)) ?_
  refine met_free po11 d11 (wanted_of gd11) (fun w' h' => run_convS q11 (eval_same _ _ _ (by simp only [put_size, hsz]; decide)) h'.ok.lies HM.out) ?_
  refine met_free po13 d13 (wanted_of gd13) (fun w' h' => run_move q13 ((eval_other _ 60 0 _ (by decide)).trans ((eval_other _ 59 0 _ (by decide)).trans ((eval_other _ 58 0 _ (by decide)).trans ((eval_other _ 57 0 _ (by decide)).trans ((eval_other _ 55 0 _ (by decide)).trans ((eval_other _ 54 0 _ (by decide)).trans ((eval_other _ 53 0 _ (by decide)).trans ((eval_other _ 51 0 _ (by decide)).trans ((eval_other _ 50 0 _ (by decide)).trans ((eval_other _ 49 0 _ (by decide)).trans base0)))))))))) w') ?_
  refine met_free po14 d14 (wanted_of gd14) (fun w' h' => run_fieldT (off := 3) q14 (fun _ => by kernel_rfl) ((eval_other _ 62 3 _ (by decide)).trans ((eval_other _ 60 3 _ (by decide)).trans ((eval_other _ 59 3 _ (by decide)).trans ((eval_other _ 58 3 _ (by decide)).trans ((eval_other _ 57 3 _ (by decide)).trans ((eval_other _ 55 3 _ (by decide)).trans ((eval_other _ 54 3 _ (by decide)).trans ((eval_other _ 53 3 _ (by decide)).trans ((eval_other _ 51 3 _ (by decide)).trans ((eval_other _ 50 3 _ (by decide)).trans ((eval_other _ 49 3 _ (by decide)).trans base3))))))))))) w') ?_
  refine met_free po15 d15 (wanted_of gd15) (fun w' h' => run_loadArr q15 (eval_same _ _ _ (by simp only [put_size, hsz]; decide)) Try.underlying26 (infoSumL t.s h'.ok.sum) h'.c3) ?_
  refine m_enter po3 d3 (wanted_of gd3) (run_callf2 q3 rfl ((eval_other _ 64 49 _ (by decide)).trans ((eval_other _ 63 49 _ (by decide)).trans ((eval_other _ 62 49 _ (by decide)).trans ((eval_other _ 60 49 _ (by decide)).trans ((eval_other _ 59 49 _ (by decide)).trans ((eval_other _ 58 49 _ (by decide)).trans ((eval_other _ 57 49 _ (by decide)).trans ((eval_other _ 55 49 _ (by decide)).trans ((eval_other _ 54 49 _ (by decide)).trans ((eval_other _ 53 49 _ (by decide)).trans ((eval_other _ 51 49 _ (by decide)).trans ((eval_other _ 50 49 _ (by decide)).trans (eval_same _ _ _ (by rw [hsz]; decide)))))))))))))) ((eval_other _ 64 51 _ (by decide)).trans ((eval_other _ 63 51 _ (by decide)).trans ((eval_other _ 62 51 _ (by decide)).trans ((eval_other _ 60 51 _ (by decide)).trans ((eval_other _ 59 51 _ (by decide)).trans ((eval_other _ 58 51 _ (by decide)).trans ((eval_other _ 57 51 _ (by decide)).trans ((eval_other _ 55 51 _ (by decide)).trans ((eval_other _ 54 51 _ (by decide)).trans ((eval_other _ 53 51 _ (by decide)).trans (eval_same _ _ _ (by simp only [put_size, hsz]; decide)))))))))))) Try.func45 (by kernel_rfl) _) (intR_any t.n xs len0 a0 cap0 w8.drew HX.out (by omega) HL9.out) ?_
  rintro e w14 ⟨r14, rfl, ho, hb⟩
  obtain ⟨aq14, ak14, rfl, -, -, -⟩ := ho.lies
  have HP14 := Lib.hid ho; have HD14 := Lib.hid hb
  have HE14 := Lib.hid (hb)
  have HX14B := Lib.hid (HX9.out.below HE14.out)
  clear ho hb
  refine ⟨_, rfl, HX14B.out, ?_⟩
  refine m_enter po7 d7 (wanted_of gd7) (run_callf2 q7 rfl ((eval_other _ 52 53 _ (by decide)).trans ((eval_other _ 64 53 _ (by decide)).trans ((eval_other _ 63 53 _ (by decide)).trans ((eval_other _ 62 53 _ (by decide)).trans ((eval_other _ 60 53 _ (by decide)).trans ((eval_other _ 59 53 _ (by decide)).trans ((eval_other _ 58 53 _ (by decide)).trans ((eval_other _ 57 53 _ (by decide)).trans ((eval_other _ 55 53 _ (by decide)).trans ((eval_other _ 54 53 _ (by decide)).trans (eval_same _ _ _ (by simp only [put_size, hsz]; decide)))))))))))) ((eval_other _ 52 55 _ (by decide)).trans ((eval_other _ 64 55 _ (by decide)).trans ((eval_other _ 63 55 _ (by decide)).trans ((eval_other _ 62 55 _ (by decide)).trans ((eval_other _ 60 55 _ (by decide)).trans ((eval_other _ 59 55 _ (by decide)).trans ((eval_other _ 58 55 _ (by decide)).trans ((eval_other _ 57 55 _ (by decide)).trans (eval_same _ _ _ (by simp only [put_size, hsz]; decide)))))))))) Try.func46 (by kernel_rfl) _) (blobR_any xs t.b len0 m a0 t.p cap0 t.c _ HX.out HM.out (by omega) (HL9.out.below HE14.out) HX14B.out.ok.lies) ?_
  rintro e w15 ⟨r15, rfl, ho, hb⟩
  obtain ⟨aq15, ak15, rfl, -, -, -⟩ := ho.lies
  have HP15 := Lib.hid ho; have HD15 := Lib.hid hb
  have HE15 := Lib.hid ((HE14.out).trans (hb.mono HE14.out.size))
  have HX15B := Lib.hid (HX9.out.below HE15.out)
  clear ho hb
  refine ⟨_, rfl, HX15B.out, ?_⟩
  refine m_enter po12 d12 (wanted_of gd12) (run_callf2 q12 rfl ((eval_other _ 56 57 _ (by decide)).trans ((eval_other _ 52 57 _ (by decide)).trans ((eval_other _ 64 57 _ (by decide)).trans ((eval_other _ 63 57 _ (by decide)).trans ((eval_other _ 62 57 _ (by decide)).trans ((eval_other _ 60 57 _ (by decide)).trans ((eval_other _ 59 57 _ (by decide)).trans ((eval_other _ 58 57 _ (by decide)).trans (eval_same _ _ _ (by simp only [put_size, hsz]; decide)))))))))) ((eval_other _ 56 60 _ (by decide)).trans ((eval_other _ 52 60 _ (by decide)).trans ((eval_other _ 64 60 _ (by decide)).trans ((eval_other _ 63 60 _ (by decide)).trans ((eval_other _ 62 60 _ (by decide)).trans (eval_same _ _ _ (by simp only [put_size, hsz]; decide))))))) Try.func47 (by kernel_rfl) _) (textR_any xs t.b len0 m a0 cap0 _ HX.out HM.out (by omega) (HL9.out.below HE15.out)) ?_
  rintro e w16 ⟨r16, rfl, ho, hb⟩
  obtain ⟨aq16, ak16, rfl, -, -, -⟩ := ho.lies
  have HP16 := Lib.hid ho; have HD16 := Lib.hid hb
  have HE16 := Lib.hid ((HE15.out).trans (hb.mono HE15.out.size))
  have HX16B := Lib.hid (HX9.out.below HE16.out)
  clear ho hb
  refine ⟨_, rfl, HX16B.out, ?_⟩
  refine m_enter po16 d16 (wanted_of gd16) (run_callf2 q16 rfl ((eval_other _ 61 62 _ (by decide)).trans ((eval_other _ 56 62 _ (by decide)).trans ((eval_other _ 52 62 _ (by decide)).trans ((eval_other _ 64 62 _ (by decide)).trans ((eval_other _ 63 62 _ (by decide)).trans (eval_same _ _ _ (by simp only [put_size, hsz]; decide))))))) ((eval_other _ 61 64 _ (by decide)).trans ((eval_other _ 56 64 _ (by decide)).trans ((eval_other _ 52 64 _ (by decide)).trans (eval_same _ _ _ (by simp only [put_size, hsz]; decide))))) Try.func48 (by kernel_rfl) _) (sumR_any xs t.s len0 a0 cap0 _ HX.out HX9.out.ok.sum (by omega) (HL9.out.below HE16.out)) ?_
  rintro e w17 ⟨r17, rfl, ho, hb⟩
  obtain ⟨aq17, ak17, rfl, -, -, -⟩ := ho.lies
  have HP17 := Lib.hid ho; have HD17 := Lib.hid hb
  have HE17 := Lib.hid ((HE16.out).trans (hb.mono HE16.out.size))
  have HX17B := Lib.hid (HX9.out.below HE17.out)
  clear ho hb
  refine ⟨_, rfl, HX17B.out, ?_⟩
  refine met_op po17 d17 (wanted_of gd17) (run_four q17 ((eval_other _ 65 52 _ (by decide)).trans ((eval_other _ 61 52 _ (by decide)).trans ((eval_other _ 56 52 _ (by decide)).trans (eval_same _ _ _ (by simp only [put_size, hsz]; decide))))) ((eval_other _ 65 56 _ (by decide)).trans ((eval_other _ 61 56 _ (by decide)).trans (eval_same _ _ _ (by simp only [put_size, hsz]; decide)))) ((eval_other _ 65 61 _ (by decide)).trans (eval_same _ _ _ (by simp only [put_size, hsz]; decide))) (eval_same _ _ _ (by simp only [put_size, hsz]; decide)) rfl rfl rfl rfl _) (HX17B.out.below ((Below.refl _ _).alloc (Nat.le_refl _) _)) ?_
  refine met_free po18 d18 (wanted_of gd18) (fun w' h' => run_assign q18 (eval_same _ _ _ (by simp only [put_size, hsz]; decide)) w') ?_
  show NoPanic _ .normal _ _
  refine NoPanic.normal ?_
  rw [HAA.out]
  go_frame
  clear HAA
  obtain ⟨M, hM⟩ : ∃ M, M = four ⟨aq14, ak14, xs ++ be8 t.n⟩ ⟨aq15, ak15, xs ++ be8 (m : Int) ++ t.b⟩ ⟨aq16, ak16, xs ++ be8 (m : Int) ++ t.b⟩ ⟨aq17, ak17, xs ++ t.s⟩ := ⟨_, rfl⟩
  have HME : Hid (∀ j, j < 4 → (M j).l = (R j).l) := show ∀ j, _ → _ from fun j hj => by
    rw [hM, HRE.out]
    obtain rfl | rfl | rfl | rfl : j = 0 ∨ j = 1 ∨ j = 2 ∨ j = 3 := by omega
    all_goals rfl
  have hb17 : Below w8.drew.heap.size w8.drew (w17.alloc (.cells #[.slice aq14 (xs ++ be8 t.n).length ak14, .slice aq15 (xs ++ be8 (m : Int) ++ t.b).length ak15, .slice aq16 (xs ++ be8 (m : Int) ++ t.b).length ak16, .slice aq17 (xs ++ t.s).length ak17] 23)) := HE17.out.alloc HE17.out.size _
  have hm18 : RowsW w8.drew.heap.size w17.heap.size w17.heap.size 0 M (w17.alloc (.cells #[.slice aq14 (xs ++ be8 t.n).length ak14, .slice aq15 (xs ++ be8 (m : Int) ++ t.b).length ak15, .slice aq16 (xs ++ be8 (m : Int) ++ t.b).length ak16, .slice aq17 (xs ++ t.s).length ak17] 23)) := by
    rw [hM]
    exact rows_of (R := four ⟨aq14, ak14, xs ++ be8 t.n⟩ ⟨aq15, ak15, xs ++ be8 (m : Int) ++ t.b⟩ ⟨aq16, ak16, xs ++ be8 (m : Int) ++ t.b⟩ ⟨aq17, ak17, xs ++ t.s⟩) HD15.out HD16.out HD17.out HD14.out.size HP14.out HP15.out HP16.out HP17.out
  have e3 : w3.drew.heap.size = w3.heap.size := rfl
  have e8 : w8.drew.heap.size = w8.heap.size := rfl
  have hs14 := HE17.out.size
  have hd8 := (Below.drew0 w8).trans (hb17.mono (Nat.le_refl _))
  have hg7 := HR8.out.glt
  have hl18 : LaysW W w3.drew.heap.size w7.heap.size w8.drew.heap.size w17.heap.size w7.heap.size w17.heap.size 0 R M xs t (.slice qx (len0 + 5) kx) (.slice qy (m + 5) ky) (w17.alloc (.cells #[.slice aq14 (xs ++ be8 t.n).length ak14, .slice aq15 (xs ++ be8 (m : Int) ++ t.b).length ak15, .slice aq16 (xs ++ be8 (m : Int) ++ t.b).length ak16, .slice aq17 (xs ++ t.s).length ak17] 23)) :=
    ⟨(HB1.out.trans (HBX.out.mono HB1.out.size)).trans (hd8.mono (Nat.le_trans HB1.out.size HBX.out.size)), HX9.out.below hb17, HR8.out.keep (F := fun _ => False) (Below.stays hd8) (fun h => h) (fun _ _ _ _ _ h => h), hm18, Own.below (Own.below HOX.out HB8.out) hd8, Own.below (Own.below HOY.out HB8.out) hd8, by omega, by omega, by omega, by omega, fun b e => by have := HFX.out b e; omega, fun b e => by have := HFY.out b e; omega⟩
  have HL18 := Lib.hid hl18
  clear hl18 hd8 hm18 hb17 hM hg7 e3 e8
  go_upto_region 8 with fail
  refine wp_gen (LaysW W w3.drew.heap.size w7.heap.size w8.drew.heap.size w17.heap.size w7.heap.size w17.heap.size 0 R M xs t (.slice qx (len0 + 5) kx) (.slice qy (m + 5) ky)) HL18.out ?_
  clear HL18
  intro w18 hw18
  have HW18 := Lib.hid hw18
  clear hw18 HP14 HP15 HP16 HP17 HD14 HD15 HD16 HD17 HE14 HE15 HE16 HE17 HX14B HX15B HX16B HX17B HR8 HB8 HBX HX9 HL9 HRE HBA HX4 HOX HOY HFX HFY HX1 HB1 hs14 hs8 hsx
  generalize w3.drew.heap.size = lo at *
  generalize w8.drew.heap.size = lo2 at *
  generalize w7.heap.size = gR at *
  generalize w17.heap.size = gW at *
  go_wp2_with fail
  go_loopw [10] (fun i wr => ∃ k : Nat, k ≤ 4 ∧ i = .int .i64 (k : Int) ∧ LaysW W lo gR lo2 gW gR gW k R M xs t (.slice qx (len0 + 5) kx) (.slice qy (m + 5) ky) wr) (fun i _ => 4 - (intOf i).toNat)
  case atStart => exact ⟨0, by omega, rfl, HW18.out⟩
  case round =>
    clear HW18
    obtain ⟨k, hk, rfl, hw⟩ := hrel
    have HW := Lib.hid hw
    by_cases hlt : k < 4
    · have q1 : (k : Int) < 4 := by omega
      obtain ⟨q, n, c, l, hv, hrl, hn, hb1⟩ : ∃ q n c l, (R k).v = .slice q n c ∧ (R k).l = l ∧ l.length = n ∧ n < 10000 := ⟨(R k).q, _, (R k).c, (R k).l, rfl, rfl, rfl, HLN.out k hlt⟩
      obtain ⟨q', c', hv'⟩ : ∃ q' c', (M k).v = .slice q' n c' := ⟨(M k).q, (M k).c, by rw [← hn, ← hrl, ← HME.out k hlt]; rfl⟩
      have HS0 : Hid (∀ w' : World, Below wr.heap.size wr w' → w'.cell? ⟨gR, k, none⟩ = some (.slice q n c) ∧ w'.cell? ⟨gW, k, none⟩ = some (.slice q' n c')) := show ∀ _, _ → _ from fun w' h => ⟨(hw.on h).rows.cellB hlt hv, (hw.on h).wants.cellB hlt hv'⟩
      have HRO := Lib.hid (hw.rows.own k (Nat.le_refl _) hlt)
      rw [hrl, hv] at HRO
      have hmo := hw.wants.own k (Nat.zero_le _) hlt
      rw [HME.out k hlt, hrl, hv'] at hmo
      have HMO := Lib.hid hmo
      have HNN := Lib.hid hn
      have HV := Lib.hid hv
      clear hw hmo hn hv hv' hrl
      go_upto_region 11 with fail
      refine region_phase (fun w' => w'.cell? ⟨gR, k, none⟩ = some (.slice q n c) ∧ w'.cell? ⟨gW, k, none⟩ = some (.slice q' n c')) (fun _ => True) 8 (HS0.out _ (Below.drew0 wr)) trivial [(0, .free), (1, .free), (2, .free), (3, .free), (4, .free), (5, .free), (6, .free), (7, .free), (8, .behind), (9, .free)] (by kernel_rfl) (by kernel_rfl) (by kernel_rfl) (by kernel_rfl) (fun ops hops A hA => ?_)
      have hsz : A.tmps.size = 100 := by rw [hA]; rfl
      have base8 : A.eval (.tmp 8) = .slice (some ⟨gR, 0, none⟩) 4 4 := by rw [hA]; rfl
      have base9 : A.eval (.tmp 9) = .slice (some ⟨gW, 0, none⟩) 4 4 := by rw [hA]; rfl
      have base10 : A.eval (.tmp 10) = .int .i64 (k : Int) := by rw [hA]; rfl
      have HAA := Lib.hid hA; clear hA
      obtain ⟨o0, po0, q0, d0, gd0⟩ : ∃ o, ops[0]? = some o ∧ o.op = .move (.tmp 8) ∧ o.dst = some 73 ∧ o.guard = none := ⟨_, by rw [hops]; rfl, rfl, rfl, rfl⟩
      obtain ⟨o1, po1, q1, d1, gd1⟩ : ∃ o, ops[1]? = some o ∧ o.op = .move (.tmp 10) ∧ o.dst = some 74 ∧ o.guard = none := ⟨_, by rw [hops]; rfl, rfl, rfl, rfl⟩
      obtain ⟨o2, po2, q2, d2, gd2⟩ : ∃ o, ops[2]? = some o ∧ o.op = .indexAddr 66 (.tmp 73) (.tmp 74) ∧ o.dst = some 75 ∧ o.guard = none := ⟨_, by rw [hops]; rfl, rfl, rfl, rfl⟩
      obtain ⟨o3, po3, q3, d3, gd3⟩ : ∃ o, ops[3]? = some o ∧ o.op = .load 23 (.tmp 75) ∧ o.dst = some 76 ∧ o.guard = none := ⟨_, by rw [hops]; rfl, rfl, rfl, rfl⟩
      obtain ⟨o4, po4, q4, d4, gd4⟩ : ∃ o, ops[4]? = some o ∧ o.op = .move (.tmp 9) ∧ o.dst = some 77 ∧ o.guard = none := ⟨_, by rw [hops]; rfl, rfl, rfl, rfl⟩
      obtain ⟨o5, po5, q5, d5, gd5⟩ : ∃ o, ops[5]? = some o ∧ o.op = .move (.tmp 10) ∧ o.dst = some 78 ∧ o.guard = none := ⟨_, by rw [hops]; rfl, rfl, rfl, rfl⟩
      obtain ⟨o6, po6, q6, d6, gd6⟩ : ∃ o, ops[6]? = some o ∧ o.op = .indexAddr 66 (.tmp 77) (.tmp 78) ∧ o.dst = some 79 ∧ o.guard = none := ⟨_, by rw [hops]; rfl, rfl, rfl, rfl⟩
      obtain ⟨o7, po7, q7, d7, gd7⟩ : ∃ o, ops[7]? = some o ∧ o.op = .load 23 (.tmp 79) ∧ o.dst = some 80 ∧ o.guard = none := ⟨_, by rw [hops]; rfl, rfl, rfl, rfl⟩
      obtain ⟨o8, po8, q8, d8, gd8⟩ : ∃ o, ops[8]? = some o ∧ o.op = .call { callee := .value (.func 19), args := #[.tmp 76, .tmp 80], argTypes := #[23, 23] } ∧ o.dst = some 81 ∧ o.guard = none := ⟨_, by rw [hops]; rfl, rfl, rfl, rfl⟩
      obtain ⟨o9, po9, q9, d9, gd9⟩ : ∃ o, ops[9]? = some o ∧ o.op = .unOp .not 4 (.tmp 81) ∧ o.dst = some 82 ∧ o.guard = none := ⟨_, by rw [hops]; rfl, rfl, rfl, rfl⟩
      clear hops
      refine met_free po0 d0 (wanted_of gd0) (fun w' h' => run_move q0 base8 w') ?_
      refine met_free po1 d1 (wanted_of gd1) (fun w' h' => run_move q1 ((eval_other _ 73 10 _ (by decide)).trans base10) w') ?_
      refine met_free po2 d2 (wanted_of gd2) (fun w' h' => run_ix4 q2 ((eval_other _ 74 73 _ (by decide)).trans (eval_same _ _ _ (by rw [hsz]; decide))) (eval_same _ _ _ (by simp only [put_size, hsz]; decide)) hlt w') ?_
      refine met_free po3 d3 (wanted_of gd3) (fun w' h' => run_loadB q3 (eval_same _ _ _ (by simp only [put_size, hsz]; decide)) h'.1) ?_
      refine met_free po4 d4 (wanted_of gd4) (fun w' h' => run_move q4 ((eval_other _ 76 9 _ (by decide)).trans ((eval_other _ 75 9 _ (by decide)).trans ((eval_other _ 74 9 _ (by decide)).trans ((eval_other _ 73 9 _ (by decide)).trans base9)))) w') ?_
      refine met_free po5 d5 (wanted_of gd5) (fun w' h' => run_move q5 ((eval_other _ 77 10 _ (by decide)).trans ((eval_other _ 76 10 _ (by decide)).trans ((eval_other _ 75 10 _ (by decide)).trans ((eval_other _ 74 10 _ (by decide)).trans ((eval_other _ 73 10 _ (by decide)).trans base10))))) w') ?_
      refine met_free po6 d6 (wanted_of gd6) (fun w' h' => run_ix4 q6 ((eval_other _ 78 77 _ (by decide)).trans (eval_same _ _ _ (by simp only [put_size, hsz]; decide))) (eval_same _ _ _ (by simp only [put_size, hsz]; decide)) hlt w') ?_
      refine met_free po7 d7 (wanted_of gd7) (fun w' h' => run_loadB q7 (eval_same _ _ _ (by simp only [put_size, hsz]; decide)) h'.2) ?_
      refine m_enter po8 d8 (wanted_of gd8) (run_callf2 q8 rfl ((eval_other _ 80 76 _ (by decide)).trans ((eval_other _ 79 76 _ (by decide)).trans ((eval_other _ 78 76 _ (by decide)).trans ((eval_other _ 77 76 _ (by decide)).trans (eval_same _ _ _ (by simp only [put_size, hsz]; decide)))))) (eval_same _ _ _ (by simp only [put_size, hsz]; decide)) Try.func19 (by kernel_rfl) _) (same_any l n q q' c c' wr.drew HNN.out (by omega) (Own.slLies (Own.below HRO.out (Below.drew0 wr)) HNN.out) (Own.slLies (Own.below HMO.out (Below.drew0 wr)) HNN.out)) ?_
      rintro e w19 ⟨rfl, hb⟩
      have HB19 := Lib.hid ((Below.drew0 wr).trans hb)
      clear hb
      refine ⟨_, rfl, HS0.out _ HB19.out, ?_⟩
      refine met_free po9 d9 (wanted_of gd9) (fun w' h' => r_not q9 (eval_same _ _ _ (by simp only [put_size, hsz]; decide)) w') ?_
      show NoPanic _ .normal _ _
      refine NoPanic.normal ?_
      rw [HAA.out]
      go_frame
      clear HAA
      have x1 := (HS0.out _ HB19.out).1
      have HO19 := Lib.hid (Own.below HRO.out HB19.out)
      have HW19 := Lib.hid (HW.out.on HB19.out)
      clear HS0 HRO HMO HW HB19
      go_wp2_with fail
      refine (spoil_big l lo n c q w19 HNN.out (by omega) HO19.out).mono ?_
      rintro e w20 ⟨rfl, hgr⟩
      rw [← HV.out] at hgr
      have HW20 := Lib.hid (HW19.out.spoil hlt hgr HOK.out.lies)
      clear hgr HO19 HW19 x1
      go_wp2_with fail
      go_roundw
      case rel =>
        repeat apply Exists.intro
        refine ⟨?_, ?frames⟩
        case frames =>
          first
          | (simp only [List.append_assoc, List.length_append]; rfl)
          | (simp only [List.append_assoc, List.length_append, Int.natCast_add]; rfl)
          | (simp only [List.append_assoc, List.length_append]; trace_state; fail)
        refine ⟨k + 1, ?_, ?_, HW20.out⟩
        · omega
        · go_num
      case measure => simp [intOf]; omega
    · obtain rfl : k = 4 := by omega
      have q1 : ¬ ((4 : Nat) : Int) < 4 := by omega
      have c2 := hw.box.c2m HM.out
      have HKX := Lib.hid (kept_big xs len0 (len0 + 5) qx a0 kx cap0 wr HX.out (by omega) (by omega) (by omega) (by omega) (Own.slLies hw.x HXM.out) (HL.out.below hw.below))
      have HKY : Hid (∀ w', Below wr.heap.size wr w' → Calls Try.prog 50 #[.slice qy (m + 5) ky, .slice t.p m t.c] w' fun e w'' => e = .returned (.bool true) ∧ Below w'.heap.size w' w'') := show ∀ _, _ → _ from fun w' h =>
        kept_big t.b m (m + 5) qy t.p ky t.c w' HM.out (by omega) (by omega) (by omega) (by omega) (Own.slLies (hw.on h).y HYM.out) (hw.on h).box.ok.lies
      have HC2 : Hid (∀ w', Below wr.heap.size wr w' → w'.cell? ⟨W.heap.size, 2, none⟩ = some (.slice t.p m t.c)) := show ∀ _, _ → _ from fun w' h => (hw.on h).box.c2m HM.out
      have HBW := Lib.hid hw.below
      clear hw HW
      go_wp2_with fail
      refine HKX.out.mono ?_
      rintro e w19 ⟨rfl, hb⟩
      have x1 := HC2.out _ hb
      have HK2 := Lib.hid (HKY.out _ hb)
      have HB19 := Lib.hid (HBW.out.trans (hb.mono HBW.out.size))
      clear hb HKX HKY HC2
      go_wp2_with fail
      refine HK2.out.mono ?_
      rintro e w20 ⟨rfl, hb⟩
      have HW21 := Lib.hid (HWK.out w20 (HB19.out.trans (hb.mono HB19.out.size)))
      clear hb
      go_wp2_with fail
      refine HW21.out.mono ?_
      rintro e w21 ⟨rfl, hb⟩
      have HBZ := Lib.hid hb; clear hb
      go_wp2_with fail
      go_ret
      exact ⟨rfl, HBZ.out⟩
end Go.Proofs.Ytadlpidhemjkgaa

/-
  A region that draws its order, carried out along a tree: where two of its operations that are not plain may come up, both ways are gone.
-/
namespace Go.Proofs.Ytadlpidhemjkgaa
open Go.RowKit Go.Proofs.ShaWords

inductive Tr
  | nil
  | pure (i : Nat) (t : Tr)
  | one (i : Nat) (t : Tr)
  | two (i j : Nat) (s t : Tr)
def Tr.ok (ops : Array Oper) : Tr → Nat → Array Bool → Bool
  | .nil, 0, L => (Region.ready .any ops L).isEmpty
  | .pure i t, n + 1, L => Region.free .any ops L i && (Region.ready .any ops L).contains i && t.ok ops n (L.setIfInBounds i true)
  | .one i t, n + 1, L => decide (Region.ready .any ops L = [i]) && t.ok ops n (L.setIfInBounds i true)
  | .two i j s t, n + 1, L => decide (Region.ready .any ops L = [i, j]) && s.ok ops n (L.setIfInBounds i true) && t.ok ops n (L.setIfInBounds j true)
  | _, _, _ => false
def Tr.wp (P : Program) (ops : Array Oper) (Q : Exit → Act → World → Prop) (S : World → Prop) : Tr → Act → World → Prop
  | .nil, a, w => Q .normal a w
  | .pure i t, a, w => ∃ o v, ops[i]? = some o ∧ YieldsIf P ops S o v a ∧ t.wp P ops Q S (a.put o.dst v) w
  | .one i t, a, w => wpOp P ops Q i (fun a' w' => S w' ∧ t.wp P ops Q S a' w') a w
  | .two i j s t, a, w => wpOp P ops Q i (fun a' w' => S w' ∧ s.wp P ops Q S a' w') a w ∧ wpOp P ops Q j (fun a' w' => S w' ∧ t.wp P ops Q S a' w') a w
theorem wpAnyH_tree {P : Program} {ops : Array Oper} {Q : Exit → Act → World → Prop} {S : World → Prop} (hs : Region.noSelect ops = true) (hQ : ∀ c a w, ¬ Q (.panic c) a w) :
    ∀ (r : Tr) (n : Nat) (L : Array Bool) (a : Act) (w : World), r.ok ops n L = true → S w → r.wp P ops Q S a w → wpAnyH P .any ops Q S n L a w
  | .nil, 0, L, a, w, hc, _, h => by
    simp only [Tr.ok, List.isEmpty_iff] at hc
    exact wpAnyH_done hc h 0
  | .pure i t, n + 1, L, a, w, hc, hS, h => by
    simp only [Tr.ok, Bool.and_eq_true] at hc
    obtain ⟨o, v, ho, hy, h⟩ := h
    exact wpAnyH_take ho hs hc.1.1 hc.1.2 (fun c a w h => absurd h (hQ c _ w)) hy hS (wpAnyH_tree hs hQ t n _ _ w hc.2 hS h)
  | .one i t, n + 1, L, a, w, hc, hS, h => by
    simp only [Tr.ok, Bool.and_eq_true, decide_eq_true_eq] at hc
    refine wpAnyH_all hc.1 (by simp) (fun j hj => ?_)
    rw [List.mem_singleton.1 hj]
    exact wpOp_mono (fun a' w' h' => ⟨h'.1, wpAnyH_tree hs hQ t n _ a' w' hc.2 h'.1 h'.2⟩) h
  | .two i j s t, n + 1, L, a, w, hc, hS, h => by
    simp only [Tr.ok, Bool.and_eq_true, decide_eq_true_eq] at hc
    refine wpAnyH_all hc.1.1 (by simp) (fun k hk => ?_)
    rcases List.mem_cons.1 hk with rfl | hk
    · exact wpOp_mono (fun a' w' h' => ⟨h'.1, wpAnyH_tree hs hQ s n _ a' w' hc.1.2 h'.1 h'.2⟩) h.1
    · rw [List.mem_singleton.1 hk]
      exact wpOp_mono (fun a' w' h' => ⟨h'.1, wpAnyH_tree hs hQ t n _ a' w' hc.2 h'.1 h'.2⟩) h.2
theorem region_tree {P : Program} {id : Nat} {ops : Array Oper} {Q : Exit → Act → World → Prop} {a : Act} {w : World} (S : World → Prop) (hS : S w.drew) (r : Tr) (hm : P.follows .mixedOrders = true) (hs : Region.noSelect ops = true)
    (hc : r.ok ops ops.size (Array.replicate ops.size false) = true)
    (h : ∀ ops', ops' = ops → ∀ A, A = a → r.wp P ops' (NoPanic Q) S A w.drew) : (Code.region id ops true).wp P Q a w := by
  refine wp_region_noPanic (wp_region_held (S := S) hm ?_)
  exact wpAnyH_tree hs (fun c a w h => h) r ops.size _ a w.drew hc hS (h ops rfl a rfl)
section
variable {P : Program} {ops : Array Oper} {Q : Exit → Act → World → Prop} {S : World → Prop} {i : Nat} {o : Oper} {d : Option Tmp} {v : Value} {a : Act} {w w' : World} {K : Act → World → Prop} {t : Tr}
theorem Tr.takes (ho : ops[i]? = some o) (hd : o.dst = d) (hw : Region.wanted o (yielded ops a.tmps) = true) (hr : ∀ w, S w → (execOp a.eval o).run P w = .ok (.value v) w) (h : t.wp P ops Q S (a.put d v) w) : (Tr.pure i t).wp P ops Q S a w :=
  ⟨o, v, ho, .inl ⟨hw, hr⟩, by rw [hd]; exact h⟩
theorem at_op (ho : ops[i]? = some o) (hd : o.dst = d) (hw : Region.wanted o (yielded ops a.tmps) = true) (hr : (execOp a.eval o).run P w = .ok (.value v) w') (h : K (a.put d v) w') : wpOp P ops Q i K a w := by
  unfold wpOp
  rw [ho]
  show if Region.wanted o (yielded ops a.tmps) = true then _ else _
  rw [if_pos hw]
  refine .inl ?_
  unfold Oper.wp
  rw [hr, Oper.upon_value, hd]
  exact h
theorem at_call {f : FuncId} {args : Array Value} {R : World → Prop} (ho : ops[i]? = some o) (hd : o.dst = d) (hw : Region.wanted o (yielded ops a.tmps) = true) (hr : (execOp a.eval o).run P w = .ok (.enter f args) w)
    (hc : Calls P f args w fun e w' => e = .returned v ∧ R w') (h : ∀ w', R w' → K (a.put d v) w') : wpOp P ops Q i K a w := by
  unfold wpOp
  rw [ho]
  show if Region.wanted o (yielded ops a.tmps) = true then _ else _
  rw [if_pos hw]
  exact .inl (wp_enter hr hc (fun w' hR => by rw [hd]; exact h w' hR))
theorem at_wp (ho : ops[i]? = some o) (hw : Region.wanted o (yielded ops a.tmps) = true) (h : o.wp P a w K Q) : wpOp P ops Q i K a w := by
  unfold wpOp
  rw [ho]
  show if Region.wanted o (yielded ops a.tmps) = true then _ else _
  rw [if_pos hw]
  exact .inl h
end
end Go.Proofs.Ytadlpidhemjkgaa

/-
  The walk of the closed law PackKnown.
-/
namespace Go.Proofs.Ytadlpidhemjkgaa
open Go.RowKit Go.Proofs.ShaWords
def pkN : List Int := [-9223372036854775808, -2147483649, -2, -1, 0, 1, 2, 8, 255, 256, 2147483648, 4294967296, 4611686018427387909, 9223372036854775807]
theorem pkN_wf (i : Nat) (h : i < 14) : -9223372036854775808 ≤ pkN.getD i 0 ∧ pkN.getD i 0 < 9223372036854775808 := by
  have : ∀ i : Fin 14, -9223372036854775808 ≤ pkN.getD i.1 0 ∧ pkN.getD i.1 0 < 9223372036854775808 := by decide
  exact this ⟨i, h⟩
/-- The call's table of numbers. -/
structure KN (W : World) (g : Nat) (w : World) : Prop where
  below : Below W.heap.size W w
  nums : w.rangeAt g 0 (pkN.map fun n => Value.int .i64 n)
  lt : g < w.heap.size
theorem KN.on {W w w' : World} {g : Nat} (h : KN W g w) (hb : Below w.heap.size w w') : KN W g w' := ⟨h.below.trans (hb.mono h.below.size), range_keep h.nums hb, Nat.lt_of_lt_of_le h.lt hb.size⟩
theorem KN.at {W w : World} {g i : Nat} {n : Int} (h : KN W g w) (hi : i < 14) (hn : pkN.getD i 0 = n) : w.cell? ⟨g, i, none⟩ = some (.int .i64 n) := by
  have hlen : i < pkN.length := hi
  have h1 := h.nums i (.int .i64 n) (by
    rw [List.getElem?_map, ← hn, List.getD_eq_getElem?_getD, List.getElem?_eq_getElem hlen]
    rfl)
  rwa [Nat.zero_add] at h1
theorem wf_of64 {n : Int} (h : -9223372036854775808 ≤ n ∧ n < 9223372036854775808) : (Lit.int .i64 n).wf = true := by
  simp [Lit.wf, IntKind.min, IntKind.max, IntKind.signed, IntKind.bits]
  omega
def sumX (x : BitVec 8) : List (BitVec 8) := x :: (noughts 30 ++ [9#8])
theorem built_sum (x : BitVec 8) : Try.prog.built 26 [(0, .int .u8 (n8 x)), (31, .int .u8 9)] = some (bytesV (sumX x)).toArray := by kernel_rfl
def tK (n : Int) (p : Option Addr) (c i : Nat) : Thing7 := ⟨0, n, p, c, kitRow i, sumX (BitVec.ofNat 8 i)⟩
theorem built_NBS (n : Int) (p : Option Addr) (b : List (BitVec 8)) (c : Nat) (x : BitVec 8) : Try.prog.built 28 [(1, .int .i64 n), (2, .slice p b.length c), (3, .agg (bytesV (sumX x)).toArray)] = some (⟨0, n, p, c, b, sumX x⟩ : Thing7).cells.toArray := by kernel_rfl
theorem built_KS (k : Int) (x : BitVec 8) : Try.prog.built 28 [(0, .int .i64 k), (3, .agg (bytesV (sumX x)).toArray)] = some (⟨k, 0, none, 0, [], sumX x⟩ : Thing7).cells.toArray := by kernel_rfl
theorem tK_ok {w : World} {n : Int} {p : Option Addr} {c i : Nat} (hn : (Lit.int .i64 n).wf = true) (hc : i ≤ c) (hl : Lies w p (kitRow i)) : (tK n p c i).Ok w := ⟨rfl, hn, hl, by show (kitRow i).length ≤ c; rw [kitRow_length]; exact hc, rfl⟩
/-- The table, and the thing of a round. -/
structure KT (W : World) (g i G : Nat) (n : Int) (p : Option Addr) (c : Nat) (w : World) : Prop where
  kn : KN W g w
  box : BoxedAt w G (tK n p c i)
theorem KT.on {W w w' : World} {g i G c : Nat} {n : Int} {p : Option Addr} (h : KT W g i G n p c w) (hb : Below w.heap.size w w') : KT W g i G n p c w' := ⟨h.kn.on hb, h.box.below hb⟩
theorem BoxedAt.rng {w : World} {g : Nat} {t : Thing7} (h : BoxedAt w g t) : w.rangeAt g 0 t.cells.toArray.toList := fun j v hv => by
  rw [Nat.zero_add, cell_of_row w g j _ _ _ h.blk]
  simpa using hv
theorem wanted_guardF {ops : Array Oper} {a : Act} {o : Oper} {j : Nat} {dj : Tmp} {oj : Oper} (hg : o.guard = some (j, false)) (hj : ops[j]? = some oj) (hd : oj.dst = some dj) (he : a.eval (.tmp dj) = .bool false) : Region.wanted o (yielded ops a.tmps) = true := by
  have h2 : a.tmps[dj]? = some (.bool false) := by
    have h3 : a.tmps.getD dj undef = .bool false := he
    rw [Array.getD_eq_getD_getElem?] at h3
    cases h4 : a.tmps[dj]? with
    | none => rw [h4] at h3; exact absurd h3 (by simp [undef])
    | some u => rw [h4] at h3; simp at h3; rw [h3]
  unfold Region.wanted
  rw [hg]
  simp only [yielded, hj, Option.bind_some, hd, h2]
  rfl
section
variable {P : Program} {ops : Array Oper} {Q : Exit → Act → World → Prop} {i : Nat} {o : Oper} {d : Option Tmp} {a : Act} {w : World} {K : Act → World → Prop}
theorem t_enter {f : FuncId} {args : Array Value} {R : Ending → World → Prop} (ho : ops[i]? = some o) (hd : o.dst = d) (hw : Region.wanted o (yielded ops a.tmps) = true) (hr : (execOp a.eval o).run P w = .ok (.enter f args) w) (hc : Calls P f args w R)
    (h : ∀ e w', R e w' → ∃ v, e = .returned v ∧ K (a.put d v) w') : wpOp P ops Q i K a w := by
  refine at_wp ho hw ?_
  unfold Oper.wp
  rw [hr, Oper.upon_enter]
  refine hc.mono ?_
  rintro e w' hR
  obtain ⟨v, rfl, h⟩ := h e w' hR
  rw [hd]
  exact h
end
section
variable {ρ : Operand → Value} {o : Oper} {x y : Operand}
theorem run_ixI {g i n : Nat} (ho : o.op = .indexAddr 22 x y) (hx : ρ x = .slice (some ⟨g, 0, none⟩) n n) (hy : ρ y = .int .i64 (i : Int)) (hi : i < n) (w : World) : (execOp ρ o).run Try.prog w = .ok (.value (.pointer (some ⟨g, i, none⟩))) w := by
  obtain ⟨dst, op, ty', pos, after, guard⟩ := o
  simp only at ho
  subst ho
  have q : (i : Int) < (n : Int) := by omega
  go_simp
theorem run_toByte {i : Nat} (ho : o.op = .convert 3 5 x) (hx : ρ x = .int .i64 (i : Int)) (w : World) : (execOp ρ o).run Try.prog w = .ok (.value (.int .u8 (n8 (BitVec.ofNat 8 i)))) w := by
  have e : IntKind.u8.wrap (i : Int) = n8 (BitVec.ofNat 8 i) := by
    unfold n8
    rw [IntKind.wrap_u8', BitVec.toNat_ofNat]; omega
  obtain ⟨dst, op, ty', pos, after, guard⟩ := o
  simp only at ho
  subst ho
  go_simp
theorem run_builtE {T : TypeId} {parts : Array (Nat × Operand)} {cs : Array Value} (ho : o.op = .build T parts) (hb : Try.prog.built T (parts.map fun (i, x) => (i, ρ x)).toList = some cs) (w : World) : (execOp ρ o).run Try.prog w = .ok (.value (.agg cs)) w := by
  unfold execOp
  simp only [ho, Sem.run_bind, run_build w T _ cs hb, Result.andThen_ok, Sem.run_pure]
theorem run_rem3 {i : Nat} {ty : TypeId} (ho : o.op = .binOp .rem 3 x (.const (.int .i64 3)) ty) (hx : ρ x = .int .i64 (i : Int)) (h0 : ∀ u, ρ (.const u) = u) (w : World) : (execOp ρ o).run Try.prog w = .ok (.value (.int .i64 ((i % 3 : Nat) : Int))) w := by
  obtain ⟨dst, op, ty', pos, after, guard⟩ := o
  simp only at ho
  subst ho
  have h2 := h0 (.int .i64 3)
  have e : (i : Int).tmod 3 = ((i % 3 : Nat) : Int) := by rw [Int.tmod_eq_emod_of_nonneg (by omega)]; omega
  go_simp
theorem run_mul7 {i : Nat} {ty : TypeId} (ho : o.op = .binOp .mul 3 x (.const (.int .i64 7)) ty) (hx : ρ x = .int .i64 (i : Int)) (h0 : ∀ u, ρ (.const u) = u) (hi : i < 1000) (w : World) : (execOp ρ o).run Try.prog w = .ok (.value (.int .i64 ((i : Int) * 7))) w := by
  obtain ⟨dst, op, ty', pos, after, guard⟩ := o
  simp only at ho
  subst ho
  have h2 := h0 (.int .i64 7)
  have h3 : IntKind.i64.wrap ((i : Int) * 7) = (i : Int) * 7 := IntWalk.i64_in _ (by omega)
  go_simp
theorem run_allocT (ho : o.op = .alloc 28) (w : World) :
    (execOp ρ o).run Try.prog w = .ok (.value (.pointer (some ⟨w.heap.size, 0, none⟩))) (w.alloc (.cells (⟨0, 0, none, 0, [], noughts 32⟩ : Thing7).cells.toArray 28)) := by
  obtain ⟨dst, op, ty', pos, after, guard⟩ := o
  simp only at ho
  subst ho
  kernel_rfl
end
/-- Bytes appended to a slice of the call's own, as a run. -/
theorem run_appendB {ρ : Operand → Value} {o : Oper} {s x : Operand} {w : World} {v : Value} {p : Option Addr} {k c : Nat} (ho : o.op = .call { callee := .builtin .append, args := #[s, x], argTypes := #[23, 23] }) (hs : ρ s = v) (hx : ρ x = .slice p k c)
    (B : Nat) (l m : List (BitVec 8)) (hown : Own B w l v) (hk : m.length = k) (hm : Lies w p m) (hl : l.length + k < 140737488355328) (hB : B ≤ w.heap.size) :
    ∃ v' w', (execOp ρ o).run Try.prog w = .ok (.value v') w' ∧ Own B w' (l ++ m) v' ∧ w.grownBy w' v.ownBlock := by
  subst hk
  obtain ⟨i, hi, hz, hsz, hby⟩ := info5'
  obtain ⟨dst, op, ty', pos, after, guard⟩ := o
  simp only at ho
  subst ho
  cases p with
  | none =>
    have hm0 : m = [] := by
      rcases hm with h0 | ⟨b, off, h0, _⟩
      · exact h0
      · cases h0
    subst hm0
    refine ⟨v, w, ?_, by rw [List.append_nil]; exact hown, World.grownBy.refl _ _⟩
    have hrun := append_nilB B ty' v l w hown c
    unfold execOp
    simp only [resolve, invoke, builtin, Sem.run_bind, Sem.run_pure, Result.andThen_ok, List.map_toArray, List.map_cons, List.map_nil, hs, hx, List.length_nil, hrun]
  | some ad =>
    obtain ⟨v', w', hr, h2, h3, -, -⟩ := run_append_own_at (P := Try.prog) (w := w) B 23 ty' 5 i (.int .u8 0) 1 1 Try.underlying23 hi hz hsz hby rfl (by decide) v l.length (bytesV l) hown ad m.length c (bytesV m) (by rw [bytesV_length, Nat.mul_one]) (fun j u hu => by
      rcases hm with h0 | ⟨b, off, h0, hr⟩
      · subst h0; cases hu
      · cases h0
        rw [Addr.add_mid]
        exact hr j u hu) (fun u hu => bytesV_mem hu) (by unfold maxLen; omega) (by omega) hB
    refine ⟨v', w', ?_, by unfold Own; rw [List.length_append, bytesV_append]; exact h2, h3⟩
    unfold execOp
    simp only [resolve, invoke, builtin, Sem.run_bind, Sem.run_pure, Result.andThen_ok, List.map_toArray, List.map_cons, List.map_nil, hs, hx, hr]
theorem t_append {ops : Array Oper} {Q : Exit → Act → World → Prop} {i : Nat} {o : Oper} {d : Option Tmp} {a : Act} {w : World} {K : Act → World → Prop} {s x : Operand} {v : Value} {p : Option Addr} {k c : Nat} (ho : ops[i]? = some o) (hd : o.dst = d) (hw : Region.wanted o (yielded ops a.tmps) = true)
    (q : o.op = .call { callee := .builtin .append, args := #[s, x], argTypes := #[23, 23] }) (hs : a.eval s = v) (hx : a.eval x = .slice p k c)
    (B : Nat) (l m : List (BitVec 8)) (hown : Own B w l v) (hk : m.length = k) (hm : Lies w p m) (hl : l.length + k < 140737488355328) (hB : B ≤ w.heap.size) (h : ∀ v' w', Own B w' (l ++ m) v' → w.grownBy w' v.ownBlock → K (a.put d v') w') : wpOp Try.prog ops Q i K a w := by
  obtain ⟨v', w', hr, h1, h2⟩ := run_appendB q hs hx B l m hown hk hm hl hB
  exact at_op ho hd hw hr (h v' w' h1 h2)
/-- The three things that are asked of a reader, in a block. -/
structure AskAt (w : World) (gA : Nat) (m n : Int) : Prop where
  blk : w.heap[gA]? = some (.cells #[.int .i64 3, .int .i64 m, .int .i64 0, .int .i64 0, .int .i64 2, .int .i64 n] 34 (0, 0))
theorem AskAt.lt {w : World} {gA : Nat} {m n : Int} (h : AskAt w gA m n) : gA < w.heap.size := (Array.getElem?_eq_some_iff.1 h.blk).1
theorem AskAt.below {w w' : World} {gA : Nat} {m n : Int} (h : AskAt w gA m n) (hb : Below w.heap.size w w') : AskAt w' gA m n := ⟨(hb.block _ h.lt).trans h.blk⟩
theorem AskAt.belowB {w w' : World} {B gA : Nat} {m n : Int} (h : AskAt w gA m n) (hb : Below B w w') (hg : gA < B) : AskAt w' gA m n := ⟨(hb.block _ hg).trans h.blk⟩
theorem AskAt.grown {w w' : World} {gA : Nat} {m n : Int} {r : Option Nat} (h : AskAt w gA m n) (hb : w.grownBy w' r) (hg : some gA ≠ r) : AskAt w' gA m n := ⟨(hb.block _ h.lt hg).trans h.blk⟩
theorem ask_new (w : World) (m n : Int) : AskAt (w.alloc (.cells (#[Value.int .i64 3, .int .i64 m].toList ++ (#[Value.int .i64 0, .int .i64 0].toList ++ #[Value.int .i64 2, .int .i64 n].toList)).toArray 34)) w.heap.size m n := ⟨heap_alloc_new _ _⟩
theorem AskAt.asks {w : World} {gA : Nat} {m n : Int} (h : AskAt w gA m n) : ([⟨3, m⟩, ⟨0, 0⟩, ⟨2, n⟩] : List AskM) = [] ∨ ∃ b off, some (⟨gA, 0, none⟩ : Addr) = some ⟨b, off, none⟩ ∧ ∀ k (h : k < ([⟨3, m⟩, ⟨0, 0⟩, ⟨2, n⟩] : List AskM).length), w.rangeAt b (off + k * 2) ([⟨3, m⟩, ⟨0, 0⟩, ⟨2, n⟩] : List AskM)[k].cells := by
  refine Or.inr ⟨gA, 0, rfl, fun k hk j v hv => ?_⟩
  have hk3 : k < 3 := hk
  have hj : j < 2 := (List.getElem?_eq_some_iff.1 hv).1
  rw [cell_of_row w gA _ _ _ _ h.blk]
  obtain rfl | rfl | rfl : k = 0 ∨ k = 1 ∨ k = 2 := by omega
  all_goals
    obtain rfl | rfl : j = 0 ∨ j = 1 := by omega
    all_goals exact hv
/-- A store into a block that has just been made; one into a block that was made ahead of the bytes. -/
theorem storeT_new {W : World} {g i c : Nat} {n : Int} {p : Option Addr} (w : World) (t : Thing7) (ht : t = tK n p c i) (hk : KN W g w) (hok : t.Ok w) :
    Hid (KT W g i w.heap.size n p c ((w.alloc (.cells (⟨0, 0, none, 0, [], noughts 32⟩ : Thing7).cells.toArray 28)).setRow w.heap.size t.cells.toArray)) ∧
      KN W g ((w.alloc (.cells (⟨0, 0, none, 0, [], noughts 32⟩ : Thing7).cells.toArray 28)).setRow w.heap.size t.cells.toArray) := by
  subst ht
  have hb : Below w.heap.size w ((w.alloc (.cells (⟨0, 0, none, 0, [], noughts 32⟩ : Thing7).cells.toArray 28)).setRow w.heap.size (tK n p c i).cells.toArray) := below_setRow ((Below.refl _ _).alloc (Nat.le_refl _) _) (Nat.le_refl _) _
  exact ⟨show KT _ _ _ _ _ _ _ _ from ⟨hk.on hb, setRow_heap _ _ _ _ _ _ (heap_alloc_new w _), hok.below hb⟩, hk.on hb⟩
theorem storeT_old {W : World} {g i c : Nat} {n : Int} {p : Option Addr} (w : World) (G : Nat) (t : Thing7) (ht : t = tK n p c i) (hk : KN W g w) (hz : w.heap[G]? = some (.cells (⟨0, 0, none, 0, [], noughts 32⟩ : Thing7).cells.toArray 28 (0, 0))) (hg : g < G) (hW : W.heap.size ≤ G) (hok : t.Ok w)
    (hz2 : ∀ w', Stays (fun k => k = G) w w' → Lies w' p (kitRow i)) :
    Hid (KT W g i G n p c (w.setRow G t.cells.toArray)) ∧ KN W g (w.setRow G t.cells.toArray) := by
  subst ht
  have hs : Stays (fun k => k = G) w (w.setRow G (tK n p c i).cells.toArray) := ⟨rfl, rfl, rfl, by simp, fun k _ hk => setRow_other w G k _ (fun e => hk e)⟩
  have hb : Below G w (w.setRow G (tK n p c i).cells.toArray) := below_setRow (Below.refl _ _) (Nat.le_refl _) _
  have hkn : KN W g (w.setRow G (tK n p c i).cells.toArray) := ⟨hk.below.trans (hb.mono hW), range_of_block hk.nums (hb.block g hg), Nat.lt_of_lt_of_le hk.lt hs.size⟩
  exact ⟨show KT _ _ _ _ _ _ _ _ from ⟨hkn, setRow_heap _ _ _ _ _ _ hz, hok.kindw, hok.nw, hz2 _ hs, hok.cap, hok.sum⟩, hkn⟩
theorem own_far {B G n c : Nat} {w : World} {p : Option Addr} {l : List (BitVec 8)} (h : Own B w l (.slice p n c)) (hG : G < B) : ∀ w', Stays (fun k => k = G) w w' → Lies w' p l := by
  obtain ⟨q, c', he, -, -, hl⟩ := h.sliceIn (D := fun k => k ≠ G) (fun k hk => by have := (World.ownsRow.lt h k hk).1; omega)
  cases he
  exact fun _ hs => (hl.keep hs (fun _ e h => h e)).lies
theorem ok_below {w w' : World} {t : Thing7} (hb : Below w.heap.size w w') (h : t.Ok w) : t.Ok w' := h.below hb
theorem things_of {w : World} {g : Nat} {C : Array Value} (ts : List Thing7) (h : w.heap[g]? = some (.cells C 28 (0, 0))) (hC : C.toList = ts.flatMap Thing7.cells) (hok : ∀ t ∈ ts, t.Ok w) : ThingsIn w (some ⟨g, 0, none⟩) ts := things_built h hC hok
theorem t4_ok {w : World} {n : Int} {p : Option Addr} {c i : Nat} (h : (tK n p c i).Ok w) (hn : (Lit.int .i64 n).wf = true) : ∀ t ∈ ([tK n p c i, ⟨4, n, none, 0, [], noughts 32⟩, ⟨1, 0, p, c, kitRow i, noughts 32⟩, ⟨3, 0, none, 0, [], sumX (BitVec.ofNat 8 i)⟩] : List Thing7), t.Ok w := by
  intro t ht
  simp only [List.mem_cons, List.not_mem_nil, or_false] at ht
  rcases ht with rfl | rfl | rfl | rfl
  · exact h
  · exact ⟨rfl, hn, Or.inl rfl, Nat.le_refl _, rfl⟩
  · exact ⟨rfl, rfl, h.lies, h.cap, rfl⟩
  · exact ⟨rfl, rfl, Or.inl rfl, Nat.le_refl _, rfl⟩
theorem t3_ok {w : World} {n : Int} {p : Option Addr} {c i : Nat} (h : (tK n p c i).Ok w) : ∀ t ∈ ([tK n p c i, ⟨2, 0, p, c, kitRow i, noughts 32⟩, ⟨3, 0, none, 0, [], noughts 32⟩] : List Thing7), t.Ok w := by
  intro t ht
  simp only [List.mem_cons, List.not_mem_nil, or_false] at ht
  rcases ht with rfl | rfl | rfl
  · exact h
  · exact ⟨rfl, rfl, h.lies, h.cap, rfl⟩
  · exact ⟨rfl, rfl, Or.inl rfl, Nat.le_refl _, rfl⟩
section
variable {ρ : Operand → Value} {T : TypeId} {cs : Array Value} {a b c : Nat} {x y z : Operand} {u v s : Value}
theorem parts1 (h1 : ρ x = u) (hb : Try.prog.built T [(a, u)] = some cs) : Try.prog.built T ((#[(a, x)] : Array (Nat × Operand)).map fun (i, x) => (i, ρ x)).toList = some cs := by
  simp only [List.map_toArray, List.map_cons, List.map_nil, h1]
  exact hb
theorem parts2 (h1 : ρ x = u) (h2 : ρ y = v) (hb : Try.prog.built T [(a, u), (b, v)] = some cs) : Try.prog.built T ((#[(a, x), (b, y)] : Array (Nat × Operand)).map fun (i, x) => (i, ρ x)).toList = some cs := by
  simp only [List.map_toArray, List.map_cons, List.map_nil, h1, h2]
  exact hb
theorem parts3 (h1 : ρ x = u) (h2 : ρ y = v) (h3 : ρ z = s) (hb : Try.prog.built T [(a, u), (b, v), (c, s)] = some cs) : Try.prog.built T ((#[(a, x), (b, y), (c, z)] : Array (Nat × Operand)).map fun (i, x) => (i, ρ x)).toList = some cs := by
  simp only [List.map_toArray, List.map_cons, List.map_nil, h1, h2, h3]
  exact hb
end
theorem built_tK (n : Int) (p : Option Addr) (c i : Nat) : Try.prog.built 28 [(1, .int .i64 n), (2, .slice p i c), (3, .agg (bytesV (sumX (BitVec.ofNat 8 i))).toArray)] = some (tK n p c i).cells.toArray := by
  have h := built_NBS n p (kitRow i) c (BitVec.ofNat 8 i)
  rw [kitRow_length] at h
  exact h
theorem built_KR (k : Int) (p : Option Addr) (c i : Nat) : Try.prog.built 28 [(0, .int .i64 k), (2, .slice p i c)] = some (⟨k, 0, p, c, kitRow i, noughts 32⟩ : Thing7).cells.toArray := by
  have h := built_KB k p (kitRow i) c
  rw [kitRow_length] at h
  exact h
set_option maxRecDepth 100000 in
set_option maxHeartbeats 4000000 in
theorem packKnown_any (W : World) : Calls Try.prog 3 #[] W fun e W' => e = .returned (.bool true) ∧ Below W.heap.size W W' := by
  obtain ⟨g, hg⟩ : ∃ g, g = W.heap.size := ⟨_, rfl⟩
  have HK0 : Hid (KN W W.heap.size (W.alloc (.cells (pkN.map fun n => Value.int .i64 n).toArray 3))) := show KN _ _ _ from ⟨(Below.refl _ _).alloc (Nat.le_refl _) _, fun j v hv => by
    rw [Nat.zero_add, cell_of_row _ _ _ _ _ _ (heap_alloc_new W _)]; simpa using hv, by rw [size_alloc]; omega⟩
  go_enter Try.func3, Try.ntmps3
  go_wp2_with fail
  rw [← hg] at HK0 ⊢
  have HG := Lib.hid hg; clear hg
  go_loopw [2] (fun ii wr => ∃ i : Nat, i ≤ 14 ∧ ii = .int .i64 (i : Int) ∧ KN W g wr) (fun ii _ => 14 - (intOf ii).toNat)
  case atStart => exact ⟨0, by omega, rfl, HK0.out⟩
  case round =>
    clear HK0
    obtain ⟨i, hi, rfl, hk⟩ := hrel
    have HK1 := Lib.hid hk
    by_cases hlt : i < 14
    · obtain ⟨n, hn⟩ : ∃ n, pkN.getD i 0 = n := ⟨_, rfl⟩
      have hnb := pkN_wf i hlt
      rw [hn] at hnb
      have hnw : (Lit.int .i64 n).wf = true := wf_of64 hnb
      have HI := Lib.hid hn
      clear hk hn
      go_upto_region 5 with fail
      go_cut [3] from 7 to 98 (fun s3 wx => ∃ G p c, s3 = .pointer (some ⟨G, 0, none⟩) ∧ KT W g i G n p c wx)
      case first =>
        have HK5 := Lib.hid (HK1.out.on (Below.drew0 wr))
        refine region_tree (KN W g) (HK5.out) (.pure 0 (.pure 1 (.pure 2 (.pure 3 (.pure 4 (.pure 6 (.pure 7 (.pure 8 (.two 5 10 (.pure 9 (.one 10 (.one 11 .nil))) (.one 5 (.pure 9 (.one 11 .nil)))))))))))) (by kernel_rfl) (by kernel_rfl) (by kernel_rfl) (fun ops hops A hA => ?_)
        have hsz : A.tmps.size = 127 := by rw [hA]; rfl
        have base1 : A.eval (.tmp 1) = .slice (some ⟨g, 0, none⟩) 14 14 := by rw [hA]; rfl
        have base2 : A.eval (.tmp 2) = .int .i64 (i : Int) := by rw [hA]; rfl
        have HAA := Lib.hid hA; clear hA
        obtain ⟨o0, po0, q0, d0, gd0⟩ : ∃ o, ops[0]? = some o ∧ o.op = .move (.tmp 1) ∧ o.dst = some 13 ∧ o.guard = none := ⟨_, by rw [hops]; rfl, rfl, rfl, rfl⟩
        obtain ⟨o1, po1, q1, d1, gd1⟩ : ∃ o, ops[1]? = some o ∧ o.op = .move (.tmp 2) ∧ o.dst = some 14 ∧ o.guard = none := ⟨_, by rw [hops]; rfl, rfl, rfl, rfl⟩
        obtain ⟨o2, po2, q2, d2, gd2⟩ : ∃ o, ops[2]? = some o ∧ o.op = .indexAddr 22 (.tmp 13) (.tmp 14) ∧ o.dst = some 15 ∧ o.guard = none := ⟨_, by rw [hops]; rfl, rfl, rfl, rfl⟩
        obtain ⟨o3, po3, q3, d3, gd3⟩ : ∃ o, ops[3]? = some o ∧ o.op = .load 3 (.tmp 15) ∧ o.dst = some 16 ∧ o.guard = none := ⟨_, by rw [hops]; rfl, rfl, rfl, rfl⟩
        obtain ⟨o4, po4, q4, d4, gd4⟩ : ∃ o, ops[4]? = some o ∧ o.op = .move (.tmp 2) ∧ o.dst = some 17 ∧ o.guard = none := ⟨_, by rw [hops]; rfl, rfl, rfl, rfl⟩
        obtain ⟨o5, po5, q5, d5, gd5⟩ : ∃ o, ops[5]? = some o ∧ o.op = .call { callee := .value (.func 9), args := #[.tmp 17], argTypes := #[3] } ∧ o.dst = some 18 ∧ o.guard = none := ⟨_, by rw [hops]; rfl, rfl, rfl, rfl⟩
        obtain ⟨o6, po6, q6, d6, gd6⟩ : ∃ o, ops[6]? = some o ∧ o.op = .move (.tmp 2) ∧ o.dst = some 19 ∧ o.guard = none := ⟨_, by rw [hops]; rfl, rfl, rfl, rfl⟩
        obtain ⟨o7, po7, q7, d7, gd7⟩ : ∃ o, ops[7]? = some o ∧ o.op = .convert 3 5 (.tmp 19) ∧ o.dst = some 20 ∧ o.guard = none := ⟨_, by rw [hops]; rfl, rfl, rfl, rfl⟩
        obtain ⟨o8, po8, q8, d8, gd8⟩ : ∃ o, ops[8]? = some o ∧ o.op = .build 26 #[(0, (.tmp 20)), (31, (.const (.int .u8 9)))] ∧ o.dst = some 21 ∧ o.guard = none := ⟨_, by rw [hops]; rfl, rfl, rfl, rfl⟩
        obtain ⟨o9, po9, q9, d9, gd9⟩ : ∃ o, ops[9]? = some o ∧ o.op = .build 28 #[(1, (.tmp 16)), (2, (.tmp 18)), (3, (.tmp 21))] ∧ o.dst = some 22 ∧ o.guard = none := ⟨_, by rw [hops]; rfl, rfl, rfl, rfl⟩
        obtain ⟨o10, po10, q10, d10, gd10⟩ : ∃ o, ops[10]? = some o ∧ o.op = .alloc 28 ∧ o.dst = some 3 ∧ o.guard = none := ⟨_, by rw [hops]; rfl, rfl, rfl, rfl⟩
        obtain ⟨o11, po11, q11, d11, gd11⟩ : ∃ o, ops[11]? = some o ∧ o.op = .store 28 (.tmp 3) (.tmp 22) ∧ o.dst = none ∧ o.guard = none := ⟨_, by rw [hops]; rfl, rfl, rfl, rfl⟩
        clear hops
        refine Tr.takes po0 d0 (wanted_of gd0) (fun w' h' => run_move q0 base1 w') ?_
        refine Tr.takes po1 d1 (wanted_of gd1) (fun w' h' => run_move q1 ((eval_other _ 13 2 _ (by decide)).trans base2) w') ?_
        refine Tr.takes po2 d2 (wanted_of gd2) (fun w' h' => run_ixI q2 ((eval_other _ 14 13 _ (by decide)).trans (eval_same _ _ _ (by rw [hsz]; decide))) (eval_same _ _ _ (by simp only [put_size, hsz]; decide)) (by omega) w') ?_
        refine Tr.takes po3 d3 (wanted_of gd3) (fun w' h' => run_loadI q3 (eval_same _ _ _ (by simp only [put_size, hsz]; decide)) (h'.at hlt HI.out)) ?_
        refine Tr.takes po4 d4 (wanted_of gd4) (fun w' h' => run_move q4 ((eval_other _ 16 2 _ (by decide)).trans ((eval_other _ 15 2 _ (by decide)).trans ((eval_other _ 14 2 _ (by decide)).trans ((eval_other _ 13 2 _ (by decide)).trans base2)))) w') ?_
        refine Tr.takes po6 d6 (wanted_of gd6) (fun w' h' => run_move q6 ((eval_other _ 17 2 _ (by decide)).trans ((eval_other _ 16 2 _ (by decide)).trans ((eval_other _ 15 2 _ (by decide)).trans ((eval_other _ 14 2 _ (by decide)).trans ((eval_other _ 13 2 _ (by decide)).trans base2))))) w') ?_
        refine Tr.takes po7 d7 (wanted_of gd7) (fun w' h' => run_toByte q7 (eval_same _ _ _ (by simp only [put_size, hsz]; decide)) w') ?_
        refine Tr.takes po8 d8 (wanted_of gd8) (fun w' h' => run_builtE q8 (parts2 (eval_same _ _ _ (by simp only [put_size, hsz]; decide)) rfl (built_sum (BitVec.ofNat 8 i))) w') ?_
        refine ⟨?_, ?_⟩
        · have _t := trivial
          refine t_enter po5 d5 (wanted_of gd5) (run_callf1 q5 rfl ((eval_other _ 21 17 _ (by decide)).trans ((eval_other _ 20 17 _ (by decide)).trans ((eval_other _ 19 17 _ (by decide)).trans (eval_same _ _ _ (by simp only [put_size, hsz]; decide))))) Try.func9 (by kernel_rfl) _) (kitRow_any i _ (by omega)) ?_
          rintro e w2 ⟨v2, rfl, ho, hb⟩
          obtain ⟨pt, ct, rfl, hct, -, hlt2⟩ := ho.sl (kitRow_length i)
          have HK2 := Lib.hid (HK5.out.on hb)
          clear ho hb
          refine ⟨_, rfl, HK2.out, ?_⟩
          refine Tr.takes po9 d9 (wanted_of gd9) (fun w' h' => run_builtE q9 (parts3 ((eval_other _ 18 16 _ (by decide)).trans ((eval_other _ 21 16 _ (by decide)).trans ((eval_other _ 20 16 _ (by decide)).trans ((eval_other _ 19 16 _ (by decide)).trans ((eval_other _ 17 16 _ (by decide)).trans (eval_same _ _ _ (by simp only [put_size, hsz]; decide))))))) (eval_same _ _ _ (by simp only [put_size, hsz]; decide)) ((eval_other _ 18 21 _ (by decide)).trans (eval_same _ _ _ (by simp only [put_size, hsz]; decide))) (built_tK n pt ct i)) w') ?_
          refine at_op po10 d10 (wanted_of gd10) (run_allocT q10 w2) ?_
          refine ⟨HK2.out.on ((Below.refl _ _).alloc (Nat.le_refl _) _), ?_⟩
          obtain ⟨HKT, hw3⟩ := storeT_new w2 (tK n pt ct i) rfl HK2.out (tK_ok hnw hct hlt2)
          refine at_wp po11 (wanted_of gd11) (wp_store_row 28 (.tmp 3) (.tmp 22) q11 w2.heap.size (tK n pt ct i).cells.toArray (eval_same _ _ _ (by simp only [put_size, hsz]; decide)) ((eval_other _ 3 22 _ (by decide)).trans (eval_same _ _ _ (by simp only [put_size, hsz]; decide))) 28 _ (heap_alloc_new w2 _) (size35 _ rfl) rfl (Thing7.one _) ⟨hw3, ?_⟩)
          rw [d11]
          show NoPanic _ .normal _ _
          refine NoPanic.normal ?_
          rw [HAA.out]
          go_frame
          clear HAA
          go_wp2_with fail
          go_meet
          exact ⟨_, pt, ct, rfl, HKT.out⟩
        · have _t := trivial
          refine at_op po10 d10 (wanted_of gd10) (run_allocT q10 wr.drew) ?_
          refine ⟨HK5.out.on ((Below.refl _ _).alloc (Nat.le_refl _) _), ?_⟩
          have hal : Below wr.drew.heap.size wr.drew (wr.drew.alloc (.cells (⟨0, 0, none, 0, [], noughts 32⟩ : Thing7).cells.toArray 28)) := (Below.refl _ _).alloc (Nat.le_refl _) _
          have hnz : (wr.drew.alloc (.cells (⟨0, 0, none, 0, [], noughts 32⟩ : Thing7).cells.toArray 28)).heap[wr.drew.heap.size]? = some (.cells (⟨0, 0, none, 0, [], noughts 32⟩ : Thing7).cells.toArray 28 (0, 0)) := heap_alloc_new _ _
          generalize wr.drew.alloc (.cells (⟨0, 0, none, 0, [], noughts 32⟩ : Thing7).cells.toArray 28) = wb at hal hnz ⊢
          refine t_enter po5 d5 (wanted_of gd5) (run_callf1 q5 rfl ((eval_other _ 3 17 _ (by decide)).trans ((eval_other _ 21 17 _ (by decide)).trans ((eval_other _ 20 17 _ (by decide)).trans ((eval_other _ 19 17 _ (by decide)).trans (eval_same _ _ _ (by simp only [put_size, hsz]; decide)))))) Try.func9 (by kernel_rfl) _) (kitRow_any i _ (by omega)) ?_
          rintro e w2 ⟨v2, rfl, ho, hb⟩
          obtain ⟨pt, ct, rfl, hct, -, hlt2⟩ := ho.sl (kitRow_length i)
          have HK2 := Lib.hid (HK5.out.on (hal.trans (hb.mono hal.size)))
          have hnz2 := (hb.block _ (Array.getElem?_eq_some_iff.1 hnz).1).trans hnz
          have hz2 := own_far ho (Array.getElem?_eq_some_iff.1 hnz).1
          clear ho
          refine ⟨_, rfl, HK2.out, ?_⟩
          refine Tr.takes po9 d9 (wanted_of gd9) (fun w' h' => run_builtE q9 (parts3 ((eval_other _ 18 16 _ (by decide)).trans ((eval_other _ 3 16 _ (by decide)).trans ((eval_other _ 21 16 _ (by decide)).trans ((eval_other _ 20 16 _ (by decide)).trans ((eval_other _ 19 16 _ (by decide)).trans ((eval_other _ 17 16 _ (by decide)).trans (eval_same _ _ _ (by simp only [put_size, hsz]; decide)))))))) (eval_same _ _ _ (by simp only [put_size, hsz]; decide)) ((eval_other _ 18 21 _ (by decide)).trans ((eval_other _ 3 21 _ (by decide)).trans (eval_same _ _ _ (by simp only [put_size, hsz]; decide)))) (built_tK n pt ct i)) w') ?_
          obtain ⟨HKT, hw3⟩ := storeT_old w2 wr.drew.heap.size (tK n pt ct i) rfl HK2.out hnz2 (HK5.out.lt) (Nat.le_trans HK5.out.below.size (Nat.le_refl _)) (tK_ok hnw hct hlt2) hz2
          refine at_wp po11 (wanted_of gd11) (wp_store_row 28 (.tmp 3) (.tmp 22) q11 wr.drew.heap.size (tK n pt ct i).cells.toArray ((eval_other _ 22 3 _ (by decide)).trans ((eval_other _ 18 3 _ (by decide)).trans (eval_same _ _ _ (by simp only [put_size, hsz]; decide)))) (eval_same _ _ _ (by simp only [put_size, hsz]; decide)) 28 _ hnz2 (size35 _ rfl) rfl (Thing7.one _) ⟨hw3, ?_⟩)
          rw [d11]
          show NoPanic _ .normal _ _
          refine NoPanic.normal ?_
          rw [HAA.out]
          go_frame
          clear HAA
          go_wp2_with fail
          go_meet
          exact ⟨_, pt, ct, rfl, HKT.out⟩
      case rest =>
        clear HK1
        obtain ⟨G, pt, ct, rfl, hkt⟩ := hcut
        have HK3 := Lib.hid hkt
        clear hkt
        go_upto_region 6 with fail
        have HK6 := Lib.hid (HK3.out.on (Below.drew0 wc))
        clear HK3
        refine region_phase (KT W g i G n pt ct) (fun _ => True) 2 (HK6.out) trivial [(0, .free), (1, .free), (3, .free), (2, .behind), (4, .behind), (5, .free)] (by kernel_rfl) (by kernel_rfl) (by kernel_rfl) (by kernel_rfl) (fun ops hops A hA => ?_)
        have hsz : A.tmps.size = 127 := by rw [hA]; rfl
        have base2 : A.eval (.tmp 2) = .int .i64 (i : Int) := by rw [hA]; rfl
        have base3 : A.eval (.tmp 3) = .pointer (some ⟨G, 0, none⟩) := by rw [hA]; rfl
        have HAA := Lib.hid hA; clear hA
        obtain ⟨o0, po0, q0, d0, gd0⟩ : ∃ o, ops[0]? = some o ∧ o.op = .move (.tmp 2) ∧ o.dst = some 23 ∧ o.guard = none := ⟨_, by rw [hops]; rfl, rfl, rfl, rfl⟩
        obtain ⟨o1, po1, q1, d1, gd1⟩ : ∃ o, ops[1]? = some o ∧ o.op = .binOp .rem 3 (.tmp 23) (.const (.int .i64 3)) 3 ∧ o.dst = some 24 ∧ o.guard = none := ⟨_, by rw [hops]; rfl, rfl, rfl, rfl⟩
        obtain ⟨o2, po2, q2, d2, gd2⟩ : ∃ o, ops[2]? = some o ∧ o.op = .call { callee := .value (.func 9), args := #[.tmp 24], argTypes := #[3] } ∧ o.dst = some 25 ∧ o.guard = none := ⟨_, by rw [hops]; rfl, rfl, rfl, rfl⟩
        obtain ⟨o3, po3, q3, d3, gd3⟩ : ∃ o, ops[3]? = some o ∧ o.op = .load 28 (.tmp 3) ∧ o.dst = some 26 ∧ o.guard = none := ⟨_, by rw [hops]; rfl, rfl, rfl, rfl⟩
        obtain ⟨o4, po4, q4, d4, gd4⟩ : ∃ o, ops[4]? = some o ∧ o.op = .call { callee := .value (.func 10), args := #[.tmp 25, .tmp 26], argTypes := #[23, 28] } ∧ o.dst = some 27 ∧ o.guard = none := ⟨_, by rw [hops]; rfl, rfl, rfl, rfl⟩
        obtain ⟨o5, po5, q5, d5, gd5⟩ : ∃ o, ops[5]? = some o ∧ o.op = .unOp .not 4 (.tmp 27) ∧ o.dst = some 28 ∧ o.guard = none := ⟨_, by rw [hops]; rfl, rfl, rfl, rfl⟩
        clear hops
        refine met_free po0 d0 (wanted_of gd0) (fun w' h' => run_move q0 base2 w') ?_
        refine met_free po1 d1 (wanted_of gd1) (fun w' h' => run_rem3 q1 (eval_same _ _ _ (by rw [hsz]; decide)) (fun _ => rfl) w') ?_
        refine met_free po3 d3 (wanted_of gd3) (fun w' h' => run_loadThing q3 ((eval_other _ 24 3 _ (by decide)).trans ((eval_other _ 23 3 _ (by decide)).trans base3)) h'.box.rng (by rfl)) ?_
        refine m_enter po2 d2 (wanted_of gd2) (run_callf1 q2 rfl ((eval_other _ 26 24 _ (by decide)).trans (eval_same _ _ _ (by simp only [put_size, hsz]; decide))) Try.func9 (by kernel_rfl) _) (kitRow_any (i % 3) _ (by omega)) ?_
        rintro e w4 ⟨v4, rfl, ho, hb⟩
        obtain ⟨p4, c4, rfl, hc4, -, hl4⟩ := ho.sl (kitRow_length (i % 3))
        have HK7 := Lib.hid (HK6.out.on hb)
        clear ho hb
        refine ⟨_, rfl, HK7.out, ?_⟩
        refine m_enter po4 d4 (wanted_of gd4) (run_callf2 q4 rfl (eval_same _ _ _ (by simp only [put_size, hsz]; decide)) ((eval_other _ 25 26 _ (by decide)).trans (eval_same _ _ _ (by simp only [put_size, hsz]; decide))) Try.func10 (by kernel_rfl) _) (packLays_any (kitRow (i % 3)) (tK n pt ct i) (i % 3) c4 p4 w4 (kitRow_length _) hc4 hl4 HK7.out.box.ok) ?_
        rintro e w5 ⟨rfl, hb⟩
        have HK8 := Lib.hid (HK7.out.on hb)
        clear hb HK7 hl4
        refine ⟨_, rfl, HK8.out, ?_⟩
        refine met_free po5 d5 (wanted_of gd5) (fun w' h' => r_not q5 (eval_same _ _ _ (by simp only [put_size, hsz]; decide)) w') ?_
        show NoPanic _ .normal _ _
        refine NoPanic.normal ?_
        rw [HAA.out]
        go_frame
        clear HAA
        clear HK6
        go_wp2_with fail
        obtain ⟨wo, rfl⟩ : ∃ wo : World, wo = w5 := ⟨_, rfl⟩
        go_loopw [4] (fun kk wk => ∃ k : Nat, k ≤ 14 ∧ kk = .int .i64 (k : Int) ∧ KT W g i G n pt ct wk) (fun kk _ => 14 - (intOf kk).toNat)
        case atStart => exact ⟨0, by omega, rfl, HK8.out⟩
        case round =>
          clear HK8
          obtain ⟨k, hk, rfl, hkt⟩ := hrel
          have HK9a := Lib.hid hkt
          clear hkt
          by_cases hlk : k < 14
          · obtain ⟨m, hm⟩ : ∃ m, pkN.getD k 0 = m := ⟨_, rfl⟩
            have HM := Lib.hid hm
            clear hm
            go_upto_region 11 with fail
            go_cut [70] from 29 to 70 (fun s70 wx => s70 = .bool false ∧ KT W g i G n pt ct wx)
            case first =>
              have HK9 := Lib.hid (HK9a.out.on (Below.drew0 wr))
              clear HK9a
              refine region_tree (KT W g i G n pt ct) (HK9.out) (.pure 0 (.pure 1 (.pure 2 (.pure 3 (.pure 4 (.pure 5 (.pure 6 (.pure 7 (.pure 8 (.one 9 (.one 10 (.pure 11 (.pure 12 (.pure 13 (.pure 14 (.pure 15 (.pure 16 (.pure 18 (.pure 21 (.pure 22 (.pure 23 (.pure 24 (.pure 25 (.pure 26 (.pure 27 (.pure 28 (.pure 29 (.pure 30 (.pure 31 (.two 17 32 (.two 19 32 (.two 20 32 (.one 32 (.one 33 (.pure 34 (.pure 35 .nil)))) (.one 20 (.one 33 (.pure 34 (.pure 35 .nil))))) (.one 19 (.one 20 (.one 33 (.pure 34 (.pure 35 .nil)))))) (.one 17 (.one 19 (.one 20 (.one 33 (.pure 34 (.pure 35 .nil)))))))))))))))))))))))))))))))))))) (by kernel_rfl) (by kernel_rfl) (by kernel_rfl) (fun ops hops A hA => ?_)
              have hsz : A.tmps.size = 127 := by rw [hA]; rfl
              have base1 : A.eval (.tmp 1) = .slice (some ⟨g, 0, none⟩) 14 14 := by rw [hA]; rfl
              have base2 : A.eval (.tmp 2) = .int .i64 (i : Int) := by rw [hA]; rfl
              have base4 : A.eval (.tmp 4) = .int .i64 (k : Int) := by rw [hA]; rfl
              have HAA := Lib.hid hA; clear hA
              obtain ⟨o0, po0, q0, d0, gd0⟩ : ∃ o, ops[0]? = some o ∧ o.op = .move (.tmp 1) ∧ o.dst = some 35 ∧ o.guard = none := ⟨_, by rw [hops]; rfl, rfl, rfl, rfl⟩
              obtain ⟨o1, po1, q1, d1, gd1⟩ : ∃ o, ops[1]? = some o ∧ o.op = .move (.tmp 2) ∧ o.dst = some 36 ∧ o.guard = none := ⟨_, by rw [hops]; rfl, rfl, rfl, rfl⟩
              obtain ⟨o2, po2, q2, d2, gd2⟩ : ∃ o, ops[2]? = some o ∧ o.op = .indexAddr 22 (.tmp 35) (.tmp 36) ∧ o.dst = some 37 ∧ o.guard = none := ⟨_, by rw [hops]; rfl, rfl, rfl, rfl⟩
              obtain ⟨o3, po3, q3, d3, gd3⟩ : ∃ o, ops[3]? = some o ∧ o.op = .load 3 (.tmp 37) ∧ o.dst = some 38 ∧ o.guard = none := ⟨_, by rw [hops]; rfl, rfl, rfl, rfl⟩
              obtain ⟨o4, po4, q4, d4, gd4⟩ : ∃ o, ops[4]? = some o ∧ o.op = .move (.tmp 1) ∧ o.dst = some 39 ∧ o.guard = none := ⟨_, by rw [hops]; rfl, rfl, rfl, rfl⟩
              obtain ⟨o5, po5, q5, d5, gd5⟩ : ∃ o, ops[5]? = some o ∧ o.op = .move (.tmp 4) ∧ o.dst = some 40 ∧ o.guard = none := ⟨_, by rw [hops]; rfl, rfl, rfl, rfl⟩
              obtain ⟨o6, po6, q6, d6, gd6⟩ : ∃ o, ops[6]? = some o ∧ o.op = .indexAddr 22 (.tmp 39) (.tmp 40) ∧ o.dst = some 41 ∧ o.guard = none := ⟨_, by rw [hops]; rfl, rfl, rfl, rfl⟩
              obtain ⟨o7, po7, q7, d7, gd7⟩ : ∃ o, ops[7]? = some o ∧ o.op = .load 3 (.tmp 41) ∧ o.dst = some 42 ∧ o.guard = none := ⟨_, by rw [hops]; rfl, rfl, rfl, rfl⟩
              obtain ⟨o8, po8, q8, d8, gd8⟩ : ∃ o, ops[8]? = some o ∧ o.op = .move (.tmp 2) ∧ o.dst = some 43 ∧ o.guard = none := ⟨_, by rw [hops]; rfl, rfl, rfl, rfl⟩
              obtain ⟨o9, po9, q9, d9, gd9⟩ : ∃ o, ops[9]? = some o ∧ o.op = .call { callee := .value (.func 9), args := #[.tmp 43], argTypes := #[3] } ∧ o.dst = some 44 ∧ o.guard = none := ⟨_, by rw [hops]; rfl, rfl, rfl, rfl⟩
              obtain ⟨o10, po10, q10, d10, gd10⟩ : ∃ o, ops[10]? = some o ∧ o.op = .call { callee := .value (.func 11), args := #[.tmp 38, .tmp 42, .tmp 44], argTypes := #[3, 3, 23] } ∧ o.dst = some 45 ∧ o.guard = none := ⟨_, by rw [hops]; rfl, rfl, rfl, rfl⟩
              obtain ⟨o11, po11, q11, d11, gd11⟩ : ∃ o, ops[11]? = some o ∧ o.op = .unOp .not 4 (.tmp 45) ∧ o.dst = some 46 ∧ o.guard = none := ⟨_, by rw [hops]; rfl, rfl, rfl, rfl⟩
              obtain ⟨o12, po12, q12, d12, gd12⟩ : ∃ o, ops[12]? = some o ∧ o.op = .move (.tmp 46) ∧ o.dst = some 47 ∧ o.guard = none := ⟨_, by rw [hops]; rfl, rfl, rfl, rfl⟩
              obtain ⟨o13, po13, q13, d13, gd13⟩ : ∃ o, ops[13]? = some o ∧ o.op = .move (.tmp 1) ∧ o.dst = some 48 ∧ o.guard = some (12, false) := ⟨_, by rw [hops]; rfl, rfl, rfl, rfl⟩
              obtain ⟨o14, po14, q14, d14, gd14⟩ : ∃ o, ops[14]? = some o ∧ o.op = .move (.tmp 2) ∧ o.dst = some 49 ∧ o.guard = some (12, false) := ⟨_, by rw [hops]; rfl, rfl, rfl, rfl⟩
              obtain ⟨o15, po15, q15, d15, gd15⟩ : ∃ o, ops[15]? = some o ∧ o.op = .indexAddr 22 (.tmp 48) (.tmp 49) ∧ o.dst = some 50 ∧ o.guard = some (12, false) := ⟨_, by rw [hops]; rfl, rfl, rfl, rfl⟩
              obtain ⟨o16, po16, q16, d16, gd16⟩ : ∃ o, ops[16]? = some o ∧ o.op = .load 3 (.tmp 50) ∧ o.dst = some 51 ∧ o.guard = some (12, false) := ⟨_, by rw [hops]; rfl, rfl, rfl, rfl⟩
              obtain ⟨o17, po17, q17, d17, gd17⟩ : ∃ o, ops[17]? = some o ∧ o.op = .call { callee := .value (.func 13), args := #[.const (.slice none 0 0), .tmp 51], argTypes := #[23, 3] } ∧ o.dst = some 52 ∧ o.guard = some (12, false) := ⟨_, by rw [hops]; rfl, rfl, rfl, rfl⟩
              obtain ⟨o18, po18, q18, d18, gd18⟩ : ∃ o, ops[18]? = some o ∧ o.op = .move (.tmp 4) ∧ o.dst = some 53 ∧ o.guard = some (12, false) := ⟨_, by rw [hops]; rfl, rfl, rfl, rfl⟩
              obtain ⟨o19, po19, q19, d19, gd19⟩ : ∃ o, ops[19]? = some o ∧ o.op = .call { callee := .value (.func 9), args := #[.tmp 53], argTypes := #[3] } ∧ o.dst = some 54 ∧ o.guard = some (12, false) := ⟨_, by rw [hops]; rfl, rfl, rfl, rfl⟩
              obtain ⟨o20, po20, q20, d20, gd20⟩ : ∃ o, ops[20]? = some o ∧ o.op = .call { callee := .builtin .append, args := #[.tmp 52, .tmp 54], argTypes := #[23, 23] } ∧ o.dst = some 55 ∧ o.guard = some (12, false) := ⟨_, by rw [hops]; rfl, rfl, rfl, rfl⟩
              obtain ⟨o21, po21, q21, d21, gd21⟩ : ∃ o, ops[21]? = some o ∧ o.op = .move (.tmp 1) ∧ o.dst = some 56 ∧ o.guard = some (12, false) := ⟨_, by rw [hops]; rfl, rfl, rfl, rfl⟩
              obtain ⟨o22, po22, q22, d22, gd22⟩ : ∃ o, ops[22]? = some o ∧ o.op = .move (.tmp 4) ∧ o.dst = some 57 ∧ o.guard = some (12, false) := ⟨_, by rw [hops]; rfl, rfl, rfl, rfl⟩
              obtain ⟨o23, po23, q23, d23, gd23⟩ : ∃ o, ops[23]? = some o ∧ o.op = .indexAddr 22 (.tmp 56) (.tmp 57) ∧ o.dst = some 58 ∧ o.guard = some (12, false) := ⟨_, by rw [hops]; rfl, rfl, rfl, rfl⟩
              obtain ⟨o24, po24, q24, d24, gd24⟩ : ∃ o, ops[24]? = some o ∧ o.op = .load 3 (.tmp 58) ∧ o.dst = some 59 ∧ o.guard = some (12, false) := ⟨_, by rw [hops]; rfl, rfl, rfl, rfl⟩
              obtain ⟨o25, po25, q25, d25, gd25⟩ : ∃ o, ops[25]? = some o ∧ o.op = .build 34 #[(0, (.const (.int .i64 3))), (1, (.tmp 59))] ∧ o.dst = some 60 ∧ o.guard = some (12, false) := ⟨_, by rw [hops]; rfl, rfl, rfl, rfl⟩
              obtain ⟨o26, po26, q26, d26, gd26⟩ : ∃ o, ops[26]? = some o ∧ o.op = .build 34 #[(0, (.const (.int .i64 0))), (1, (.const (.int .i64 0)))] ∧ o.dst = some 61 ∧ o.guard = some (12, false) := ⟨_, by rw [hops]; rfl, rfl, rfl, rfl⟩
              obtain ⟨o27, po27, q27, d27, gd27⟩ : ∃ o, ops[27]? = some o ∧ o.op = .move (.tmp 1) ∧ o.dst = some 62 ∧ o.guard = some (12, false) := ⟨_, by rw [hops]; rfl, rfl, rfl, rfl⟩
              obtain ⟨o28, po28, q28, d28, gd28⟩ : ∃ o, ops[28]? = some o ∧ o.op = .move (.tmp 2) ∧ o.dst = some 63 ∧ o.guard = some (12, false) := ⟨_, by rw [hops]; rfl, rfl, rfl, rfl⟩
              obtain ⟨o29, po29, q29, d29, gd29⟩ : ∃ o, ops[29]? = some o ∧ o.op = .indexAddr 22 (.tmp 62) (.tmp 63) ∧ o.dst = some 64 ∧ o.guard = some (12, false) := ⟨_, by rw [hops]; rfl, rfl, rfl, rfl⟩
              obtain ⟨o30, po30, q30, d30, gd30⟩ : ∃ o, ops[30]? = some o ∧ o.op = .load 3 (.tmp 64) ∧ o.dst = some 65 ∧ o.guard = some (12, false) := ⟨_, by rw [hops]; rfl, rfl, rfl, rfl⟩
              obtain ⟨o31, po31, q31, d31, gd31⟩ : ∃ o, ops[31]? = some o ∧ o.op = .build 34 #[(0, (.const (.int .i64 2))), (1, (.tmp 65))] ∧ o.dst = some 66 ∧ o.guard = some (12, false) := ⟨_, by rw [hops]; rfl, rfl, rfl, rfl⟩
              obtain ⟨o32, po32, q32, d32, gd32⟩ : ∃ o, ops[32]? = some o ∧ o.op = .buildSlice 35 3 #[(0, (.tmp 60)), (1, (.tmp 61)), (2, (.tmp 66))] ∧ o.dst = some 67 ∧ o.guard = some (12, false) := ⟨_, by rw [hops]; rfl, rfl, rfl, rfl⟩
              obtain ⟨o33, po33, q33, d33, gd33⟩ : ∃ o, ops[33]? = some o ∧ o.op = .call { callee := .value (.func 12), args := #[.tmp 55, .tmp 67], argTypes := #[23, 35] } ∧ o.dst = some 68 ∧ o.guard = some (12, false) := ⟨_, by rw [hops]; rfl, rfl, rfl, rfl⟩
              obtain ⟨o34, po34, q34, d34, gd34⟩ : ∃ o, ops[34]? = some o ∧ o.op = .unOp .not 4 (.tmp 68) ∧ o.dst = some 69 ∧ o.guard = some (12, false) := ⟨_, by rw [hops]; rfl, rfl, rfl, rfl⟩
              obtain ⟨o35, po35, q35, d35, gd35⟩ : ∃ o, ops[35]? = some o ∧ o.op = .pick (.tmp 47) (.const (.bool true)) (.tmp 69) ∧ o.dst = some 70 ∧ o.guard = none := ⟨_, by rw [hops]; rfl, rfl, rfl, rfl⟩
              clear hops
              refine Tr.takes po0 d0 (wanted_of gd0) (fun w' h' => run_move q0 base1 w') ?_
              refine Tr.takes po1 d1 (wanted_of gd1) (fun w' h' => run_move q1 ((eval_other _ 35 2 _ (by decide)).trans base2) w') ?_
              refine Tr.takes po2 d2 (wanted_of gd2) (fun w' h' => run_ixI q2 ((eval_other _ 36 35 _ (by decide)).trans (eval_same _ _ _ (by rw [hsz]; decide))) (eval_same _ _ _ (by simp only [put_size, hsz]; decide)) (by omega) w') ?_
              refine Tr.takes po3 d3 (wanted_of gd3) (fun w' h' => run_loadI q3 (eval_same _ _ _ (by simp only [put_size, hsz]; decide)) (h'.kn.at hlt HI.out)) ?_
              refine Tr.takes po4 d4 (wanted_of gd4) (fun w' h' => run_move q4 ((eval_other _ 38 1 _ (by decide)).trans ((eval_other _ 37 1 _ (by decide)).trans ((eval_other _ 36 1 _ (by decide)).trans ((eval_other _ 35 1 _ (by decide)).trans base1)))) w') ?_
              refine Tr.takes po5 d5 (wanted_of gd5) (fun w' h' => run_move q5 ((eval_other _ 39 4 _ (by decide)).trans ((eval_other _ 38 4 _ (by decide)).trans ((eval_other _ 37 4 _ (by decide)).trans ((eval_other _ 36 4 _ (by decide)).trans ((eval_other _ 35 4 _ (by decide)).trans base4))))) w') ?_
              refine Tr.takes po6 d6 (wanted_of gd6) (fun w' h' => run_ixI q6 ((eval_other _ 40 39 _ (by decide)).trans (eval_same _ _ _ (by simp only [put_size, hsz]; decide))) (eval_same _ _ _ (by simp only [put_size, hsz]; decide)) (by omega) w') ?_
              refine Tr.takes po7 d7 (wanted_of gd7) (fun w' h' => run_loadI q7 (eval_same _ _ _ (by simp only [put_size, hsz]; decide)) (h'.kn.at hlk HM.out)) ?_
              refine Tr.takes po8 d8 (wanted_of gd8) (fun w' h' => run_move q8 ((eval_other _ 42 2 _ (by decide)).trans ((eval_other _ 41 2 _ (by decide)).trans ((eval_other _ 40 2 _ (by decide)).trans ((eval_other _ 39 2 _ (by decide)).trans ((eval_other _ 38 2 _ (by decide)).trans ((eval_other _ 37 2 _ (by decide)).trans ((eval_other _ 36 2 _ (by decide)).trans ((eval_other _ 35 2 _ (by decide)).trans base2)))))))) w') ?_
              refine t_enter po9 d9 (wanted_of gd9) (run_callf1 q9 rfl (eval_same _ _ _ (by simp only [put_size, hsz]; decide)) Try.func9 (by kernel_rfl) _) (kitRow_any i _ (by omega)) ?_
              rintro e w10 ⟨v10, rfl, ho, hb⟩
              obtain ⟨p10, c10, rfl, hc10, -, hl10⟩ := ho.sl (kitRow_length i)
              have HK10 := Lib.hid (HK9.out.on hb)
              clear ho hb
              refine ⟨_, rfl, HK10.out, ?_⟩
              refine t_enter po10 d10 (wanted_of gd10) (run_callf3 q10 rfl ((eval_other _ 44 38 _ (by decide)).trans ((eval_other _ 43 38 _ (by decide)).trans ((eval_other _ 42 38 _ (by decide)).trans ((eval_other _ 41 38 _ (by decide)).trans ((eval_other _ 40 38 _ (by decide)).trans ((eval_other _ 39 38 _ (by decide)).trans (eval_same _ _ _ (by simp only [put_size, hsz]; decide)))))))) ((eval_other _ 44 42 _ (by decide)).trans ((eval_other _ 43 42 _ (by decide)).trans (eval_same _ _ _ (by simp only [put_size, hsz]; decide)))) (eval_same _ _ _ (by simp only [put_size, hsz]; decide)) Try.func11 (by kernel_rfl) _) (packMany_any n m (kitRow i) i c10 p10 w10 hnb (kitRow_length i) hc10 hl10) ?_
              rintro e w11 ⟨rfl, hb⟩
              have HK11 := Lib.hid (HK10.out.on hb)
              clear hb HK10 hl10
              refine ⟨_, rfl, HK11.out, ?_⟩
              refine Tr.takes po11 d11 (wanted_of gd11) (fun w' h' => r_not q11 (eval_same _ _ _ (by simp only [put_size, hsz]; decide)) w') ?_
              refine Tr.takes po12 d12 (wanted_of gd12) (fun w' h' => run_move q12 (eval_same _ _ _ (by simp only [put_size, hsz]; decide)) w') ?_
              refine Tr.takes po13 d13 (wanted_guardF gd13 po12 d12 (eval_same _ _ _ (by simp only [put_size, hsz]; decide))) (fun w' h' => run_move q13 ((eval_other _ 47 1 _ (by decide)).trans ((eval_other _ 46 1 _ (by decide)).trans ((eval_other _ 45 1 _ (by decide)).trans ((eval_other _ 44 1 _ (by decide)).trans ((eval_other _ 43 1 _ (by decide)).trans ((eval_other _ 42 1 _ (by decide)).trans ((eval_other _ 41 1 _ (by decide)).trans ((eval_other _ 40 1 _ (by decide)).trans ((eval_other _ 39 1 _ (by decide)).trans ((eval_other _ 38 1 _ (by decide)).trans ((eval_other _ 37 1 _ (by decide)).trans ((eval_other _ 36 1 _ (by decide)).trans ((eval_other _ 35 1 _ (by decide)).trans base1))))))))))))) w') ?_
              refine Tr.takes po14 d14 (wanted_guardF gd14 po12 d12 ((eval_other _ 48 47 _ (by decide)).trans (eval_same _ _ _ (by simp only [put_size, hsz]; decide)))) (fun w' h' => run_move q14 ((eval_other _ 48 2 _ (by decide)).trans ((eval_other _ 47 2 _ (by decide)).trans ((eval_other _ 46 2 _ (by decide)).trans ((eval_other _ 45 2 _ (by decide)).trans ((eval_other _ 44 2 _ (by decide)).trans ((eval_other _ 43 2 _ (by decide)).trans ((eval_other _ 42 2 _ (by decide)).trans ((eval_other _ 41 2 _ (by decide)).trans ((eval_other _ 40 2 _ (by decide)).trans ((eval_other _ 39 2 _ (by decide)).trans ((eval_other _ 38 2 _ (by decide)).trans ((eval_other _ 37 2 _ (by decide)).trans ((eval_other _ 36 2 _ (by decide)).trans ((eval_other _ 35 2 _ (by decide)).trans base2)))))))))))))) w') ?_
              refine Tr.takes po15 d15 (wanted_guardF gd15 po12 d12 ((eval_other _ 49 47 _ (by decide)).trans ((eval_other _ 48 47 _ (by decide)).trans (eval_same _ _ _ (by simp only [put_size, hsz]; decide))))) (fun w' h' => run_ixI q15 ((eval_other _ 49 48 _ (by decide)).trans (eval_same _ _ _ (by simp only [put_size, hsz]; decide))) (eval_same _ _ _ (by simp only [put_size, hsz]; decide)) (by omega) w') ?_
              refine Tr.takes po16 d16 (wanted_guardF gd16 po12 d12 ((eval_other _ 50 47 _ (by decide)).trans ((eval_other _ 49 47 _ (by decide)).trans ((eval_other _ 48 47 _ (by decide)).trans (eval_same _ _ _ (by simp only [put_size, hsz]; decide)))))) (fun w' h' => run_loadI q16 (eval_same _ _ _ (by simp only [put_size, hsz]; decide)) (h'.kn.at hlt HI.out)) ?_
              refine Tr.takes po18 d18 (wanted_guardF gd18 po12 d12 ((eval_other _ 51 47 _ (by decide)).trans ((eval_other _ 50 47 _ (by decide)).trans ((eval_other _ 49 47 _ (by decide)).trans ((eval_other _ 48 47 _ (by decide)).trans (eval_same _ _ _ (by simp only [put_size, hsz]; decide))))))) (fun w' h' => run_move q18 ((eval_other _ 51 4 _ (by decide)).trans ((eval_other _ 50 4 _ (by decide)).trans ((eval_other _ 49 4 _ (by decide)).trans ((eval_other _ 48 4 _ (by decide)).trans ((eval_other _ 47 4 _ (by decide)).trans ((eval_other _ 46 4 _ (by decide)).trans ((eval_other _ 45 4 _ (by decide)).trans ((eval_other _ 44 4 _ (by decide)).trans ((eval_other _ 43 4 _ (by decide)).trans ((eval_other _ 42 4 _ (by decide)).trans ((eval_other _ 41 4 _ (by decide)).trans ((eval_other _ 40 4 _ (by decide)).trans ((eval_other _ 39 4 _ (by decide)).trans ((eval_other _ 38 4 _ (by decide)).trans ((eval_other _ 37 4 _ (by decide)).trans ((eval_other _ 36 4 _ (by decide)).trans ((eval_other _ 35 4 _ (by decide)).trans base4))))))))))))))))) w') ?_
              refine Tr.takes po21 d21 (wanted_guardF gd21 po12 d12 ((eval_other _ 53 47 _ (by decide)).trans ((eval_other _ 51 47 _ (by decide)).trans ((eval_other _ 50 47 _ (by decide)).trans ((eval_other _ 49 47 _ (by decide)).trans ((eval_other _ 48 47 _ (by decide)).trans (eval_same _ _ _ (by simp only [put_size, hsz]; decide)))))))) (fun w' h' => run_move q21 ((eval_other _ 53 1 _ (by decide)).trans ((eval_other _ 51 1 _ (by decide)).trans ((eval_other _ 50 1 _ (by decide)).trans ((eval_other _ 49 1 _ (by decide)).trans ((eval_other _ 48 1 _ (by decide)).trans ((eval_other _ 47 1 _ (by decide)).trans ((eval_other _ 46 1 _ (by decide)).trans ((eval_other _ 45 1 _ (by decide)).trans ((eval_other _ 44 1 _ (by decide)).trans ((eval_other _ 43 1 _ (by decide)).trans ((eval_other _ 42 1 _ (by decide)).trans ((eval_other _ 41 1 _ (by decide)).trans ((eval_other _ 40 1 _ (by decide)).trans ((eval_other _ 39 1 _ (by decide)).trans ((eval_other _ 38 1 _ (by decide)).trans ((eval_other _ 37 1 _ (by decide)).trans ((eval_other _ 36 1 _ (by decide)).trans ((eval_other _ 35 1 _ (by decide)).trans base1)))))))))))))))))) w') ?_
              refine Tr.takes po22 d22 (wanted_guardF gd22 po12 d12 ((eval_other _ 56 47 _ (by decide)).trans ((eval_other _ 53 47 _ (by decide)).trans ((eval_other _ 51 47 _ (by decide)).trans ((eval_other _ 50 47 _ (by decide)).trans ((eval_other _ 49 47 _ (by decide)).trans ((eval_other _ 48 47 _ (by decide)).trans (eval_same _ _ _ (by simp only [put_size, hsz]; decide))))))))) (fun w' h' => run_move q22 ((eval_other _ 56 4 _ (by decide)).trans ((eval_other _ 53 4 _ (by decide)).trans ((eval_other _ 51 4 _ (by decide)).trans ((eval_other _ 50 4 _ (by decide)).trans ((eval_other _ 49 4 _ (by decide)).trans ((eval_other _ 48 4 _ (by decide)).trans ((eval_other _ 47 4 _ (by decide)).trans ((eval_other _ 46 4 _ (by decide)).trans ((eval_other _ 45 4 _ (by decide)).trans ((eval_other _ 44 4 _ (by decide)).trans ((eval_other _ 43 4 _ (by decide)).trans ((eval_other _ 42 4 _ (by decide)).trans ((eval_other _ 41 4 _ (by decide)).trans ((eval_other _ 40 4 _ (by decide)).trans ((eval_other _ 39 4 _ (by decide)).trans ((eval_other _ 38 4 _ (by decide)).trans ((eval_other _ 37 4 _ (by decide)).trans ((eval_other _ 36 4 _ (by decide)).trans ((eval_other _ 35 4 _ (by decide)).trans base4))))))))))))))))))) w') ?_
              refine Tr.takes po23 d23 (wanted_guardF gd23 po12 d12 ((eval_other _ 57 47 _ (by decide)).trans ((eval_other _ 56 47 _ (by decide)).trans ((eval_other _ 53 47 _ (by decide)).trans ((eval_other _ 51 47 _ (by decide)).trans ((eval_other _ 50 47 _ (by decide)).trans ((eval_other _ 49 47 _ (by decide)).trans ((eval_other _ 48 47 _ (by decide)).trans (eval_same _ _ _ (by simp only [put_size, hsz]; decide)))))))))) (fun w' h' => run_ixI q23 ((eval_other _ 57 56 _ (by decide)).trans (eval_same _ _ _ (by simp only [put_size, hsz]; decide))) (eval_same _ _ _ (by simp only [put_size, hsz]; decide)) (by omega) w') ?_
              refine Tr.takes po24 d24 (wanted_guardF gd24 po12 d12 ((eval_other _ 58 47 _ (by decide)).trans ((eval_other _ 57 47 _ (by decide)).trans ((eval_other _ 56 47 _ (by decide)).trans ((eval_other _ 53 47 _ (by decide)).trans ((eval_other _ 51 47 _ (by decide)).trans ((eval_other _ 50 47 _ (by decide)).trans ((eval_other _ 49 47 _ (by decide)).trans ((eval_other _ 48 47 _ (by decide)).trans (eval_same _ _ _ (by simp only [put_size, hsz]; decide))))))))))) (fun w' h' => run_loadI q24 (eval_same _ _ _ (by simp only [put_size, hsz]; decide)) (h'.kn.at hlk HM.out)) ?_
              refine Tr.takes po25 d25 (wanted_guardF gd25 po12 d12 ((eval_other _ 59 47 _ (by decide)).trans ((eval_other _ 58 47 _ (by decide)).trans ((eval_other _ 57 47 _ (by decide)).trans ((eval_other _ 56 47 _ (by decide)).trans ((eval_other _ 53 47 _ (by decide)).trans ((eval_other _ 51 47 _ (by decide)).trans ((eval_other _ 50 47 _ (by decide)).trans ((eval_other _ 49 47 _ (by decide)).trans ((eval_other _ 48 47 _ (by decide)).trans (eval_same _ _ _ (by simp only [put_size, hsz]; decide)))))))))))) (fun w' h' => run_builtE q25 (parts2 rfl (eval_same _ _ _ (by simp only [put_size, hsz]; decide)) (built_ask 3 m)) w') ?_
              refine Tr.takes po26 d26 (wanted_guardF gd26 po12 d12 ((eval_other _ 60 47 _ (by decide)).trans ((eval_other _ 59 47 _ (by decide)).trans ((eval_other _ 58 47 _ (by decide)).trans ((eval_other _ 57 47 _ (by decide)).trans ((eval_other _ 56 47 _ (by decide)).trans ((eval_other _ 53 47 _ (by decide)).trans ((eval_other _ 51 47 _ (by decide)).trans ((eval_other _ 50 47 _ (by decide)).trans ((eval_other _ 49 47 _ (by decide)).trans ((eval_other _ 48 47 _ (by decide)).trans (eval_same _ _ _ (by simp only [put_size, hsz]; decide))))))))))))) (fun w' h' => run_builtE q26 (parts2 rfl rfl (built_ask 0 0)) w') ?_
              refine Tr.takes po27 d27 (wanted_guardF gd27 po12 d12 ((eval_other _ 61 47 _ (by decide)).trans ((eval_other _ 60 47 _ (by decide)).trans ((eval_other _ 59 47 _ (by decide)).trans ((eval_other _ 58 47 _ (by decide)).trans ((eval_other _ 57 47 _ (by decide)).trans ((eval_other _ 56 47 _ (by decide)).trans ((eval_other _ 53 47 _ (by decide)).trans ((eval_other _ 51 47 _ (by decide)).trans ((eval_other _ 50 47 _ (by decide)).trans ((eval_other _ 49 47 _ (by decide)).trans ((eval_other _ 48 47 _ (by decide)).trans (eval_same _ _ _ (by simp only [put_size, hsz]; decide)))))))))))))) (fun w' h' => run_move q27 ((eval_other _ 61 1 _ (by decide)).trans ((eval_other _ 60 1 _ (by decide)).trans ((eval_other _ 59 1 _ (by decide)).trans ((eval_other _ 58 1 _ (by decide)).trans ((eval_other _ 57 1 _ (by decide)).trans ((eval_other _ 56 1 _ (by decide)).trans ((eval_other _ 53 1 _ (by decide)).trans ((eval_other _ 51 1 _ (by decide)).trans ((eval_other _ 50 1 _ (by decide)).trans ((eval_other _ 49 1 _ (by decide)).trans ((eval_other _ 48 1 _ (by decide)).trans ((eval_other _ 47 1 _ (by decide)).trans ((eval_other _ 46 1 _ (by decide)).trans ((eval_other _ 45 1 _ (by decide)).trans ((eval_other _ 44 1 _ (by decide)).trans ((eval_other _ 43 1 _ (by decide)).trans ((eval_other _ 42 1 _ (by decide)).trans ((eval_other _ 41 1 _ (by decide)).trans ((eval_other _ 40 1 _ (by decide)).trans ((eval_other _ 39 1 _ (by decide)).trans ((eval_other _ 38 1 _ (by decide)).trans ((eval_other _ 37 1 _ (by decide)).trans ((eval_other _ 36 1 _ (by decide)).trans ((eval_other _ 35 1 _ (by decide)).trans base1)))))))))))))))))))))))) w') ?_
              refine Tr.takes po28 d28 (wanted_guardF gd28 po12 d12 ((eval_other _ 62 47 _ (by decide)).trans ((eval_other _ 61 47 _ (by decide)).trans ((eval_other _ 60 47 _ (by decide)).trans ((eval_other _ 59 47 _ (by decide)).trans ((eval_other _ 58 47 _ (by decide)).trans ((eval_other _ 57 47 _ (by decide)).trans ((eval_other _ 56 47 _ (by decide)).trans ((eval_other _ 53 47 _ (by decide)).trans ((eval_other _ 51 47 _ (by decide)).trans ((eval_other _ 50 47 _ (by decide)).trans ((eval_other _ 49 47 _ (by decide)).trans ((eval_other _ 48 47 _ (by decide)).trans (eval_same _ _ _ (by simp only [put_size, hsz]; decide))))))))))))))) (fun w' h' => run_move q28 ((eval_other _ 62 2 _ (by decide)).trans ((eval_other _ 61 2 _ (by decide)).trans ((eval_other _ 60 2 _ (by decide)).trans ((eval_other _ 59 2 _ (by decide)).trans ((eval_other _ 58 2 _ (by decide)).trans ((eval_other _ 57 2 _ (by decide)).trans ((eval_other _ 56 2 _ (by decide)).trans ((eval_other _ 53 2 _ (by decide)).trans ((eval_other _ 51 2 _ (by decide)).trans ((eval_other _ 50 2 _ (by decide)).trans ((eval_other _ 49 2 _ (by decide)).trans ((eval_other _ 48 2 _ (by decide)).trans ((eval_other _ 47 2 _ (by decide)).trans ((eval_other _ 46 2 _ (by decide)).trans ((eval_other _ 45 2 _ (by decide)).trans ((eval_other _ 44 2 _ (by decide)).trans ((eval_other _ 43 2 _ (by decide)).trans ((eval_other _ 42 2 _ (by decide)).trans ((eval_other _ 41 2 _ (by decide)).trans ((eval_other _ 40 2 _ (by decide)).trans ((eval_other _ 39 2 _ (by decide)).trans ((eval_other _ 38 2 _ (by decide)).trans ((eval_other _ 37 2 _ (by decide)).trans ((eval_other _ 36 2 _ (by decide)).trans ((eval_other _ 35 2 _ (by decide)).trans base2))))))))))))))))))))))))) w') ?_
              refine Tr.takes po29 d29 (wanted_guardF gd29 po12 d12 ((eval_other _ 63 47 _ (by decide)).trans ((eval_other _ 62 47 _ (by decide)).trans ((eval_other _ 61 47 _ (by decide)).trans ((eval_other _ 60 47 _ (by decide)).trans ((eval_other _ 59 47 _ (by decide)).trans ((eval_other _ 58 47 _ (by decide)).trans ((eval_other _ 57 47 _ (by decide)).trans ((eval_other _ 56 47 _ (by decide)).trans ((eval_other _ 53 47 _ (by decide)).trans ((eval_other _ 51 47 _ (by decide)).trans ((eval_other _ 50 47 _ (by decide)).trans ((eval_other _ 49 47 _ (by decide)).trans ((eval_other _ 48 47 _ (by decide)).trans (eval_same _ _ _ (by simp only [put_size, hsz]; decide)))))))))))))))) (fun w' h' => run_ixI q29 ((eval_other _ 63 62 _ (by decide)).trans (eval_same _ _ _ (by simp only [put_size, hsz]; decide))) (eval_same _ _ _ (by simp only [put_size, hsz]; decide)) (by omega) w') ?_
              refine Tr.takes po30 d30 (wanted_guardF gd30 po12 d12 ((eval_other _ 64 47 _ (by decide)).trans ((eval_other _ 63 47 _ (by decide)).trans ((eval_other _ 62 47 _ (by decide)).trans ((eval_other _ 61 47 _ (by decide)).trans ((eval_other _ 60 47 _ (by decide)).trans ((eval_other _ 59 47 _ (by decide)).trans ((eval_other _ 58 47 _ (by decide)).trans ((eval_other _ 57 47 _ (by decide)).trans ((eval_other _ 56 47 _ (by decide)).trans ((eval_other _ 53 47 _ (by decide)).trans ((eval_other _ 51 47 _ (by decide)).trans ((eval_other _ 50 47 _ (by decide)).trans ((eval_other _ 49 47 _ (by decide)).trans ((eval_other _ 48 47 _ (by decide)).trans (eval_same _ _ _ (by simp only [put_size, hsz]; decide))))))))))))))))) (fun w' h' => run_loadI q30 (eval_same _ _ _ (by simp only [put_size, hsz]; decide)) (h'.kn.at hlt HI.out)) ?_
              refine Tr.takes po31 d31 (wanted_guardF gd31 po12 d12 ((eval_other _ 65 47 _ (by decide)).trans ((eval_other _ 64 47 _ (by decide)).trans ((eval_other _ 63 47 _ (by decide)).trans ((eval_other _ 62 47 _ (by decide)).trans ((eval_other _ 61 47 _ (by decide)).trans ((eval_other _ 60 47 _ (by decide)).trans ((eval_other _ 59 47 _ (by decide)).trans ((eval_other _ 58 47 _ (by decide)).trans ((eval_other _ 57 47 _ (by decide)).trans ((eval_other _ 56 47 _ (by decide)).trans ((eval_other _ 53 47 _ (by decide)).trans ((eval_other _ 51 47 _ (by decide)).trans ((eval_other _ 50 47 _ (by decide)).trans ((eval_other _ 49 47 _ (by decide)).trans ((eval_other _ 48 47 _ (by decide)).trans (eval_same _ _ _ (by simp only [put_size, hsz]; decide)))))))))))))))))) (fun w' h' => run_builtE q31 (parts2 rfl (eval_same _ _ _ (by simp only [put_size, hsz]; decide)) (built_ask 2 n)) w') ?_
              refine ⟨?_, ?_⟩
              · have _t := trivial
                refine t_enter po17 d17 (wanted_guardF gd17 po12 d12 ((eval_other _ 66 47 _ (by decide)).trans ((eval_other _ 65 47 _ (by decide)).trans ((eval_other _ 64 47 _ (by decide)).trans ((eval_other _ 63 47 _ (by decide)).trans ((eval_other _ 62 47 _ (by decide)).trans ((eval_other _ 61 47 _ (by decide)).trans ((eval_other _ 60 47 _ (by decide)).trans ((eval_other _ 59 47 _ (by decide)).trans ((eval_other _ 58 47 _ (by decide)).trans ((eval_other _ 57 47 _ (by decide)).trans ((eval_other _ 56 47 _ (by decide)).trans ((eval_other _ 53 47 _ (by decide)).trans ((eval_other _ 51 47 _ (by decide)).trans ((eval_other _ 50 47 _ (by decide)).trans ((eval_other _ 49 47 _ (by decide)).trans ((eval_other _ 48 47 _ (by decide)).trans (eval_same _ _ _ (by simp only [put_size, hsz]; decide))))))))))))))))))) (run_callf2 q17 rfl rfl ((eval_other _ 66 51 _ (by decide)).trans ((eval_other _ 65 51 _ (by decide)).trans ((eval_other _ 64 51 _ (by decide)).trans ((eval_other _ 63 51 _ (by decide)).trans ((eval_other _ 62 51 _ (by decide)).trans ((eval_other _ 61 51 _ (by decide)).trans ((eval_other _ 60 51 _ (by decide)).trans ((eval_other _ 59 51 _ (by decide)).trans ((eval_other _ 58 51 _ (by decide)).trans ((eval_other _ 57 51 _ (by decide)).trans ((eval_other _ 56 51 _ (by decide)).trans ((eval_other _ 53 51 _ (by decide)).trans (eval_same _ _ _ (by simp only [put_size, hsz]; decide)))))))))))))) Try.func13 (by kernel_rfl) _) (intP_any n [] 0 none 0 _ rfl (by omega) (Or.inl rfl)) ?_
                rintro e w13 ⟨v13, rfl, ho, hb⟩
                rw [List.nil_append] at ho
                obtain ⟨q13, k13, rfl, hc13, -, -⟩ := ho.sl (be8_length n)
                have HO13 := Lib.hid ho
                have HK13 := Lib.hid (HK11.out.on hb)
                have HB13 := Lib.hid hb
                clear ho hb
                refine ⟨_, rfl, HK13.out, ?_⟩
                refine ⟨?_, ?_⟩
                · have _t := trivial
                  refine t_enter po19 d19 (wanted_guardF gd19 po12 d12 ((eval_other _ 52 47 _ (by decide)).trans ((eval_other _ 66 47 _ (by decide)).trans ((eval_other _ 65 47 _ (by decide)).trans ((eval_other _ 64 47 _ (by decide)).trans ((eval_other _ 63 47 _ (by decide)).trans ((eval_other _ 62 47 _ (by decide)).trans ((eval_other _ 61 47 _ (by decide)).trans ((eval_other _ 60 47 _ (by decide)).trans ((eval_other _ 59 47 _ (by decide)).trans ((eval_other _ 58 47 _ (by decide)).trans ((eval_other _ 57 47 _ (by decide)).trans ((eval_other _ 56 47 _ (by decide)).trans ((eval_other _ 53 47 _ (by decide)).trans ((eval_other _ 51 47 _ (by decide)).trans ((eval_other _ 50 47 _ (by decide)).trans ((eval_other _ 49 47 _ (by decide)).trans ((eval_other _ 48 47 _ (by decide)).trans (eval_same _ _ _ (by simp only [put_size, hsz]; decide)))))))))))))))))))) (run_callf1 q19 rfl ((eval_other _ 52 53 _ (by decide)).trans ((eval_other _ 66 53 _ (by decide)).trans ((eval_other _ 65 53 _ (by decide)).trans ((eval_other _ 64 53 _ (by decide)).trans ((eval_other _ 63 53 _ (by decide)).trans ((eval_other _ 62 53 _ (by decide)).trans ((eval_other _ 61 53 _ (by decide)).trans ((eval_other _ 60 53 _ (by decide)).trans ((eval_other _ 59 53 _ (by decide)).trans ((eval_other _ 58 53 _ (by decide)).trans ((eval_other _ 57 53 _ (by decide)).trans ((eval_other _ 56 53 _ (by decide)).trans (eval_same _ _ _ (by simp only [put_size, hsz]; decide)))))))))))))) Try.func9 (by kernel_rfl) _) (kitRow_any k _ (by omega)) ?_
                  rintro e w14 ⟨v14, rfl, ho, hb⟩
                  obtain ⟨q14, k14, rfl, hc14, -, hl14⟩ := ho.sl (kitRow_length k)
                  have HL14 := Lib.hid hl14
                  have HK14 := Lib.hid (HK13.out.on hb)
                  have HO14 := Lib.hid (Own.below HO13.out hb)
                  have HB14 := Lib.hid (HB13.out.trans (hb.mono HB13.out.size))
                  clear ho hb hl14
                  refine ⟨_, rfl, HK14.out, ?_⟩
                  refine ⟨?_, ?_⟩
                  · have _t := trivial
                    refine t_append po20 d20 (wanted_guardF gd20 po12 d12 ((eval_other _ 54 47 _ (by decide)).trans ((eval_other _ 52 47 _ (by decide)).trans ((eval_other _ 66 47 _ (by decide)).trans ((eval_other _ 65 47 _ (by decide)).trans ((eval_other _ 64 47 _ (by decide)).trans ((eval_other _ 63 47 _ (by decide)).trans ((eval_other _ 62 47 _ (by decide)).trans ((eval_other _ 61 47 _ (by decide)).trans ((eval_other _ 60 47 _ (by decide)).trans ((eval_other _ 59 47 _ (by decide)).trans ((eval_other _ 58 47 _ (by decide)).trans ((eval_other _ 57 47 _ (by decide)).trans ((eval_other _ 56 47 _ (by decide)).trans ((eval_other _ 53 47 _ (by decide)).trans ((eval_other _ 51 47 _ (by decide)).trans ((eval_other _ 50 47 _ (by decide)).trans ((eval_other _ 49 47 _ (by decide)).trans ((eval_other _ 48 47 _ (by decide)).trans (eval_same _ _ _ (by simp only [put_size, hsz]; decide))))))))))))))))))))) q20 ((eval_other _ 54 52 _ (by decide)).trans (eval_same _ _ _ (by simp only [put_size, hsz]; decide))) (eval_same _ _ _ (by simp only [put_size, hsz]; decide)) w11.heap.size (be8 n) (kitRow k) HO14.out (kitRow_length k) HL14.out (by rw [be8_length]; omega) (by have := HB14.out.size; omega) ?_
                    intro v15 w15 ho15 hg15
                    obtain ⟨q15, k15, rfl, hc15, -, hl15⟩ := ho15.sl (show (be8 n ++ kitRow k).length = 8 + k by rw [List.length_append, be8_length, kitRow_length])
                    have hb15 : Below w11.heap.size w14 w15 := (Below.refl _ _).grown hg15 (by have := HB14.out.size; omega) (fun b e => (World.ownsRow.lt HO14.out b e).1)
                    have HB15 := Lib.hid (HB14.out.trans hb15)
                    have HK15 := Lib.hid (HK11.out.on HB15.out)
                    have HP15 := Lib.hid hl15
                    clear ho15 hg15 hb15 hl15
                    refine ⟨HK15.out, ?_⟩
                    refine at_op po32 d32 (wanted_guardF gd32 po12 d12 ((eval_other _ 55 47 _ (by decide)).trans ((eval_other _ 54 47 _ (by decide)).trans ((eval_other _ 52 47 _ (by decide)).trans ((eval_other _ 66 47 _ (by decide)).trans ((eval_other _ 65 47 _ (by decide)).trans ((eval_other _ 64 47 _ (by decide)).trans ((eval_other _ 63 47 _ (by decide)).trans ((eval_other _ 62 47 _ (by decide)).trans ((eval_other _ 61 47 _ (by decide)).trans ((eval_other _ 60 47 _ (by decide)).trans ((eval_other _ 59 47 _ (by decide)).trans ((eval_other _ 58 47 _ (by decide)).trans ((eval_other _ 57 47 _ (by decide)).trans ((eval_other _ 56 47 _ (by decide)).trans ((eval_other _ 53 47 _ (by decide)).trans ((eval_other _ 51 47 _ (by decide)).trans ((eval_other _ 50 47 _ (by decide)).trans ((eval_other _ 49 47 _ (by decide)).trans ((eval_other _ 48 47 _ (by decide)).trans (eval_same _ _ _ (by simp only [put_size, hsz]; decide)))))))))))))))))))))) (askE.run_three q32 ((eval_other _ 55 60 _ (by decide)).trans ((eval_other _ 54 60 _ (by decide)).trans ((eval_other _ 52 60 _ (by decide)).trans ((eval_other _ 66 60 _ (by decide)).trans ((eval_other _ 65 60 _ (by decide)).trans ((eval_other _ 64 60 _ (by decide)).trans ((eval_other _ 63 60 _ (by decide)).trans ((eval_other _ 62 60 _ (by decide)).trans ((eval_other _ 61 60 _ (by decide)).trans (eval_same _ _ _ (by simp only [put_size, hsz]; decide))))))))))) ((eval_other _ 55 61 _ (by decide)).trans ((eval_other _ 54 61 _ (by decide)).trans ((eval_other _ 52 61 _ (by decide)).trans ((eval_other _ 66 61 _ (by decide)).trans ((eval_other _ 65 61 _ (by decide)).trans ((eval_other _ 64 61 _ (by decide)).trans ((eval_other _ 63 61 _ (by decide)).trans ((eval_other _ 62 61 _ (by decide)).trans (eval_same _ _ _ (by simp only [put_size, hsz]; decide)))))))))) ((eval_other _ 55 66 _ (by decide)).trans ((eval_other _ 54 66 _ (by decide)).trans ((eval_other _ 52 66 _ (by decide)).trans (eval_same _ _ _ (by simp only [put_size, hsz]; decide))))) rfl rfl rfl _) ?_
                    have hb : Below w15.heap.size w15 (w15.alloc (.cells (#[Value.int .i64 3, Value.int .i64 m].toList ++ (#[Value.int .i64 0, Value.int .i64 0].toList ++ #[Value.int .i64 2, Value.int .i64 n].toList)).toArray 34)) := (Below.refl _ _).alloc (Nat.le_refl _) _
                    have HA16 := Lib.hid (ask_new w15 m n)
                    have hg16 : w15.heap.size = w15.heap.size := rfl
                    generalize w15.alloc _ = w16 at hb HA16 ⊢
                    have HK16 := Lib.hid (HK15.out.on hb)
                    have HP16 := Lib.hid (HP15.out.below hb)
                    clear hb
                    refine ⟨HK16.out, ?_⟩
                    refine t_enter po33 d33 (wanted_guardF gd33 po12 d12 ((eval_other _ 67 47 _ (by decide)).trans ((eval_other _ 55 47 _ (by decide)).trans ((eval_other _ 54 47 _ (by decide)).trans ((eval_other _ 52 47 _ (by decide)).trans ((eval_other _ 66 47 _ (by decide)).trans ((eval_other _ 65 47 _ (by decide)).trans ((eval_other _ 64 47 _ (by decide)).trans ((eval_other _ 63 47 _ (by decide)).trans ((eval_other _ 62 47 _ (by decide)).trans ((eval_other _ 61 47 _ (by decide)).trans ((eval_other _ 60 47 _ (by decide)).trans ((eval_other _ 59 47 _ (by decide)).trans ((eval_other _ 58 47 _ (by decide)).trans ((eval_other _ 57 47 _ (by decide)).trans ((eval_other _ 56 47 _ (by decide)).trans ((eval_other _ 53 47 _ (by decide)).trans ((eval_other _ 51 47 _ (by decide)).trans ((eval_other _ 50 47 _ (by decide)).trans ((eval_other _ 49 47 _ (by decide)).trans ((eval_other _ 48 47 _ (by decide)).trans (eval_same _ _ _ (by simp only [put_size, hsz]; decide))))))))))))))))))))))) (run_callf2 q33 rfl ((eval_other _ 67 55 _ (by decide)).trans (eval_same _ _ _ (by simp only [put_size, hsz]; decide))) (eval_same _ _ _ (by simp only [put_size, hsz]; decide)) Try.func12 (by kernel_rfl) _) (packReads_any (be8 n ++ kitRow k) [⟨3, m⟩, ⟨0, 0⟩, ⟨2, n⟩] (8 + k) 3 k15 3 q15 (some ⟨w15.heap.size, 0, none⟩) _ (by rw [List.length_append, be8_length, kitRow_length]) hc15 HP16.out rfl HA16.out.asks) ?_
                    rintro e w17 ⟨rfl, hb⟩
                    have HK17 := Lib.hid (HK16.out.on hb)
                    clear hb
                    refine ⟨_, rfl, HK17.out, ?_⟩
                    refine Tr.takes po34 d34 (wanted_guardF gd34 po12 d12 ((eval_other _ 68 47 _ (by decide)).trans ((eval_other _ 67 47 _ (by decide)).trans ((eval_other _ 55 47 _ (by decide)).trans ((eval_other _ 54 47 _ (by decide)).trans ((eval_other _ 52 47 _ (by decide)).trans ((eval_other _ 66 47 _ (by decide)).trans ((eval_other _ 65 47 _ (by decide)).trans ((eval_other _ 64 47 _ (by decide)).trans ((eval_other _ 63 47 _ (by decide)).trans ((eval_other _ 62 47 _ (by decide)).trans ((eval_other _ 61 47 _ (by decide)).trans ((eval_other _ 60 47 _ (by decide)).trans ((eval_other _ 59 47 _ (by decide)).trans ((eval_other _ 58 47 _ (by decide)).trans ((eval_other _ 57 47 _ (by decide)).trans ((eval_other _ 56 47 _ (by decide)).trans ((eval_other _ 53 47 _ (by decide)).trans ((eval_other _ 51 47 _ (by decide)).trans ((eval_other _ 50 47 _ (by decide)).trans ((eval_other _ 49 47 _ (by decide)).trans ((eval_other _ 48 47 _ (by decide)).trans (eval_same _ _ _ (by simp only [put_size, hsz]; decide)))))))))))))))))))))))) (fun w' h' => r_not q34 (eval_same _ _ _ (by simp only [put_size, hsz]; decide)) w') ?_
                    refine Tr.takes po35 d35 (wanted_of gd35) (fun w' h' => r_pickF q35 ((eval_other _ 69 47 _ (by decide)).trans ((eval_other _ 68 47 _ (by decide)).trans ((eval_other _ 67 47 _ (by decide)).trans ((eval_other _ 55 47 _ (by decide)).trans ((eval_other _ 54 47 _ (by decide)).trans ((eval_other _ 52 47 _ (by decide)).trans ((eval_other _ 66 47 _ (by decide)).trans ((eval_other _ 65 47 _ (by decide)).trans ((eval_other _ 64 47 _ (by decide)).trans ((eval_other _ 63 47 _ (by decide)).trans ((eval_other _ 62 47 _ (by decide)).trans ((eval_other _ 61 47 _ (by decide)).trans ((eval_other _ 60 47 _ (by decide)).trans ((eval_other _ 59 47 _ (by decide)).trans ((eval_other _ 58 47 _ (by decide)).trans ((eval_other _ 57 47 _ (by decide)).trans ((eval_other _ 56 47 _ (by decide)).trans ((eval_other _ 53 47 _ (by decide)).trans ((eval_other _ 51 47 _ (by decide)).trans ((eval_other _ 50 47 _ (by decide)).trans ((eval_other _ 49 47 _ (by decide)).trans ((eval_other _ 48 47 _ (by decide)).trans (eval_same _ _ _ (by simp only [put_size, hsz]; decide)))))))))))))))))))))))) (eval_same _ _ _ (by simp only [put_size, hsz]; decide)) w') ?_
                    show NoPanic _ .normal _ _
                    refine NoPanic.normal ?_
                    rw [HAA.out]
                    go_frame
                    clear HAA
                    go_wp2_with fail
                    go_meet
                    exact ⟨rfl, HK17.out⟩
                  · have _t := trivial
                    refine at_op po32 d32 (wanted_guardF gd32 po12 d12 ((eval_other _ 54 47 _ (by decide)).trans ((eval_other _ 52 47 _ (by decide)).trans ((eval_other _ 66 47 _ (by decide)).trans ((eval_other _ 65 47 _ (by decide)).trans ((eval_other _ 64 47 _ (by decide)).trans ((eval_other _ 63 47 _ (by decide)).trans ((eval_other _ 62 47 _ (by decide)).trans ((eval_other _ 61 47 _ (by decide)).trans ((eval_other _ 60 47 _ (by decide)).trans ((eval_other _ 59 47 _ (by decide)).trans ((eval_other _ 58 47 _ (by decide)).trans ((eval_other _ 57 47 _ (by decide)).trans ((eval_other _ 56 47 _ (by decide)).trans ((eval_other _ 53 47 _ (by decide)).trans ((eval_other _ 51 47 _ (by decide)).trans ((eval_other _ 50 47 _ (by decide)).trans ((eval_other _ 49 47 _ (by decide)).trans ((eval_other _ 48 47 _ (by decide)).trans (eval_same _ _ _ (by simp only [put_size, hsz]; decide))))))))))))))))))))) (askE.run_three q32 ((eval_other _ 54 60 _ (by decide)).trans ((eval_other _ 52 60 _ (by decide)).trans ((eval_other _ 66 60 _ (by decide)).trans ((eval_other _ 65 60 _ (by decide)).trans ((eval_other _ 64 60 _ (by decide)).trans ((eval_other _ 63 60 _ (by decide)).trans ((eval_other _ 62 60 _ (by decide)).trans ((eval_other _ 61 60 _ (by decide)).trans (eval_same _ _ _ (by simp only [put_size, hsz]; decide)))))))))) ((eval_other _ 54 61 _ (by decide)).trans ((eval_other _ 52 61 _ (by decide)).trans ((eval_other _ 66 61 _ (by decide)).trans ((eval_other _ 65 61 _ (by decide)).trans ((eval_other _ 64 61 _ (by decide)).trans ((eval_other _ 63 61 _ (by decide)).trans ((eval_other _ 62 61 _ (by decide)).trans (eval_same _ _ _ (by simp only [put_size, hsz]; decide))))))))) ((eval_other _ 54 66 _ (by decide)).trans ((eval_other _ 52 66 _ (by decide)).trans (eval_same _ _ _ (by simp only [put_size, hsz]; decide)))) rfl rfl rfl _) ?_
                    have hb : Below w14.heap.size w14 (w14.alloc (.cells (#[Value.int .i64 3, Value.int .i64 m].toList ++ (#[Value.int .i64 0, Value.int .i64 0].toList ++ #[Value.int .i64 2, Value.int .i64 n].toList)).toArray 34)) := (Below.refl _ _).alloc (Nat.le_refl _) _
                    have HA18 := Lib.hid (ask_new w14 m n)
                    have hg18 : w14.heap.size = w14.heap.size := rfl
                    generalize w14.alloc _ = w18 at hb HA18 ⊢
                    have HK18 := Lib.hid (HK14.out.on hb)
                    have HO18 := Lib.hid (Own.below HO14.out hb)
                    have HB18 := Lib.hid (HB14.out.trans (hb.mono HB14.out.size))
                    have HL18 := Lib.hid (HL14.out.below hb)
                    have HNE18 : Hid (∀ b, (Value.slice q13 8 k13).ownBlock = some b → b ≠ w14.heap.size) := show ∀ b, _ → _ from fun b e => by have := (World.ownsRow.lt HO14.out b e).2; omega
                    clear hb
                    refine ⟨HK18.out, ?_⟩
                    refine t_append po20 d20 (wanted_guardF gd20 po12 d12 ((eval_other _ 67 47 _ (by decide)).trans ((eval_other _ 54 47 _ (by decide)).trans ((eval_other _ 52 47 _ (by decide)).trans ((eval_other _ 66 47 _ (by decide)).trans ((eval_other _ 65 47 _ (by decide)).trans ((eval_other _ 64 47 _ (by decide)).trans ((eval_other _ 63 47 _ (by decide)).trans ((eval_other _ 62 47 _ (by decide)).trans ((eval_other _ 61 47 _ (by decide)).trans ((eval_other _ 60 47 _ (by decide)).trans ((eval_other _ 59 47 _ (by decide)).trans ((eval_other _ 58 47 _ (by decide)).trans ((eval_other _ 57 47 _ (by decide)).trans ((eval_other _ 56 47 _ (by decide)).trans ((eval_other _ 53 47 _ (by decide)).trans ((eval_other _ 51 47 _ (by decide)).trans ((eval_other _ 50 47 _ (by decide)).trans ((eval_other _ 49 47 _ (by decide)).trans ((eval_other _ 48 47 _ (by decide)).trans (eval_same _ _ _ (by simp only [put_size, hsz]; decide)))))))))))))))))))))) q20 ((eval_other _ 67 52 _ (by decide)).trans ((eval_other _ 54 52 _ (by decide)).trans (eval_same _ _ _ (by simp only [put_size, hsz]; decide)))) ((eval_other _ 67 54 _ (by decide)).trans (eval_same _ _ _ (by simp only [put_size, hsz]; decide))) w11.heap.size (be8 n) (kitRow k) HO18.out (kitRow_length k) HL18.out (by rw [be8_length]; omega) (by have := HB18.out.size; omega) ?_
                    intro v19 w19 ho19 hg19
                    obtain ⟨q19, k19, rfl, hc19, -, hl19⟩ := ho19.sl (show (be8 n ++ kitRow k).length = 8 + k by rw [List.length_append, be8_length, kitRow_length])
                    have hb19 : Below w11.heap.size w18 w19 := (Below.refl _ _).grown hg19 (by have := HB18.out.size; omega) (fun b e => (World.ownsRow.lt HO18.out b e).1)
                    have HB19 := Lib.hid (HB18.out.trans hb19)
                    have HK19 := Lib.hid (HK11.out.on HB19.out)
                    have HP19 := Lib.hid hl19
                    have HA19 := Lib.hid (HA18.out.grown hg19 (fun e => HNE18.out _ e.symm rfl))
                    clear ho19 hg19 hb19 hl19
                    refine ⟨HK19.out, ?_⟩
                    refine t_enter po33 d33 (wanted_guardF gd33 po12 d12 ((eval_other _ 55 47 _ (by decide)).trans ((eval_other _ 67 47 _ (by decide)).trans ((eval_other _ 54 47 _ (by decide)).trans ((eval_other _ 52 47 _ (by decide)).trans ((eval_other _ 66 47 _ (by decide)).trans ((eval_other _ 65 47 _ (by decide)).trans ((eval_other _ 64 47 _ (by decide)).trans ((eval_other _ 63 47 _ (by decide)).trans ((eval_other _ 62 47 _ (by decide)).trans ((eval_other _ 61 47 _ (by decide)).trans ((eval_other _ 60 47 _ (by decide)).trans ((eval_other _ 59 47 _ (by decide)).trans ((eval_other _ 58 47 _ (by decide)).trans ((eval_other _ 57 47 _ (by decide)).trans ((eval_other _ 56 47 _ (by decide)).trans ((eval_other _ 53 47 _ (by decide)).trans ((eval_other _ 51 47 _ (by decide)).trans ((eval_other _ 50 47 _ (by decide)).trans ((eval_other _ 49 47 _ (by decide)).trans ((eval_other _ 48 47 _ (by decide)).trans (eval_same _ _ _ (by simp only [put_size, hsz]; decide))))))))))))))))))))))) (run_callf2 q33 rfl (eval_same _ _ _ (by simp only [put_size, hsz]; decide)) ((eval_other _ 55 67 _ (by decide)).trans (eval_same _ _ _ (by simp only [put_size, hsz]; decide))) Try.func12 (by kernel_rfl) _) (packReads_any (be8 n ++ kitRow k) [⟨3, m⟩, ⟨0, 0⟩, ⟨2, n⟩] (8 + k) 3 k19 3 q19 (some ⟨w14.heap.size, 0, none⟩) _ (by rw [List.length_append, be8_length, kitRow_length]) hc19 HP19.out rfl HA19.out.asks) ?_
                    rintro e w20 ⟨rfl, hb⟩
                    have HK20 := Lib.hid (HK19.out.on hb)
                    clear hb
                    refine ⟨_, rfl, HK20.out, ?_⟩
                    refine Tr.takes po34 d34 (wanted_guardF gd34 po12 d12 ((eval_other _ 68 47 _ (by decide)).trans ((eval_other _ 55 47 _ (by decide)).trans ((eval_other _ 67 47 _ (by decide)).trans ((eval_other _ 54 47 _ (by decide)).trans ((eval_other _ 52 47 _ (by decide)).trans ((eval_other _ 66 47 _ (by decide)).trans ((eval_other _ 65 47 _ (by decide)).trans ((eval_other _ 64 47 _ (by decide)).trans ((eval_other _ 63 47 _ (by decide)).trans ((eval_other _ 62 47 _ (by decide)).trans ((eval_other _ 61 47 _ (by decide)).trans ((eval_other _ 60 47 _ (by decide)).trans ((eval_other _ 59 47 _ (by decide)).trans ((eval_other _ 58 47 _ (by decide)).trans ((eval_other _ 57 47 _ (by decide)).trans ((eval_other _ 56 47 _ (by decide)).trans ((eval_other _ 53 47 _ (by decide)).trans ((eval_other _ 51 47 _ (by decide)).trans ((eval_other _ 50 47 _ (by decide)).trans ((eval_other _ 49 47 _ (by decide)).trans ((eval_other _ 48 47 _ (by decide)).trans (eval_same _ _ _ (by simp only [put_size, hsz]; decide)))))))))))))))))))))))) (fun w' h' => r_not q34 (eval_same _ _ _ (by simp only [put_size, hsz]; decide)) w') ?_
                    refine Tr.takes po35 d35 (wanted_of gd35) (fun w' h' => r_pickF q35 ((eval_other _ 69 47 _ (by decide)).trans ((eval_other _ 68 47 _ (by decide)).trans ((eval_other _ 55 47 _ (by decide)).trans ((eval_other _ 67 47 _ (by decide)).trans ((eval_other _ 54 47 _ (by decide)).trans ((eval_other _ 52 47 _ (by decide)).trans ((eval_other _ 66 47 _ (by decide)).trans ((eval_other _ 65 47 _ (by decide)).trans ((eval_other _ 64 47 _ (by decide)).trans ((eval_other _ 63 47 _ (by decide)).trans ((eval_other _ 62 47 _ (by decide)).trans ((eval_other _ 61 47 _ (by decide)).trans ((eval_other _ 60 47 _ (by decide)).trans ((eval_other _ 59 47 _ (by decide)).trans ((eval_other _ 58 47 _ (by decide)).trans ((eval_other _ 57 47 _ (by decide)).trans ((eval_other _ 56 47 _ (by decide)).trans ((eval_other _ 53 47 _ (by decide)).trans ((eval_other _ 51 47 _ (by decide)).trans ((eval_other _ 50 47 _ (by decide)).trans ((eval_other _ 49 47 _ (by decide)).trans ((eval_other _ 48 47 _ (by decide)).trans (eval_same _ _ _ (by simp only [put_size, hsz]; decide)))))))))))))))))))))))) (eval_same _ _ _ (by simp only [put_size, hsz]; decide)) w') ?_
                    show NoPanic _ .normal _ _
                    refine NoPanic.normal ?_
                    rw [HAA.out]
                    go_frame
                    clear HAA
                    go_wp2_with fail
                    go_meet
                    exact ⟨rfl, HK20.out⟩
                · have _t := trivial
                  refine at_op po32 d32 (wanted_guardF gd32 po12 d12 ((eval_other _ 52 47 _ (by decide)).trans ((eval_other _ 66 47 _ (by decide)).trans ((eval_other _ 65 47 _ (by decide)).trans ((eval_other _ 64 47 _ (by decide)).trans ((eval_other _ 63 47 _ (by decide)).trans ((eval_other _ 62 47 _ (by decide)).trans ((eval_other _ 61 47 _ (by decide)).trans ((eval_other _ 60 47 _ (by decide)).trans ((eval_other _ 59 47 _ (by decide)).trans ((eval_other _ 58 47 _ (by decide)).trans ((eval_other _ 57 47 _ (by decide)).trans ((eval_other _ 56 47 _ (by decide)).trans ((eval_other _ 53 47 _ (by decide)).trans ((eval_other _ 51 47 _ (by decide)).trans ((eval_other _ 50 47 _ (by decide)).trans ((eval_other _ 49 47 _ (by decide)).trans ((eval_other _ 48 47 _ (by decide)).trans (eval_same _ _ _ (by simp only [put_size, hsz]; decide)))))))))))))))))))) (askE.run_three q32 ((eval_other _ 52 60 _ (by decide)).trans ((eval_other _ 66 60 _ (by decide)).trans ((eval_other _ 65 60 _ (by decide)).trans ((eval_other _ 64 60 _ (by decide)).trans ((eval_other _ 63 60 _ (by decide)).trans ((eval_other _ 62 60 _ (by decide)).trans ((eval_other _ 61 60 _ (by decide)).trans (eval_same _ _ _ (by simp only [put_size, hsz]; decide))))))))) ((eval_other _ 52 61 _ (by decide)).trans ((eval_other _ 66 61 _ (by decide)).trans ((eval_other _ 65 61 _ (by decide)).trans ((eval_other _ 64 61 _ (by decide)).trans ((eval_other _ 63 61 _ (by decide)).trans ((eval_other _ 62 61 _ (by decide)).trans (eval_same _ _ _ (by simp only [put_size, hsz]; decide)))))))) ((eval_other _ 52 66 _ (by decide)).trans (eval_same _ _ _ (by simp only [put_size, hsz]; decide))) rfl rfl rfl _) ?_
                  have hb : Below w13.heap.size w13 (w13.alloc (.cells (#[Value.int .i64 3, Value.int .i64 m].toList ++ (#[Value.int .i64 0, Value.int .i64 0].toList ++ #[Value.int .i64 2, Value.int .i64 n].toList)).toArray 34)) := (Below.refl _ _).alloc (Nat.le_refl _) _
                  have HA21 := Lib.hid (ask_new w13 m n)
                  have hg21 : w13.heap.size = w13.heap.size := rfl
                  generalize w13.alloc _ = w21 at hb HA21 ⊢
                  have HK21 := Lib.hid (HK13.out.on hb)
                  have HO21 := Lib.hid (Own.below HO13.out hb)
                  have HB21 := Lib.hid (HB13.out.trans (hb.mono HB13.out.size))
                  have HNE21 : Hid (∀ b, (Value.slice q13 8 k13).ownBlock = some b → b ≠ w13.heap.size) := show ∀ b, _ → _ from fun b e => by have := (World.ownsRow.lt HO13.out b e).2; omega
                  clear hb
                  refine ⟨HK21.out, ?_⟩
                  refine t_enter po19 d19 (wanted_guardF gd19 po12 d12 ((eval_other _ 67 47 _ (by decide)).trans ((eval_other _ 52 47 _ (by decide)).trans ((eval_other _ 66 47 _ (by decide)).trans ((eval_other _ 65 47 _ (by decide)).trans ((eval_other _ 64 47 _ (by decide)).trans ((eval_other _ 63 47 _ (by decide)).trans ((eval_other _ 62 47 _ (by decide)).trans ((eval_other _ 61 47 _ (by decide)).trans ((eval_other _ 60 47 _ (by decide)).trans ((eval_other _ 59 47 _ (by decide)).trans ((eval_other _ 58 47 _ (by decide)).trans ((eval_other _ 57 47 _ (by decide)).trans ((eval_other _ 56 47 _ (by decide)).trans ((eval_other _ 53 47 _ (by decide)).trans ((eval_other _ 51 47 _ (by decide)).trans ((eval_other _ 50 47 _ (by decide)).trans ((eval_other _ 49 47 _ (by decide)).trans ((eval_other _ 48 47 _ (by decide)).trans (eval_same _ _ _ (by simp only [put_size, hsz]; decide))))))))))))))))))))) (run_callf1 q19 rfl ((eval_other _ 67 53 _ (by decide)).trans ((eval_other _ 52 53 _ (by decide)).trans ((eval_other _ 66 53 _ (by decide)).trans ((eval_other _ 65 53 _ (by decide)).trans ((eval_other _ 64 53 _ (by decide)).trans ((eval_other _ 63 53 _ (by decide)).trans ((eval_other _ 62 53 _ (by decide)).trans ((eval_other _ 61 53 _ (by decide)).trans ((eval_other _ 60 53 _ (by decide)).trans ((eval_other _ 59 53 _ (by decide)).trans ((eval_other _ 58 53 _ (by decide)).trans ((eval_other _ 57 53 _ (by decide)).trans ((eval_other _ 56 53 _ (by decide)).trans (eval_same _ _ _ (by simp only [put_size, hsz]; decide))))))))))))))) Try.func9 (by kernel_rfl) _) (kitRow_any k _ (by omega)) ?_
                  rintro e w22 ⟨v22, rfl, ho, hb⟩
                  obtain ⟨q22, k22, rfl, hc22, -, hl22⟩ := ho.sl (kitRow_length k)
                  have HL22 := Lib.hid hl22
                  have HK22 := Lib.hid (HK21.out.on hb)
                  have HO22 := Lib.hid (Own.below HO21.out hb)
                  have HB22 := Lib.hid (HB21.out.trans (hb.mono HB21.out.size))
                  have HA22 := Lib.hid (HA21.out.below hb)
                  clear ho hb hl22
                  refine ⟨_, rfl, HK22.out, ?_⟩
                  refine t_append po20 d20 (wanted_guardF gd20 po12 d12 ((eval_other _ 54 47 _ (by decide)).trans ((eval_other _ 67 47 _ (by decide)).trans ((eval_other _ 52 47 _ (by decide)).trans ((eval_other _ 66 47 _ (by decide)).trans ((eval_other _ 65 47 _ (by decide)).trans ((eval_other _ 64 47 _ (by decide)).trans ((eval_other _ 63 47 _ (by decide)).trans ((eval_other _ 62 47 _ (by decide)).trans ((eval_other _ 61 47 _ (by decide)).trans ((eval_other _ 60 47 _ (by decide)).trans ((eval_other _ 59 47 _ (by decide)).trans ((eval_other _ 58 47 _ (by decide)).trans ((eval_other _ 57 47 _ (by decide)).trans ((eval_other _ 56 47 _ (by decide)).trans ((eval_other _ 53 47 _ (by decide)).trans ((eval_other _ 51 47 _ (by decide)).trans ((eval_other _ 50 47 _ (by decide)).trans ((eval_other _ 49 47 _ (by decide)).trans ((eval_other _ 48 47 _ (by decide)).trans (eval_same _ _ _ (by simp only [put_size, hsz]; decide)))))))))))))))))))))) q20 ((eval_other _ 54 52 _ (by decide)).trans ((eval_other _ 67 52 _ (by decide)).trans (eval_same _ _ _ (by simp only [put_size, hsz]; decide)))) (eval_same _ _ _ (by simp only [put_size, hsz]; decide)) w11.heap.size (be8 n) (kitRow k) HO22.out (kitRow_length k) HL22.out (by rw [be8_length]; omega) (by have := HB22.out.size; omega) ?_
                  intro v23 w23 ho23 hg23
                  obtain ⟨q23, k23, rfl, hc23, -, hl23⟩ := ho23.sl (show (be8 n ++ kitRow k).length = 8 + k by rw [List.length_append, be8_length, kitRow_length])
                  have hb23 : Below w11.heap.size w22 w23 := (Below.refl _ _).grown hg23 (by have := HB22.out.size; omega) (fun b e => (World.ownsRow.lt HO22.out b e).1)
                  have HB23 := Lib.hid (HB22.out.trans hb23)
                  have HK23 := Lib.hid (HK11.out.on HB23.out)
                  have HP23 := Lib.hid hl23
                  have HA23 := Lib.hid (HA22.out.grown hg23 (fun e => HNE21.out _ e.symm rfl))
                  clear ho23 hg23 hb23 hl23
                  refine ⟨HK23.out, ?_⟩
                  refine t_enter po33 d33 (wanted_guardF gd33 po12 d12 ((eval_other _ 55 47 _ (by decide)).trans ((eval_other _ 54 47 _ (by decide)).trans ((eval_other _ 67 47 _ (by decide)).trans ((eval_other _ 52 47 _ (by decide)).trans ((eval_other _ 66 47 _ (by decide)).trans ((eval_other _ 65 47 _ (by decide)).trans ((eval_other _ 64 47 _ (by decide)).trans ((eval_other _ 63 47 _ (by decide)).trans ((eval_other _ 62 47 _ (by decide)).trans ((eval_other _ 61 47 _ (by decide)).trans ((eval_other _ 60 47 _ (by decide)).trans ((eval_other _ 59 47 _ (by decide)).trans ((eval_other _ 58 47 _ (by decide)).trans ((eval_other _ 57 47 _ (by decide)).trans ((eval_other _ 56 47 _ (by decide)).trans ((eval_other _ 53 47 _ (by decide)).trans ((eval_other _ 51 47 _ (by decide)).trans ((eval_other _ 50 47 _ (by decide)).trans ((eval_other _ 49 47 _ (by decide)).trans ((eval_other _ 48 47 _ (by decide)).trans (eval_same _ _ _ (by simp only [put_size, hsz]; decide))))))))))))))))))))))) (run_callf2 q33 rfl (eval_same _ _ _ (by simp only [put_size, hsz]; decide)) ((eval_other _ 55 67 _ (by decide)).trans ((eval_other _ 54 67 _ (by decide)).trans (eval_same _ _ _ (by simp only [put_size, hsz]; decide)))) Try.func12 (by kernel_rfl) _) (packReads_any (be8 n ++ kitRow k) [⟨3, m⟩, ⟨0, 0⟩, ⟨2, n⟩] (8 + k) 3 k23 3 q23 (some ⟨w13.heap.size, 0, none⟩) _ (by rw [List.length_append, be8_length, kitRow_length]) hc23 HP23.out rfl HA23.out.asks) ?_
                  rintro e w24 ⟨rfl, hb⟩
                  have HK24 := Lib.hid (HK23.out.on hb)
                  clear hb
                  refine ⟨_, rfl, HK24.out, ?_⟩
                  refine Tr.takes po34 d34 (wanted_guardF gd34 po12 d12 ((eval_other _ 68 47 _ (by decide)).trans ((eval_other _ 55 47 _ (by decide)).trans ((eval_other _ 54 47 _ (by decide)).trans ((eval_other _ 67 47 _ (by decide)).trans ((eval_other _ 52 47 _ (by decide)).trans ((eval_other _ 66 47 _ (by decide)).trans ((eval_other _ 65 47 _ (by decide)).trans ((eval_other _ 64 47 _ (by decide)).trans ((eval_other _ 63 47 _ (by decide)).trans ((eval_other _ 62 47 _ (by decide)).trans ((eval_other _ 61 47 _ (by decide)).trans ((eval_other _ 60 47 _ (by decide)).trans ((eval_other _ 59 47 _ (by decide)).trans ((eval_other _ 58 47 _ (by decide)).trans ((eval_other _ 57 47 _ (by decide)).trans ((eval_other _ 56 47 _ (by decide)).trans ((eval_other _ 53 47 _ (by decide)).trans ((eval_other _ 51 47 _ (by decide)).trans ((eval_other _ 50 47 _ (by decide)).trans ((eval_other _ 49 47 _ (by decide)).trans ((eval_other _ 48 47 _ (by decide)).trans (eval_same _ _ _ (by simp only [put_size, hsz]; decide)))))))))))))))))))))))) (fun w' h' => r_not q34 (eval_same _ _ _ (by simp only [put_size, hsz]; decide)) w') ?_
                  refine Tr.takes po35 d35 (wanted_of gd35) (fun w' h' => r_pickF q35 ((eval_other _ 69 47 _ (by decide)).trans ((eval_other _ 68 47 _ (by decide)).trans ((eval_other _ 55 47 _ (by decide)).trans ((eval_other _ 54 47 _ (by decide)).trans ((eval_other _ 67 47 _ (by decide)).trans ((eval_other _ 52 47 _ (by decide)).trans ((eval_other _ 66 47 _ (by decide)).trans ((eval_other _ 65 47 _ (by decide)).trans ((eval_other _ 64 47 _ (by decide)).trans ((eval_other _ 63 47 _ (by decide)).trans ((eval_other _ 62 47 _ (by decide)).trans ((eval_other _ 61 47 _ (by decide)).trans ((eval_other _ 60 47 _ (by decide)).trans ((eval_other _ 59 47 _ (by decide)).trans ((eval_other _ 58 47 _ (by decide)).trans ((eval_other _ 57 47 _ (by decide)).trans ((eval_other _ 56 47 _ (by decide)).trans ((eval_other _ 53 47 _ (by decide)).trans ((eval_other _ 51 47 _ (by decide)).trans ((eval_other _ 50 47 _ (by decide)).trans ((eval_other _ 49 47 _ (by decide)).trans ((eval_other _ 48 47 _ (by decide)).trans (eval_same _ _ _ (by simp only [put_size, hsz]; decide)))))))))))))))))))))))) (eval_same _ _ _ (by simp only [put_size, hsz]; decide)) w') ?_
                  show NoPanic _ .normal _ _
                  refine NoPanic.normal ?_
                  rw [HAA.out]
                  go_frame
                  clear HAA
                  go_wp2_with fail
                  go_meet
                  exact ⟨rfl, HK24.out⟩
              · have _t := trivial
                refine at_op po32 d32 (wanted_guardF gd32 po12 d12 ((eval_other _ 66 47 _ (by decide)).trans ((eval_other _ 65 47 _ (by decide)).trans ((eval_other _ 64 47 _ (by decide)).trans ((eval_other _ 63 47 _ (by decide)).trans ((eval_other _ 62 47 _ (by decide)).trans ((eval_other _ 61 47 _ (by decide)).trans ((eval_other _ 60 47 _ (by decide)).trans ((eval_other _ 59 47 _ (by decide)).trans ((eval_other _ 58 47 _ (by decide)).trans ((eval_other _ 57 47 _ (by decide)).trans ((eval_other _ 56 47 _ (by decide)).trans ((eval_other _ 53 47 _ (by decide)).trans ((eval_other _ 51 47 _ (by decide)).trans ((eval_other _ 50 47 _ (by decide)).trans ((eval_other _ 49 47 _ (by decide)).trans ((eval_other _ 48 47 _ (by decide)).trans (eval_same _ _ _ (by simp only [put_size, hsz]; decide))))))))))))))))))) (askE.run_three q32 ((eval_other _ 66 60 _ (by decide)).trans ((eval_other _ 65 60 _ (by decide)).trans ((eval_other _ 64 60 _ (by decide)).trans ((eval_other _ 63 60 _ (by decide)).trans ((eval_other _ 62 60 _ (by decide)).trans ((eval_other _ 61 60 _ (by decide)).trans (eval_same _ _ _ (by simp only [put_size, hsz]; decide)))))))) ((eval_other _ 66 61 _ (by decide)).trans ((eval_other _ 65 61 _ (by decide)).trans ((eval_other _ 64 61 _ (by decide)).trans ((eval_other _ 63 61 _ (by decide)).trans ((eval_other _ 62 61 _ (by decide)).trans (eval_same _ _ _ (by simp only [put_size, hsz]; decide))))))) (eval_same _ _ _ (by simp only [put_size, hsz]; decide)) rfl rfl rfl _) ?_
                have hb : Below w11.heap.size w11 (w11.alloc (.cells (#[Value.int .i64 3, Value.int .i64 m].toList ++ (#[Value.int .i64 0, Value.int .i64 0].toList ++ #[Value.int .i64 2, Value.int .i64 n].toList)).toArray 34)) := (Below.refl _ _).alloc (Nat.le_refl _) _
                have HA25 := Lib.hid (ask_new w11 m n)
                have hg25 : w11.heap.size = w11.heap.size := rfl
                generalize w11.alloc _ = w25 at hb HA25 ⊢
                have HK25 := Lib.hid (HK11.out.on hb)
                clear hb
                refine ⟨HK25.out, ?_⟩
                refine t_enter po17 d17 (wanted_guardF gd17 po12 d12 ((eval_other _ 67 47 _ (by decide)).trans ((eval_other _ 66 47 _ (by decide)).trans ((eval_other _ 65 47 _ (by decide)).trans ((eval_other _ 64 47 _ (by decide)).trans ((eval_other _ 63 47 _ (by decide)).trans ((eval_other _ 62 47 _ (by decide)).trans ((eval_other _ 61 47 _ (by decide)).trans ((eval_other _ 60 47 _ (by decide)).trans ((eval_other _ 59 47 _ (by decide)).trans ((eval_other _ 58 47 _ (by decide)).trans ((eval_other _ 57 47 _ (by decide)).trans ((eval_other _ 56 47 _ (by decide)).trans ((eval_other _ 53 47 _ (by decide)).trans ((eval_other _ 51 47 _ (by decide)).trans ((eval_other _ 50 47 _ (by decide)).trans ((eval_other _ 49 47 _ (by decide)).trans ((eval_other _ 48 47 _ (by decide)).trans (eval_same _ _ _ (by simp only [put_size, hsz]; decide)))))))))))))))))))) (run_callf2 q17 rfl rfl ((eval_other _ 67 51 _ (by decide)).trans ((eval_other _ 66 51 _ (by decide)).trans ((eval_other _ 65 51 _ (by decide)).trans ((eval_other _ 64 51 _ (by decide)).trans ((eval_other _ 63 51 _ (by decide)).trans ((eval_other _ 62 51 _ (by decide)).trans ((eval_other _ 61 51 _ (by decide)).trans ((eval_other _ 60 51 _ (by decide)).trans ((eval_other _ 59 51 _ (by decide)).trans ((eval_other _ 58 51 _ (by decide)).trans ((eval_other _ 57 51 _ (by decide)).trans ((eval_other _ 56 51 _ (by decide)).trans ((eval_other _ 53 51 _ (by decide)).trans (eval_same _ _ _ (by simp only [put_size, hsz]; decide))))))))))))))) Try.func13 (by kernel_rfl) _) (intP_any n [] 0 none 0 _ rfl (by omega) (Or.inl rfl)) ?_
                rintro e w26 ⟨v26, rfl, ho, hb⟩
                rw [List.nil_append] at ho
                obtain ⟨q26, k26, rfl, hc26, -, -⟩ := ho.sl (be8_length n)
                have HO26 := Lib.hid ho
                have HK26 := Lib.hid (HK25.out.on hb)
                have HA26 := Lib.hid (HA25.out.below hb)
                have HB26 := Lib.hid hb
                clear ho hb
                refine ⟨_, rfl, HK26.out, ?_⟩
                refine t_enter po19 d19 (wanted_guardF gd19 po12 d12 ((eval_other _ 52 47 _ (by decide)).trans ((eval_other _ 67 47 _ (by decide)).trans ((eval_other _ 66 47 _ (by decide)).trans ((eval_other _ 65 47 _ (by decide)).trans ((eval_other _ 64 47 _ (by decide)).trans ((eval_other _ 63 47 _ (by decide)).trans ((eval_other _ 62 47 _ (by decide)).trans ((eval_other _ 61 47 _ (by decide)).trans ((eval_other _ 60 47 _ (by decide)).trans ((eval_other _ 59 47 _ (by decide)).trans ((eval_other _ 58 47 _ (by decide)).trans ((eval_other _ 57 47 _ (by decide)).trans ((eval_other _ 56 47 _ (by decide)).trans ((eval_other _ 53 47 _ (by decide)).trans ((eval_other _ 51 47 _ (by decide)).trans ((eval_other _ 50 47 _ (by decide)).trans ((eval_other _ 49 47 _ (by decide)).trans ((eval_other _ 48 47 _ (by decide)).trans (eval_same _ _ _ (by simp only [put_size, hsz]; decide))))))))))))))))))))) (run_callf1 q19 rfl ((eval_other _ 52 53 _ (by decide)).trans ((eval_other _ 67 53 _ (by decide)).trans ((eval_other _ 66 53 _ (by decide)).trans ((eval_other _ 65 53 _ (by decide)).trans ((eval_other _ 64 53 _ (by decide)).trans ((eval_other _ 63 53 _ (by decide)).trans ((eval_other _ 62 53 _ (by decide)).trans ((eval_other _ 61 53 _ (by decide)).trans ((eval_other _ 60 53 _ (by decide)).trans ((eval_other _ 59 53 _ (by decide)).trans ((eval_other _ 58 53 _ (by decide)).trans ((eval_other _ 57 53 _ (by decide)).trans ((eval_other _ 56 53 _ (by decide)).trans (eval_same _ _ _ (by simp only [put_size, hsz]; decide))))))))))))))) Try.func9 (by kernel_rfl) _) (kitRow_any k _ (by omega)) ?_
                rintro e w27 ⟨v27, rfl, ho, hb⟩
                obtain ⟨q27, k27, rfl, hc27, -, hl27⟩ := ho.sl (kitRow_length k)
                have HL27 := Lib.hid hl27
                have HK27 := Lib.hid (HK26.out.on hb)
                have HO27 := Lib.hid (Own.below HO26.out hb)
                have HB27 := Lib.hid (HB26.out.trans (hb.mono HB26.out.size))
                have HA27 := Lib.hid (HA26.out.below hb)
                clear ho hb hl27
                refine ⟨_, rfl, HK27.out, ?_⟩
                refine t_append po20 d20 (wanted_guardF gd20 po12 d12 ((eval_other _ 54 47 _ (by decide)).trans ((eval_other _ 52 47 _ (by decide)).trans ((eval_other _ 67 47 _ (by decide)).trans ((eval_other _ 66 47 _ (by decide)).trans ((eval_other _ 65 47 _ (by decide)).trans ((eval_other _ 64 47 _ (by decide)).trans ((eval_other _ 63 47 _ (by decide)).trans ((eval_other _ 62 47 _ (by decide)).trans ((eval_other _ 61 47 _ (by decide)).trans ((eval_other _ 60 47 _ (by decide)).trans ((eval_other _ 59 47 _ (by decide)).trans ((eval_other _ 58 47 _ (by decide)).trans ((eval_other _ 57 47 _ (by decide)).trans ((eval_other _ 56 47 _ (by decide)).trans ((eval_other _ 53 47 _ (by decide)).trans ((eval_other _ 51 47 _ (by decide)).trans ((eval_other _ 50 47 _ (by decide)).trans ((eval_other _ 49 47 _ (by decide)).trans ((eval_other _ 48 47 _ (by decide)).trans (eval_same _ _ _ (by simp only [put_size, hsz]; decide)))))))))))))))))))))) q20 ((eval_other _ 54 52 _ (by decide)).trans (eval_same _ _ _ (by simp only [put_size, hsz]; decide))) (eval_same _ _ _ (by simp only [put_size, hsz]; decide)) w25.heap.size (be8 n) (kitRow k) HO27.out (kitRow_length k) HL27.out (by rw [be8_length]; omega) (by have := HB27.out.size; omega) ?_
                intro v28 w28 ho28 hg28
                obtain ⟨q28, k28, rfl, hc28, -, hl28⟩ := ho28.sl (show (be8 n ++ kitRow k).length = 8 + k by rw [List.length_append, be8_length, kitRow_length])
                have hb28 : Below w25.heap.size w27 w28 := (Below.refl _ _).grown hg28 (by have := HB27.out.size; omega) (fun b e => (World.ownsRow.lt HO27.out b e).1)
                have HB28 := Lib.hid (HB27.out.trans hb28)
                have HK28 := Lib.hid (HK25.out.on HB28.out)
                have HP28 := Lib.hid hl28
                have HA28 := Lib.hid (HA27.out.belowB hb28 (by have := HA25.out.lt; omega))
                clear ho28 hg28 hb28 hl28
                refine ⟨HK28.out, ?_⟩
                refine t_enter po33 d33 (wanted_guardF gd33 po12 d12 ((eval_other _ 55 47 _ (by decide)).trans ((eval_other _ 54 47 _ (by decide)).trans ((eval_other _ 52 47 _ (by decide)).trans ((eval_other _ 67 47 _ (by decide)).trans ((eval_other _ 66 47 _ (by decide)).trans ((eval_other _ 65 47 _ (by decide)).trans ((eval_other _ 64 47 _ (by decide)).trans ((eval_other _ 63 47 _ (by decide)).trans ((eval_other _ 62 47 _ (by decide)).trans ((eval_other _ 61 47 _ (by decide)).trans ((eval_other _ 60 47 _ (by decide)).trans ((eval_other _ 59 47 _ (by decide)).trans ((eval_other _ 58 47 _ (by decide)).trans ((eval_other _ 57 47 _ (by decide)).trans ((eval_other _ 56 47 _ (by decide)).trans ((eval_other _ 53 47 _ (by decide)).trans ((eval_other _ 51 47 _ (by decide)).trans ((eval_other _ 50 47 _ (by decide)).trans ((eval_other _ 49 47 _ (by decide)).trans ((eval_other _ 48 47 _ (by decide)).trans (eval_same _ _ _ (by simp only [put_size, hsz]; decide))))))))))))))))))))))) (run_callf2 q33 rfl (eval_same _ _ _ (by simp only [put_size, hsz]; decide)) ((eval_other _ 55 67 _ (by decide)).trans ((eval_other _ 54 67 _ (by decide)).trans ((eval_other _ 52 67 _ (by decide)).trans (eval_same _ _ _ (by simp only [put_size, hsz]; decide))))) Try.func12 (by kernel_rfl) _) (packReads_any (be8 n ++ kitRow k) [⟨3, m⟩, ⟨0, 0⟩, ⟨2, n⟩] (8 + k) 3 k28 3 q28 (some ⟨w11.heap.size, 0, none⟩) _ (by rw [List.length_append, be8_length, kitRow_length]) hc28 HP28.out rfl HA28.out.asks) ?_
                rintro e w29 ⟨rfl, hb⟩
                have HK29 := Lib.hid (HK28.out.on hb)
                clear hb
                refine ⟨_, rfl, HK29.out, ?_⟩
                refine Tr.takes po34 d34 (wanted_guardF gd34 po12 d12 ((eval_other _ 68 47 _ (by decide)).trans ((eval_other _ 55 47 _ (by decide)).trans ((eval_other _ 54 47 _ (by decide)).trans ((eval_other _ 52 47 _ (by decide)).trans ((eval_other _ 67 47 _ (by decide)).trans ((eval_other _ 66 47 _ (by decide)).trans ((eval_other _ 65 47 _ (by decide)).trans ((eval_other _ 64 47 _ (by decide)).trans ((eval_other _ 63 47 _ (by decide)).trans ((eval_other _ 62 47 _ (by decide)).trans ((eval_other _ 61 47 _ (by decide)).trans ((eval_other _ 60 47 _ (by decide)).trans ((eval_other _ 59 47 _ (by decide)).trans ((eval_other _ 58 47 _ (by decide)).trans ((eval_other _ 57 47 _ (by decide)).trans ((eval_other _ 56 47 _ (by decide)).trans ((eval_other _ 53 47 _ (by decide)).trans ((eval_other _ 51 47 _ (by decide)).trans ((eval_other _ 50 47 _ (by decide)).trans ((eval_other _ 49 47 _ (by decide)).trans ((eval_other _ 48 47 _ (by decide)).trans (eval_same _ _ _ (by simp only [put_size, hsz]; decide)))))))))))))))))))))))) (fun w' h' => r_not q34 (eval_same _ _ _ (by simp only [put_size, hsz]; decide)) w') ?_
                refine Tr.takes po35 d35 (wanted_of gd35) (fun w' h' => r_pickF q35 ((eval_other _ 69 47 _ (by decide)).trans ((eval_other _ 68 47 _ (by decide)).trans ((eval_other _ 55 47 _ (by decide)).trans ((eval_other _ 54 47 _ (by decide)).trans ((eval_other _ 52 47 _ (by decide)).trans ((eval_other _ 67 47 _ (by decide)).trans ((eval_other _ 66 47 _ (by decide)).trans ((eval_other _ 65 47 _ (by decide)).trans ((eval_other _ 64 47 _ (by decide)).trans ((eval_other _ 63 47 _ (by decide)).trans ((eval_other _ 62 47 _ (by decide)).trans ((eval_other _ 61 47 _ (by decide)).trans ((eval_other _ 60 47 _ (by decide)).trans ((eval_other _ 59 47 _ (by decide)).trans ((eval_other _ 58 47 _ (by decide)).trans ((eval_other _ 57 47 _ (by decide)).trans ((eval_other _ 56 47 _ (by decide)).trans ((eval_other _ 53 47 _ (by decide)).trans ((eval_other _ 51 47 _ (by decide)).trans ((eval_other _ 50 47 _ (by decide)).trans ((eval_other _ 49 47 _ (by decide)).trans ((eval_other _ 48 47 _ (by decide)).trans (eval_same _ _ _ (by simp only [put_size, hsz]; decide)))))))))))))))))))))))) (eval_same _ _ _ (by simp only [put_size, hsz]; decide)) w') ?_
                show NoPanic _ .normal _ _
                refine NoPanic.normal ?_
                rw [HAA.out]
                go_frame
                clear HAA
                go_wp2_with fail
                go_meet
                exact ⟨rfl, HK29.out⟩
            case rest =>
              clear HK9a
              obtain ⟨rfl, hkt⟩ := hcut
              have HK12 := Lib.hid hkt
              clear hkt
              go_wp2_with fail
              go_roundw
              case rel => exact ⟨k + 1, by omega, by go_num, HK12.out⟩
              case measure => simp [intOf]; omega
          · have q14 : ¬ (k : Int) < 14 := by omega
            go_upto_region 13 with fail
            have HK13 := Lib.hid (HK9a.out.on (Below.drew0 wr))
            clear HK9a
            refine region_phase (KT W g i G n pt ct) (fun _ => True) 12 (HK13.out) trivial [(0, .free), (1, .free), (2, .free), (3, .free), (4, .free), (5, .free), (6, .free), (7, .free), (8, .free), (9, .free), (10, .free), (11, .free), (13, .free), (12, .behind), (14, .behind), (15, .free), (16, .free), (17, .free), (18, .free), (19, .free), (20, .free), (21, .free), (23, .free), (24, .free), (22, .behind), (25, .behind), (26, .free), (27, .free)] (by kernel_rfl) (by kernel_rfl) (by kernel_rfl) (by kernel_rfl) (fun ops hops A hA => ?_)
            have hsz : A.tmps.size = 127 := by rw [hA]; rfl
            have base1 : A.eval (.tmp 1) = .slice (some ⟨g, 0, none⟩) 14 14 := by rw [hA]; rfl
            have base2 : A.eval (.tmp 2) = .int .i64 (i : Int) := by rw [hA]; rfl
            have base3 : A.eval (.tmp 3) = .pointer (some ⟨G, 0, none⟩) := by rw [hA]; rfl
            have HAA := Lib.hid hA; clear hA
            obtain ⟨o0, po0, q0, d0, gd0⟩ : ∃ o, ops[0]? = some o ∧ o.op = .load 28 (.tmp 3) ∧ o.dst = some 71 ∧ o.guard = none := ⟨_, by rw [hops]; rfl, rfl, rfl, rfl⟩
            obtain ⟨o1, po1, q1, d1, gd1⟩ : ∃ o, ops[1]? = some o ∧ o.op = .move (.tmp 1) ∧ o.dst = some 72 ∧ o.guard = none := ⟨_, by rw [hops]; rfl, rfl, rfl, rfl⟩
            obtain ⟨o2, po2, q2, d2, gd2⟩ : ∃ o, ops[2]? = some o ∧ o.op = .move (.tmp 2) ∧ o.dst = some 73 ∧ o.guard = none := ⟨_, by rw [hops]; rfl, rfl, rfl, rfl⟩
            obtain ⟨o3, po3, q3, d3, gd3⟩ : ∃ o, ops[3]? = some o ∧ o.op = .indexAddr 22 (.tmp 72) (.tmp 73) ∧ o.dst = some 74 ∧ o.guard = none := ⟨_, by rw [hops]; rfl, rfl, rfl, rfl⟩
            obtain ⟨o4, po4, q4, d4, gd4⟩ : ∃ o, ops[4]? = some o ∧ o.op = .load 3 (.tmp 74) ∧ o.dst = some 75 ∧ o.guard = none := ⟨_, by rw [hops]; rfl, rfl, rfl, rfl⟩
            obtain ⟨o5, po5, q5, d5, gd5⟩ : ∃ o, ops[5]? = some o ∧ o.op = .build 28 #[(0, (.const (.int .i64 4))), (1, (.tmp 75))] ∧ o.dst = some 76 ∧ o.guard = none := ⟨_, by rw [hops]; rfl, rfl, rfl, rfl⟩
            obtain ⟨o6, po6, q6, d6, gd6⟩ : ∃ o, ops[6]? = some o ∧ o.op = .fieldAddr 28 (.tmp 3) 2 ∧ o.dst = some 77 ∧ o.guard = none := ⟨_, by rw [hops]; rfl, rfl, rfl, rfl⟩
            obtain ⟨o7, po7, q7, d7, gd7⟩ : ∃ o, ops[7]? = some o ∧ o.op = .load 23 (.tmp 77) ∧ o.dst = some 78 ∧ o.guard = none := ⟨_, by rw [hops]; rfl, rfl, rfl, rfl⟩
            obtain ⟨o8, po8, q8, d8, gd8⟩ : ∃ o, ops[8]? = some o ∧ o.op = .build 28 #[(0, (.const (.int .i64 1))), (2, (.tmp 78))] ∧ o.dst = some 79 ∧ o.guard = none := ⟨_, by rw [hops]; rfl, rfl, rfl, rfl⟩
            obtain ⟨o9, po9, q9, d9, gd9⟩ : ∃ o, ops[9]? = some o ∧ o.op = .fieldAddr 28 (.tmp 3) 3 ∧ o.dst = some 80 ∧ o.guard = none := ⟨_, by rw [hops]; rfl, rfl, rfl, rfl⟩
            obtain ⟨o10, po10, q10, d10, gd10⟩ : ∃ o, ops[10]? = some o ∧ o.op = .load 26 (.tmp 80) ∧ o.dst = some 81 ∧ o.guard = none := ⟨_, by rw [hops]; rfl, rfl, rfl, rfl⟩
            obtain ⟨o11, po11, q11, d11, gd11⟩ : ∃ o, ops[11]? = some o ∧ o.op = .build 28 #[(0, (.const (.int .i64 3))), (3, (.tmp 81))] ∧ o.dst = some 82 ∧ o.guard = none := ⟨_, by rw [hops]; rfl, rfl, rfl, rfl⟩
            obtain ⟨o12, po12, q12, d12, gd12⟩ : ∃ o, ops[12]? = some o ∧ o.op = .buildSlice 37 4 #[(0, (.tmp 71)), (1, (.tmp 76)), (2, (.tmp 79)), (3, (.tmp 82))] ∧ o.dst = some 83 ∧ o.guard = none := ⟨_, by rw [hops]; rfl, rfl, rfl, rfl⟩
            obtain ⟨o13, po13, q13, d13, gd13⟩ : ∃ o, ops[13]? = some o ∧ o.op = .move (.tmp 2) ∧ o.dst = some 84 ∧ o.guard = none := ⟨_, by rw [hops]; rfl, rfl, rfl, rfl⟩
            obtain ⟨o14, po14, q14, d14, gd14⟩ : ∃ o, ops[14]? = some o ∧ o.op = .call { callee := .value (.func 14), args := #[.tmp 83, .const (.slice none 0 0), .tmp 84], argTypes := #[37, 23, 3] } ∧ o.dst = some 85 ∧ o.guard = none := ⟨_, by rw [hops]; rfl, rfl, rfl, rfl⟩
            obtain ⟨o15, po15, q15, d15, gd15⟩ : ∃ o, ops[15]? = some o ∧ o.op = .unOp .not 4 (.tmp 85) ∧ o.dst = some 86 ∧ o.guard = none := ⟨_, by rw [hops]; rfl, rfl, rfl, rfl⟩
            obtain ⟨o16, po16, q16, d16, gd16⟩ : ∃ o, ops[16]? = some o ∧ o.op = .move (.tmp 86) ∧ o.dst = some 87 ∧ o.guard = none := ⟨_, by rw [hops]; rfl, rfl, rfl, rfl⟩
            obtain ⟨o17, po17, q17, d17, gd17⟩ : ∃ o, ops[17]? = some o ∧ o.op = .load 28 (.tmp 3) ∧ o.dst = some 88 ∧ o.guard = some (16, false) := ⟨_, by rw [hops]; rfl, rfl, rfl, rfl⟩
            obtain ⟨o18, po18, q18, d18, gd18⟩ : ∃ o, ops[18]? = some o ∧ o.op = .fieldAddr 28 (.tmp 3) 2 ∧ o.dst = some 89 ∧ o.guard = some (16, false) := ⟨_, by rw [hops]; rfl, rfl, rfl, rfl⟩
            obtain ⟨o19, po19, q19, d19, gd19⟩ : ∃ o, ops[19]? = some o ∧ o.op = .load 23 (.tmp 89) ∧ o.dst = some 90 ∧ o.guard = some (16, false) := ⟨_, by rw [hops]; rfl, rfl, rfl, rfl⟩
            obtain ⟨o20, po20, q20, d20, gd20⟩ : ∃ o, ops[20]? = some o ∧ o.op = .build 28 #[(0, (.const (.int .i64 2))), (2, (.tmp 90))] ∧ o.dst = some 91 ∧ o.guard = some (16, false) := ⟨_, by rw [hops]; rfl, rfl, rfl, rfl⟩
            obtain ⟨o21, po21, q21, d21, gd21⟩ : ∃ o, ops[21]? = some o ∧ o.op = .build 28 #[(0, (.const (.int .i64 3)))] ∧ o.dst = some 92 ∧ o.guard = some (16, false) := ⟨_, by rw [hops]; rfl, rfl, rfl, rfl⟩
            obtain ⟨o22, po22, q22, d22, gd22⟩ : ∃ o, ops[22]? = some o ∧ o.op = .buildSlice 37 3 #[(0, (.tmp 88)), (1, (.tmp 91)), (2, (.tmp 92))] ∧ o.dst = some 93 ∧ o.guard = some (16, false) := ⟨_, by rw [hops]; rfl, rfl, rfl, rfl⟩
            obtain ⟨o23, po23, q23, d23, gd23⟩ : ∃ o, ops[23]? = some o ∧ o.op = .move (.tmp 2) ∧ o.dst = some 94 ∧ o.guard = some (16, false) := ⟨_, by rw [hops]; rfl, rfl, rfl, rfl⟩
            obtain ⟨o24, po24, q24, d24, gd24⟩ : ∃ o, ops[24]? = some o ∧ o.op = .binOp .mul 3 (.tmp 94) (.const (.int .i64 7)) 3 ∧ o.dst = some 95 ∧ o.guard = some (16, false) := ⟨_, by rw [hops]; rfl, rfl, rfl, rfl⟩
            obtain ⟨o25, po25, q25, d25, gd25⟩ : ∃ o, ops[25]? = some o ∧ o.op = .call { callee := .value (.func 15), args := #[.tmp 93, .tmp 95, .const (.int .i64 0)], argTypes := #[37, 3, 3] } ∧ o.dst = some 96 ∧ o.guard = some (16, false) := ⟨_, by rw [hops]; rfl, rfl, rfl, rfl⟩
            obtain ⟨o26, po26, q26, d26, gd26⟩ : ∃ o, ops[26]? = some o ∧ o.op = .unOp .not 4 (.tmp 96) ∧ o.dst = some 97 ∧ o.guard = some (16, false) := ⟨_, by rw [hops]; rfl, rfl, rfl, rfl⟩
            obtain ⟨o27, po27, q27, d27, gd27⟩ : ∃ o, ops[27]? = some o ∧ o.op = .pick (.tmp 87) (.const (.bool true)) (.tmp 97) ∧ o.dst = some 98 ∧ o.guard = none := ⟨_, by rw [hops]; rfl, rfl, rfl, rfl⟩
            clear hops
            refine met_free po0 d0 (wanted_of gd0) (fun w' h' => run_loadThing q0 base3 h'.box.rng (by rfl)) ?_
            refine met_free po1 d1 (wanted_of gd1) (fun w' h' => run_move q1 ((eval_other _ 71 1 _ (by decide)).trans base1) w') ?_
            refine met_free po2 d2 (wanted_of gd2) (fun w' h' => run_move q2 ((eval_other _ 72 2 _ (by decide)).trans ((eval_other _ 71 2 _ (by decide)).trans base2)) w') ?_
            refine met_free po3 d3 (wanted_of gd3) (fun w' h' => run_ixI q3 ((eval_other _ 73 72 _ (by decide)).trans (eval_same _ _ _ (by simp only [put_size, hsz]; decide))) (eval_same _ _ _ (by simp only [put_size, hsz]; decide)) (by omega) w') ?_
            refine met_free po4 d4 (wanted_of gd4) (fun w' h' => run_loadI q4 (eval_same _ _ _ (by simp only [put_size, hsz]; decide)) (h'.kn.at hlt HI.out)) ?_
            refine met_free po5 d5 (wanted_of gd5) (fun w' h' => run_builtE q5 (parts2 rfl (eval_same _ _ _ (by simp only [put_size, hsz]; decide)) (built_KN 4 n)) w') ?_
            refine met_free po6 d6 (wanted_of gd6) (fun w' h' => run_fieldT (off := 2) q6 (fun _ => by kernel_rfl) ((eval_other _ 76 3 _ (by decide)).trans ((eval_other _ 75 3 _ (by decide)).trans ((eval_other _ 74 3 _ (by decide)).trans ((eval_other _ 73 3 _ (by decide)).trans ((eval_other _ 72 3 _ (by decide)).trans ((eval_other _ 71 3 _ (by decide)).trans base3)))))) w') ?_
            refine met_free po7 d7 (wanted_of gd7) (fun w' h' => run_loadB q7 (eval_same _ _ _ (by simp only [put_size, hsz]; decide)) (h'.box.c2m (kitRow_length i))) ?_
            refine met_free po8 d8 (wanted_of gd8) (fun w' h' => run_builtE q8 (parts2 rfl (eval_same _ _ _ (by simp only [put_size, hsz]; decide)) (built_KR 1 pt ct i)) w') ?_
            refine met_free po9 d9 (wanted_of gd9) (fun w' h' => run_fieldT (off := 3) q9 (fun _ => by kernel_rfl) ((eval_other _ 79 3 _ (by decide)).trans ((eval_other _ 78 3 _ (by decide)).trans ((eval_other _ 77 3 _ (by decide)).trans ((eval_other _ 76 3 _ (by decide)).trans ((eval_other _ 75 3 _ (by decide)).trans ((eval_other _ 74 3 _ (by decide)).trans ((eval_other _ 73 3 _ (by decide)).trans ((eval_other _ 72 3 _ (by decide)).trans ((eval_other _ 71 3 _ (by decide)).trans base3))))))))) w') ?_
            refine met_free po10 d10 (wanted_of gd10) (fun w' h' => run_loadArr q10 (eval_same _ _ _ (by simp only [put_size, hsz]; decide)) Try.underlying26 (infoSumL (sumX (BitVec.ofNat 8 i)) rfl) h'.box.c3) ?_
            refine met_free po11 d11 (wanted_of gd11) (fun w' h' => run_builtE q11 (parts2 rfl (eval_same _ _ _ (by simp only [put_size, hsz]; decide)) (built_KS 3 (BitVec.ofNat 8 i))) w') ?_
            refine met_free po13 d13 (wanted_of gd13) (fun w' h' => run_move q13 ((eval_other _ 82 2 _ (by decide)).trans ((eval_other _ 81 2 _ (by decide)).trans ((eval_other _ 80 2 _ (by decide)).trans ((eval_other _ 79 2 _ (by decide)).trans ((eval_other _ 78 2 _ (by decide)).trans ((eval_other _ 77 2 _ (by decide)).trans ((eval_other _ 76 2 _ (by decide)).trans ((eval_other _ 75 2 _ (by decide)).trans ((eval_other _ 74 2 _ (by decide)).trans ((eval_other _ 73 2 _ (by decide)).trans ((eval_other _ 72 2 _ (by decide)).trans ((eval_other _ 71 2 _ (by decide)).trans base2)))))))))))) w') ?_
            refine m_value po12 d12 (wanted_of gd12) (thingE.run_four q12 ((eval_other _ 84 71 _ (by decide)).trans ((eval_other _ 82 71 _ (by decide)).trans ((eval_other _ 81 71 _ (by decide)).trans ((eval_other _ 80 71 _ (by decide)).trans ((eval_other _ 79 71 _ (by decide)).trans ((eval_other _ 78 71 _ (by decide)).trans ((eval_other _ 77 71 _ (by decide)).trans ((eval_other _ 76 71 _ (by decide)).trans ((eval_other _ 75 71 _ (by decide)).trans ((eval_other _ 74 71 _ (by decide)).trans ((eval_other _ 73 71 _ (by decide)).trans ((eval_other _ 72 71 _ (by decide)).trans (eval_same _ _ _ (by rw [hsz]; decide)))))))))))))) ((eval_other _ 84 76 _ (by decide)).trans ((eval_other _ 82 76 _ (by decide)).trans ((eval_other _ 81 76 _ (by decide)).trans ((eval_other _ 80 76 _ (by decide)).trans ((eval_other _ 79 76 _ (by decide)).trans ((eval_other _ 78 76 _ (by decide)).trans ((eval_other _ 77 76 _ (by decide)).trans (eval_same _ _ _ (by simp only [put_size, hsz]; decide))))))))) ((eval_other _ 84 79 _ (by decide)).trans ((eval_other _ 82 79 _ (by decide)).trans ((eval_other _ 81 79 _ (by decide)).trans ((eval_other _ 80 79 _ (by decide)).trans (eval_same _ _ _ (by simp only [put_size, hsz]; decide)))))) ((eval_other _ 84 82 _ (by decide)).trans (eval_same _ _ _ (by simp only [put_size, hsz]; decide))) rfl rfl rfl rfl _) ?_
            have hT4 := things_of [tK n pt ct i, ⟨4, n, none, 0, [], noughts 32⟩, ⟨1, 0, pt, ct, kitRow i, noughts 32⟩, ⟨3, 0, none, 0, [], sumX (BitVec.ofNat 8 i)⟩] (heap_alloc_new wr.drew _) rfl (fun t ht => ok_below ((Below.refl wr.drew.heap.size wr.drew).alloc (Nat.le_refl _) (.cells _ 28)) (t4_ok HK13.out.box.ok hnw t ht))
            have hb : Below wr.drew.heap.size wr.drew (wr.drew.alloc (.cells (([tK n pt ct i, ⟨4, n, none, 0, [], noughts 32⟩, ⟨1, 0, pt, ct, kitRow i, noughts 32⟩, ⟨3, 0, none, 0, [], sumX (BitVec.ofNat 8 i)⟩] : List Thing7).flatMap Thing7.cells).toArray 28)) := (Below.refl _ _).alloc (Nat.le_refl _) _
            refine ⟨HK13.out.on hb, ?_⟩
            refine m_enter po14 d14 (wanted_of gd14) (run_callf3 q14 rfl (eval_same _ _ _ (by simp only [put_size, hsz]; decide)) rfl ((eval_other _ 83 84 _ (by decide)).trans (eval_same _ _ _ (by simp only [put_size, hsz]; decide))) Try.func14 (by kernel_rfl) _) (packBack_any [tK n pt ct i, ⟨4, n, none, 0, [], noughts 32⟩, ⟨1, 0, pt, ct, kitRow i, noughts 32⟩, ⟨3, 0, none, 0, [], sumX (BitVec.ofNat 8 i)⟩] [] (i : Int) 4 0 4 0 (some ⟨wr.drew.heap.size, 0, none⟩) none _ rfl hT4 rfl (Or.inl rfl)) ?_
            rintro e w15 ⟨rfl, hb2⟩
            have HK15 := Lib.hid ((HK13.out.on hb).on hb2)
            clear hb hb2 hT4
            refine ⟨_, rfl, HK15.out, ?_⟩
            refine met_free po15 d15 (wanted_of gd15) (fun w' h' => r_not q15 (eval_same _ _ _ (by simp only [put_size, hsz]; decide)) w') ?_
            refine met_free po16 d16 (wanted_of gd16) (fun w' h' => run_move q16 (eval_same _ _ _ (by simp only [put_size, hsz]; decide)) w') ?_
            refine met_free po17 d17 (wanted_guardF gd17 po16 d16 (eval_same _ _ _ (by simp only [put_size, hsz]; decide))) (fun w' h' => run_loadThing q17 ((eval_other _ 87 3 _ (by decide)).trans ((eval_other _ 86 3 _ (by decide)).trans ((eval_other _ 85 3 _ (by decide)).trans ((eval_other _ 83 3 _ (by decide)).trans ((eval_other _ 84 3 _ (by decide)).trans ((eval_other _ 82 3 _ (by decide)).trans ((eval_other _ 81 3 _ (by decide)).trans ((eval_other _ 80 3 _ (by decide)).trans ((eval_other _ 79 3 _ (by decide)).trans ((eval_other _ 78 3 _ (by decide)).trans ((eval_other _ 77 3 _ (by decide)).trans ((eval_other _ 76 3 _ (by decide)).trans ((eval_other _ 75 3 _ (by decide)).trans ((eval_other _ 74 3 _ (by decide)).trans ((eval_other _ 73 3 _ (by decide)).trans ((eval_other _ 72 3 _ (by decide)).trans ((eval_other _ 71 3 _ (by decide)).trans base3))))))))))))))))) h'.box.rng (by rfl)) ?_
            refine met_free po18 d18 (wanted_guardF gd18 po16 d16 ((eval_other _ 88 87 _ (by decide)).trans (eval_same _ _ _ (by simp only [put_size, hsz]; decide)))) (fun w' h' => run_fieldT (off := 2) q18 (fun _ => by kernel_rfl) ((eval_other _ 88 3 _ (by decide)).trans ((eval_other _ 87 3 _ (by decide)).trans ((eval_other _ 86 3 _ (by decide)).trans ((eval_other _ 85 3 _ (by decide)).trans ((eval_other _ 83 3 _ (by decide)).trans ((eval_other _ 84 3 _ (by decide)).trans ((eval_other _ 82 3 _ (by decide)).trans ((eval_other _ 81 3 _ (by decide)).trans ((eval_other _ 80 3 _ (by decide)).trans ((eval_other _ 79 3 _ (by decide)).trans ((eval_other _ 78 3 _ (by decide)).trans ((eval_other _ 77 3 _ (by decide)).trans ((eval_other _ 76 3 _ (by decide)).trans ((eval_other _ 75 3 _ (by decide)).trans ((eval_other _ 74 3 _ (by decide)).trans ((eval_other _ 73 3 _ (by decide)).trans ((eval_other _ 72 3 _ (by decide)).trans ((eval_other _ 71 3 _ (by decide)).trans base3)))))))))))))))))) w') ?_
            refine met_free po19 d19 (wanted_guardF gd19 po16 d16 ((eval_other _ 89 87 _ (by decide)).trans ((eval_other _ 88 87 _ (by decide)).trans (eval_same _ _ _ (by simp only [put_size, hsz]; decide))))) (fun w' h' => run_loadB q19 (eval_same _ _ _ (by simp only [put_size, hsz]; decide)) (h'.box.c2m (kitRow_length i))) ?_
            refine met_free po20 d20 (wanted_guardF gd20 po16 d16 ((eval_other _ 90 87 _ (by decide)).trans ((eval_other _ 89 87 _ (by decide)).trans ((eval_other _ 88 87 _ (by decide)).trans (eval_same _ _ _ (by simp only [put_size, hsz]; decide)))))) (fun w' h' => run_builtE q20 (parts2 rfl (eval_same _ _ _ (by simp only [put_size, hsz]; decide)) (built_KR 2 pt ct i)) w') ?_
            refine met_free po21 d21 (wanted_guardF gd21 po16 d16 ((eval_other _ 91 87 _ (by decide)).trans ((eval_other _ 90 87 _ (by decide)).trans ((eval_other _ 89 87 _ (by decide)).trans ((eval_other _ 88 87 _ (by decide)).trans (eval_same _ _ _ (by simp only [put_size, hsz]; decide))))))) (fun w' h' => run_builtE q21 (parts1 rfl (built_K 3)) w') ?_
            refine met_free po23 d23 (wanted_guardF gd23 po16 d16 ((eval_other _ 92 87 _ (by decide)).trans ((eval_other _ 91 87 _ (by decide)).trans ((eval_other _ 90 87 _ (by decide)).trans ((eval_other _ 89 87 _ (by decide)).trans ((eval_other _ 88 87 _ (by decide)).trans (eval_same _ _ _ (by simp only [put_size, hsz]; decide)))))))) (fun w' h' => run_move q23 ((eval_other _ 92 2 _ (by decide)).trans ((eval_other _ 91 2 _ (by decide)).trans ((eval_other _ 90 2 _ (by decide)).trans ((eval_other _ 89 2 _ (by decide)).trans ((eval_other _ 88 2 _ (by decide)).trans ((eval_other _ 87 2 _ (by decide)).trans ((eval_other _ 86 2 _ (by decide)).trans ((eval_other _ 85 2 _ (by decide)).trans ((eval_other _ 83 2 _ (by decide)).trans ((eval_other _ 84 2 _ (by decide)).trans ((eval_other _ 82 2 _ (by decide)).trans ((eval_other _ 81 2 _ (by decide)).trans ((eval_other _ 80 2 _ (by decide)).trans ((eval_other _ 79 2 _ (by decide)).trans ((eval_other _ 78 2 _ (by decide)).trans ((eval_other _ 77 2 _ (by decide)).trans ((eval_other _ 76 2 _ (by decide)).trans ((eval_other _ 75 2 _ (by decide)).trans ((eval_other _ 74 2 _ (by decide)).trans ((eval_other _ 73 2 _ (by decide)).trans ((eval_other _ 72 2 _ (by decide)).trans ((eval_other _ 71 2 _ (by decide)).trans base2)))))))))))))))))))))) w') ?_
            refine met_free po24 d24 (wanted_guardF gd24 po16 d16 ((eval_other _ 94 87 _ (by decide)).trans ((eval_other _ 92 87 _ (by decide)).trans ((eval_other _ 91 87 _ (by decide)).trans ((eval_other _ 90 87 _ (by decide)).trans ((eval_other _ 89 87 _ (by decide)).trans ((eval_other _ 88 87 _ (by decide)).trans (eval_same _ _ _ (by simp only [put_size, hsz]; decide))))))))) (fun w' h' => run_mul7 q24 (eval_same _ _ _ (by simp only [put_size, hsz]; decide)) (fun _ => rfl) (by omega) w') ?_
            refine m_value po22 d22 (wanted_guardF gd22 po16 d16 ((eval_other _ 95 87 _ (by decide)).trans ((eval_other _ 94 87 _ (by decide)).trans ((eval_other _ 92 87 _ (by decide)).trans ((eval_other _ 91 87 _ (by decide)).trans ((eval_other _ 90 87 _ (by decide)).trans ((eval_other _ 89 87 _ (by decide)).trans ((eval_other _ 88 87 _ (by decide)).trans (eval_same _ _ _ (by simp only [put_size, hsz]; decide)))))))))) (thingE.run_three q22 ((eval_other _ 95 88 _ (by decide)).trans ((eval_other _ 94 88 _ (by decide)).trans ((eval_other _ 92 88 _ (by decide)).trans ((eval_other _ 91 88 _ (by decide)).trans ((eval_other _ 90 88 _ (by decide)).trans ((eval_other _ 89 88 _ (by decide)).trans (eval_same _ _ _ (by simp only [put_size, hsz]; decide)))))))) ((eval_other _ 95 91 _ (by decide)).trans ((eval_other _ 94 91 _ (by decide)).trans ((eval_other _ 92 91 _ (by decide)).trans (eval_same _ _ _ (by simp only [put_size, hsz]; decide))))) ((eval_other _ 95 92 _ (by decide)).trans ((eval_other _ 94 92 _ (by decide)).trans (eval_same _ _ _ (by simp only [put_size, hsz]; decide)))) rfl rfl rfl _) ?_
            have hT3 := things_of [tK n pt ct i, ⟨2, 0, pt, ct, kitRow i, noughts 32⟩, ⟨3, 0, none, 0, [], noughts 32⟩] (heap_alloc_new w15 _) rfl (fun t ht => ok_below ((Below.refl w15.heap.size w15).alloc (Nat.le_refl _) (.cells _ 28)) (t3_ok HK15.out.box.ok t ht))
            have hb : Below w15.heap.size w15 (w15.alloc (.cells (([tK n pt ct i, ⟨2, 0, pt, ct, kitRow i, noughts 32⟩, ⟨3, 0, none, 0, [], noughts 32⟩] : List Thing7).flatMap Thing7.cells).toArray 28)) := (Below.refl _ _).alloc (Nat.le_refl _) _
            refine ⟨HK15.out.on hb, ?_⟩
            refine m_enter po25 d25 (wanted_guardF gd25 po16 d16 ((eval_other _ 93 87 _ (by decide)).trans ((eval_other _ 95 87 _ (by decide)).trans ((eval_other _ 94 87 _ (by decide)).trans ((eval_other _ 92 87 _ (by decide)).trans ((eval_other _ 91 87 _ (by decide)).trans ((eval_other _ 90 87 _ (by decide)).trans ((eval_other _ 89 87 _ (by decide)).trans ((eval_other _ 88 87 _ (by decide)).trans (eval_same _ _ _ (by simp only [put_size, hsz]; decide))))))))))) (run_callf3 q25 rfl (eval_same _ _ _ (by simp only [put_size, hsz]; decide)) ((eval_other _ 93 95 _ (by decide)).trans (eval_same _ _ _ (by simp only [put_size, hsz]; decide))) rfl Try.func15 (by kernel_rfl) _) (packCut_any [tK n pt ct i, ⟨2, 0, pt, ct, kitRow i, noughts 32⟩, ⟨3, 0, none, 0, [], noughts 32⟩] _ 0 3 3 (some ⟨w15.heap.size, 0, none⟩) _ rfl (Nat.le_refl _) hT3) ?_
            rintro e w16 ⟨rfl, hb2⟩
            have HK16 := Lib.hid ((HK15.out.on hb).on hb2)
            clear hb hb2 hT3
            refine ⟨_, rfl, HK16.out, ?_⟩
            refine met_free po26 d26 (wanted_guardF gd26 po16 d16 ((eval_other _ 96 87 _ (by decide)).trans ((eval_other _ 93 87 _ (by decide)).trans ((eval_other _ 95 87 _ (by decide)).trans ((eval_other _ 94 87 _ (by decide)).trans ((eval_other _ 92 87 _ (by decide)).trans ((eval_other _ 91 87 _ (by decide)).trans ((eval_other _ 90 87 _ (by decide)).trans ((eval_other _ 89 87 _ (by decide)).trans ((eval_other _ 88 87 _ (by decide)).trans (eval_same _ _ _ (by simp only [put_size, hsz]; decide)))))))))))) (fun w' h' => r_not q26 (eval_same _ _ _ (by simp only [put_size, hsz]; decide)) w') ?_
            refine met_free po27 d27 (wanted_of gd27) (fun w' h' => r_pickF q27 ((eval_other _ 97 87 _ (by decide)).trans ((eval_other _ 96 87 _ (by decide)).trans ((eval_other _ 93 87 _ (by decide)).trans ((eval_other _ 95 87 _ (by decide)).trans ((eval_other _ 94 87 _ (by decide)).trans ((eval_other _ 92 87 _ (by decide)).trans ((eval_other _ 91 87 _ (by decide)).trans ((eval_other _ 90 87 _ (by decide)).trans ((eval_other _ 89 87 _ (by decide)).trans ((eval_other _ 88 87 _ (by decide)).trans (eval_same _ _ _ (by simp only [put_size, hsz]; decide)))))))))))) (eval_same _ _ _ (by simp only [put_size, hsz]; decide)) w') ?_
            show NoPanic _ .normal _ _
            refine NoPanic.normal ?_
            rw [HAA.out]
            go_frame
            clear HAA
            clear HK13 HK15
            go_wp2_with fail
            go_roundw
            case rel => exact ⟨i + 1, by omega, by go_num, HK16.out.kn⟩
            case measure => simp [intOf]; omega
    · have q14 : ¬ (i : Int) < 14 := by omega
      have HW0 : Hid (∀ w' : World, Below W.heap.size W w' → Calls Try.prog 21 #[] w' fun e w'' => e = .returned (.bool true) ∧ Below W.heap.size W w'') := show ∀ _, _ from fun w' h => (works7_any w').mono fun e w'' ⟨h1, h2⟩ => ⟨h1, h.trans (h2.mono h.size)⟩
      have HB1 := Lib.hid hk.below
      clear hk HK1
      have HR := Lib.hid (readIn [] 0 none 0 wr rfl (by omega) (Or.inl rfl))
      go_wp2_with fail
      refine HR.out.mono ?_
      rintro e w2 ⟨g2, rfl, hr, hb⟩
      have HB2 := Lib.hid (HB1.out.trans (hb.mono HB1.out.size))
      have HD2 := Lib.hid hr.2
      have HX2 : Hid (W.heap.size ≤ g2) := show _ ≤ _ from Nat.le_trans HB1.out.size hr.1
      clear hr hb HR HB1
      have HE2 := Lib.hid (end_any _ g2 ⟨[], 0⟩ w2 HD2.out)
      have HI2 := Lib.hid (int_any _ g2 ⟨[], 0⟩ w2 HD2.out)
      have e1 : ((⟨[], 0⟩ : RS).endV : Int) = 0 := by decide +kernel
      have e2 : (⟨[], 0⟩ : RS).intV = 0 := by decide +kernel
      have e3 : (⟨[], 0⟩ : RS).next 8 = RS.dead := rfl
      rw [e1] at HE2
      rw [e2, e3] at HI2
      clear e1 e2 e3
      go_wp2_with fail
      refine HE2.out.mono ?_
      rintro e w3 ⟨rfl, rfl⟩
      go_wp2_with fail
      refine HI2.out.mono ?_
      rintro e w3 ⟨rfl, hd, hst⟩
      have HB3 := Lib.hid (HB2.out.trans (Stays.below hst (B := W.heap.size) (fun k e => by have := HX2.out; omega) HB2.out.size))
      have HE3 := Lib.hid (dead_end _ g2 w3 hd)
      clear hd hst HE2 HI2 HB2 HD2
      go_wp2_with fail
      refine HE3.out.mono ?_
      rintro e w4 ⟨rfl, rfl⟩
      clear HE3
      go_wp2_with fail
      have hl7 : Lies (w3.alloc (.cells #[.int .u8 7] 5)) (some ⟨w3.heap.size, 0, none⟩) [7#8] := lies_new rfl
      have hb7 : Below w3.heap.size w3 (w3.alloc (.cells #[.int .u8 7] 5)) := (Below.refl _ _).alloc (Nat.le_refl _) _
      generalize w3.alloc (.cells #[.int .u8 7] 5) = w4 at hl7 hb7 ⊢
      have HB4 := Lib.hid (HB3.out.trans (hb7.mono HB3.out.size))
      refine (intP_any (-2) [7#8] 1 _ 1 w4 rfl (by omega) hl7).mono ?_
      rintro e w5 ⟨r5, rfl, ho, hb⟩
      obtain ⟨q5, c5, rfl, -, -, hl5⟩ := ho.sl (N := 9) (by decide +kernel)
      have HL5 := Lib.hid hl5
      have HB5 := Lib.hid (HB4.out.trans (hb.mono HB4.out.size))
      clear ho hl5 hb hl7 hb7 HB3 HB4
      have hx5 : [7#8] ++ be8 (-2) = [7#8, 255#8, 255#8, 255#8, 255#8, 255#8, 255#8, 255#8, 254#8] := by decide +kernel
      rw [hx5] at HL5
      clear hx5
      go_wp2_with fail
      have hl6 : Lies (w5.alloc (.cells (bytesV [7#8, 255#8, 255#8, 255#8, 255#8, 255#8, 255#8, 255#8, 254#8]).toArray 5)) (some ⟨w5.heap.size, 0, none⟩) [7#8, 255#8, 255#8, 255#8, 255#8, 255#8, 255#8, 255#8, 254#8] := lies_new rfl
      have hb6 : Below w5.heap.size w5 (w5.alloc (.cells (bytesV [7#8, 255#8, 255#8, 255#8, 255#8, 255#8, 255#8, 255#8, 254#8]).toArray 5)) := (Below.refl _ _).alloc (Nat.le_refl _) _
      refine (same_any [7#8, 255#8, 255#8, 255#8, 255#8, 255#8, 255#8, 255#8, 254#8] 9 q5 _ c5 9 _ rfl (by omega) (HL5.out.below hb6) hl6).mono ?_
      rintro e w7 ⟨rfl, hb⟩
      have HB7 := Lib.hid (HB5.out.trans ((hb6.trans (hb.mono hb6.size)).mono HB5.out.size))
      clear hb hl6 hb6 HB5 HL5
      go_wp2_with fail
      have hs1 : strB [97#8] = ⟨#[97]⟩ := by decide +kernel
      have HT := Lib.hid (textP_any [] [97#8] 0 1 none 0 w7 rfl rfl (by omega) (Or.inl rfl))
      rw [hs1] at HT
      clear hs1
      refine HT.out.mono ?_
      rintro e w8 ⟨r8, rfl, ho, hb⟩
      obtain ⟨q8, c8, rfl, -, -, hl8⟩ := ho.sl (N := 9) (by decide +kernel)
      have HL8 := Lib.hid hl8
      have HB8 := Lib.hid (HB7.out.trans (hb.mono HB7.out.size))
      clear ho hl8 hb HT HB7
      have hx8 : [] ++ be8 ((1 : Nat) : Int) ++ [97#8] = [0#8, 0#8, 0#8, 0#8, 0#8, 0#8, 0#8, 1#8, 97#8] := by decide +kernel
      rw [hx8] at HL8
      clear hx8
      go_wp2_with fail
      have hl6 : Lies (w8.alloc (.cells (bytesV [0#8, 0#8, 0#8, 0#8, 0#8, 0#8, 0#8, 1#8, 97#8]).toArray 5)) (some ⟨w8.heap.size, 0, none⟩) [0#8, 0#8, 0#8, 0#8, 0#8, 0#8, 0#8, 1#8, 97#8] := lies_new rfl
      have hb6 : Below w8.heap.size w8 (w8.alloc (.cells (bytesV [0#8, 0#8, 0#8, 0#8, 0#8, 0#8, 0#8, 1#8, 97#8]).toArray 5)) := (Below.refl _ _).alloc (Nat.le_refl _) _
      refine (same_any [0#8, 0#8, 0#8, 0#8, 0#8, 0#8, 0#8, 1#8, 97#8] 9 q8 _ c8 9 _ rfl (by omega) (HL8.out.below hb6) hl6).mono ?_
      rintro e w9 ⟨rfl, hb⟩
      have HW9 := Lib.hid (HW0.out w9 (HB8.out.trans ((hb6.trans (hb.mono hb6.size)).mono HB8.out.size)))
      clear hb hl6 hb6 HB8 HL8 HW0
      go_wp2_with fail
      refine HW9.out.mono ?_
      rintro e w10 ⟨rfl, hb⟩
      have HBZ := Lib.hid hb; clear hb
      go_wp2_with fail
      go_ret
      exact ⟨rfl, HBZ.out⟩
end Go.Proofs.Ytadlpidhemjkgaa

/-
  PackKnown: the law returns true. Without any condition.
-/
namespace Go.Proofs.Ytadlpidhemjkgaa
open Go.ChangeShapes Go.WideShapes Go.ChangeAt Go.RowKit Go.Proofs.ShaWords

set_option maxRecDepth 100000 in
theorem packKnown_lifted (os : Os) (started : os.Started) (H : Type) (enc : TypeId × Value → H) :
    ReturnsInHanded {} Try.checked os 3 .any (Rows.packKnownSpec.pre6 enc Try.prog Try.f3 Rows.packKnownRow.domain false)
      (Rows.packKnownSpec.post enc Try.prog Try.f3 false true false false) := by
  refine returnsInHanded_of_change_sized (C := Try.checked) own started (by kernel_rfl) Try.func3
    (ChangeSpec.witness6 (enc := enc) (C := Try.checked) false ⟨#[], #[], []⟩ 8 (by kernel_rfl) (by kernel_rfl) (by kernel_rfl) (by kernel_rfl)) ?_
  intro W base args ds gs before hval0 hW _ hsz _
  have hW' := hW
  obtain ⟨p, q, hA0, hV, rfl, hfz, hnd⟩ := hW
  have hA : DataW.TrodAll enc Try.prog W 0 (fun _ => true) true Try.f3.params.toList args.toList ds p := hA0
  have hval : ∀ (j : Nat) t v, Try.f3.params[j]? = some t → args[j]? = some v → Value.okWide Try.prog W .any base t v := hval0
  have hsz2 : (DataW.weightsEach Try.prog (Try.f3.params.toList ++ Rows.packKnownSpec.plain.varTypes Try.prog) (ds ++ gs)).all (· ≤ reachBytes) = true := hsz
  rw [Try.params3] at hA hval hsz2
  obtain ⟨hargs, rfl, rfl⟩ := trodAll_nil hA
  obtain rfl : args = #[] := by cases args; simp_all
  obtain ⟨rfl, rfl⟩ := trodVars_none hV
  clear hA0 hval0
  refine (packKnown_any W).mono fun e W' ⟨he, bel⟩ => ?_
  subst he
  exact ⟨_, rfl, _, _, _, [], _, [], hW', trodAll_mk1 (shut_bool Try.underlying4 _), trodAll_mk0, rfl, bel.frame _, fun h => by cases h⟩

theorem packKnown_holds : Rows.PackKnownSaid :=
  OpenClaim.holds_of_wide 3 Try.f3 rfl rfl rfl rfl rfl rfl rfl ⟨rfl, rfl, rfl, rfl, rfl⟩ rfl rfl rfl rfl rfl (by kernel_rfl) Try.func3 (by kernel_rfl)
    (of_decide_eq_true (by kernel_rfl)) (by unfold Func.isWrapper; first | (rw [if_pos (by decide +kernel)]; kernel_rfl) | (rw [if_neg (by decide +kernel)]; exact ⟨rfl, rfl⟩))
    (fun os started H enc _ => packKnown_lifted os started H enc)

#print axioms packKnown_holds
end Go.Proofs.Ytadlpidhemjkgaa
