/-
  A region that draws its order, carried out along one list of its operations: those that yield their value in every world that keeps the old blocks are taken as they come, the others must stand alone when they come up.
-/
import Derived.Test.YtifnflhkcpchhaaDoorDigest
import Derived.Lib.SlBytesConst
import Derived.Deep.RegionHeld3
namespace Go.Proofs.YtifnflhkcpchhaaDoor
open Go.RowKit Go.Proofs.ShaWords

/-- May the region be carried out along this list? (true: the operation yields its value whatever else has been done; false: it is the only one that may come up.) -/
def schedOk (ops : Array Oper) : List (Nat × Bool) → Array Bool → Bool
  | [], L => (Region.ready .any ops L).isEmpty
  | (i, true) :: r, L => Region.free .any ops L i && (Region.ready .any ops L).contains i && schedOk ops r (L.setIfInBounds i true)
  | (i, false) :: r, L => decide (Region.ready .any ops L = [i]) && schedOk ops r (L.setIfInBounds i true)
/-- What is to be shown, operation by operation. -/
def wpS (P : Program) (ops : Array Oper) (Q : Exit → Act → World → Prop) (S : World → Prop) : List (Nat × Bool) → Act → World → Prop
  | [], a, w => Q .normal a w
  | (i, true) :: r, a, w => ∃ o v, ops[i]? = some o ∧ YieldsIf P ops S o v a ∧ wpS P ops Q S r (a.put o.dst v) w
  | (i, false) :: r, a, w => wpOp P ops Q i (fun a' w' => S w' ∧ wpS P ops Q S r a' w') a w
theorem wpAnyH_sched {P : Program} {ops : Array Oper} {Q : Exit → Act → World → Prop} {S : World → Prop} (hs : Region.noSelect ops = true) (hQ : ∀ c a w, ¬ Q (.panic c) a w) :
    ∀ (r : List (Nat × Bool)) (L : Array Bool) (a : Act) (w : World), schedOk ops r L = true → S w → wpS P ops Q S r a w → wpAnyH P .any ops Q S r.length L a w
  | [], L, a, w, hc, _, h => by
    simp only [schedOk, List.isEmpty_iff] at hc
    exact wpAnyH_done hc h 0
  | (i, true) :: r, L, a, w, hc, hS, h => by
    simp only [schedOk, Bool.and_eq_true] at hc
    obtain ⟨o, v, ho, hy, h⟩ := h
    exact wpAnyH_take ho hs hc.1.1 hc.1.2 (fun c a w h => absurd h (hQ c _ w)) hy hS (wpAnyH_sched hs hQ r _ _ w hc.2 hS h)
  | (i, false) :: r, L, a, w, hc, hS, h => by
    simp only [schedOk, Bool.and_eq_true, decide_eq_true_eq] at hc
    refine wpAnyH_all hc.1 (by simp) (fun j hj => ?_)
    rw [List.mem_singleton.1 hj]
    exact wpOp_mono (fun a' w' h' => ⟨h'.1, wpAnyH_sched hs hQ r _ a' w' hc.2 h'.1 h'.2⟩) h
/-- Old blocks are as they were. -/
abbrev Keeps (w0 : World) : World → Prop := fun w => Below w0.heap.size w0 w
theorem region_sched {P : Program} {id : Nat} {ops : Array Oper} {Q : Exit → Act → World → Prop} {a : Act} {w : World} (r : List (Nat × Bool)) (hm : P.follows .mixedOrders = true) (hs : Region.noSelect ops = true)
    (hl : r.length = ops.size) (hc : schedOk ops r (Array.replicate ops.size false) = true)
    (h : ∀ ops', ops' = ops → ∀ A, A = a → wpS P ops' (NoPanic Q) (Keeps w.drew) r A w.drew) : (Code.region id ops true).wp P Q a w := by
  refine wp_region_noPanic (wp_region_held (S := Keeps w.drew) hm ?_)
  rw [← hl]
  exact wpAnyH_sched hs (fun c a w h => h) r _ a w.drew (hl ▸ hc) (Below.refl _ _) (h ops rfl a rfl)

section
variable {P : Program} {ops : Array Oper} {Q : Exit → Act → World → Prop} {S : World → Prop} {r : List (Nat × Bool)} {i : Nat} {o : Oper} {d : Option Tmp} {v : Value} {a : Act} {w w' : World}
theorem wanted_guard {j : Nat} {dj : Tmp} {oj : Oper} (hg : o.guard = some (j, true)) (hj : ops[j]? = some oj) (hd : oj.dst = some dj) (he : a.eval (.tmp dj) = .bool true) : Region.wanted o (yielded ops a.tmps) = true := by
  have h2 : a.tmps[dj]? = some (.bool true) := by
    have h3 : a.tmps.getD dj undef = .bool true := he
    rw [Array.getD_eq_getD_getElem?] at h3
    cases h4 : a.tmps[dj]? with
    | none => rw [h4] at h3; exact absurd h3 (by simp [undef])
    | some u => rw [h4] at h3; simp at h3; rw [h3]
  unfold Region.wanted
  rw [hg]
  simp only [yielded, hj, Option.bind_some, hd, h2]
  rfl
theorem step_pure (ho : ops[i]? = some o) (hd : o.dst = d) (hw : Region.wanted o (yielded ops a.tmps) = true) (hr : ∀ w, S w → (execOp a.eval o).run P w = .ok (.value v) w) (h : wpS P ops Q S r (a.put d v) w) : wpS P ops Q S ((i, true) :: r) a w :=
  ⟨o, v, ho, .inl ⟨hw, hr⟩, by rw [hd]; exact h⟩
theorem step_op (ho : ops[i]? = some o) (hd : o.dst = d) (hw : Region.wanted o (yielded ops a.tmps) = true) (hr : (execOp a.eval o).run P w = .ok (.value v) w') (hS : S w') (h : wpS P ops Q S r (a.put d v) w') : wpS P ops Q S ((i, false) :: r) a w := by
  show wpOp P ops Q i _ a w
  unfold wpOp
  rw [ho]
  show if Region.wanted o (yielded ops a.tmps) = true then _ else _
  rw [if_pos hw]
  refine .inl ?_
  unfold Oper.wp
  rw [hr, Oper.upon_value, hd]
  exact ⟨hS, h⟩
theorem step_call {f : FuncId} {args : Array Value} {R : World → Prop} (ho : ops[i]? = some o) (hd : o.dst = d) (hw : Region.wanted o (yielded ops a.tmps) = true) (hr : (execOp a.eval o).run P w = .ok (.enter f args) w)
    (hc : Calls P f args w fun e w' => e = .returned v ∧ R w') (hS : ∀ w', R w' → S w') (h : ∀ w', R w' → wpS P ops Q S r (a.put d v) w') : wpS P ops Q S ((i, false) :: r) a w := by
  show wpOp P ops Q i _ a w
  unfold wpOp
  rw [ho]
  show if Region.wanted o (yielded ops a.tmps) = true then _ else _
  rw [if_pos hw]
  exact .inl (wp_enter hr hc (fun w' hR => by rw [hd]; exact ⟨hS w' hR, h w' hR⟩))
end

section
variable {P : Program} {ρ : Operand → Value} {o : Oper} {x y c : Operand} {v u : Value}
theorem run_assign (ho : o.op = .assign x) (h : ρ x = v) (w : World) : (execOp ρ o).run P w = .ok (.value v) w := by
  unfold execOp; simp only [ho, h, Sem.run_pure]
theorem run_pick_true (ho : o.op = .pick c x y) (hc : ρ c = .bool true) (h : ρ x = v) (w : World) : (execOp ρ o).run P w = .ok (.value v) w := by
  unfold execOp; simp only [ho, hc, h, Sem.run_bind]; rfl
theorem run_eql_sum {l : List (BitVec 8)} {ty : TypeId} (ho : o.op = .binOp .eql 31 x y ty) (hl : l.length = 32) (hx : ρ x = .agg (bytesV l).toArray) (hy : ρ y = .agg (bytesV l).toArray) (w : World) :
    (execOp ρ o).run Tryd.prog w = .ok (.value (.bool true)) w := by
  have hg : Tryd.prog.eqGuardType Tryd.prog.depth 31 = false := by kernel_rfl
  unfold execOp
  simp only [ho, hx, hy, Sem.run_bind, run_eqGuard_agg w .eql 31 x y _ _ hg, Result.andThen_ok, eql26 l hl, Sem.run_pure]
theorem run_load_sum {l : List (BitVec 8)} {b : Nat} {w : World} (ho : o.op = .load 31 x) (hx : ρ x = .pointer (some ⟨b, 0, none⟩)) (hl : l.length = 32) (hr : w.rangeAt b 0 (bytesV l)) : (execOp ρ o).run Tryd.prog w = .ok (.value (.agg (bytesV l).toArray)) w := by
  have h := run_loadAt_mid (P := Tryd.prog) w b 0 31 (bytesV l) _ hr Tryd.underlying31 rfl (by rw [bytesV_length, hl]; kernel_rfl)
  unfold execOp
  simp only [ho, hx, Sem.run_bind, h, Result.andThen_ok, Sem.run_pure]
theorem range_keep {w w' : World} {b off : Nat} {l : List Value} (h : w.rangeAt b off l) (hb : Below w.heap.size w w') : w'.rangeAt b off l := fun j v hv =>
  (hb.cell (p := ⟨b, off + j, none⟩) (World.block_lt_of_cell? w _ (h j v hv))).trans (h j v hv)
/-- A call of any function of the program that has a body. -/
theorem callFunc_body {P : Program} {f : FuncId} {fn : Func} (hfn : P.funcs[f]? = some fn) (hb : (fn.name == "runtime.NumGoroutine" || fn.body.isNone) = false) (args : Array Value) (w : World) : (callFunc f args).run P w = .ok (.enter f args) w := by
  rw [Bool.or_eq_false_iff] at hb
  have h1 : ¬ fn.name = "runtime.NumGoroutine" := by simpa using hb.1
  have h2 : ¬ fn.body = none := fun h => by rw [h] at hb; exact absurd hb.2 (by decide)
  simp [callFunc, go_sem, hfn, h1, h2]
theorem run_callf0 {P : Program} {f : FuncId} {fn : Func} {T : Array TypeId} (ho : o.op = .call { callee := .value (.func f), args := #[], argTypes := T }) (hf : ρ (.func f) = .func (.func f) #[] #[])  (hfn : P.funcs[f]? = some fn) (hb : (fn.name == "runtime.NumGoroutine" || fn.body.isNone) = false) (w : World) : (execOp ρ o).run P w = .ok (.enter f #[]) w := by
  obtain ⟨dst, op, ty, pos, after, guard⟩ := o
  simp only at ho
  subst ho
  have h := callFunc_body hfn hb #[] w
  go_simp
theorem run_callf1 {P : Program} {f : FuncId} {fn : Func} {T : Array TypeId} (ho : o.op = .call { callee := .value (.func f), args := #[x], argTypes := T }) (hf : ρ (.func f) = .func (.func f) #[] #[]) (hx : ρ x = v) (hfn : P.funcs[f]? = some fn) (hb : (fn.name == "runtime.NumGoroutine" || fn.body.isNone) = false) (w : World) : (execOp ρ o).run P w = .ok (.enter f #[v]) w := by
  obtain ⟨dst, op, ty, pos, after, guard⟩ := o
  simp only at ho
  subst ho
  have h := callFunc_body hfn hb #[v] w
  go_simp
theorem run_callf2 {P : Program} {f : FuncId} {fn : Func} {T : Array TypeId} (ho : o.op = .call { callee := .value (.func f), args := #[x, y], argTypes := T }) (hf : ρ (.func f) = .func (.func f) #[] #[]) (hx : ρ x = v) (hy : ρ y = u) (hfn : P.funcs[f]? = some fn) (hb : (fn.name == "runtime.NumGoroutine" || fn.body.isNone) = false) (w : World) : (execOp ρ o).run P w = .ok (.enter f #[v, u]) w := by
  obtain ⟨dst, op, ty, pos, after, guard⟩ := o
  simp only at ho
  subst ho
  have h := callFunc_body hfn hb #[v, u] w
  go_simp
theorem run_callf3 {P : Program} {f : FuncId} {fn : Func} {T : Array TypeId} {z : Value} (ho : o.op = .call { callee := .value (.func f), args := #[x, y, c], argTypes := T }) (hf : ρ (.func f) = .func (.func f) #[] #[]) (hx : ρ x = v) (hy : ρ y = u) (hz : ρ c = z) (hfn : P.funcs[f]? = some fn) (hb : (fn.name == "runtime.NumGoroutine" || fn.body.isNone) = false) (w : World) : (execOp ρ o).run P w = .ok (.enter f #[v, u, z]) w := by
  obtain ⟨dst, op, ty, pos, after, guard⟩ := o
  simp only at ho
  subst ho
  have h := callFunc_body hfn hb #[v, u, z] w
  go_simp
theorem run_callf4 {P : Program} {f : FuncId} {fn : Func} {T : Array TypeId} {z z2 : Value} {c2 : Operand} (ho : o.op = .call { callee := .value (.func f), args := #[x, y, c, c2], argTypes := T }) (hf : ρ (.func f) = .func (.func f) #[] #[]) (hx : ρ x = v) (hy : ρ y = u) (hz : ρ c = z) (hz2 : ρ c2 = z2) (hfn : P.funcs[f]? = some fn) (hb : (fn.name == "runtime.NumGoroutine" || fn.body.isNone) = false) (w : World) : (execOp ρ o).run P w = .ok (.enter f #[v, u, z, z2]) w := by
  obtain ⟨dst, op, ty, pos, after, guard⟩ := o
  simp only at ho
  subst ho
  have h := callFunc_body hfn hb #[v, u, z, z2] w
  go_simp
theorem sumOf_length (h : HS) : (sumOf h).length = 32 := digestOf_length _
theorem shaOf_length (bs : List (BitVec 8)) : (shaOf bs).length = 32 := sumOf_length _
/-- Calls of the program's functions. -/
theorem run_call8 (ho : o.op = .call { callee := .value (.func 10), args := #[], argTypes := #[] }) (hf : ρ (.func 10) = .func (.func 10) #[] #[]) (w : World) : (execOp ρ o).run Tryd.prog w = .ok (.enter 10 #[]) w := by
  obtain ⟨dst, op, ty, pos, after, guard⟩ := o
  simp only at ho
  subst ho
  go_simp
theorem run_call16 (ho : o.op = .call { callee := .value (.func 15), args := #[x], argTypes := #[23] }) (hf : ρ (.func 15) = .func (.func 15) #[] #[]) (hx : ρ x = v) (w : World) : (execOp ρ o).run Tryd.prog w = .ok (.enter 15 #[v]) w := by
  obtain ⟨dst, op, ty, pos, after, guard⟩ := o
  simp only at ho
  subst ho
  go_simp
theorem run_call10 (ho : o.op = .call { callee := .value (.func 24), args := #[x], argTypes := #[26] }) (hf : ρ (.func 24) = .func (.func 24) #[] #[]) (hx : ρ x = v) (w : World) : (execOp ρ o).run Tryd.prog w = .ok (.enter 24 #[v]) w := by
  obtain ⟨dst, op, ty, pos, after, guard⟩ := o
  simp only at ho
  subst ho
  go_simp
theorem run_abc (ho : o.op = .buildSlice 26 3 #[(0, .const (.int .u8 97)), (1, .const (.int .u8 98)), (2, .const (.int .u8 99))]) (h0 : ∀ u, ρ (.const u) = u) (w : World) :
    (execOp ρ o).run Tryd.prog w = .ok (.value (.slice (some ⟨w.heap.size, 0, none⟩) 3 3)) (w.alloc (.cells #[.int .u8 97, .int .u8 98, .int .u8 99] 5)) := by
  obtain ⟨dst, op, ty, pos, after, guard⟩ := o
  simp only at ho
  subst ho
  go_simp
theorem run_conv (ho : o.op = .convert 26 26 x) (C : Array Value) (n c : Nat) (w : World) (hx : ρ x = .slice (some ⟨w.heap.size, 0, none⟩) n c) :
    (execOp ρ o).run Tryd.prog (w.alloc (.cells C 5)) = .ok (.value (.slice (some ⟨w.heap.size, 0, none⟩) n c)) (w.alloc (.cells C 5 (C.size, C.size + 1))) := by
  have h := Lib.run_convert_bytes_const (P := Tryd.prog) w 26 5 C n c Tryd.underlying26 Tryd.underlying5
  unfold execOp
  simp only [ho, hx, Sem.run_bind, h, Result.andThen_ok, Sem.run_pure]
end
end Go.Proofs.YtifnflhkcpchhaaDoor
