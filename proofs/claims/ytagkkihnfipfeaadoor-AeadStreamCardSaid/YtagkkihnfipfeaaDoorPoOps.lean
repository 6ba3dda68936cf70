/-
  Operations that poly.Sum has: an append that grows, whole numbers loaded and stored, a byte string's parts.
-/
import Derived.Test.YtagkkihnfipfeaaDoorPoLimbs
import Derived.Test.YtagkkihnfipfeaaDoorBytes
import Derived.ArgAppend
namespace Go.Proofs.YtagkkihnfipfeaaDoor
open Go.RowKit Go.Proofs.ShaWords
theorem own_lies {B : Nat} {w : World} {l : List (BitVec 8)} {v : Value} (h : Own B w l v) : ∃ p cap, v = .slice p l.length cap ∧ l.length ≤ cap ∧ Lies w p l := by
  obtain ⟨p, c, h1, h2, -, h3⟩ := h.lies
  exact ⟨p, c, h1, h2, h3⟩
section
variable {P : Program} {ops : Array Oper} {Q : Exit → Act → World → Prop} {S E : World → Prop} {r : List (Nat × Met)} {i : Nat} {o : Oper} {d : Option Tmp} {v : Value} {a : Act} {w w' : World}
theorem met_before (ho : ops[i]? = some o) (hw : Region.wanted o (yielded ops a.tmps) = true)
    (h : o.wp P a w (fun a' w' => (S w' ∧ E w') ∧ wpE P ops Q S E r a' w') Q) : wpE P ops Q S E ((i, .before) :: r) a w := by
  show wpOp P ops Q i _ a w
  unfold wpOp
  rw [ho]
  show if Region.wanted o (yielded ops a.tmps) = true then _ else _
  rw [if_pos hw]
  exact .inl h
theorem met_behind (ho : ops[i]? = some o) (hw : Region.wanted o (yielded ops a.tmps) = true)
    (h : o.wp P a w (fun a' w' => S w' ∧ wpE P ops Q S E r a' w') Q) : wpE P ops Q S E ((i, .behind) :: r) a w := by
  show wpOp P ops Q i _ a w
  unfold wpOp
  rw [ho]
  show if Region.wanted o (yielded ops a.tmps) = true then _ else _
  rw [if_pos hw]
  exact .inl h
theorem met_valueB (ho : ops[i]? = some o) (hd : o.dst = d) (hw : Region.wanted o (yielded ops a.tmps) = true) (hr : (execOp a.eval o).run P w = .ok (.value v) w')
    (h : (S w' ∧ E w') ∧ wpE P ops Q S E r (a.put d v) w') : wpE P ops Q S E ((i, .before) :: r) a w := by
  refine met_before ho hw ?_
  unfold Oper.wp
  rw [hr, Oper.upon_value, hd]
  exact h
theorem met_enterB {f : FuncId} {args : Array Value} {R : Ending → World → Prop} (ho : ops[i]? = some o) (hd : o.dst = d) (hw : Region.wanted o (yielded ops a.tmps) = true) (hr : (execOp a.eval o).run P w = .ok (.enter f args) w) (hc : Calls P f args w R)
    (h : ∀ e w', R e w' → ∃ v, e = .returned v ∧ (S w' ∧ E w') ∧ wpE P ops Q S E r (a.put d v) w') : wpE P ops Q S E ((i, .before) :: r) a w := by
  refine met_before ho hw ?_
  unfold Oper.wp
  rw [hr, Oper.upon_enter]
  refine hc.mono ?_
  rintro e w' hR
  obtain ⟨v, rfl, hS, h⟩ := h e w' hR
  rw [hd]
  exact ⟨hS, h⟩
theorem met_enterA {f : FuncId} {args : Array Value} {R : Ending → World → Prop} (ho : ops[i]? = some o) (hd : o.dst = d) (hw : Region.wanted o (yielded ops a.tmps) = true) (hr : (execOp a.eval o).run P w = .ok (.enter f args) w) (hc : Calls P f args w R)
    (h : ∀ e w', R e w' → ∃ v, e = .returned v ∧ S w' ∧ wpE P ops Q S E r (a.put d v) w') : wpE P ops Q S E ((i, .behind) :: r) a w := by
  refine met_behind ho hw ?_
  unfold Oper.wp
  rw [hr, Oper.upon_enter]
  refine hc.mono ?_
  rintro e w' hR
  obtain ⟨v, rfl, hS, h⟩ := h e w' hR
  rw [hd]
  exact ⟨hS, h⟩
end
/-- An append that finds no room. -/
theorem wp_append_grow {o : Oper} {a : Act} {w : World} {K : Act → World → Prop} {Q : Exit → Act → World → Prop} (s x : Operand)
    (ho : o.op = .call { callee := .builtin .append, args := #[s, x], argTypes := #[26, 26] }) (l m : List (BitVec 8)) (b off b2 off2 n k c : Nat) (hs : a.eval s = .slice (some ⟨b, off, none⟩) n n) (hn : l.length = n)
    (hl : w.rangeAt b off (bytesV l)) (hx : a.eval x = .slice (some ⟨b2, off2, none⟩) k c) (hk : m.length = k) (hm : w.rangeAt b2 off2 (bytesV m)) (hne : 0 < k) (hlt : n + k < 1099511627776)
    (h : ∀ v' w', Own w.heap.size w' (l ++ m) v' → Below w.heap.size w w' → K (a.put o.dst v') w') : o.wp Tryd.prog a w K Q := by
  obtain ⟨i, hi, hz, hsz, hby⟩ := info5'
  subst hn
  subst hk
  obtain ⟨v', w', hrun, r1, r2⟩ := run_append_arg_grows (P := Tryd.prog) w 26 o.type 5 i (.int .u8 0) 1 1 Tryd.underlying26 hi hz hsz hby rfl (by decide) ⟨b, off, none⟩ l.length l.length (bytesV l) (by rw [bytesV_length, Nat.mul_one])
    (fun j u hj => by rw [Addr.add_mid]; exact hl j u hj) ⟨b2, off2, none⟩ m.length c (bytesV m) (by rw [bytesV_length, Nat.mul_one]) (fun j u hj => by rw [Addr.add_mid]; exact hm j u hj) (by omega) (by unfold maxLen; omega) (by omega)
  unfold Oper.wp
  simp [execOp, ho, resolve, invoke, builtin, hs, hx, hrun, Result.andThen]
  refine h v' w' ?_ ((Below.refl _ w).grown r2 (Nat.le_refl _) (fun k hk => by cases hk))
  unfold Own
  rw [List.length_append, bytesV_append]; exact r1
section
variable {ρ : Operand → Value} {o : Oper} {x y : Operand} {w : World}
theorem run_build1 {i : Int} (ho : o.op = .buildSlice 26 1 #[(0, x)]) (hx : ρ x = .int .u8 i) (w : World) :
    (execOp ρ o).run Tryd.prog w = .ok (.value (.slice (some ⟨w.heap.size, 0, none⟩) 1 1)) (w.alloc (.cells #[.int .u8 i] 5)) := by
  obtain ⟨dst, op, ty', pos, after, guard⟩ := o
  simp only at ho
  subst ho
  go_simp
theorem run_loadNum {l : List (BitVec 64)} {b : Nat} (ho : o.op = .load 71 x) (hx : ρ x = .pointer (some ⟨b, 0, none⟩)) (hl : l.length = 5) (hr : LimbsAt w b tNum l) : (execOp ρ o).run Tryd.prog w = .ok (.value (.agg (limbsV l).toArray)) w := by
  unfold execOp
  simp only [ho, hx, Instr.loadAt, Instr.sureAddr, Sem.run_bind, Sem.run_pure, Result.andThen_ok, run_loadVar_row w b tNum 71 (limbsV l).toArray (0, 0) _ hr Tryd.underlying71 rfl (info5n l hl)]
theorem run_key16 {g : Nat} (ho : o.op = .slice 23 x (some (.const (.int .i64 16))) none none) (h0 : ∀ u, ρ (.const u) = u) (hx : ρ x = .pointer (some ⟨g, 0, none⟩)) (w : World) :
    (execOp ρ o).run Tryd.prog w = .ok (.value (.slice (some ⟨g, 16, none⟩) 16 16)) w := by
  obtain ⟨dst, op, ty', pos, after, guard⟩ := o
  simp only at ho
  subst ho
  have h1 := h0 (.int .i64 16)
  go_simp
end
end Go.Proofs.YtagkkihnfipfeaaDoor
