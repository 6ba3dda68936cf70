/-
  Operations that ChachaKnown's loops have: keys and nonces built, an int cut to a byte.
-/
import Derived.Test.YtgfmjfpafpmghaaDoorCcKnownRows
namespace Go.Proofs.YtgfmjfpafpmghaaDoor
open Go.RowKit Go.Proofs.ShaWords
section
variable {ρ : Operand → Value} {o : Oper} {x y : Operand} {w : World}
theorem run_cnv8 {m : Nat} (ho : o.op = .convert 3 5 x) (hx : ρ x = .int .i64 (m : Int)) (w : World) : (execOp ρ o).run Tryd.prog w = .ok (.value (.int .u8 (n8 (BitVec.ofNat 8 m)))) w := by
  obtain ⟨dst, op, ty', pos, after, guard⟩ := o
  simp only at ho
  subst ho
  have h : IntKind.u8.wrap (m : Int) = n8 (BitVec.ofNat 8 m) := by unfold n8; rw [IntKind.wrap_u8', BitVec.toNat_ofNat]; omega
  generalize n8 (BitVec.ofNat 8 m) = z at h ⊢
  go_simp
theorem run_less1 {m : Int} (ho : o.op = .binOp .sub 3 x (.const (.int .i64 1)) 3) (h0 : ∀ u, ρ (.const u) = u) (hx : ρ x = .int .i64 m) (h1 : 0 ≤ m) (h2 : m ≤ 1000) (w : World) : (execOp ρ o).run Tryd.prog w = .ok (.value (.int .i64 (m - 1))) w := by
  obtain ⟨dst, op, ty', pos, after, guard⟩ := o
  simp only at ho
  subst ho
  have hc := h0 (.int .i64 1)
  have h := IntWalk.i64_in (m - 1) (by omega)
  go_simp
theorem run_bK1 {b : BitVec 8} (ho : o.op = .build 44 #[(0, x)]) (hx : ρ x = .int .u8 (n8 b)) (w : World) : (execOp ρ o).run Tryd.prog w = .ok (.value (.agg (bytesV (b :: noughts 31)).toArray)) w := by
  have e : (bytesV (b :: noughts 31)).toArray = #[.int .u8 (n8 b), .int .u8 0, .int .u8 0, .int .u8 0, .int .u8 0, .int .u8 0, .int .u8 0, .int .u8 0, .int .u8 0, .int .u8 0, .int .u8 0, .int .u8 0, .int .u8 0, .int .u8 0, .int .u8 0, .int .u8 0, .int .u8 0, .int .u8 0, .int .u8 0, .int .u8 0, .int .u8 0, .int .u8 0, .int .u8 0, .int .u8 0, .int .u8 0, .int .u8 0, .int .u8 0, .int .u8 0, .int .u8 0, .int .u8 0, .int .u8 0, .int .u8 0] := rfl
  rw [e]
  obtain ⟨dst, op, ty', pos, after, guard⟩ := o
  simp only at ho
  subst ho
  go_simp
theorem run_bN1 {b : BitVec 8} (ho : o.op = .build 46 #[(0, x)]) (hx : ρ x = .int .u8 (n8 b)) (w : World) : (execOp ρ o).run Tryd.prog w = .ok (.value (.agg (bytesV (b :: noughts 11)).toArray)) w := by
  have e : (bytesV (b :: noughts 11)).toArray = #[.int .u8 (n8 b), .int .u8 0, .int .u8 0, .int .u8 0, .int .u8 0, .int .u8 0, .int .u8 0, .int .u8 0, .int .u8 0, .int .u8 0, .int .u8 0, .int .u8 0] := rfl
  rw [e]
  obtain ⟨dst, op, ty', pos, after, guard⟩ := o
  simp only at ho
  subst ho
  go_simp
theorem run_bN2 {b d : BitVec 8} (ho : o.op = .build 46 #[(0, x), (1, y)]) (hx : ρ x = .int .u8 (n8 b)) (hy : ρ y = .int .u8 (n8 d)) (w : World) : (execOp ρ o).run Tryd.prog w = .ok (.value (.agg (bytesV (b :: d :: noughts 10)).toArray)) w := by
  have e : (bytesV (b :: d :: noughts 10)).toArray = #[.int .u8 (n8 b), .int .u8 (n8 d), .int .u8 0, .int .u8 0, .int .u8 0, .int .u8 0, .int .u8 0, .int .u8 0, .int .u8 0, .int .u8 0, .int .u8 0, .int .u8 0] := rfl
  rw [e]
  obtain ⟨dst, op, ty', pos, after, guard⟩ := o
  simp only at ho
  subst ho
  go_simp
theorem run_bN0 (ho : o.op = .build 46 #[]) (w : World) : (execOp ρ o).run Tryd.prog w = .ok (.value (.agg (bytesV (noughts 12)).toArray)) w := by
  have e : (bytesV (noughts 12)).toArray = #[.int .u8 0, .int .u8 0, .int .u8 0, .int .u8 0, .int .u8 0, .int .u8 0, .int .u8 0, .int .u8 0, .int .u8 0, .int .u8 0, .int .u8 0, .int .u8 0] := rfl
  rw [e]
  obtain ⟨dst, op, ty', pos, after, guard⟩ := o
  simp only at ho
  subst ho
  go_simp
end
/-- The counters that the law goes through. -/
def nW : List (BitVec 32) := [0#32, 1#32, 2#32, 2147483647#32, 2147483648#32, 4294967294#32, 4294967295#32]
structure KL (w : World) (G : Nat) (wr : World) : Prop where
  n : OwnW w.heap.size wr nW (.slice (some ⟨G, 0, none⟩) 7 7)
  below : Below w.heap.size w wr
theorem KL.on {w wr w' : World} {G : Nat} (h : KL w G wr) (hb : Below wr.heap.size wr w') : KL w G w' := ⟨h.n.below hb, h.below.trans (hb.mono h.below.size)⟩
theorem KL.cell {w wr : World} {G : Nat} (h : KL w G wr) (j : Nat) (hj : j < 7) : wr.cell? ⟨G, j, none⟩ = some (.int .u32 (n32 (nW.getD j 0#32))) := OwnW.cell h.n j hj
theorem run_callf6 {P : Program} {ρ : Operand → Value} {o : Oper} {x1 x2 x3 x4 x5 x6 : Operand} {v1 v2 v3 v4 v5 v6 : Value} {f : FuncId} {fn : Func} {T : Array TypeId} (ho : o.op = .call { callee := .value (.func f), args := #[x1, x2, x3, x4, x5, x6], argTypes := T }) (hf : ρ (.func f) = .func (.func f) #[] #[])
    (h1 : ρ x1 = v1) (h2 : ρ x2 = v2) (h3 : ρ x3 = v3) (h4 : ρ x4 = v4) (h5 : ρ x5 = v5) (h6 : ρ x6 = v6) (hfn : P.funcs[f]? = some fn) (hb : (fn.name == "runtime.NumGoroutine" || fn.body.isNone) = false) (w : World) : (execOp ρ o).run P w = .ok (.enter f #[v1, v2, v3, v4, v5, v6]) w := by
  obtain ⟨dst, op, ty, pos, after, guard⟩ := o
  simp only at ho
  subst ho
  have h := callFunc_body hfn hb #[v1, v2, v3, v4, v5, v6] w
  go_simp
end Go.Proofs.YtgfmjfpafpmghaaDoor
