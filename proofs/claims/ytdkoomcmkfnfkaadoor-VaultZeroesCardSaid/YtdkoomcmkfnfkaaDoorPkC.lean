/-
  What other texts lean on: CcCells.
-/
import Derived.Test.YtdkoomcmkfnfkaaDoorPkA
/-
  Single operations on the rows of chacha.mix: an element's address, a cell loaded, a cell stored, a part of a result of several values.
-/
namespace Go.Proofs.YtdkoomcmkfnfkaaDoor
open Go.RowKit Go.Proofs.ShaWords

section
variable {ρ : Operand → Value} {o : Oper} {x y : Operand} {w : World}
theorem run_ix16 {g j : Nat} (ho : o.op = .indexAddr 114 x y) (hx : ρ x = .pointer (some ⟨g, 0, none⟩)) (hy : ρ y = .int .i64 (j : Int)) (hj : j < 16) (w : World) :
    (execOp ρ o).run Tryd.prog w = .ok (.value (.pointer (some ⟨g, j, none⟩))) w := by
  obtain ⟨dst, op, ty', pos, after, guard⟩ := o
  simp only at ho
  subst ho
  have q : (j : Int) < 16 := by omega
  go_simp
theorem run_loadInt {a : Addr} {n : Int} (ho : o.op = .load 3 x) (hx : ρ x = .pointer (some a)) (hc : w.cell? a = some (.int .i64 n)) : (execOp ρ o).run Tryd.prog w = .ok (.value (.int .i64 n)) w := by
  obtain ⟨dst, op, ty', pos, after, guard⟩ := o
  simp only at ho
  subst ho
  go_simp
theorem run_load32 {a : Addr} {v : Int} (ho : o.op = .load 109 x) (hx : ρ x = .pointer (some a)) (hc : w.cell? a = some (.int .u32 v)) : (execOp ρ o).run Tryd.prog w = .ok (.value (.int .u32 v)) w := by
  obtain ⟨dst, op, ty', pos, after, guard⟩ := o
  simp only at ho
  subst ho
  go_simp
theorem run_store32 {a : Addr} {v : Int} {u : Value} (ho : o.op = .store 109 x y) (hx : ρ x = .pointer (some a)) (hy : ρ y = .int .u32 v) (hc : w.cell? a = some u) (hf : w.frozen? a = false) :
    (execOp ρ o).run Tryd.prog w = .ok .skip (w.setCell a (.int .u32 v)) := by
  obtain ⟨dst, op, ty', pos, after, guard⟩ := o
  simp only at ho
  subst ho
  go_simp
theorem run_extract {vs : Array Value} {k : Nat} {v : Value} {P : Program} (ho : o.op = .extract x k) (hx : ρ x = .tuple vs) (hv : vs[k]? = some v) (w : World) : (execOp ρ o).run P w = .ok (.value v) w := by
  obtain ⟨dst, op, ty', pos, after, guard⟩ := o
  simp only at ho
  subst ho
  go_simp
end
end Go.Proofs.YtdkoomcmkfnfkaaDoor
