/-
  What other texts lean on: CcCells.
-/
import Derived.Test.YtoidjapenompiaaDoorPkA
/-
  Single operations on the rows of chacha.mix: an element's address, a cell loaded, a cell stored, a part of a result of several values.
-/
namespace Go.Proofs.YtoidjapenompiaaDoor
open Go.RowKit Go.Proofs.ShaWords

section
variable {ρ : Operand → Value} {o : Oper} {x y : Operand} {w : World}
theorem run_extract {vs : Array Value} {k : Nat} {v : Value} {P : Program} (ho : o.op = .extract x k) (hx : ρ x = .tuple vs) (hv : vs[k]? = some v) (w : World) : (execOp ρ o).run P w = .ok (.value v) w := by
  obtain ⟨dst, op, ty', pos, after, guard⟩ := o
  simp only at ho
  subst ho
  go_simp
end
end Go.Proofs.YtoidjapenompiaaDoor
