/-
  The builtin max of two and of three lengths, as one step of the walk.
-/
import Derived.Test.YtagkkihnfipfeaaDoorGen
namespace Go.Proofs.YtagkkihnfipfeaaDoor
open Go.RowKit Go.Proofs.ShaWords
theorem run_max2 {ρ : Operand → Value} {o : Oper} {x y : Operand} {n m k : Nat} (ho : o.op = .call { callee := .builtin .max, args := #[x, y], argTypes := #[3, 3] }) (hx : ρ x = .int .i64 (n : Int)) (hy : ρ y = .int .i64 (m : Int)) (hk : k = max n m) (w : World) :
    (execOp ρ o).run Tryd.prog w = .ok (.value (.int .i64 (k : Int))) w := by
  obtain ⟨dst, op, ty', pos, after, guard⟩ := o
  simp only at ho
  subst ho
  by_cases h : n < m
  · have q : (n : Int) < (m : Int) := by omega
    have q2 : ¬ (m : Int) < (n : Int) := by omega
    have q3 : (n : Int) ≤ (m : Int) := by omega
    obtain rfl : k = m := by omega
    clear hk h
    go_simp
  · by_cases h2 : m < n
    · have q : ¬ (n : Int) < (m : Int) := by omega
      have q2 : (m : Int) < (n : Int) := by omega
      have q3 : (m : Int) ≤ (n : Int) := by omega
      obtain rfl : k = n := by omega
      clear hk h h2
      go_simp
    · obtain rfl : n = m := by omega
      obtain rfl : k = n := by omega
      clear hk h h2
      go_simp
theorem wpList_max2 {ops : Array Oper} {rest : List Oper} {o : Oper} {a : Act} {w : World} {Q : Exit → Act → World → Prop} (hg : o.guard = none) (x y : Operand) (ho : o.op = .call { callee := .builtin .max, args := #[x, y], argTypes := #[3, 3] }) (n m k : Nat)
    (hx : a.eval x = .int .i64 (n : Int)) (hy : a.eval y = .int .i64 (m : Int)) (hk : k = max n m) (h : wpList Tryd.prog ops Q rest (a.put o.dst (.int .i64 (k : Int))) w) : wpList Tryd.prog ops Q (o :: rest) a w := by
  refine wpList_plain hg fun K hK => ?_
  unfold Oper.wp
  rw [run_max2 ho hx hy hk w, Oper.upon_value]
  exact hK _ _ h
theorem run_max3 {ρ : Operand → Value} {o : Oper} {x y z : Operand} {n m r k : Nat} (ho : o.op = .call { callee := .builtin .max, args := #[x, y, z], argTypes := #[3, 3, 3] }) (hx : ρ x = .int .i64 (n : Int)) (hy : ρ y = .int .i64 (m : Int)) (hz : ρ z = .int .i64 (r : Int)) (hk : k = max (max n m) r) (w : World) :
    (execOp ρ o).run Tryd.prog w = .ok (.value (.int .i64 (k : Int))) w := by
  obtain ⟨dst, op, ty', pos, after, guard⟩ := o
  simp only at ho
  subst ho
  by_cases h : n < m
  · by_cases h2 : m < r
    · have q : (n : Int) < (m : Int) := by omega
      have q2 : (m : Int) < (r : Int) := by omega
      obtain rfl : k = r := by omega
      clear hk h h2
      go_simp
    · have q : (n : Int) < (m : Int) := by omega
      have q2 : ¬ (m : Int) < (r : Int) := by omega
      obtain rfl : k = m := by omega
      clear hk h h2
      go_simp
  · by_cases h2 : n < r
    · have q : ¬ (n : Int) < (m : Int) := by omega
      have q2 : (n : Int) < (r : Int) := by omega
      obtain rfl : k = r := by omega
      clear hk h h2
      go_simp
    · have q : ¬ (n : Int) < (m : Int) := by omega
      have q2 : ¬ (n : Int) < (r : Int) := by omega
      obtain rfl : k = n := by omega
      clear hk h h2
      go_simp
theorem wpList_max3 {ops : Array Oper} {rest : List Oper} {o : Oper} {a : Act} {w : World} {Q : Exit → Act → World → Prop} (hg : o.guard = none) (x y z : Operand) (ho : o.op = .call { callee := .builtin .max, args := #[x, y, z], argTypes := #[3, 3, 3] }) (n m r k : Nat)
    (hx : a.eval x = .int .i64 (n : Int)) (hy : a.eval y = .int .i64 (m : Int)) (hz : a.eval z = .int .i64 (r : Int)) (hk : k = max (max n m) r) (h : wpList Tryd.prog ops Q rest (a.put o.dst (.int .i64 (k : Int))) w) : wpList Tryd.prog ops Q (o :: rest) a w := by
  refine wpList_plain hg fun K hK => ?_
  unfold Oper.wp
  rw [run_max3 ho hx hy hz hk w, Oper.upon_value]
  exact hK _ _ h
end Go.Proofs.YtagkkihnfipfeaaDoor
