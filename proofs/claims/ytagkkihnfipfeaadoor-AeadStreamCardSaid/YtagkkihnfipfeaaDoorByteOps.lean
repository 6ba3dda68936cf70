/-
  Single operations on slices of bytes: a slice loaded, an element's address, a byte loaded, stored, combined.
-/
import Derived.Test.YtagkkihnfipfeaaDoorWordsAt
import Derived.Test.YtagkkihnfipfeaaDoorPhase
namespace Go.Proofs.YtagkkihnfipfeaaDoor
open Go.RowKit Go.Proofs.ShaWords
theorem xor8 (x y : BitVec 8) : bits .xor .u8 (n8 x) (n8 y) = n8 (x ^^^ y) := by
  unfold n8; rw [u8_xor_nat _ _ (by have := x.isLt; omega) (by have := y.isLt; omega), BitVec.toNat_xor]
theorem put_none (a : Act) (v : Value) : a.put none v = a := rfl
theorem eval_none (a : Act) (v : Value) (t : Nat) : (a.put none v).eval (.tmp t) = a.eval (.tmp t) := rfl
section
variable {ρ : Operand → Value} {o : Oper} {x y : Operand} {w : World}
theorem run_loadSlice {a : Addr} {p : Option Addr} {n c : Nat} (ho : o.op = .load 26 x) (hx : ρ x = .pointer (some a)) (hc : w.cell? a = some (.slice p n c)) : (execOp ρ o).run Tryd.prog w = .ok (.value (.slice p n c)) w := by
  obtain ⟨dst, op, ty', pos, after, guard⟩ := o
  simp only at ho
  subst ho
  go_simp
theorem run_ixSlice {b off n c k : Nat} (ho : o.op = .indexAddr 26 x y) (hx : ρ x = .slice (some ⟨b, off, none⟩) n c) (hy : ρ y = .int .i64 (k : Int)) (hk : k < n) (w : World) :
    (execOp ρ o).run Tryd.prog w = .ok (.value (.pointer (some ⟨b, off + k, none⟩))) w := by
  obtain ⟨dst, op, ty', pos, after, guard⟩ := o
  simp only at ho
  subst ho
  have q : (k : Int) < (n : Int) := by omega
  go_simp
theorem run_ixSlice0 {b n c k : Nat} (ho : o.op = .indexAddr 26 x y) (hx : ρ x = .slice (some ⟨b, 0, none⟩) n c) (hy : ρ y = .int .i64 (k : Int)) (hk : k < n) (w : World) :
    (execOp ρ o).run Tryd.prog w = .ok (.value (.pointer (some ⟨b, k, none⟩))) w := by
  have h := run_ixSlice ho hx hy hk w
  rw [Nat.zero_add] at h; exact h
theorem run_load8 {a : Addr} {v : Int} (ho : o.op = .load 5 x) (hx : ρ x = .pointer (some a)) (hc : w.cell? a = some (.int .u8 v)) : (execOp ρ o).run Tryd.prog w = .ok (.value (.int .u8 v)) w := by
  obtain ⟨dst, op, ty', pos, after, guard⟩ := o
  simp only at ho
  subst ho
  go_simp
theorem run_store8 {a : Addr} {v : Int} {u : Value} (ho : o.op = .store 5 x y) (hx : ρ x = .pointer (some a)) (hy : ρ y = .int .u8 v) (hc : w.cell? a = some u) (hf : w.frozen? a = false) :
    (execOp ρ o).run Tryd.prog w = .ok .skip (w.setCell a (.int .u8 v)) := by
  obtain ⟨dst, op, ty', pos, after, guard⟩ := o
  simp only at ho
  subst ho
  go_simp
theorem run_xor8 {a b : BitVec 8} (ho : o.op = .binOp .xor 5 x y 5) (hx : ρ x = .int .u8 (n8 a)) (hy : ρ y = .int .u8 (n8 b)) (w : World) : (execOp ρ o).run Tryd.prog w = .ok (.value (.int .u8 (n8 (a ^^^ b)))) w := by
  obtain ⟨dst, op, ty', pos, after, guard⟩ := o
  simp only at ho
  subst ho
  have h := xor8 a b
  go_simp
end
end Go.Proofs.YtagkkihnfipfeaaDoor
