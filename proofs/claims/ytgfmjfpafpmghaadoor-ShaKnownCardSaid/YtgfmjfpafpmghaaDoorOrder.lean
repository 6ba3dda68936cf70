/-
  A region that draws its order, carried out along one list of its operations: those that yield their value in every world that keeps the old blocks are taken as they come, the others must stand alone when they come up.
-/
import Derived.Test.YtgfmjfpafpmghaaDoorDigest
import Derived.Lib.SlBytesConst
import Derived.Deep.RegionHeld3
namespace Go.Proofs.YtgfmjfpafpmghaaDoor
open Go.RowKit Go.Proofs.ShaWords

section
variable {P : Program} {ρ : Operand → Value} {o : Oper} {x y c : Operand} {v u : Value}
theorem run_eql_sum {l : List (BitVec 8)} {ty : TypeId} (ho : o.op = .binOp .eql 33 x y ty) (hl : l.length = 32) (hx : ρ x = .agg (bytesV l).toArray) (hy : ρ y = .agg (bytesV l).toArray) (w : World) :
    (execOp ρ o).run Tryd.prog w = .ok (.value (.bool true)) w := by
  have hg : Tryd.prog.eqGuardType Tryd.prog.depth 33 = false := by kernel_rfl
  unfold execOp
  simp only [ho, hx, hy, Sem.run_bind, run_eqGuard_agg w .eql 33 x y _ _ hg, Result.andThen_ok, eql26 l hl, Sem.run_pure]
theorem run_load_sum {l : List (BitVec 8)} {b : Nat} {w : World} (ho : o.op = .load 33 x) (hx : ρ x = .pointer (some ⟨b, 0, none⟩)) (hl : l.length = 32) (hr : w.rangeAt b 0 (bytesV l)) : (execOp ρ o).run Tryd.prog w = .ok (.value (.agg (bytesV l).toArray)) w := by
  have h := run_loadAt_mid (P := Tryd.prog) w b 0 33 (bytesV l) _ hr Tryd.underlying33 rfl (by rw [bytesV_length, hl]; kernel_rfl)
  unfold execOp
  simp only [ho, hx, Sem.run_bind, h, Result.andThen_ok, Sem.run_pure]
theorem sumOf_length (h : HS) : (sumOf h).length = 32 := digestOf_length _
theorem shaOf_length (bs : List (BitVec 8)) : (shaOf bs).length = 32 := sumOf_length _
/-- Calls of the program's functions. -/
theorem run_call8 (ho : o.op = .call { callee := .value (.func 16), args := #[], argTypes := #[] }) (hf : ρ (.func 16) = .func (.func 16) #[] #[]) (w : World) : (execOp ρ o).run Tryd.prog w = .ok (.enter 16 #[]) w := by
  obtain ⟨dst, op, ty, pos, after, guard⟩ := o
  simp only at ho
  subst ho
  go_simp
theorem run_call16 (ho : o.op = .call { callee := .value (.func 15), args := #[x], argTypes := #[37] }) (hf : ρ (.func 15) = .func (.func 15) #[] #[]) (hx : ρ x = v) (w : World) : (execOp ρ o).run Tryd.prog w = .ok (.enter 15 #[v]) w := by
  obtain ⟨dst, op, ty, pos, after, guard⟩ := o
  simp only at ho
  subst ho
  go_simp
theorem run_call10 (ho : o.op = .call { callee := .value (.func 13), args := #[x], argTypes := #[26] }) (hf : ρ (.func 13) = .func (.func 13) #[] #[]) (hx : ρ x = v) (w : World) : (execOp ρ o).run Tryd.prog w = .ok (.enter 13 #[v]) w := by
  obtain ⟨dst, op, ty, pos, after, guard⟩ := o
  simp only at ho
  subst ho
  go_simp
theorem run_abc (ho : o.op = .buildSlice 26 3 #[(0, .const (.int .u8 97)), (1, .const (.int .u8 98)), (2, .const (.int .u8 99))]) (h0 : ∀ u, ρ (.const u) = u) (w : World) :
    (execOp ρ o).run Tryd.prog w = .ok (.value (.slice (some ⟨w.heap.size, 0, none⟩) 3 3)) (w.alloc (.cells #[.int .u8 97, .int .u8 98, .int .u8 99] 5)) := by
  obtain ⟨dst, op, ty, pos, after, guard⟩ := o
  simp only at ho
  subst ho
  go_simp
theorem run_conv (ho : o.op = .convert 26 26 x) (C : Array Value) (n c : Nat) (w : World) (hx : ρ x = .slice (some ⟨w.heap.size, 0, none⟩) n c) :
    (execOp ρ o).run Tryd.prog (w.alloc (.cells C 5)) = .ok (.value (.slice (some ⟨w.heap.size, 0, none⟩) n c)) (w.alloc (.cells C 5 (C.size, C.size + 1))) := by
  have h := Lib.run_convert_bytes_const (P := Tryd.prog) w 26 5 C n c Tryd.underlying26 Tryd.underlying5
  unfold execOp
  simp only [ho, hx, Sem.run_bind, h, Result.andThen_ok, Sem.run_pure]
end
end Go.Proofs.YtgfmjfpafpmghaaDoor
