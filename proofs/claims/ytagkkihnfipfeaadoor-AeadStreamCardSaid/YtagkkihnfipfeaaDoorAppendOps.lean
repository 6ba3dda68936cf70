/-
  Operations about an append of bytes in a region that draws its order: a slice built of one byte, of four; the append itself; words read, shifted, cut to bytes.
-/
import Derived.Test.YtagkkihnfipfeaaDoorBytes
import Derived.Test.YtagkkihnfipfeaaDoorByteOps
import Derived.Deep.AppendLies
import Derived.Test.YtagkkihnfipfeaaDoorPoOps
namespace Go.Proofs.YtagkkihnfipfeaaDoor
open Go.RowKit Go.Proofs.ShaWords
attribute [local go_sem] and32 or32 xor32 add32 shl32 shr32 wrap32_n8 wrap8_n32

theorem met_wp {P : Program} {ops : Array Oper} {Q : Exit → Act → World → Prop} {S E : World → Prop} {r : List (Nat × Met)} {i : Nat} {o : Oper} {a : Act} {w : World} (ho : ops[i]? = some o) (hw : Region.wanted o (yielded ops a.tmps) = true)
    (h : o.wp P a w (fun a' w' => S w' ∧ wpE P ops Q S E r a' w') Q) : wpE P ops Q S E ((i, .behind) :: r) a w := by
  show wpOp P ops Q i _ a w
  unfold wpOp
  rw [ho]
  show if Region.wanted o (yielded ops a.tmps) = true then _ else _
  rw [if_pos hw]
  exact .inl h
theorem wp_append_bytes {o : Oper} {a : Act} {w : World} {K : Act → World → Prop} {Q : Exit → Act → World → Prop} (s x : Operand)
    (ho : o.op = .call { callee := .builtin .append, args := #[s, x], argTypes := #[26, 26] }) (B : Nat) (v : Value) (l m : List (BitVec 8)) (b off c : Nat) (hs : a.eval s = v) (hown : Own B w l v) (hx : a.eval x = .slice (some ⟨b, off, none⟩) m.length c)
    (hm : w.rangeAt b off (bytesV m)) (hne : 0 < m.length) (hl : l.length + m.length < 1099511627776) (hB : B ≤ w.heap.size)
    (h : ∀ v' w', Own B w' (l ++ m) v' → Below B w w' → K (a.put o.dst v') w') : o.wp Tryd.prog a w K Q := by
  obtain ⟨i, hi, hz, hsz, hby⟩ := info5'
  refine wp_append_lies w s x 26 ho B 5 i (.int .u8 0) 1 1 Tryd.underlying26 hi hz hsz hby rfl (by decide) v l.length (bytesV l) hs hown ⟨b, off, none⟩ m.length c (bytesV m) hx (by rw [bytesV_length, Nat.mul_one]) ?_ ?_ hne (by unfold maxLen; omega) (by omega) hB w.heap.size rfl ?_
  · intro j u hu
    rw [Addr.add_mid]
    exact hm j u hu
  · intro u hu
    exact bytesV_mem hu
  · intro g cap w' ho' hg hgo _
    refine h _ w' ?_ ?_
    · unfold Own
      rw [List.length_append, bytesV_append]; exact ho'
    · exact (Below.refl B w).grown hg hB (fun k hk => (hown.lt k hk).1)
section
variable {ρ : Operand → Value} {o : Oper} {x y : Operand} {w : World}
theorem run_ixWords {b off n c k : Nat} (ho : o.op = .indexAddr 77 x y) (hx : ρ x = .slice (some ⟨b, off, none⟩) n c) (hy : ρ y = .int .i64 (k : Int)) (hk : k < n) (w : World) :
    (execOp ρ o).run Tryd.prog w = .ok (.value (.pointer (some ⟨b, off + k, none⟩))) w := by
  obtain ⟨dst, op, ty', pos, after, guard⟩ := o
  simp only at ho
  subst ho
  have q : (k : Int) < (n : Int) := by omega
  go_simp
theorem run_ld32 {a : Addr} {v : Int} (ho : o.op = .load 49 x) (hx : ρ x = .pointer (some a)) (hc : w.cell? a = some (.int .u32 v)) : (execOp ρ o).run Tryd.prog w = .ok (.value (.int .u32 v)) w := by
  obtain ⟨dst, op, ty', pos, after, guard⟩ := o
  simp only at ho
  subst ho
  go_simp
theorem run_shr32 {a : BitVec 32} {k : Nat} {ty : TypeId} (ho : o.op = .binOp .shr 49 x y ty) (hx : ρ x = .int .u32 (n32 a)) (hy : ρ y = .int .u64 (k : Int)) (hk : k < 32) (w : World) : (execOp ρ o).run Tryd.prog w = .ok (.value (.int .u32 (n32 (a >>> k)))) w := by
  obtain ⟨dst, op, ty', pos, after, guard⟩ := o
  simp only at ho
  subst ho
  have h := shr32 a k
  have q : ¬ (32 : Int) ≤ (k : Int) := by omega
  go_simp
theorem run_cut8 {a : BitVec 32} (ho : o.op = .convert 49 5 x) (hx : ρ x = .int .u32 (n32 a)) (w : World) : (execOp ρ o).run Tryd.prog w = .ok (.value (.int .u8 (n8 (lo8 a)))) w := by
  obtain ⟨dst, op, ty', pos, after, guard⟩ := o
  simp only at ho
  subst ho
  have h := wrap8_n32 a
  go_simp
theorem run_build4 {x0 x1 x2 x3 : Operand} {i0 i1 i2 i3 : Int} (ho : o.op = .buildSlice 26 4 #[(0, x0), (1, x1), (2, x2), (3, x3)]) (h0 : ρ x0 = .int .u8 i0) (h1 : ρ x1 = .int .u8 i1) (h2 : ρ x2 = .int .u8 i2) (h3 : ρ x3 = .int .u8 i3) (w : World) :
    (execOp ρ o).run Tryd.prog w = .ok (.value (.slice (some ⟨w.heap.size, 0, none⟩) 4 4)) (w.alloc (.cells #[.int .u8 i0, .int .u8 i1, .int .u8 i2, .int .u8 i3] 5)) := by
  obtain ⟨dst, op, ty', pos, after, guard⟩ := o
  simp only at ho
  subst ho
  go_simp
end
end Go.Proofs.YtagkkihnfipfeaaDoor
