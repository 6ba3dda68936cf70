/-
  Single operations of the laws of layer 3, in regions that draw their order: a call that makes memory, guards, slices, keys and nonces loaded, counters.
-/
import Derived.Test.YtagkkihnfipfeaaDoorCcBackBase
import Derived.Test.YtagkkihnfipfeaaDoorAppendOps
namespace Go.Proofs.YtagkkihnfipfeaaDoor
open Go.RowKit Go.Proofs.ShaWords
attribute [local go_sem] and32 or32 xor32 add32 shl32 shr32 wrap32_n8 wrap8_n32

section
variable {P : Program} {ops : Array Oper} {Q : Exit → Act → World → Prop} {S E : World → Prop} {r : List (Nat × Met)} {i : Nat} {o : Oper} {d : Option Tmp} {a : Act} {w : World}
theorem met_enter {f : FuncId} {args : Array Value} {R : Ending → World → Prop} (ho : ops[i]? = some o) (hd : o.dst = d) (hw : Region.wanted o (yielded ops a.tmps) = true) (hr : (execOp a.eval o).run P w = .ok (.enter f args) w) (hc : Calls P f args w R)
    (h : ∀ e w', R e w' → ∃ v, e = .returned v ∧ S w' ∧ wpE P ops Q S E r (a.put d v) w') : wpE P ops Q S E ((i, .behind) :: r) a w := by
  refine met_wp ho hw ?_
  unfold Oper.wp
  rw [hr, Oper.upon_enter]
  refine hc.mono ?_
  rintro e w' hR
  obtain ⟨v, rfl, hS, h⟩ := h e w' hR
  rw [hd]
  exact ⟨hS, h⟩
theorem wanted_guardF {j : Nat} {dj : Tmp} {oj : Oper} (hg : o.guard = some (j, false)) (hj : ops[j]? = some oj) (hd : oj.dst = some dj) (he : a.eval (.tmp dj) = .bool false) : Region.wanted o (yielded ops a.tmps) = true := by
  have h2 : a.tmps[dj]? = some (.bool false) := by
    have h3 : a.tmps.getD dj undef = .bool false := he
    rw [Array.getD_eq_getD_getElem?] at h3
    cases h4 : a.tmps[dj]? with
    | none => rw [h4] at h3; exact absurd h3 (by simp [undef])
    | some u => rw [h4] at h3; simp at h3; rw [h3]
  unfold Region.wanted
  rw [hg]
  simp only [yielded, hj, Option.bind_some, hd, h2]
  rfl
end
section
variable {ρ : Operand → Value} {o : Oper} {x y c : Operand} {w : World}
theorem run_sliceTo {p : Addr} {n cap k : Nat} (ho : o.op = .slice 26 x none (some y) none) (hx : ρ x = .slice (some p) n cap) (hy : ρ y = .int .i64 (k : Int)) (hk : k ≤ cap) (w : World) :
    (execOp ρ o).run Tryd.prog w = .ok (.value (.slice (some p) k cap)) w := by
  obtain ⟨dst, op, ty', pos, after, guard⟩ := o
  simp only at ho
  subst ho
  have q : (k : Int) ≤ (cap : Int) := by omega
  obtain ⟨b, off, pl⟩ := p
  go_simp
theorem run_sliceFrom {b off n cap k : Nat} (ho : o.op = .slice 26 x (some y) none none) (hx : ρ x = .slice (some ⟨b, off, none⟩) n cap) (hy : ρ y = .int .i64 (k : Int)) (hk : k ≤ n) (hk2 : k < cap) (hn : n ≤ cap) (w : World) :
    (execOp ρ o).run Tryd.prog w = .ok (.value (.slice (some ⟨b, off + k, none⟩) (n - k) (cap - k))) w := by
  obtain ⟨dst, op, ty', pos, after, guard⟩ := o
  simp only at ho
  subst ho
  have q : (k : Int) ≤ (n : Int) := by omega
  have q2 : (n : Int) ≤ (cap : Int) := by omega
  have q3 : ¬ cap = k := by omega
  have q4 : ¬ cap - k = 0 := by omega
  go_simp
theorem run_not {b : Bool} {ty : TypeId} {P : Program} (ho : o.op = .unOp .not ty x) (hx : ρ x = .bool b) (w : World) : (execOp ρ o).run P w = .ok (.value (.bool (!b))) w := by
  obtain ⟨dst, op, ty', pos, after, guard⟩ := o
  simp only at ho
  subst ho
  go_simp
theorem run_pickF {P : Program} {v : Value} (ho : o.op = .pick c x y) (hc : ρ c = .bool false) (h : ρ y = v) (w : World) : (execOp ρ o).run P w = .ok (.value v) w := by
  unfold execOp; simp only [ho, hc, h, Sem.run_bind]; rfl
theorem run_cnv32 {m : Nat} (ho : o.op = .convert 3 49 x) (hx : ρ x = .int .i64 (m : Int)) (w : World) : (execOp ρ o).run Tryd.prog w = .ok (.value (.int .u32 (n32 (BitVec.ofNat 32 m)))) w := by
  obtain ⟨dst, op, ty', pos, after, guard⟩ := o
  simp only at ho
  subst ho
  have h := wrap32_nat m
  go_simp
theorem run_add32 {p q : BitVec 32} (ho : o.op = .binOp .add 49 x y 49) (hx : ρ x = .int .u32 (n32 p)) (hy : ρ y = .int .u32 (n32 q)) (w : World) : (execOp ρ o).run Tryd.prog w = .ok (.value (.int .u32 (n32 (p + q)))) w := by
  obtain ⟨dst, op, ty', pos, after, guard⟩ := o
  simp only at ho
  subst ho
  have h := add32 p q
  go_simp
theorem run_mul64 {m : Nat} (ho : o.op = .binOp .mul 3 (.const (.int .i64 64)) x 3) (h0 : ∀ u, ρ (.const u) = u) (hx : ρ x = .int .i64 (m : Int)) (hm : m ≤ 1000000) (w : World) : (execOp ρ o).run Tryd.prog w = .ok (.value (.int .i64 ((64 * m : Nat) : Int))) w := by
  obtain ⟨dst, op, ty', pos, after, guard⟩ := o
  simp only at ho
  subst ho
  have h := IntWalk.i64_in (64 * (m : Int)) (by omega)
  have h1 := h0 (.int .i64 64)
  have h2 : ((64 * m : Nat) : Int) = 64 * (m : Int) := by omega
  rw [h2]
  clear h2
  go_simp
theorem run_loadKey {l : List (BitVec 8)} {b : Nat} (ho : o.op = .load 23 x) (hx : ρ x = .pointer (some ⟨b, 0, none⟩)) (hl : l.length = 32) (hr : BytesAt w b 23 l) : (execOp ρ o).run Tryd.prog w = .ok (.value (.agg (bytesV l).toArray)) w := by
  have h := run_loadAt_mid (P := Tryd.prog) w b 0 23 (bytesV l) _ hr.range Tryd.underlying23 rfl (by rw [bytesV_length, hl]; kernel_rfl)
  unfold execOp
  simp only [ho, hx, Sem.run_bind, h, Result.andThen_ok, Sem.run_pure]
theorem run_loadNonce {l : List (BitVec 8)} {b : Nat} (ho : o.op = .load 25 x) (hx : ρ x = .pointer (some ⟨b, 0, none⟩)) (hl : l.length = 12) (hr : BytesAt w b 25 l) : (execOp ρ o).run Tryd.prog w = .ok (.value (.agg (bytesV l).toArray)) w := by
  have h := run_loadAt_mid (P := Tryd.prog) w b 0 25 (bytesV l) _ hr.range Tryd.underlying25 rfl (by rw [bytesV_length, hl]; kernel_rfl)
  unfold execOp
  simp only [ho, hx, Sem.run_bind, h, Result.andThen_ok, Sem.run_pure]
theorem run_makeBytes {n : Nat} (ho : o.op = .makeSlice 26 x y) (hx : ρ x = .int .i64 (n : Int)) (hy : ρ y = .int .i64 (n : Int)) (hn : n ≤ 1000000) (w : World) :
    ∃ w', (execOp ρ o).run Tryd.prog w = .ok (.value (.slice (some ⟨w.heap.size, 0, none⟩) n n)) w' ∧ BytesAt w' w.heap.size 5 (noughts n) ∧ Below w.heap.size w w' := by
  obtain ⟨i, hi, hz, hs, hb⟩ := info_parts info5
  have hrun := run_make (P := Tryd.prog) w 26 5 i (.int .u8 0) Tryd.underlying26 hi hz .i64 .i64 (n : Int) (n : Int) (by omega) (by omega) (by rw [hb]; omega) (by omega)
  rw [hs, Nat.mul_one] at hrun
  simp only [Int.toNat_natCast] at hrun
  refine ⟨w.alloc (.cells (madeCells (Value.int .u8 0).cells n) 5), ?_, ?_, (Below.refl w.heap.size w).alloc (Nat.le_refl _) _⟩
  · unfold execOp
    simp only [ho, hx, hy, Sem.run_bind, hrun, Result.andThen_ok, Sem.run_pure]
  · show _ = some (Obj.cells (bytesV (List.replicate n 0#8)).toArray _ _)
    rw [← made_noughts]
    exact heap_new_at rfl
end
section
variable {ops : Array Oper} {Q : Exit → Act → World → Prop} {S E : World → Prop} {r : List (Nat × Met)} {i : Nat} {o : Oper} {d : Option Tmp} {a : Act} {w : World} {x y : Operand}
theorem met_make {n : Nat} (ho : ops[i]? = some o) (hd : o.dst = d) (hw : Region.wanted o (yielded ops a.tmps) = true) (hq : o.op = .makeSlice 26 x y) (hx : a.eval x = .int .i64 (n : Int)) (hy : a.eval y = .int .i64 (n : Int)) (hn : n ≤ 1000000)
    (h : ∀ w', BytesAt w' w.heap.size 5 (noughts n) → Below w.heap.size w w' → S w' ∧ wpE Tryd.prog ops Q S E r (a.put d (.slice (some ⟨w.heap.size, 0, none⟩) n n)) w') : wpE Tryd.prog ops Q S E ((i, .behind) :: r) a w := by
  obtain ⟨w', hr, hb, hl⟩ := run_makeBytes hq hx hy hn w
  exact met_op ho hd hw hr (h w' hb hl).1 (h w' hb hl).2
end
end Go.Proofs.YtagkkihnfipfeaaDoor
