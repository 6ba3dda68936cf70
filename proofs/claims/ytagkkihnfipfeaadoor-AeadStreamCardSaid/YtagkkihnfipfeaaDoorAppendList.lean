/- append of any slice of bytes behind a slice of the call's own, as a step of the walk. -/
import Derived.Test.YtagkkihnfipfeaaDoorBytes
import Derived.Laws.AppendOwnNone
namespace Go.Proofs.YtagkkihnfipfeaaDoor
open Go.RowKit Go.Proofs.ShaWords
theorem run_append_nil (B : Nat) (ty : TypeId) (v : Value) (l : List (BitVec 8)) (w : World) (hown : Own B w l v) (c : Nat) :
    (Builtin.append_ #[26, 26] ty #[v, .slice none 0 c]).run Tryd.prog w = .ok v w := by
  obtain ⟨i, hi, -, -, -⟩ := info5'
  rcases hown.2 with ⟨rfl, -⟩ | ⟨g, cap, cur, rfl, _, _, hnc, _⟩
  · simp [Builtin.append_, run_underlying Tryd.underlying26, sizeOf, typeInfo, hi, Builtin.lenOf, Builtin.firstCells]
  · simp [Builtin.append_, run_underlying Tryd.underlying26, sizeOf, typeInfo, hi, Builtin.lenOf, Builtin.firstCells, hnc, storeCells]
/-- Bytes that lie anywhere, appended to a slice of the call's own. -/
theorem wpList_append_list {ops : Array Oper} {rest : List Oper} {o : Oper} {a : Act} {w : World} {Q : Exit → Act → World → Prop} (hgd : o.guard = none) (s x : Operand)
    (ho : o.op = .call { callee := .builtin .append, args := #[s, x], argTypes := #[26, 26] }) (B : Nat) (v : Value) (l m : List (BitVec 8)) (p : Option Addr) (c : Nat) (hs : a.eval s = v) (hown : Own B w l v) (hx : a.eval x = .slice p m.length c)
    (hm : Lies w p m) (hl : l.length + m.length < 1099511627776) (hB : B ≤ w.heap.size)
    (h : ∀ v' w', Own B w' (l ++ m) v' → Below B w w' → wpList Tryd.prog ops Q rest (a.put o.dst v') w') : wpList Tryd.prog ops Q (o :: rest) a w := by
  obtain ⟨i, hi, hz, hsz, hby⟩ := info5'
  cases p with
  | none =>
    have hm0 : m = [] := by
      rcases hm with h0 | ⟨b, off, h0, _⟩
      · exact h0
      · cases h0
    subst hm0
    refine wpList_plain hgd fun K hK => ?_
    have hrun := run_append_nil B o.type v l w hown c
    unfold Oper.wp
    simp [execOp, ho, resolve, invoke, builtin, hs, hx, hrun, Result.andThen]
    exact hK _ _ (h v w (by rw [List.append_nil]; exact hown) (Below.refl _ _))
  | some ad =>
    refine wpList_append_own w hgd s x 26 ho B 5 i (.int .u8 0) 1 1 Tryd.underlying26 hi hz hsz hby rfl (by decide) v l.length (bytesV l) hs hown ad m.length c (bytesV m) hx (by rw [bytesV_length, Nat.mul_one]) ?_ ?_ (by unfold maxLen; omega) (by omega) hB ?_
    · intro j u hu
      rcases hm with h0 | ⟨b, off, h0, hr⟩
      · subst h0; cases hu
      · cases h0
        rw [Addr.add_mid]
        exact hr j u hu
    · intro u hu
      simp only [bytesV, List.mem_map] at hu
      obtain ⟨y, _, rfl⟩ := hu
      rfl
    · intro v' w' ho' hg _
      refine h v' w' ?_ ?_
      · unfold Own
        rw [List.length_append, bytesV_append]; exact ho'
      · exact (Below.refl B w).grown hg hB (fun k hk => (hown.lt k hk).1)
end Go.Proofs.YtagkkihnfipfeaaDoor
