/- append(s, make([]byte, n)...) behind a slice of bytes of the call's own. -/
import Derived.Test.YtagkkihnfipfeaaDoorGen
import Derived.Test.YtagkkihnfipfeaaDoorAppendList
import Derived.Lib.AppendZeros
namespace Go.Proofs.YtagkkihnfipfeaaDoor
open Go.RowKit Go.Proofs.ShaWords
theorem zeroCells_u8 (n : Nat) : (Builtin.zeroCells #[Value.int .u8 0] n).toList = bytesV (noughts n) := by
  apply List.ext_getElem (by simp [Builtin.zeroCells, bytesV, noughts])
  intro i h1 h2
  simp [Builtin.zeroCells, bytesV, noughts, Nat.mod_one]
  rfl
theorem run_append_zeros (B : Nat) (ty : TypeId) (v : Value) (l : List (BitVec 8)) (n : Nat) (w : World) (hown : Own B w l v) (hl : l.length + n ≤ 1000000) (hB : B ≤ w.heap.size) :
    ∃ v' w', (Builtin.append_ #[26, 3] ty #[v, .int .i64 (n : Int)]).run Tryd.prog w = .ok v' w' ∧ Own B w' (l ++ noughts n) v' ∧ Below B w w' := by
  obtain ⟨i, hi, hz, hsz, hby⟩ := info5'
  have hw0 : IntKind.i64.wrap 0 = 0 := by decide
  by_cases hn : n = 0
  · subst hn
    refine ⟨v, w, ?_, by simpa [noughts] using hown, Below.refl _ _⟩
    rcases hown.2 with ⟨rfl, h0⟩ | ⟨g, cap, cur, rfl, hbg, hg, hnc, hcm, hcs, htake⟩
    · simp [Builtin.append_, run_underlying Tryd.underlying26, run_underlying Tryd.underlying3, sizeOf, typeInfo, hi, hw0, asInt, asIntOf]
    · simp [Builtin.append_, run_underlying Tryd.underlying26, run_underlying Tryd.underlying3, sizeOf, typeInfo, hi, hw0, asInt, asIntOf, hnc, storeCells]
  have hw : IntKind.i64.wrap (n : Int) = n := by rw [IntKind.wrap_i64]; omega
  have hneg : ¬ ((n : Int) < 0) := by omega
  have h48i : ¬ (281474976710656 < (n : Int) * (i.bytes : Int)) := by rw [hby]; omega
  have hlen : (bytesV (l ++ noughts n)).length = l.length + n := by rw [bytesV_length, List.length_append, noughts_length]
  have hns : ¬ (n * i.size = 0) := by rw [hsz]; omega
  have hgrown : ∀ (old : Nat) (A : Array Value), A.toList = bytesV (l ++ noughts n) → l.length + n > old → Own B (w.drew.alloc (.cells (A ++ Builtin.zeroCells #[Value.int .u8 0] (grownCap w (l.length + n) old 5 - (l.length + n))) 5)) (l ++ noughts n) (.slice (some ⟨w.heap.size, 0, none⟩) (l.length + n) (grownCap w (l.length + n) old 5)) := fun old A hA ho => by
    have hge := grownCap_ge w (l.length + n) old 5
    have hle : grownCap w (l.length + n) old 5 ≤ maxLen := grownCap_le_maxLen w _ old 5 (by unfold maxLen; omega)
    have hAs : A.size = l.length + n := by rw [← Array.length_toList, hA, hlen]
    unfold Own
    rw [List.length_append, noughts_length]
    refine ⟨by rw [hlen, Nat.mul_one], .inr ⟨w.heap.size, _, _, rfl, hB, heap_alloc_new w.drew _, hge, hle, ?_, ?_⟩⟩
    · rw [Array.size_append, size_zeroCells, hAs]; simp; omega
    · rw [Array.toList_append, hA, Nat.mul_one, ← hlen]; exact List.take_left
  rcases hown.2 with ⟨rfl, h0⟩ | ⟨g, cap, cur, rfl, hbg, hg, hnc, hcm, hcs, htake⟩
  · have hl0 : l = [] := List.length_eq_zero_iff.1 h0
    subst hl0
    have hr := Lib.run_append_nil_zeros (P := Tryd.prog) w 26 3 ty 5 i (.int .u8 0) .i64 .i64 Tryd.underlying26 Tryd.underlying3 hi hz n (by omega) (by omega) (by omega) (by rw [hby]; omega)
    have hg := hgrown 0 (Builtin.zeroCells #[Value.int .u8 0] n) (zeroCells_u8 n) (by simp; omega)
    simp only [List.length_nil, Nat.zero_add] at hg
    exact ⟨_, _, hr, hg, ((Below.refl B w).drew).alloc hB _⟩
  · by_cases hroom : l.length + n ≤ cap
    · have hst := run_storeCells_at Tryd.prog g l.length 5 (bytesV (noughts n)) 0 cur w hg (by rw [bytesV_length, noughts_length, hcs]; omega) (fun u hu => bytesV_mem hu)
      simp only [Nat.add_zero] at hst
      refine ⟨.slice (some ⟨g, 0, none⟩) (l.length + n) cap, w.setRow g (cur.toList.take l.length ++ bytesV (noughts n) ++ cur.toList.drop (l.length + (bytesV (noughts n)).length)).toArray, ?_, ?_, ?_⟩
      rotate_left
      · unfold Own
        rw [List.length_append, noughts_length]
        refine ⟨by rw [hlen, Nat.mul_one], .inr ⟨g, cap, _, rfl, hbg, setRow_heap w g cur ((cur.toList.take l.length ++ bytesV (noughts n) ++ cur.toList.drop (l.length + (bytesV (noughts n)).length)).toArray) 5 _ hg, hroom, hcm, ?_, ?_⟩⟩
        · simp only [List.size_toArray, List.length_append, List.length_take, List.length_drop, Array.length_toList, bytesV_length, noughts_length]
          omega
        · rw [Nat.mul_one] at htake ⊢
          rw [htake, bytesV_append, ← hlen, bytesV_append]
          exact List.take_left
      · exact below_setRow (Below.refl _ _) hbg _
      · simp [Builtin.append_, run_underlying Tryd.underlying26, run_underlying Tryd.underlying3, sizeOf, typeInfo, zeroValue, hi, hz, asInt, asIntOf, hw, hneg, hn, hsz, h48i, hroom, Addr.add_lit]
        rw [show (Value.int .u8 0).cells = #[Value.int .u8 0] from rfl, zeroCells_u8, hst, List.append_assoc]
        rfl
    · have holds : ∀ j u, (bytesV l)[j]? = some u → w.cell? ((⟨g, 0, none⟩ : Addr).add j) = some u := World.ownsRow.cells hown (g := g) rfl
      have hfo := run_firstCells_some (P := Tryd.prog) w.drew 1 l.length ⟨g, 0, none⟩ l.length cap (bytesV l) (by rw [bytesV_length, Nat.mul_one]) (by simpa using holds)
      have hg2 := hgrown cap ((bytesV l).toArray ++ Builtin.zeroCells #[Value.int .u8 0] n) (by rw [Array.toList_append, zeroCells_u8, bytesV_append]) (by omega)
      refine ⟨_, _, ?_, hg2, ((Below.refl B w).drew).alloc hB _⟩
      have h63' : ¬ (9223372036854775807 < ((l.length : Int) + (n : Int))) := by omega
      have h48' : ¬ (281474976710656 < Builtin.nextslicecap (l.length + n) cap * i.bytes) := by
        have := growslice_fits (need := l.length + n) (old := cap) (bytes := 1) (by omega) (by omega)
        rw [hby]; omega
      simp [Builtin.append_, run_underlying Tryd.underlying26, run_underlying Tryd.underlying3, sizeOf, typeInfo, zeroValue, hi, hz, asInt, asIntOf, hw, hneg, hn, hsz, h48i, hroom, h63', h48', Question.forced, hfo, newRow, grownCap]
      rfl
/-- Noughts that are appended to a slice of the call's own. -/
theorem wpList_append_zeros {ops : Array Oper} {rest : List Oper} {o : Oper} {a : Act} {w : World} {Q : Exit → Act → World → Prop} (hgd : o.guard = none) (s x : Operand)
    (ho : o.op = .call { callee := .builtin .append, args := #[s, x], argTypes := #[26, 3] }) (B : Nat) (v : Value) (l : List (BitVec 8)) (n : Nat) (hs : a.eval s = v) (hown : Own B w l v) (hx : a.eval x = .int .i64 (n : Int))
    (hl : l.length + n ≤ 1000000) (hB : B ≤ w.heap.size)
    (h : ∀ v' w', Own B w' (l ++ noughts n) v' → Below B w w' → wpList Tryd.prog ops Q rest (a.put o.dst v') w') : wpList Tryd.prog ops Q (o :: rest) a w := by
  obtain ⟨v', w', hr, h1, h2⟩ := run_append_zeros B o.type v l n w hown hl hB
  exact Lib.wpList_append_run w hgd s x _ _ ho v (.int .i64 n) hs hx v' w' hr (h v' w' h1 h2)
end Go.Proofs.YtagkkihnfipfeaaDoor
