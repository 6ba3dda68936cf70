/-
  What the walks of the laws MacKeys and MacCodes share: codes under equal blocks; what they hold in memory.
-/
import Derived.Test.YtifnflhkcpchhaaDoorMacKn
import Derived.Test.YtifnflhkcpchhaaDoorAppendZeros
import Derived.Test.YtifnflhkcpchhaaDoorPiecesMem
import Derived.Test.YtifnflhkcpchhaaDoorPick
namespace Go.Proofs.YtifnflhkcpchhaaDoor
open Go.RowKit Go.Proofs.ShaWords

theorem noughts_append (a b : Nat) : noughts a ++ noughts b = noughts (a + b) := by simp [noughts]
/-- Noughts behind a short key change nothing. -/
theorem blockK_pad (key : List (BitVec 8)) (r : Nat) (h : key.length + r ≤ 64) : blockK (key ++ noughts r) = blockK key := by
  have h1 : keyOf (key ++ noughts r) = key ++ noughts r := by unfold keyOf; rw [if_pos (by rw [List.length_append, noughts_length]; exact h)]
  have h2 : keyOf key = key := by unfold keyOf; rw [if_pos (by omega)]
  rw [blockK_eq, blockK_eq, h1, h2, List.length_append, noughts_length, List.append_assoc, noughts_append]
  congr 2; omega
theorem macOf_pad (key bs : List (BitVec 8)) (r : Nat) (h : key.length + r ≤ 64) : macOf (key ++ noughts r) bs = macOf key bs := by
  unfold macOf innerOf; rw [blockK_pad key r h]
theorem splice32 (key : List (BitVec 8)) : splice (noughts 32) 0 key = key ++ noughts (32 - key.length) := splice_noughts 32 key
theorem macOf_splice (key bs : List (BitVec 8)) (h : key.length ≤ 32) : macOf (splice (noughts 32) 0 key) bs = macOf key bs := by
  rw [splice32, macOf_pad _ _ _ (by omega)]
theorem of_eq (X : List (BitVec 8)) (n m : Nat) (key bs : List (BitVec 8)) (p q : Option Addr) (ck cb : Nat) (w : World) (hX : macOf key bs = X) (hkn : key.length = n) (hbm : bs.length = m) (hrk : Lies w p key) (hrb : Lies w q bs) (hck : n ≤ ck) (hckm : ck ≤ 9223372036854775807) (hnk : n < 549755813000)
    (hcb : m ≤ cb) (hcbm : cb ≤ 9223372036854775807) (hnb : m < 549755813000) (hk : Consts w) (hs : Starts w) :
    Calls Tryd.prog 26 #[.slice p n ck, .slice q m cb] w fun e w' => e = .returned (.agg (bytesV X).toArray) ∧ Below w.heap.size w w' := by
  subst hX; exact of_len n m key bs p q ck cb w hkn hbm hrk hrb hck hckm hnk hcb hcbm hnb hk hs
theorem chain_eq (X : List (BitVec 8)) (m : Nat) (s bs : List (BitVec 8)) (q : Option Addr) (cb : Nat) (w : World) (hX : macOf s bs = X) (hsl : s.length = 32) (hbm : bs.length = m) (hrb : Lies w q bs)
    (hcb : m ≤ cb) (hcbm : cb ≤ 9223372036854775807) (hnb : m < 549755813000) (hk : Consts w) (hs : Starts w) :
    Calls Tryd.prog 27 #[.agg (bytesV s).toArray, .slice q m cb] w fun e w' => e = .returned (.agg (bytesV X).toArray) ∧ Below w.heap.size w w' := by
  subst hX; subst hbm; exact chain_any s bs q cb w hsl hrb hcb hcbm hnb hk hs
/-- A copy that is cut off at the block's end. -/
theorem run_copy_cut (w : World) (ty : TypeId) (g n cap : Nat) (t : TypeId) (blk bs : List (BitVec 8)) (p : Option Addr) (m c : Nat) (hg : BytesAt w g t blk) (hn : blk.length = n) (hL : Lies w p bs) (hm : bs.length = m) (hle : n < m) :
    ∃ w', (Builtin.copy_ #[26, 26] ty #[.slice (some ⟨g, 0, none⟩) n cap, .slice p m c]).run Tryd.prog w = .ok (goInt n) w' ∧ BytesAt w' g t (bs.take n) ∧ w.grownBy w' (some g) := by
  have i5 : (Tryd.prog.info? 5).map (·.size) = some 1 := by kernel_rfl
  rcases hL with hb | ⟨b, off, rfl, hr⟩
  · subst hb; simp at hm; omega
  · have hl : (bytesV (bs.take n)).length = n := by rw [bytesV_length, List.length_take]; omega
    have hrun := run_copy_row (P := Tryd.prog) w 26 26 ty 5 g 0 n cap ⟨b, off, none⟩ m c (bytesV blk).toArray t (bytesV (bs.take n)) Tryd.underlying26 i5 hg (by rw [hl]; exact (Nat.min_eq_right (by omega)).symm)
      (fun j v hv => by
        rw [Addr.add_mid]
        refine hr j v ?_
        rw [bytesV_take, List.getElem?_take] at hv
        split at hv
        · exact hv
        · cases hv) (by rw [hl, bytesV_size _ n hn]; omega) (fun v hv => bytesV_mem hv)
    rw [hl] at hrun
    refine ⟨_, hrun, ?_, grown_setRow _ _ _⟩
    show _ = _
    rw [setRow_heap _ _ _ _ _ _ hg]
    congr 2
    have hd : List.drop (0 + n) (bytesV blk) = [] := List.drop_of_length_le (by rw [bytesV_length]; omega)
    simp only [List.take_zero, List.nil_append, hd, List.append_nil]
theorem wpList_copy_any {w : World} {ops : Array Oper} {rest : List Oper} {o : Oper} {a : Act} {Q : Exit → Act → World → Prop} (hgd : o.guard = none) (d s : Operand)
    (ho : o.op = .call { callee := .builtin .copy, args := #[d, s], argTypes := #[26, 26] }) (g n cap : Nat) (t : TypeId) (blk bs : List (BitVec 8)) (p : Option Addr) (m c : Nat)
    (hd : a.eval d = .slice (some ⟨g, 0, none⟩) n cap) (hs : a.eval s = .slice p m c) (hg : BytesAt w g t blk) (hn : blk.length = n) (hL : Lies w p bs) (hm : bs.length = m)
    (h : ∀ k w' l, BytesAt w' g t l → l.length = n → (m ≤ n → l = splice blk 0 bs) → w.grownBy w' (some g) → wpList Tryd.prog ops Q rest (a.put o.dst (goInt k)) w') : wpList Tryd.prog ops Q (o :: rest) a w := by
  refine wpList_plain hgd fun K hK => ?_
  by_cases hle : m ≤ n
  · obtain ⟨w', hrun, h1, h2⟩ := run_copy_bytes w o.type g n cap t blk bs p m c hg hn hL hm hle
    unfold Oper.wp
    simp [execOp, ho, resolve, invoke, builtin, hd, hs, hrun, Result.andThen]
    exact hK _ _ (h m w' _ h1 (by rw [length_splice _ _ _ (by omega), hn]) (fun _ => rfl) h2)
  · obtain ⟨w', hrun, h1, h2⟩ := run_copy_cut w o.type g n cap t blk bs p m c hg hn hL hm (by omega)
    unfold Oper.wp
    simp [execOp, ho, resolve, invoke, builtin, hd, hs, hrun, Result.andThen]
    exact hK _ _ (h n w' _ h1 (by rw [List.length_take]; omega) (fun h => absurd h hle) h2)
theorem run_neq_sum {ρ : Operand → Value} {o : Oper} {x y : Operand} {l : List (BitVec 8)} {ty : TypeId} (ho : o.op = .binOp .neq 31 x y ty) (hl : l.length = 32) (hx : ρ x = .agg (bytesV l).toArray) (hy : ρ y = .agg (bytesV l).toArray) (w : World) :
    (execOp ρ o).run Tryd.prog w = .ok (.value (.bool false)) w := by
  have hg : Tryd.prog.eqGuardType Tryd.prog.depth 31 = false := by kernel_rfl
  have he := equal32 9998 l hl w
  unfold execOp
  simp only [ho, hx, hy, Sem.run_bind, run_eqGuard_agg w .neq 31 x y _ _ hg, Result.andThen_ok]
  simp [binOp, Op.equal, Op.maxDepth, he, Result.andThen]
theorem run_len26 {ρ : Operand → Value} {o : Oper} {x : Operand} {q : Option Addr} {n c : Nat} (ho : o.op = .call { callee := .builtin .len, args := #[x], argTypes := #[26] }) (hx : ρ x = .slice q n c) (w : World) :
    (execOp ρ o).run Tryd.prog w = .ok (.value (.int .i64 (n : Int))) w := by
  obtain ⟨dst, op, ty, pos, after, guard⟩ := o
  simp only at ho
  subst ho
  go_simp
theorem run_leq32 {ρ : Operand → Value} {o : Oper} {x : Operand} {n : Nat} {ty : TypeId} (ho : o.op = .binOp .leq 3 x (.const (.int .i64 32)) ty) (h : n ≤ 32) (hx : ρ x = .int .i64 (n : Int)) (h0 : ∀ u, ρ (.const u) = u) (w : World) :
    (execOp ρ o).run Tryd.prog w = .ok (.value (.bool true)) w := by
  obtain ⟨dst, op, ty', pos, after, guard⟩ := o
  simp only at ho
  subst ho
  have h1 : (n : Int) ≤ 32 := by omega
  have h2 := h0 (.int .i64 32)
  go_simp
/-- A slice of the call's own lies in no block that was made behind it. -/
theorem own_beside {B : Nat} {w : World} {l : List (BitVec 8)} {v : Value} (h : Own B w l v) : v.ownBlock = none ∨ v.ownBlock ≠ some w.heap.size := by
  cases hv : v.ownBlock with
  | none => exact Or.inl rfl
  | some k => exact Or.inr (fun h0 => by cases h0; have := (h.lt _ hv).2; omega)
end Go.Proofs.YtifnflhkcpchhaaDoor
