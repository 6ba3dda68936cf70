/-
  What other texts lean on: VtRefP, VtRefPut, VtRefZero, VtRefOpen, VtBoth, VtPairs, VtOps.
-/
import Derived.Test.YtoidjapenompiaaDoorPkA
import Derived.Test.YtoidjapenompiaaDoorPkB
import Derived.Test.YtoidjapenompiaaDoorPkI
import Derived.Test.YtoidjapenompiaaDoorPkJ
import Derived.Deep.MidRow
import Derived.Deep.LoopGhost
import Derived.Deep.CutRange
import Derived.Deep.CutBlock
/-
  The document's vault as its calls leave it; saw.
-/
namespace Go.Proofs.YtoidjapenompiaaDoor
open Go.RowKit Go.Proofs.ShaWords
/-- The vault amid a call that began at w with the blocks U. -/
def RvIn (U : Nat → Prop) (w : World) (v x : Nat) (d : DiskM) (l : List SlotV) (dead : Bool) (wr : World) : Prop := ∃ U' T sv, RvV U' T wr v x d l dead sv ∧ (∀ k, U' k → U k ∨ w.heap.size ≤ k) ∧ Stays U w wr
/-- What a call leaves. -/
def RvGo (U : Nat → Prop) (v x : Nat) (d : DiskM) (l : List SlotV) (dead : Bool) (w w' : World) : Prop := ∃ U', RvAt U' w' v x d l dead ∧ (∀ k, U' k → U k ∨ w.heap.size ≤ k) ∧ Stays U w w'
section
variable {U T F : Nat → Prop} {w wr w' : World} {v x : Nat} {d d' : DiskM} {l : List SlotV} {dead : Bool} {sv : Value}
theorem RvIn.go (h : RvIn U w v x d l dead wr) : RvGo U v x d l dead w wr := by
  obtain ⟨U', T, sv, h1, h2, h3⟩ := h
  exact ⟨U', ⟨T, sv, h1⟩, h2, h3⟩
theorem RvAt.start (h : RvAt U w v x d l dead) : RvIn U w v x d l dead w := by
  obtain ⟨T, sv, h⟩ := h
  exact ⟨U, T, sv, h, fun _ u => Or.inl u, Stays.refl _ _⟩
theorem RvIn.below (h : RvIn U w v x d l dead wr) (hb : Below wr.heap.size wr w') : RvIn U w v x d l dead w' := by
  obtain ⟨U', T, sv, h1, h2, h3⟩ := h
  have hs : Stays (fun _ => False) wr w' := Below.stays hb
  exact ⟨U', T, sv, h1.keep hs (fun _ f => f.elim), h2, h3.trans (G := fun _ => False) hs (fun _ f => f.elim)⟩
theorem RvIn.at (h : RvIn U w v x d l dead wr) : ∃ U', RvAt U' wr v x d l dead := by
  obtain ⟨U', T, sv, h1, -⟩ := h
  exact ⟨U', T, sv, h1⟩
theorem RvIn.size (h : RvIn U w v x d l dead wr) : w.heap.size ≤ wr.heap.size := by
  obtain ⟨U', T, sv, h1, h2, h3⟩ := h
  exact h3.size
theorem RvIn.le (h : RvIn U w v x d l dead wr) : l.length ≤ 64 := by
  obtain ⟨U', T, sv, h1, -⟩ := h
  exact h1.le
theorem RvIn.slots (h : RvIn U w v x d l dead wr) : ∀ s ∈ l, SlotOk s := by
  obtain ⟨U', T, sv, h1, -⟩ := h
  exact h1.slots
/-- A call of the disk. -/
theorem RvIn.call {f : FuncId} {args : Array Value} {e0 : Ending} (h : RvIn U w v x d l dead wr) (hc : ∀ T, RefAt T wr x d → Calls Tryd.prog f args wr fun e w' => e = e0 ∧ RefGo T x d' wr w') :
    Calls Tryd.prog f args wr fun e w' => e = e0 ∧ RvIn U w v x d' l dead w' ∧ Stays (fun k => k = x) wr w' := by
  obtain ⟨U', T, sv, h1, h2, h3⟩ := h
  refine (hc T h1.disk).mono fun e w' ⟨a, hgo⟩ => ⟨a, ?_⟩
  obtain ⟨T', b1, b2, b3⟩ := hgo
  refine ⟨?_, b3⟩
  have hx := h1.disk.own
  have hvx : v ≠ x := fun e => h1.off (e ▸ hx)
  have hT' : ∀ k, k < wr.heap.size → ¬ T k → ¬ T' k := fun k hk ht t => (b2 k t).elim ht (fun h => by omega)
  refine ⟨fun k => U' k ∨ T' k, T', sv, ⟨b1, fun k t => Or.inr t, Or.inl h1.here, hT' v (h1.dom v h1.here) h1.off, (b3.block v (h1.dom v h1.here) hvx).trans h1.block, ownsRow_stays h1.rows b3 (fun k hk e => (h1.clear k hk).1 (e ▸ hx)), h1.apart, fun k hk => ⟨hT' k (h1.dom k (h1.clear k hk).2) (h1.clear k hk).1, Or.inl (h1.clear k hk).2⟩, fun k u => u.elim (fun u => Nat.lt_of_lt_of_le (h1.dom k u) b3.size) (fun t => b1.dom k t), h1.le, h1.slots⟩, fun k u => ?_, h3.trans (G := fun k => k = x) b3 (fun k e hlt => ?_)⟩
  · rcases u with u | t
    · exact h2 k u
    · exact (b2 k t).elim (fun t => h2 k (h1.sub k t)) (fun h => Or.inr (Nat.le_trans h3.size h))
  · exact (h2 k (e ▸ h1.sub x hx)).elim id (fun h => by omega)
/-- A cell of the vault's block is written. -/
theorem RvIn.putDead (h : RvIn U w v x d l dead wr) (b : Bool) : RvIn U w v x d l b (wr.setCell ⟨v, 2, none⟩ (.bool b)) := by
  obtain ⟨U', T, sv, h1, h2, h3⟩ := h
  have hs := stays_set wr v 2 (.bool b)
  refine ⟨U', T, sv, ⟨h1.disk.keep hs (fun k e t => h1.off (e ▸ t)), h1.sub, h1.here, h1.off, (heap_setCell_same wr v 2 _ _ _ h1.block).trans rfl, ownsRow_stays h1.rows hs (fun k hk e => h1.apart (e ▸ hk)), h1.apart, h1.clear, fun k u => Nat.lt_of_lt_of_le (h1.dom k u) hs.size, h1.le, h1.slots⟩, h2, h3.trans (G := fun k => k = v) hs (fun k e hlt => ?_)⟩
  exact (h2 k (e ▸ h1.here)).elim id (fun h => by omega)
theorem RvIn.cells (h : RvIn U w v x d l dead wr) : ∃ p c, wr.cell? ⟨v, 0, none⟩ = some (.pointer (some ⟨x, 0, none⟩)) ∧ wr.cell? ⟨v, 1, none⟩ = some (.slice p l.length c) ∧ wr.cell? ⟨v, 2, none⟩ = some (.bool dead) ∧ ∀ j, wr.frozen? ⟨v, j, none⟩ = false := by
  obtain ⟨U', T, sv, h1, -⟩ := h
  obtain ⟨p, c, rfl⟩ := h1.slice
  exact ⟨p, c, h1.cell.1, h1.cell.2.1, h1.cell.2.2, h1.thaw⟩
theorem RvAt.places (h : RvAt U w v x d l dead) : v ≠ x ∧ v < w.heap.size ∧ x < w.heap.size := by
  obtain ⟨T, sv, h⟩ := h
  have hx := h.disk.own
  exact ⟨fun e => h.off (e ▸ hx), h.dom v h.here, h.dom x (h.sub x hx)⟩
theorem rvSaw_any (z : Int) (h : RvIn U w v x d l dead wr) : Calls Tryd.prog 69 #[.pointer (some ⟨v, 0, none⟩), .int .i64 z] wr fun e w' => e = .returned (.int .i64 z) ∧ w' = wr.setCell ⟨v, 2, none⟩ (.bool (dead || decide (z = 9))) := by
  obtain ⟨p, c, hc0, hc1, hc2, hth⟩ := h.cells
  have ht2 := hth 2
  clear hc0 hc1 hth h
  cases dead with
  | true =>
    go_enter Tryd.func69, Tryd.ntmps69
    go_wp2_with fail
    go_ret
    first | done | exact ⟨rfl, rfl⟩ | rfl
  | false =>
    by_cases hz : z = 9
    · subst hz
      go_enter Tryd.func69, Tryd.ntmps69
      go_wp2_with fail
      go_ret
      first | done | exact ⟨rfl, rfl⟩ | rfl
    · have q : (z == 9) = false := beq_eq_false_iff_ne.2 hz
      have HZ : Hid ((false || decide (z = 9)) = false) := show _ = _ by rw [decide_eq_false hz]; rfl
      rw [HZ.out]
      clear hz
      go_enter Tryd.func69, Tryd.ntmps69
      go_wp2_with fail
      go_ret
      first | done | exact ⟨rfl, rfl⟩ | rfl
end
end Go.Proofs.YtoidjapenompiaaDoor

/-
  The document's Put.
-/
namespace Go.Proofs.YtoidjapenompiaaDoor
open Go.RowKit Go.Proofs.ShaWords
theorem exec_countV (d : DiskM) (eff : (Nat → FileM) → Nat → FileM) (b : Bool) : (d.exec eff b).count ≤ d.count + 1 := by
  unfold DiskM.exec
  split
  · exact Nat.le_refl _
  · exact Nat.le_succ _
theorem write_countV (d : DiskM) (f : Int) (b : List (BitVec 8)) : (d.write f b).1.count ≤ d.count + 1 := by
  unfold DiskM.write
  split
  · exact Nat.le_succ _
  · split
    · exact Nat.le_succ _
    · exact exec_countV _ _ _
theorem Own.slV {B n : Nat} {w : World} {l : List (BitVec 8)} {v : Value} (h : Own B w l v) (hn : l.length = n) : ∃ q c, v = .slice q n c ∧ n ≤ c ∧ c ≤ maxLen ∧ Lies w q l := by
  subst hn
  exact h.lies
theorem own_stayV {B x : Nat} {w w' : World} {l : List (BitVec 8)} {v : Value} (h : Own B w l v) (hx : x < B) (hs : Stays (fun k => k = x) w w') : Own B w' l v :=
  ownsRow_stays h hs (fun k hk e => by have := (World.ownsRow.lt h k hk).1; omega)
section
variable {ρ : Operand → Value} {o : Oper} {x y : Operand} {w : World}
theorem run_loadRD {a p : Addr} (ho : o.op = .load 26 x) (hx : ρ x = .pointer (some a)) {w : World} (hc : w.cell? a = some (.pointer (some p))) : (execOp ρ o).run Tryd.prog w = .ok (.value (.pointer (some p))) w := by
  obtain ⟨dst, op, ty', pos, after, guard⟩ := o
  simp only at ho
  subst ho
  go_simp
theorem run_loadSlots {a : Addr} {p : Option Addr} {n c : Nat} (ho : o.op = .load 76 x) (hx : ρ x = .pointer (some a)) {w : World} (hc : w.cell? a = some (.slice p n c)) : (execOp ρ o).run Tryd.prog w = .ok (.value (.slice p n c)) w := by
  obtain ⟨dst, op, ty', pos, after, guard⟩ := o
  simp only at ho
  subst ho
  go_simp
theorem run_lenSlots {q : Option Addr} {n c : Nat} (ho : o.op = .call { callee := .builtin .len, args := #[x], argTypes := #[76] }) (hx : ρ x = .slice q n c) (w : World) : (execOp ρ o).run Tryd.prog w = .ok (.value (.int .i64 (n : Int))) w := by
  obtain ⟨dst, op, ty', pos, after, guard⟩ := o
  simp only at ho
  subst ho
  go_simp
theorem run_loadSlotR {S : Nat} {C : Array Value} (ho : o.op = .load 86 x) (hx : ρ x = .pointer (some ⟨S, 0, none⟩)) {w : World} (hC : w.heap[S]? = some (.cells C 86 (0, 0))) (hs : C.size = 33) : (execOp ρ o).run Tryd.prog w = .ok (.value (.agg C)) w := by
  have h := run_loadVar_row (P := Tryd.prog) w S 86 86 C (0, 0) _ hC Tryd.underlying86 rfl (size_slot hs)
  unfold execOp
  simp only [ho, hx, Instr.loadAt, Instr.sureAddr, Sem.run_bind, Sem.run_pure, Result.andThen_ok, h]
end
/-- What is read amid Put: the vault's block, and the new slot's. -/
structure PutS (v x : Nat) (p : Option Addr) (n c B : Nat) (C : Array Value) (w : World) : Prop where
  block : ∃ b, w.heap[v]? = some (.cells #[.pointer (some ⟨x, 0, none⟩), .slice p n c, .bool b] 78 (0, 0))
  slot : w.heap[B]? = some (.cells C 86 (0, 0))
section
variable {v x n c B : Nat} {p : Option Addr} {C : Array Value} {w w' : World} {F : Nat → Prop}
theorem PutS.keep (h : PutS v x p n c B C w) (hs : Stays F w w') (h1 : ¬ F v) (h2 : ¬ F B) : PutS v x p n c B C w' := by
  obtain ⟨b, hb⟩ := h.block
  exact ⟨⟨b, (hs.block v (Array.getElem?_eq_some_iff.1 hb).1 h1).trans hb⟩, (hs.block B (Array.getElem?_eq_some_iff.1 h.slot).1 h2).trans h.slot⟩
theorem PutS.below (h : PutS v x p n c B C w) (hb : Below w.heap.size w w') : PutS v x p n c B C w' := h.keep (F := fun _ => False) (Below.stays hb) (fun f => f) (fun f => f)
theorem PutS.saw (h : PutS v x p n c B C w) (hne : B ≠ v) (b : Bool) : PutS v x p n c B C (w.setCell ⟨v, 2, none⟩ (.bool b)) := by
  obtain ⟨b0, hb⟩ := h.block
  exact ⟨⟨b, (heap_setCell_same w v 2 _ _ _ hb).trans rfl⟩, ((stays_set w v 2 (.bool b)).block B (Array.getElem?_eq_some_iff.1 h.slot).1 hne).trans h.slot⟩
theorem PutS.disk (h : PutS v x p n c B C w) : w.cell? ⟨v, 0, none⟩ = some (.pointer (some ⟨x, 0, none⟩)) := by
  obtain ⟨b, hb⟩ := h.block
  rw [cell_of_row w v 0 _ _ _ hb]; rfl
theorem PutS.list (h : PutS v x p n c B C w) : w.cell? ⟨v, 1, none⟩ = some (.slice p n c) := by
  obtain ⟨b, hb⟩ := h.block
  rw [cell_of_row w v 1 _ _ _ hb]; rfl
end
theorem RvIn.puts {U : Nat → Prop} {w wr : World} {v x B : Nat} {d : DiskM} {l : List SlotV} {dead : Bool} {C : Array Value} (h : RvIn U w v x d l dead wr) (hB : wr.heap[B]? = some (.cells C 86 (0, 0))) : ∃ p c, PutS v x p l.length c B C wr := by
  obtain ⟨U', T, sv, h1, -⟩ := h
  obtain ⟨p, c, rfl⟩ := h1.slice
  exact ⟨p, c, ⟨_, h1.block⟩, hB⟩
theorem refSlotT : ElemT 86 76 33 33 where
  sl := Tryd.underlying76
  info := elemInfo (by kernel_rfl) (by kernel_rfl)
  pos := by decide
  few := by decide
theorem ElemT.mb_append {tr ts : TypeId} {N Z : Nat} (T : ElemT tr ts N Z) {ops : Array Oper} {Q : Exit → Act → World → Prop} {S E : World → Prop} {r : List (Nat × Met)} {i : Nat} {o : Oper} {dd : Option Tmp} {a : Act} {w : World} (hi : ops[i]? = some o) (hd : o.dst = dd) (hw : Region.wanted o (yielded ops a.tmps) = true)
    {s x : Operand} {base g n : Nat} {v : Value} {xs : List Value} {C : Array Value} (ho : o.op = .call { callee := .builtin .append, args := #[s, x], argTypes := #[ts, ts] }) (hs : a.eval s = v) (hown : w.ownsRow base tr N v n xs)
    (hx : a.eval x = .slice (some ⟨g, 0, none⟩) 1 1) (hc : w.heap[g]? = some (.cells C tr (0, 0))) (hC : C.size = N) (h1 : ∀ u ∈ C.toList, u.oneCell' = true) (hn : n ≤ 1000000) (hb : base ≤ w.heap.size)
    (h : ∀ v' w', w'.ownsRow base tr N v' (n + 1) (xs ++ C.toList) → w.grownBy w' v.ownBlock → (v'.ownBlock = v.ownBlock ∨ v'.ownBlock = some w.heap.size) → (S w' ∧ E w') ∧ wpE Tryd.prog ops Q S E r (a.put dd v') w') : wpE Tryd.prog ops Q S E ((i, .before) :: r) a w := by
  obtain ⟨v', w', hr, h2, h3, h4⟩ := T.run_append (ρ := a.eval) ho hs hown hx hc hC h1 hn hb
  exact mb_value hi hd hw hr (h v' w' h2 h3 h4)
theorem slotC_onesL (k : List (BitVec 8)) (g : Bool) : ∀ u ∈ (slotC k g).toArray.toList, u.oneCell' = true := by
  have h := slotC_ones k g
  simpa using h
theorem RvV.push {U T : Nat → Prop} {w w8 : World} {v x : Nat} {d : DiskM} {l : List SlotV} {dead : Bool} {sv v' : Value} {s : SlotV} (h : RvV U T w v x d l dead sv) (hs : Stays (fun k => sv.ownBlock = some k) w w8) (hrow : w8.ownsRow 0 86 33 v' (l.length + 1) (l.flatMap slotRf ++ slotRf s))
    (hb : v'.ownBlock = sv.ownBlock ∨ v'.ownBlock = some w.heap.size) (hso : SlotOk s) (hl : l.length < 64) : RvV (fun k => U k ∨ v'.ownBlock = some k) T (w8.setCell ⟨v, 1, none⟩ v') v x d (l ++ [s]) dead v' := by
  have hv := h.dom v h.here
  have hs2 := stays_set w8 v 1 v'
  have hne : ∀ k, v'.ownBlock = some k → k ≠ v := fun k hk e => by
    rcases hb with hb | hb
    · exact h.apart (by rw [← hb, hk, e])
    · rw [hb] at hk; cases hk; omega
  have hblk : w8.heap[v]? = some (.cells #[.pointer (some ⟨x, 0, none⟩), sv, .bool dead] 78 (0, 0)) := (hs.block v hv (fun f => h.apart f)).trans h.block
  have hd8 := h.disk.keep hs (fun k f t => (h.clear k f).1 t)
  refine ⟨hd8.keep hs2 (fun k e t => h.off (e ▸ t)), fun k t => Or.inl (h.sub k t), Or.inl h.here, h.off, (heap_setCell_same w8 v 1 _ _ _ hblk).trans rfl, ?_, fun e => hne v e rfl, fun k hk => ⟨fun t => ?_, Or.inr hk⟩, fun k u => ?_, by rw [List.length_append]; show l.length + 1 ≤ 64; omega, fun y hy => ?_⟩
  · rw [List.length_append, List.flatMap_append, List.flatMap_cons, List.flatMap_nil, List.append_nil]
    exact ownsRow_stays hrow hs2 (fun k hk e => hne k hk e)
  · rcases hb with hb | hb
    · exact (h.clear k (by rw [← hb, hk])).1 t
    · rw [hb] at hk; cases hk; have := h.dom _ (h.sub _ t); omega
  · have hsz := hs2.size
    rcases u with u | u
    · have := h.dom k u; have := hs.size; omega
    · have := (World.ownsRow.lt hrow k u).2; omega
  · rcases List.mem_append.1 hy with hy | hy
    · exact h.slots y hy
    · rw [List.mem_singleton.1 hy]; exact hso
theorem RvIn.push {U : Nat → Prop} {w wr w7 w8 : World} {v x : Nat} {d : DiskM} {l : List SlotV} {dead : Bool} {s : SlotV} {U' T : Nat → Prop} {sv v' : Value} (h : RvV U' T wr v x d l dead sv) (h2 : ∀ k, U' k → U k ∨ w.heap.size ≤ k) (h3 : Stays U w wr) (hb7 : Below wr.heap.size wr w7) (hs : Stays (fun k => sv.ownBlock = some k) w7 w8)
    (hrow : w8.ownsRow 0 86 33 v' (l.length + 1) (l.flatMap slotRf ++ slotRf s)) (hb : v'.ownBlock = sv.ownBlock ∨ v'.ownBlock = some w7.heap.size) (hso : SlotOk s) (hl : l.length < 64) : RvIn U w v x d (l ++ [s]) dead (w8.setCell ⟨v, 1, none⟩ v') := by
  have hs7 : Stays (fun _ => False) wr w7 := Below.stays hb7
  have h7 := h.keep hs7 (fun _ f => f.elim)
  have hw : w.heap.size ≤ w7.heap.size := Nat.le_trans h3.size hs7.size
  refine ⟨_, T, v', h7.push hs hrow hb hso hl, fun k u => ?_, ?_⟩
  · rcases u with u | u
    · exact h2 k u
    · rcases hb with hb | hb
      · exact h2 k (h.clear k (by rw [← hb, u])).2
      · rw [hb] at u; cases u; exact Or.inr hw
  · have a1 : Stays U w w7 := h3.trans (G := fun _ => False) hs7 (fun _ f => f.elim)
    have a2 : Stays U w w8 := a1.trans (G := fun k => sv.ownBlock = some k) hs (fun k e hlt => (h2 k (h.clear k e).2).elim id (fun h => by omega))
    exact a2.trans (G := fun k => k = v) (stays_set w8 v 1 v') (fun k e hlt => (h2 k (e ▸ h.here)).elim id (fun h => by omega))
theorem run_storeSlots {ρ : Operand → Value} {o : Oper} {x y : Operand} {w : World} {a : Addr} {p : Option Addr} {n c : Nat} {u : Value} (ho : o.op = .store 76 x y) (hx : ρ x = .pointer (some a)) (hy : ρ y = .slice p n c) (hc : w.cell? a = some u) (hf : w.frozen? a = false) :
    (execOp ρ o).run Tryd.prog w = .ok .skip (w.setCell a (.slice p n c)) := by
  obtain ⟨dst, op, ty', pos, after, guard⟩ := o
  simp only at ho
  subst ho
  go_simp
theorem RvIn.rebase {U : Nat → Prop} {w w2 wz : World} {v x : Nat} {d : DiskM} {l : List SlotV} {dead : Bool} (h : RvIn U w2 v x d l dead wz) (hb : Below w.heap.size w w2) : RvIn U w v x d l dead wz := by
  obtain ⟨U', T, sv, h1, h2, h3⟩ := h
  have hs : Stays U w w2 := (Below.stays (F := fun _ => False) hb).more (fun _ f => f.elim)
  exact ⟨U', T, sv, h1, fun k u => (h2 k u).imp id (fun h => Nat.le_trans hb.size h), hs.trans h3 (fun k u _ => u)⟩
theorem slot_zero : ∃ it z, Tryd.prog.info? 86 = some it ∧ it.zero = some z ∧ z.cells = (slotC (noughts 32) false).toArray := by
  have e : ((Tryd.prog.info? 86).bind (·.zero)).map (·.cells) = some (slotC (noughts 32) false).toArray := by kernel_rfl
  cases hi : Tryd.prog.info? 86 with
  | none => rw [hi] at e; cases e
  | some it =>
    rw [hi] at e
    cases hz : it.zero with
    | none => simp [hz] at e
    | some z =>
      simp only [Option.bind_some, hz, Option.map_some, Option.some.injEq] at e
      exact ⟨it, z, rfl, hz, e⟩
theorem slot_built {k : List (BitVec 8)} (hk : k.length = 32) : Tryd.prog.built 86 [(0, .agg (bytesV k).toArray)] = some (slotC k false).toArray := by
  obtain ⟨fields, hu, hp⟩ : ∃ fields, Tryd.prog.underlying 86 = some (.struct fields) ∧ fields.toList.mapM (fun f => (Tryd.prog.info? f.type).map fun i => (f.offset, i.size)) = some [(0, 32), (32, 1)] := ⟨_, Tryd.underlying86, by kernel_rfl⟩
  obtain ⟨it, z, hi, hz, hc⟩ := slot_zero
  unfold Program.built
  simp only [hi, hz, hu, hp, hc]
  have hs : (Value.agg (bytesV k).toArray).cells.size = 32 := bytesV_size _ _ hk
  have h := fill_seq ([(0, 32), (32, 1)].toArray[·]?) [.agg (bytesV k).toArray] 0 [] (bytesV (noughts 32)) [.bool false] (by refine ⟨?_, trivial⟩; rw [hs]; rfl) (by rw [bytesV_length, noughts_length]; simp [Value.cells, bytesV_length, hk])
  simpa [slotC, Value.cells] using h
theorem run_buildSlot {ρ : Operand → Value} {o : Oper} {x : Operand} {K : Value} {C : Array Value} (ho : o.op = .build 86 #[(0, x)]) (hx : ρ x = K) (hb : Tryd.prog.built 86 [(0, K)] = some C) (w : World) :
    (execOp ρ o).run Tryd.prog w = .ok (.value (.agg C)) w := by
  have hr := Go.run_build (P := Tryd.prog) w 86 #[(0, K)] _ hb
  obtain ⟨dst, op, ty', pos, after, guard⟩ := o
  simp only at ho
  subst ho
  unfold execOp
  simp only [List.map_toArray, List.map_cons, List.map_nil, hx, Sem.run_bind, hr, Result.andThen_ok, Sem.run_pure]
/-- What Put leaves and answers. -/
def PutR (U : Nat → Prop) (v x : Nat) (d : DiskM) (l : List SlotV) (dead : Bool) (k : List (BitVec 8)) (w : World) (e : Ending) (w' : World) : Prop :=
  e = .returned (.tuple #[.int .i64 (if (putVt d l dead k).e = 0 then ((putVt d l dead k).l.length : Int) else 0), .int .i64 (putVt d l dead k).e]) ∧ RvGo U v x (putVt d l dead k).d (putVt d l dead k).l (putVt d l dead k).dead w w'
set_option maxRecDepth 100000 in
set_option maxHeartbeats 2000000 in
theorem rvPut_any {U : Nat → Prop} {v x : Nat} {d : DiskM} {l : List SlotV} {dead : Bool} (k : List (BitVec 8)) (w : World) (hk : k.length = 32) (hok : d.Ok) (hc : d.count < 999999000) (h : RvAt U w v x d l dead) :
    Calls Tryd.prog 40 #[.pointer (some ⟨v, 0, none⟩), .agg (bytesV k).toArray] w fun e w' => PutR U v x d l dead k w e w' := by
  obtain ⟨W, hW⟩ : ∃ W, W = w.alloc (.cells (bytesV k).toArray 36) := ⟨_, rfl⟩
  have hkrow : W.heap[w.heap.size]? = some (.cells (bytesV k).toArray 36 (0, 0)) := by rw [hW]; exact heap_new_at rfl
  have HPL := Lib.hid h.places
  have HAT := Lib.hid h
  have HDM : Hid (∀ k, U k → k < w.heap.size) := show ∀ _, _ from by obtain ⟨_, _, h⟩ := h; exact h.dom
  have hBW : Below w.heap.size w W := by rw [hW]; exact (Below.refl _ _).alloc (Nat.le_refl _) _
  have HBW := Lib.hid hBW
  have hI := h.start.below hBW
  obtain ⟨p, c, hc0, hc1, hc2, hth⟩ := hI.cells
  have hle := hI.le
  have hWs : W.heap.size = w.heap.size + 1 := by rw [hW, size_alloc]
  have HI := Lib.hid hI
  have HWS := Lib.hid hWs
  have HWW := Lib.hid hW
  have HKR := Lib.hid hkrow
  clear h hI hW hkrow hWs hth hBW
  cases dead with
  | true =>
    have HP : Hid (∀ wz, RvIn U w v x d l true wz → PutR U v x d l true k w (.returned (.tuple #[.int .i64 0, .int .i64 9])) wz) := show ∀ _, _ from fun wz h => ⟨rfl, h.go⟩
    go_enter Tryd.func40, Tryd.ntmps40
    go_upto_region 1 with (fail)
    rw [← HWW.out]
    go_wp2_with fail
    go_ret2
    exact HP.out _ HI.out
  | false =>
    by_cases h64 : l.length = 64
    · have HP : Hid (∀ wz, RvIn U w v x d l false wz → PutR U v x d l false k w (.returned (.tuple #[.int .i64 0, .int .i64 3])) wz) := show ∀ _, _ from fun wz h => by
        have e : putVt d l false k = ⟨d, l, false, 3⟩ := by unfold putVt; rw [if_neg (by decide), if_pos h64]
        unfold PutR
        rw [e]
        exact ⟨rfl, h.go⟩
      have q : ((l.length : Int) == 64) = true := by rw [h64]; rfl
      go_enter Tryd.func40, Tryd.ntmps40
      go_upto_region 1 with (fail)
      rw [← HWW.out]
      go_wp2_with fail
      go_ret2
      exact HP.out _ HI.out
    · have hlt : l.length < 64 := by omega
      have q : ((l.length : Int) == 64) = false := beq_eq_false_iff_ne.2 (by omega)
      have HIK := Lib.hid (infoKey k hk)
      have HCS := Lib.hid (slotC_size hk false)
      have HIS := Lib.hid (size_slot HCS.out)
      have HBT := Lib.hid (slot_built hk)
      have HZS : Hid ((slotC (noughts 32) false).toArray.size = (slotC k false).toArray.size) := show _ = _ by rw [slotC_size (noughts_length 32), HCS.out]
      have HON := Lib.hid (slotC_ones k false)
      have HONL := Lib.hid (slotC_onesL k false)
      go_enter Tryd.func40, Tryd.ntmps40
      go_upto_region 1 with (fail)
      rw [← HWW.out]
      go_upto_region 6 with (first
        | (refine wpList_load_row rfl 36 (.tmp 3) rfl w.heap.size rfl 36 (bytesV k).toArray (0, 0) _ HKR.out Tryd.underlying36 rfl HIK.out ?_)
        | (refine wpList_run (by rfl) (run_buildSlot (x := .tmp 18) (K := .agg (bytesV k).toArray) (C := (slotC k false).toArray) rfl rfl HBT.out _) ?_)
        | (refine wpList_store_new rfl 86 (.tmp 6) (.tmp 19) rfl W.heap.size rfl (slotC k false).toArray rfl rfl HIS.out (by exact HZS.out) HON.out ?_; intro W2 h2 b2; have HSR := Lib.hid h2; have HBW2 : Hid (Below w.heap.size w W2) := show Below _ _ _ from HBW.out.trans (b2.mono HBW.out.size); have HI2 := Lib.hid (HAT.out.below HBW2.out).start; have HSZ2 := Lib.hid b2.size; clear h2 b2))
      obtain ⟨p2, c2, hps⟩ := HI2.out.puts HSR.out
      have HPS : Hid (PutS v x p2 l.length c2 W.heap.size (slotC k false).toArray W2.drew) := show PutS _ _ _ _ _ _ _ _ from ⟨hps.block, hps.slot⟩
      have HI2D : Hid (RvIn U W2 v x d l false W2.drew) := show RvIn _ _ _ _ _ _ _ _ from HI2.out.below ⟨rfl, rfl, rfl, Nat.le_refl _, fun _ _ => rfl⟩
      have HBL : Hid ((slotB (some k) (l.length + 1)).length = 40) := show _ = _ from slotB_length (slotOk_some hk) _
      have HNE : Hid (W.heap.size ≠ v ∧ W.heap.size ≠ x ∧ x < W2.heap.size ∧ v ≠ x) := show _ ∧ _ from ⟨by have := HPL.out; have := HWS.out; omega, by have := HPL.out; have := HWS.out; omega, by have := HPL.out; have := HWS.out; have := HSZ2.out; omega, HPL.out.1⟩
      have HKL := Lib.hid hk
      have HOK := Lib.hid hok
      have HC := Lib.hid (And.intro hc trivial)
      have HLT := Lib.hid (And.intro hlt trivial)
      clear hps hk hok hc hlt HKR HZS HIS HIK hc0 hc1 hc2 hle q
      refine region_phase (PutS v x p2 l.length c2 W.heap.size (slotC k false).toArray) (fun _ => True) 12 (HPS.out) trivial [(0, .free), (1, .free), (2, .free), (3, .free), (4, .free), (5, .free), (6, .free), (7, .free), (8, .free), (9, .free), (10, .free), (11, .free), (12, .behind), (13, .behind), (14, .behind), (15, .free)] (by kernel_rfl) (by kernel_rfl) (by kernel_rfl) (by kernel_rfl) (fun ops hops A hA => ?_)
      have hsz : A.tmps.size = 62 := by rw [hA]; rfl
      have base0 : A.eval (.tmp 0) = .pointer (some ⟨v, 0, none⟩) := by rw [hA]; rfl
      have base6 : A.eval (.tmp 6) = .pointer (some ⟨W.heap.size, 0, none⟩) := by rw [hA]; rfl
      have HAA := Lib.hid hA; clear hA
      obtain ⟨o0, po0, q0, d0, gd0⟩ : ∃ o, ops[0]? = some o ∧ o.op = .move (.tmp 0) ∧ o.dst = some 20 ∧ o.guard = none := ⟨_, by rw [hops]; rfl, rfl, rfl, rfl⟩
      obtain ⟨o1, po1, q1, d1, gd1⟩ : ∃ o, ops[1]? = some o ∧ o.op = .move (.tmp 0) ∧ o.dst = some 21 ∧ o.guard = none := ⟨_, by rw [hops]; rfl, rfl, rfl, rfl⟩
      obtain ⟨o2, po2, q2, d2, gd2⟩ : ∃ o, ops[2]? = some o ∧ o.op = .nilCheck (.tmp 21) ∧ o.dst = some 22 ∧ o.guard = none := ⟨_, by rw [hops]; rfl, rfl, rfl, rfl⟩
      obtain ⟨o3, po3, q3, d3, gd3⟩ : ∃ o, ops[3]? = some o ∧ o.op = .fieldAddr 78 (.tmp 22) 0 ∧ o.dst = some 23 ∧ o.guard = none := ⟨_, by rw [hops]; rfl, rfl, rfl, rfl⟩
      obtain ⟨o4, po4, q4, d4, gd4⟩ : ∃ o, ops[4]? = some o ∧ o.op = .load 26 (.tmp 23) ∧ o.dst = some 24 ∧ o.guard = none := ⟨_, by rw [hops]; rfl, rfl, rfl, rfl⟩
      obtain ⟨o5, po5, q5, d5, gd5⟩ : ∃ o, ops[5]? = some o ∧ o.op = .load 86 (.tmp 6) ∧ o.dst = some 25 ∧ o.guard = none := ⟨_, by rw [hops]; rfl, rfl, rfl, rfl⟩
      obtain ⟨o6, po6, q6, d6, gd6⟩ : ∃ o, ops[6]? = some o ∧ o.op = .move (.tmp 0) ∧ o.dst = some 26 ∧ o.guard = none := ⟨_, by rw [hops]; rfl, rfl, rfl, rfl⟩
      obtain ⟨o7, po7, q7, d7, gd7⟩ : ∃ o, ops[7]? = some o ∧ o.op = .nilCheck (.tmp 26) ∧ o.dst = some 27 ∧ o.guard = none := ⟨_, by rw [hops]; rfl, rfl, rfl, rfl⟩
      obtain ⟨o8, po8, q8, d8, gd8⟩ : ∃ o, ops[8]? = some o ∧ o.op = .fieldAddr 78 (.tmp 27) 1 ∧ o.dst = some 28 ∧ o.guard = none := ⟨_, by rw [hops]; rfl, rfl, rfl, rfl⟩
      obtain ⟨o9, po9, q9, d9, gd9⟩ : ∃ o, ops[9]? = some o ∧ o.op = .load 76 (.tmp 28) ∧ o.dst = some 29 ∧ o.guard = none := ⟨_, by rw [hops]; rfl, rfl, rfl, rfl⟩
      obtain ⟨o10, po10, q10, d10, gd10⟩ : ∃ o, ops[10]? = some o ∧ o.op = .call { callee := .builtin .len, args := #[.tmp 29], argTypes := #[76] } ∧ o.dst = some 30 ∧ o.guard = none := ⟨_, by rw [hops]; rfl, rfl, rfl, rfl⟩
      obtain ⟨o11, po11, q11, d11, gd11⟩ : ∃ o, ops[11]? = some o ∧ o.op = .binOp .add 3 (.tmp 30) (.const (.int .i64 1)) 3 ∧ o.dst = some 31 ∧ o.guard = none := ⟨_, by rw [hops]; rfl, rfl, rfl, rfl⟩
      obtain ⟨o12, po12, q12, d12, gd12⟩ : ∃ o, ops[12]? = some o ∧ o.op = .call { callee := .value (.func 70), args := #[.tmp 25, .tmp 31], argTypes := #[86, 3] } ∧ o.dst = some 32 ∧ o.guard = none := ⟨_, by rw [hops]; rfl, rfl, rfl, rfl⟩
      obtain ⟨o13, po13, q13, d13, gd13⟩ : ∃ o, ops[13]? = some o ∧ o.op = .call { callee := .value (.func 39), args := #[.tmp 24, .const (.int .i64 0), .tmp 32], argTypes := #[26, 3, 37] } ∧ o.dst = some 33 ∧ o.guard = none := ⟨_, by rw [hops]; rfl, rfl, rfl, rfl⟩
      obtain ⟨o14, po14, q14, d14, gd14⟩ : ∃ o, ops[14]? = some o ∧ o.op = .call { callee := .value (.func 69), args := #[.tmp 20, .tmp 33], argTypes := #[29, 43] } ∧ o.dst = some 34 ∧ o.guard = none := ⟨_, by rw [hops]; rfl, rfl, rfl, rfl⟩
      obtain ⟨o15, po15, q15, d15, gd15⟩ : ∃ o, ops[15]? = some o ∧ o.op = .assign (.tmp 34) ∧ o.dst = some 7 ∧ o.guard = none := ⟨_, by rw [hops]; rfl, rfl, rfl, rfl⟩
      clear hops
      refine met_free po0 d0 (wanted_of gd0) (fun w' h' => run_move q0 base0 w') ?_
      refine met_free po1 d1 (wanted_of gd1) (fun w' h' => run_move q1 ((eval_other _ 20 0 _ (by decide)).trans base0) w') ?_
      refine met_free po2 d2 (wanted_of gd2) (fun w' h' => run_nilCheck q2 (eval_same _ _ _ (by simp only [put_size, hsz]; decide)) w') ?_
      refine met_free po3 d3 (wanted_of gd3) (fun w' h' => run_fieldT (off := 0) q3 (fun _ => by kernel_rfl) (eval_same _ _ _ (by simp only [put_size, hsz]; decide)) w') ?_
      refine met_free po4 d4 (wanted_of gd4) (fun w' h' => run_loadRD q4 (eval_same _ _ _ (by simp only [put_size, hsz]; decide)) h'.disk) ?_
      refine met_free po5 d5 (wanted_of gd5) (fun w' h' => run_loadSlotR q5 ((eval_other _ 24 6 _ (by decide)).trans ((eval_other _ 23 6 _ (by decide)).trans ((eval_other _ 22 6 _ (by decide)).trans ((eval_other _ 21 6 _ (by decide)).trans ((eval_other _ 20 6 _ (by decide)).trans base6))))) h'.slot HCS.out) ?_
      refine met_free po6 d6 (wanted_of gd6) (fun w' h' => run_move q6 ((eval_other _ 25 0 _ (by decide)).trans ((eval_other _ 24 0 _ (by decide)).trans ((eval_other _ 23 0 _ (by decide)).trans ((eval_other _ 22 0 _ (by decide)).trans ((eval_other _ 21 0 _ (by decide)).trans ((eval_other _ 20 0 _ (by decide)).trans base0)))))) w') ?_
      refine met_free po7 d7 (wanted_of gd7) (fun w' h' => run_nilCheck q7 (eval_same _ _ _ (by simp only [put_size, hsz]; decide)) w') ?_
      refine met_free po8 d8 (wanted_of gd8) (fun w' h' => run_fieldT (off := 1) q8 (fun _ => by kernel_rfl) (eval_same _ _ _ (by simp only [put_size, hsz]; decide)) w') ?_
      refine met_free po9 d9 (wanted_of gd9) (fun w' h' => run_loadSlots q9 (eval_same _ _ _ (by simp only [put_size, hsz]; decide)) h'.list) ?_
      refine met_free po10 d10 (wanted_of gd10) (fun w' h' => run_lenSlots q10 (eval_same _ _ _ (by simp only [put_size, hsz]; decide)) w') ?_
      refine met_free po11 d11 (wanted_of gd11) (fun w' h' => run_addNN (m := 1) q11 (eval_same _ _ _ (by simp only [put_size, hsz]; decide)) rfl (by have := HLT.out.1; omega) w') ?_
      refine m_enter po12 d12 (wanted_of gd12) (run_callf2 q12 rfl ((eval_other _ 31 25 _ (by decide)).trans ((eval_other _ 30 25 _ (by decide)).trans ((eval_other _ 29 25 _ (by decide)).trans ((eval_other _ 28 25 _ (by decide)).trans ((eval_other _ 27 25 _ (by decide)).trans ((eval_other _ 26 25 _ (by decide)).trans (eval_same _ _ _ (by simp only [put_size, hsz]; decide)))))))) (eval_same _ _ _ (by simp only [put_size, hsz]; decide)) Tryd.func70 (by kernel_rfl) _) (rfBytes_any k false (l.length + 1) HKL.out (by have := HLT.out.1; omega) _) ?_
      rintro e w3 ⟨vb, rfl, ho3, hb3⟩
      have ho3' : Own W2.heap.size w3 (slotB (some k) (l.length + 1)) vb := ho3
      obtain ⟨qb, cb, rfl, -, -, -⟩ := ho3'.slV HBL.out
      have HO3 := Lib.hid ho3'
      have HI3 := Lib.hid (HI2D.out.below hb3)
      have HPS3 := Lib.hid (HPS.out.below hb3)
      clear ho3 ho3' hb3
      refine ⟨_, rfl, HPS3.out, ?_⟩
      refine m_enter po13 d13 (wanted_of gd13) (run_callf3 q13 rfl ((eval_other _ 32 24 _ (by decide)).trans ((eval_other _ 31 24 _ (by decide)).trans ((eval_other _ 30 24 _ (by decide)).trans ((eval_other _ 29 24 _ (by decide)).trans ((eval_other _ 28 24 _ (by decide)).trans ((eval_other _ 27 24 _ (by decide)).trans ((eval_other _ 26 24 _ (by decide)).trans ((eval_other _ 25 24 _ (by decide)).trans (eval_same _ _ _ (by simp only [put_size, hsz]; decide)))))))))) rfl (eval_same _ _ _ (by simp only [put_size, hsz]; decide)) Tryd.func39 (by kernel_rfl) _) (HI3.out.call (fun T hT => rfWrite_any T x d w3 0 (slotB (some k) (l.length + 1)) 40 cb qb hT HOK.out (by have := HC.out.1; omega) HBL.out (by omega) (fun w' hs => by obtain ⟨_, _, e, -, -, hl⟩ := (own_stayV HO3.out HNE.out.2.2.1 hs).slV HBL.out; cases e; exact hl))) ?_
      rintro e w4 ⟨rfl, hi4, hs4⟩
      have HI4 := Lib.hid hi4
      have HPS4 := Lib.hid (HPS3.out.keep hs4 HNE.out.2.2.2 HNE.out.2.1)
      clear hi4 hs4
      refine ⟨_, rfl, HPS4.out, ?_⟩
      refine m_enter po14 d14 (wanted_of gd14) (run_callf2 q14 rfl ((eval_other _ 33 20 _ (by decide)).trans ((eval_other _ 32 20 _ (by decide)).trans ((eval_other _ 31 20 _ (by decide)).trans ((eval_other _ 30 20 _ (by decide)).trans ((eval_other _ 29 20 _ (by decide)).trans ((eval_other _ 28 20 _ (by decide)).trans ((eval_other _ 27 20 _ (by decide)).trans ((eval_other _ 26 20 _ (by decide)).trans ((eval_other _ 25 20 _ (by decide)).trans ((eval_other _ 24 20 _ (by decide)).trans ((eval_other _ 23 20 _ (by decide)).trans ((eval_other _ 22 20 _ (by decide)).trans ((eval_other _ 21 20 _ (by decide)).trans (eval_same _ _ _ (by rw [hsz]; decide))))))))))))))) (eval_same _ _ _ (by simp only [put_size, hsz]; decide)) Tryd.func69 (by kernel_rfl) _) (rvSaw_any (d.write 0 (slotB (some k) (l.length + 1))).2 HI4.out) ?_
      rintro e w5 ⟨rfl, rfl⟩
      have HI5 := Lib.hid (HI4.out.putDead (false || decide ((d.write 0 (slotB (some k) (l.length + 1))).2 = 9)))
      have HPS5 := Lib.hid (HPS4.out.saw HNE.out.1 (false || decide ((d.write 0 (slotB (some k) (l.length + 1))).2 = 9)))
      refine ⟨_, rfl, HPS5.out, ?_⟩
      refine met_free po15 d15 (wanted_of gd15) (fun w' h' => run_assign q15 (eval_same _ _ _ (by simp only [put_size, hsz]; decide)) w') ?_
      show NoPanic _ .normal _ _
      refine NoPanic.normal ?_
      rw [HAA.out]
      go_frame
      clear HAA
      clear po0 q0 d0 gd0 po1 q1 d1 gd1 po2 q2 d2 gd2 po3 q3 d3 gd3 po4 q4 d4 gd4 po5 q5 d5 gd5 po6 q6 d6 gd6 po7 q7 d7 gd7 po8 q8 d8 gd8 po9 q9 d9 gd9 po10 q10 d10 gd10 po11 q11 d11 gd11 po12 q12 d12 gd12 po13 q13 d13 gd13 po14 q14 d14 gd14 po15 q15 d15 gd15
      clear base0 base6 hsz
      obtain ⟨d1, e1, hwr⟩ : ∃ d1 e1, d.write 0 (slotB (some k) (l.length + 1)) = (d1, e1) := ⟨_, _, rfl⟩
      have hok1 : d1.Ok := by have := DiskM.write_ok HOK.out 0 (slotB (some k) (l.length + 1)); rwa [hwr] at this
      have hc1 : d1.count < 1000000000 := by have h := write_countV d 0 (slotB (some k) (l.length + 1)); rw [hwr] at h; have h' : d1.count ≤ d.count + 1 := h; have := HC.out.1; omega
      rw [hwr] at HI5 HPS5 ⊢
      dsimp only at HI5 HPS5 ⊢
      generalize w4.setCell ⟨v, 2, none⟩ (.bool (false || decide (e1 = 9))) = w5 at HI5 HPS5 ⊢
      have HWR := Lib.hid hwr
      have HOK1 := Lib.hid hok1
      have HC1 := Lib.hid (And.intro hc1 trivial)
      clear hwr hok1 hc1 HI3 HI4 HPS3 HPS4 HO3 HI2D HPS
      by_cases he : e1 = 0
      · subst he
        have hdd : (false || decide ((0 : Int) = 9)) = false := rfl
        rw [hdd] at HI5
        clear hdd
        obtain ⟨d2, e2, hsy⟩ : ∃ d2 e2, d1.sync 0 = (d2, e2) := ⟨_, _, rfl⟩
        have hcd := HPS5.out.disk
        have hsyc := HI5.out.call (fun T hT => rfSync_any T x d1 w5 0 hT HOK1.out HC1.out.1)
        rw [hsy] at hsyc
        have HSYC := Lib.hid hsyc
        clear hsyc
        by_cases he2 : e2 = 0
        · subst he2
          have HP : Hid (∀ wz, RvIn U W2 v x d2 (l ++ [some k]) false wz → PutR U v x d l false k w (.returned (.tuple #[.int .i64 ((l.length + 1 : Nat) : Int), .int .i64 0])) wz) := show ∀ _, _ from fun wz h => by
            have e : putVt d l false k = ⟨d2, l ++ [some k], false, 0⟩ := by
              unfold putVt
              rw [if_neg (by decide), if_neg h64, HWR.out, if_neg (fun h => h rfl)]
              dsimp only
              rw [hsy, if_neg (fun h => h rfl)]
            unfold PutR
            rw [e]
            refine ⟨?_, (h.rebase HBW2.out).go⟩
            rw [if_pos rfl, List.length_append]
            rfl
          clear hsy
          go_upto_region 11 with (first
            | (go_at_call 66; refine HSYC.out.mono ?_; rintro e w6 ⟨rfl, hi6, hs6⟩; have HI6 := Lib.hid hi6; have HPS6 := Lib.hid (HPS5.out.keep hs6 HNE.out.2.2.2 HNE.out.2.1); clear hi6 hs6)
            | (go_at_call 69; refine (rvSaw_any 0 HI6.out).mono ?_; rintro e w7 ⟨rfl, rfl⟩; have HI7 := Lib.hid (HI6.out.putDead false); have HPS7 := Lib.hid (HPS6.out.saw HNE.out.1 false)))
          generalize w6.setCell ⟨v, 2, none⟩ (.bool false) = w7 at HI7 HPS7 ⊢
          obtain ⟨U', T, sv, hV, hgr, hst⟩ : RvIn U W2 v x d2 l false w7.drew := HI7.out.below ⟨rfl, rfl, rfl, Nat.le_refl _, fun _ _ => rfl⟩
          obtain ⟨p3, c3, rfl⟩ := hV.slice
          have HV := Lib.hid hV
          have HGR := Lib.hid hgr
          have HST := Lib.hid hst
          have HSL : Hid (w7.drew.heap[W.heap.size]? = some (.cells (slotC k false).toArray 86 (0, 0))) := show _ = _ from HPS7.out.slot
          have HNU : Hid (¬ U' W.heap.size) := show ¬ _ from fun u => (HGR.out _ u).elim (fun u => by have := HDM.out _ u; have := HBW.out.size; omega) (fun u => by have := (Array.getElem?_eq_some_iff.1 HSR.out).1; omega)
          clear hV hgr hst HI6 HI7 HPS6 HPS7 HI5 HPS5 hcd HSYC
          refine region_phase (fun w' => w'.heap[W.heap.size]? = some (.cells (slotC k false).toArray 86 (0, 0))) (fun w' => w'.cell? ⟨v, 1, none⟩ = some (.slice p3 l.length c3)) 10 (HSL.out) HV.out.cell.2.1 [(0, .free), (1, .free), (2, .free), (3, .free), (4, .early), (5, .free), (6, .before), (7, .before), (8, .free), (9, .free), (10, .behind)] (by kernel_rfl) (by kernel_rfl) (by kernel_rfl) (by kernel_rfl) (fun ops hops A hA => ?_)
          have hsz : A.tmps.size = 62 := by rw [hA]; rfl
          have base0 : A.eval (.tmp 0) = .pointer (some ⟨v, 0, none⟩) := by rw [hA]; rfl
          have base6 : A.eval (.tmp 6) = .pointer (some ⟨W.heap.size, 0, none⟩) := by rw [hA]; rfl
          have HAA := Lib.hid hA; clear hA
          obtain ⟨o0, po0, q0, d0, gd0⟩ : ∃ o, ops[0]? = some o ∧ o.op = .move (.tmp 0) ∧ o.dst = some 47 ∧ o.guard = none := ⟨_, by rw [hops]; rfl, rfl, rfl, rfl⟩
          obtain ⟨o1, po1, q1, d1, gd1⟩ : ∃ o, ops[1]? = some o ∧ o.op = .move (.tmp 0) ∧ o.dst = some 48 ∧ o.guard = none := ⟨_, by rw [hops]; rfl, rfl, rfl, rfl⟩
          obtain ⟨o2, po2, q2, d2, gd2⟩ : ∃ o, ops[2]? = some o ∧ o.op = .nilCheck (.tmp 48) ∧ o.dst = some 49 ∧ o.guard = none := ⟨_, by rw [hops]; rfl, rfl, rfl, rfl⟩
          obtain ⟨o3, po3, q3, d3, gd3⟩ : ∃ o, ops[3]? = some o ∧ o.op = .fieldAddr 78 (.tmp 49) 1 ∧ o.dst = some 50 ∧ o.guard = none := ⟨_, by rw [hops]; rfl, rfl, rfl, rfl⟩
          obtain ⟨o4, po4, q4, d4, gd4⟩ : ∃ o, ops[4]? = some o ∧ o.op = .load 76 (.tmp 50) ∧ o.dst = some 51 ∧ o.guard = none := ⟨_, by rw [hops]; rfl, rfl, rfl, rfl⟩
          obtain ⟨o5, po5, q5, d5, gd5⟩ : ∃ o, ops[5]? = some o ∧ o.op = .load 86 (.tmp 6) ∧ o.dst = some 52 ∧ o.guard = none := ⟨_, by rw [hops]; rfl, rfl, rfl, rfl⟩
          obtain ⟨o6, po6, q6, d6, gd6⟩ : ∃ o, ops[6]? = some o ∧ o.op = .buildSlice 76 1 #[(0, (.tmp 52))] ∧ o.dst = some 53 ∧ o.guard = none := ⟨_, by rw [hops]; rfl, rfl, rfl, rfl⟩
          obtain ⟨o7, po7, q7, d7, gd7⟩ : ∃ o, ops[7]? = some o ∧ o.op = .call { callee := .builtin .append, args := #[.tmp 51, .tmp 53], argTypes := #[76, 76] } ∧ o.dst = some 54 ∧ o.guard = none := ⟨_, by rw [hops]; rfl, rfl, rfl, rfl⟩
          obtain ⟨o8, po8, q8, d8, gd8⟩ : ∃ o, ops[8]? = some o ∧ o.op = .nilCheck (.tmp 47) ∧ o.dst = some 55 ∧ o.guard = none := ⟨_, by rw [hops]; rfl, rfl, rfl, rfl⟩
          obtain ⟨o9, po9, q9, d9, gd9⟩ : ∃ o, ops[9]? = some o ∧ o.op = .fieldAddr 78 (.tmp 55) 1 ∧ o.dst = some 56 ∧ o.guard = none := ⟨_, by rw [hops]; rfl, rfl, rfl, rfl⟩
          obtain ⟨o10, po10, q10, d10, gd10⟩ : ∃ o, ops[10]? = some o ∧ o.op = .store 76 (.tmp 56) (.tmp 54) ∧ o.dst = none ∧ o.guard = none := ⟨_, by rw [hops]; rfl, rfl, rfl, rfl⟩
          clear hops
          refine met_free po0 d0 (wanted_of gd0) (fun w' h' => run_move q0 base0 w') ?_
          refine met_free po1 d1 (wanted_of gd1) (fun w' h' => run_move q1 ((eval_other _ 47 0 _ (by decide)).trans base0) w') ?_
          refine met_free po2 d2 (wanted_of gd2) (fun w' h' => run_nilCheck q2 (eval_same _ _ _ (by simp only [put_size, hsz]; decide)) w') ?_
          refine met_free po3 d3 (wanted_of gd3) (fun w' h' => run_fieldT (off := 1) q3 (fun _ => by kernel_rfl) (eval_same _ _ _ (by simp only [put_size, hsz]; decide)) w') ?_
          refine met_early po4 d4 (wanted_of gd4) (fun w' h' hE' => run_loadSlots q4 (eval_same _ _ _ (by simp only [put_size, hsz]; decide)) hE') ?_
          refine met_free po5 d5 (wanted_of gd5) (fun w' h' => run_loadSlotR q5 ((eval_other _ 51 6 _ (by decide)).trans ((eval_other _ 50 6 _ (by decide)).trans ((eval_other _ 49 6 _ (by decide)).trans ((eval_other _ 48 6 _ (by decide)).trans ((eval_other _ 47 6 _ (by decide)).trans base6))))) h' HCS.out) ?_
          refine mb_value po6 d6 (wanted_of gd6) (refSlotT.run_one q6 (eval_same _ _ _ (by simp only [put_size, hsz]; decide)) HCS.out w7.drew) ?_
          have HB8 : Hid (Below w7.drew.heap.size w7.drew (w7.drew.alloc (.cells (slotC k false).toArray 86))) := show Below _ _ _ from (Below.refl _ _).alloc (Nat.le_refl _) _
          have HC8 : Hid ((w7.drew.alloc (.cells (slotC k false).toArray 86)).heap[w7.drew.heap.size]? = some (.cells (slotC k false).toArray 86 (0, 0))) := show _ = _ from heap_new_at rfl
          generalize w7.drew.alloc (.cells (slotC k false).toArray 86) = w8 at HB8 HC8 ⊢
          have HV8 := Lib.hid (HV.out.keep (Below.stays (F := fun _ => False) HB8.out) (fun _ f => f.elim))
          have HSL8 : Hid (w8.heap[W.heap.size]? = some (.cells (slotC k false).toArray 86 (0, 0))) := show _ = _ from (HB8.out.block _ (Array.getElem?_eq_some_iff.1 HSL.out).1).trans HSL.out
          refine ⟨⟨HSL8.out, HV8.out.cell.2.1⟩, ?_⟩
          refine refSlotT.mb_append po7 d7 (wanted_of gd7) q7 ((eval_other _ 53 51 _ (by decide)).trans ((eval_other _ 52 51 _ (by decide)).trans (eval_same _ _ _ (by simp only [put_size, hsz]; decide)))) HV8.out.rows (eval_same _ _ _ (by simp only [put_size, hsz]; decide)) HC8.out HCS.out HONL.out (by have := HLT.out.1; omega) (Nat.zero_le _) ?_
          intro v9 w9 hrow9 hg9 hat9
          obtain ⟨p9, c9, rfl⟩ : ∃ p9 c9, v9 = .slice p9 (l.length + 1) c9 := by rcases hrow9.2 with ⟨h0, h1⟩ | ⟨b, cap, cur, h0, -⟩; exact absurd h1 (by omega); exact ⟨_, _, h0⟩
          have HG9 : Hid (Stays (fun k => Value.ownBlock (.slice p3 l.length c3) = some k) w8 w9) := show Stays _ _ _ from grown_stays hg9 (fun k e => e)
          have HROW9 := Lib.hid hrow9
          have HAT9 := Lib.hid hat9
          clear hrow9 hg9 hat9
          have HSL9 : Hid (w9.heap[W.heap.size]? = some (.cells (slotC k false).toArray 86 (0, 0))) := show _ = _ from (HG9.out.block _ (Array.getElem?_eq_some_iff.1 HSL8.out).1 (fun e => HNU.out (HV8.out.clear _ e).2)).trans HSL8.out
          have HBK9 : Hid (w9.heap[v]? = some (.cells #[.pointer (some ⟨x, 0, none⟩), .slice p3 l.length c3, .bool false] 78 (0, 0))) := show _ = _ from (HG9.out.block v (HV8.out.dom v HV8.out.here) (fun e => HV8.out.apart e)).trans HV8.out.block
          refine ⟨⟨HSL9.out, by rw [cell_of_row w9 v 1 _ _ _ HBK9.out]; rfl⟩, ?_⟩
          refine met_free po8 d8 (wanted_of gd8) (fun w' h' => run_nilCheck q8 ((eval_other _ 54 47 _ (by decide)).trans ((eval_other _ 53 47 _ (by decide)).trans ((eval_other _ 52 47 _ (by decide)).trans ((eval_other _ 51 47 _ (by decide)).trans ((eval_other _ 50 47 _ (by decide)).trans ((eval_other _ 49 47 _ (by decide)).trans ((eval_other _ 48 47 _ (by decide)).trans (eval_same _ _ _ (by rw [hsz]; decide))))))))) w') ?_
          refine met_free po9 d9 (wanted_of gd9) (fun w' h' => run_fieldT (off := 1) q9 (fun _ => by kernel_rfl) (eval_same _ _ _ (by simp only [put_size, hsz]; decide)) w') ?_
          refine met_skip po10 d10 (wanted_of gd10) (run_storeSlots q10 (eval_same _ _ _ (by simp only [put_size, hsz]; decide)) ((eval_other _ 56 54 _ (by decide)).trans ((eval_other _ 55 54 _ (by decide)).trans (eval_same _ _ _ (by simp only [put_size, hsz]; decide)))) (by rw [cell_of_row w9 v 1 _ _ _ HBK9.out]; rfl) (frozen_of_row _ _ _ _ _ HBK9.out)) (((stays_set w9 v 1 _).block W.heap.size (Array.getElem?_eq_some_iff.1 HSL9.out).1 HNE.out.1).trans HSL9.out) ?_
          show NoPanic _ .normal _ _
          refine NoPanic.normal ?_
          rw [HAA.out]
          go_frame
          clear HAA
          clear po0 q0 d0 gd0 po1 q1 d1 gd1 po2 q2 d2 gd2 po3 q3 d3 gd3 po4 q4 d4 gd4 po5 q5 d5 gd5 po6 q6 d6 gd6 po7 q7 d7 gd7 po8 q8 d8 gd8 po9 q9 d9 gd9 po10 q10 d10 gd10
          clear base0 base6 hsz
          have HIN : Hid (RvIn U W2 v x d2 (l ++ [some k]) false (w9.setCell ⟨v, 1, none⟩ (.slice p9 (l.length + 1) c9))) := show RvIn _ _ _ _ _ _ _ _ from RvIn.push (s := some k) HV.out HGR.out HST.out HB8.out HG9.out HROW9.out HAT9.out (slotOk_some HKL.out) HLT.out.1
          have hcl : (w9.setCell ⟨v, 1, none⟩ (.slice p9 (l.length + 1) c9)).cell? ⟨v, 1, none⟩ = some (.slice p9 (l.length + 1) c9) := by
            rw [cell_of_row _ v 1 _ _ _ (heap_setCell_same w9 v 1 _ _ (.slice p9 (l.length + 1) c9) HBK9.out)]; rfl
          generalize w9.setCell ⟨v, 1, none⟩ (.slice p9 (l.length + 1) c9) = w10 at HIN hcl ⊢
          clear HSL9 HBK9 HROW9 HAT9 HG9 HSL8 HV8 HC8 HB8 HNU HSL HST HGR HV
          go_wp2_with fail
          go_ret2
          exact HP.out _ HIN.out
        · have HP : Hid (∀ wz, RvIn U W2 v x d2 l (false || decide (e2 = 9)) wz → PutR U v x d l false k w (.returned (.tuple #[.int .i64 0, .int .i64 e2])) wz) := show ∀ _, _ from fun wz h => by
            have e : putVt d l false k = ⟨d2, l, decide (e2 = 9), e2⟩ := by
              unfold putVt
              rw [if_neg (by decide), if_neg h64, HWR.out, if_neg (fun h => h rfl)]
              dsimp only
              rw [hsy, if_pos he2]
            unfold PutR
            rw [e]
            refine ⟨?_, (h.rebase HBW2.out).go⟩
            rw [if_neg he2]
          have q2 : (e2 == 0) = false := beq_eq_false_iff_ne.2 he2
          clear hsy
          go_wp2_with (first
            | (go_at_call 66; refine HSYC.out.mono ?_; rintro e w6 ⟨rfl, hi6, -⟩; have HI6 := Lib.hid hi6; clear hi6)
            | (go_at_call 69; refine (rvSaw_any e2 HI6.out).mono ?_; rintro e w7 ⟨rfl, rfl⟩; have HI7 := Lib.hid (HI6.out.putDead (false || decide (e2 = 9)))))
          go_ret2
          exact HP.out _ HI7.out
      · have HP : Hid (∀ wz, RvIn U W2 v x d1 l (false || decide (e1 = 9)) wz → PutR U v x d l false k w (.returned (.tuple #[.int .i64 0, .int .i64 e1])) wz) := show ∀ _, _ from fun wz h => by
          have e : putVt d l false k = ⟨d1, l, decide (e1 = 9), e1⟩ := by
            unfold putVt
            rw [if_neg (by decide), if_neg h64, HWR.out, if_pos he]
          unfold PutR
          rw [e]
          refine ⟨?_, (h.rebase HBW2.out).go⟩
          rw [if_neg he]
        have q1 : (e1 == 0) = false := beq_eq_false_iff_ne.2 he
        go_wp2_with fail
        go_ret2
        exact HP.out _ HI5.out
end Go.Proofs.YtoidjapenompiaaDoor

/-
  The document's Zero.
-/
namespace Go.Proofs.YtoidjapenompiaaDoor
open Go.RowKit Go.Proofs.ShaWords
theorem run_mul40 {ρ : Operand → Value} {o : Oper} {x : Operand} {m : Nat} (ho : o.op = .binOp .mul 3 (.const (.int .i64 40)) x 3) (h0 : ∀ u, ρ (.const u) = u) (hx : ρ x = .int .i64 (m : Int)) (hm : m ≤ 1000000) (w : World) : (execOp ρ o).run Tryd.prog w = .ok (.value (.int .i64 (40 * (m : Int)))) w := by
  obtain ⟨dst, op, ty', pos, after, guard⟩ := o
  simp only at ho
  subst ho
  have h := IntWalk.i64_in (40 * (m : Int)) (by omega)
  have h1 := h0 (.int .i64 40)
  go_simp
section
variable {ρ : Operand → Value} {o : Oper} {x y : Operand}
theorem run_makeBytesV {n : Nat} (ho : o.op = .makeSlice 37 x y) (hx : ρ x = .int .i64 (n : Int)) (hy : ρ y = .int .i64 (n : Int)) (hn : n ≤ 1000000) (w : World) :
    ∃ w', (execOp ρ o).run Tryd.prog w = .ok (.value (.slice (some ⟨w.heap.size, 0, none⟩) n n)) w' ∧ BytesAt w' w.heap.size 5 (noughts n) ∧ Below w.heap.size w w' := by
  obtain ⟨i, hi, hz, hs, hb⟩ := info_parts info5
  have hrun := run_make (P := Tryd.prog) w 37 5 i (.int .u8 0) Tryd.underlying37 hi hz .i64 .i64 (n : Int) (n : Int) (by omega) (by omega) (by rw [hb]; omega) (by omega)
  rw [hs, Nat.mul_one] at hrun
  simp only [Int.toNat_natCast] at hrun
  refine ⟨w.alloc (.cells (madeCells (Value.int .u8 0).cells n) 5), ?_, ?_, (Below.refl w.heap.size w).alloc (Nat.le_refl _) _⟩
  · unfold execOp
    simp only [ho, hx, hy, Sem.run_bind, hrun, Result.andThen_ok, Sem.run_pure]
  · show _ = some (Obj.cells (bytesV (List.replicate n 0#8)).toArray _ _)
    rw [← made_noughts]
    exact heap_new_at rfl
end
section
variable {ops : Array Oper} {Q : Exit → Act → World → Prop} {S E : World → Prop} {r : List (Nat × Met)} {i : Nat} {o : Oper} {d : Option Tmp} {a : Act} {w : World} {x y : Operand}
theorem met_makeV {n : Nat} (ho : ops[i]? = some o) (hd : o.dst = d) (hw : Region.wanted o (yielded ops a.tmps) = true) (hq : o.op = .makeSlice 37 x y) (hx : a.eval x = .int .i64 (n : Int)) (hy : a.eval y = .int .i64 (n : Int)) (hn : n ≤ 1000000)
    (h : ∀ w', BytesAt w' w.heap.size 5 (noughts n) → Below w.heap.size w w' → S w' ∧ wpE Tryd.prog ops Q S E r (a.put d (.slice (some ⟨w.heap.size, 0, none⟩) n n)) w') : wpE Tryd.prog ops Q S E ((i, .behind) :: r) a w := by
  obtain ⟨w', hr, hb, hl⟩ := run_makeBytesV hq hx hy hn w
  exact met_op ho hd hw hr (h w' hb hl).1 (h w' hb hl).2
end
theorem gone_built : Tryd.prog.built 86 [(1, .bool true)] = some (slotC (noughts 32) true).toArray := by kernel_rfl
theorem run_goneSlot {ρ : Operand → Value} {o : Oper} (ho : o.op = .build 86 #[(1, .const (.bool true))]) (h0 : ∀ u, ρ (.const u) = u) (w : World) : (execOp ρ o).run Tryd.prog w = .ok (.value (.agg (slotC (noughts 32) true).toArray)) w := by
  have hr := Go.run_build (P := Tryd.prog) w 86 #[(1, .bool true)] _ gone_built
  have h1 := h0 (.bool true)
  obtain ⟨dst, op, ty', pos, after, guard⟩ := o
  simp only at ho
  subst ho
  unfold execOp
  simp only [List.map_toArray, List.map_cons, List.map_nil, h1, Sem.run_bind, hr, Result.andThen_ok, Sem.run_pure]
theorem splice_take {α : Type} (L : List α) (o : Nat) (vs : List α) (n : Nat) (h : o + vs.length ≤ n) (hL : n ≤ L.length) : (splice L o vs).take n = splice (L.take n) o vs := by
  unfold splice
  conv => lhs; rw [List.take_append, List.take_append]
  rw [List.length_take, Nat.min_eq_left (by omega : o ≤ L.length), List.take_take, List.take_take, Nat.min_eq_right (by omega : o ≤ n), Nat.min_eq_left (by omega : o ≤ n), List.take_of_length_le (by omega : vs.length ≤ n - o), List.drop_take, Nat.sub_sub]
theorem flat_set (l : List SlotV) (i : Nat) (hi : i < l.length) (h : ∀ s ∈ l, SlotOk s) : splice (l.flatMap slotRf) (i * 33) (slotRf none) = (l.set i none).flatMap slotRf := by
  have hpart : l.flatMap slotRf = (l.take i).flatMap slotRf ++ (slotRf l[i] ++ (l.drop (i + 1)).flatMap slotRf) := by
    conv => lhs; rw [← List.take_append_drop i l, List.drop_eq_getElem_cons hi]
    rw [List.flatMap_append, List.flatMap_cons]
  have hset : l.set i none = l.take i ++ (none :: l.drop (i + 1)) := by
    rw [List.set_eq_take_append_cons_drop, if_pos hi]
  have h1 : ((l.take i).flatMap slotRf).length = i * 33 := by
    rw [flat_len slotRf 33 _ (fun s hs => slotRf_length (h s (List.mem_of_mem_take hs))), List.length_take, Nat.min_eq_left (by omega)]
  have h2 := slotRf_length (h _ (List.getElem_mem hi))
  have h3 : (slotRf none).length = 33 := slotRf_length slotOk_none
  unfold splice
  rw [hset, List.flatMap_append, List.flatMap_cons, hpart, ← h1, List.take_left, h3]
  congr 2
  rw [← List.append_assoc, show ((l.take i).flatMap slotRf).length + 33 = ((l.take i).flatMap slotRf ++ slotRf l[i]).length by rw [List.length_append, h2], List.drop_left]
/-- A slot of the row is erased. -/
theorem RvIn.gone {U : Nat → Prop} {w wr : World} {v x i : Nat} {d : DiskM} {l : List SlotV} {dead : Bool} (h : RvIn U w v x d l dead wr) (hi : i < l.length) :
    ∃ b cap, wr.cell? ⟨v, 1, none⟩ = some (.slice (some ⟨b, 0, none⟩) l.length cap) ∧ wr.there b (i * 33) 33 ∧ RvIn U w v x d (l.set i none) dead (wr.setCells b (i * 33) (slotC (noughts 32) true)) := by
  obtain ⟨U', T, sv, h1, h2, h3⟩ := h
  have hrw := h1.rows
  rcases hrw.2 with ⟨-, h0⟩ | ⟨b, cap, cur, he, hg, hh, hc, hm, hs, ht⟩
  · omega
  · have hb := h1.clear b (by rw [he]; rfl)
    have hbv : b ≠ v := fun e => h1.apart (by rw [he]; exact congrArg some e)
    have hcl := h1.cell.2.1
    rw [he] at hcl
    have hmul : l.length * 33 ≤ cap * 33 := Nat.mul_le_mul_right _ hc
    have hsz : cur.toList.length = cap * 33 := by rw [Array.length_toList, hs]
    have hi33 : i * 33 + 33 ≤ l.length * 33 := by have : (i + 1) * 33 ≤ l.length * 33 := Nat.mul_le_mul_right _ hi; omega
    have h33 : (slotC (noughts 32) true).length = 33 := slotC_size (noughts_length 32) true
    have hset := heap_setCells b _ (slotC (noughts 32) true) (i * 33) cur.toList wr (by rw [hh]) (by rw [h33, hsz]; omega)
    have hst : Stays (fun k => k = b) wr (wr.setCells b (i * 33) (slotC (noughts 32) true)) := grown_stays (grown_setCells wr b _ _) (fun k e => (Option.some.inj e).symm)
    refine ⟨b, cap, hcl, fun j hj => ⟨?_, frozen_of_row _ _ _ _ _ hh⟩, U', T, sv, ⟨h1.disk.keep hst (fun k e t => hb.1 (e ▸ t)), h1.sub, h1.here, h1.off, (hst.block v (h1.dom v h1.here) (fun e => hbv e.symm)).trans h1.block, ?_, h1.apart, h1.clear, fun k u => Nat.lt_of_lt_of_le (h1.dom k u) hst.size, by rw [List.length_set]; exact h1.le, okSet h1.slots i⟩, h2, h3.trans (G := fun k => k = b) hst (fun k e hlt => (h2 k (e ▸ hb.2)).elim id (fun h => by omega))⟩
    · rw [cell_of_row wr b _ _ _ _ hh, Array.getElem?_eq_getElem (by rw [hs]; omega)]
      rfl
    · rw [List.length_set]
      refine ⟨by rw [flat_len slotRf 33 _ (fun s hs => slotRf_length (okSet h1.slots i s hs)), List.length_set], Or.inr ⟨b, cap, _, he, hg, hset, hc, hm, ?_, ?_⟩⟩
      · rw [List.size_toArray, length_splice _ _ _ (by rw [h33, hsz]; omega), hsz]
      · show (splice cur.toList (i * 33) (slotC (noughts 32) true)).take (l.length * 33) = _
        rw [splice_take _ _ _ _ (by rw [h33]; exact hi33) (by rw [hsz]; exact hmul), ht]
        exact flat_set l i hi h1.slots
/-- What Zero leaves and answers. -/
def ZeroR (U : Nat → Prop) (v x : Nat) (d : DiskM) (l : List SlotV) (dead : Bool) (z : Int) (w : World) (e : Ending) (w' : World) : Prop :=
  e = .returned (.int .i64 (zeroVt d l dead z).e) ∧ RvGo U v x (zeroVt d l dead z).d (zeroVt d l dead z).l (zeroVt d l dead z).dead w w'
theorem zeroKey32 {k : List (BitVec 8)} (h : k.length = 32) : (bytesV (noughts 32)).toArray.size = (bytesV k).toArray.size := by rw [bytesV_size _ 32 (noughts_length 32), bytesV_size _ 32 h]
set_option maxRecDepth 100000 in
set_option maxHeartbeats 2000000 in
theorem rvZero_any {U : Nat → Prop} {v x : Nat} {d : DiskM} {l : List SlotV} {dead : Bool} (z : Int) (w : World) (hok : d.Ok) (hc : d.count < 999999000) (h : RvAt U w v x d l dead) :
    Calls Tryd.prog 41 #[.pointer (some ⟨v, 0, none⟩), .int .i64 z] w fun e w' => ZeroR U v x d l dead z w e w' := by
  have HI := Lib.hid h.start
  obtain ⟨p, c, hc0, hc1, hc2, hth⟩ := HI.out.cells
  have HAT := Lib.hid h
  have HGET := Lib.hid (rvGet_any z w h)
  have HOK := Lib.hid hok
  have HC := Lib.hid (And.intro hc trivial)
  clear h hth hc0 hc1 hok hc
  cases dead with
  | true =>
    have HP : Hid (∀ wz, RvIn U w v x d l true wz → ZeroR U v x d l true z w (.returned (.int .i64 9)) wz) := show ∀ _, _ from fun wz h => ⟨rfl, h.go⟩
    go_enter Tryd.func41, Tryd.ntmps41
    go_wp2_with fail
    go_ret
    exact HP.out _ HI.out
  | false =>
    by_cases h1 : z < 1 ∨ (l.length : Int) < z
    · have HP : Hid (∀ wz, RvIn U w v x d l false wz → ZeroR U v x d l false z w (.returned (.int .i64 12)) wz) := show ∀ _, _ from fun wz h => by
        have e : zeroVt d l false z = ⟨d, l, false, 12⟩ := by unfold zeroVt; rw [if_neg (by decide), if_pos h1]
        unfold ZeroR
        rw [e]
        exact ⟨rfl, h.go⟩
      have hg := HGET.out
      rw [gvV_none h1] at hg
      have HG := Lib.hid hg
      have HIK := Lib.hid (infoKey (noughts 32) (noughts_length 32))
      have HON := Lib.hid (keyV_ones (noughts 32))
      clear hg h1 HGET
      go_enter Tryd.func41, Tryd.ntmps41
      go_wp2_with (first
        | (go_at_call 23; refine HG.out.mono ?_; rintro e w1 ⟨rfl, hb1⟩; have HI1 := Lib.hid (HI.out.below hb1); clear hb1)
        | (refine wpList_store_new rfl 36 (.tmp 5) (.tmp 15) rfl w1.heap.size rfl (bytesV (noughts 32)).toArray rfl rfl HIK.out (by rfl) HON.out ?_; intro w2 h2 b2; have HI2 := Lib.hid (HI1.out.below b2); clear h2 b2))
      go_ret
      exact HP.out _ HI2.out
    · obtain ⟨i, rfl⟩ : ∃ i : Nat, z = (i : Int) + 1 := ⟨(z - 1).toNat, by omega⟩
      have hi : i < l.length := by omega
      cases hs : l[i] with
      | none =>
        have HP : Hid (∀ wz, RvIn U w v x d l false wz → ZeroR U v x d l false ((i : Int) + 1) w (.returned (.int .i64 0)) wz) := show ∀ _, _ from fun wz h => by
          have e : zeroVt d l false ((i : Int) + 1) = ⟨d, l, false, 0⟩ := by
            unfold zeroVt
            rw [if_neg (by decide), if_neg h1, show ((i : Int) + 1 - 1).toNat = i by omega, getD_atV hi, if_pos hs]
          unfold ZeroR
          rw [e]
          exact ⟨rfl, h.go⟩
        have hg := HGET.out
        rw [gvV_gone hi hs] at hg
        have HG := Lib.hid hg
        have HIK := Lib.hid (infoKey (noughts 32) (noughts_length 32))
        have HON := Lib.hid (keyV_ones (noughts 32))
        clear hg h1 HGET
        go_enter Tryd.func41, Tryd.ntmps41
        go_wp2_with (first
          | (go_at_call 23; refine HG.out.mono ?_; rintro e w1 ⟨rfl, hb1⟩; have HI1 := Lib.hid (HI.out.below hb1); clear hb1)
          | (refine wpList_store_new rfl 36 (.tmp 5) (.tmp 15) rfl w1.heap.size rfl (bytesV (noughts 32)).toArray rfl rfl HIK.out (by rfl) HON.out ?_; intro w2 h2 b2; have HI2 := Lib.hid (HI1.out.below b2); clear h2 b2))
        go_ret
        exact HP.out _ HI2.out
      | some k =>
        have hg := HGET.out
        rw [gvV_key hi hs] at hg
        have HG := Lib.hid hg
        have hk : k.length = 32 := by have := HI.out.slots _ (List.getElem_mem hi); rw [hs] at this; exact this k rfl
        have HIK := Lib.hid (infoKey k hk)
        have HON := Lib.hid (keyV_ones k)
        have HZS : Hid ((bytesV (noughts 32)).toArray.size = (bytesV k).toArray.size) := show _ = _ from zeroKey32 hk
        have HII := Lib.hid (And.intro hi (show i < 64 by have := HI.out.le; omega))
        obtain ⟨dz, e1, hov⟩ : ∃ dz e1, d.over 0 (40 * (i : Int)) (noughts 40) = (dz, e1) := ⟨_, _, rfl⟩
        have hzr : zeroVt d l false ((i : Int) + 1) = if e1 ≠ 0 then ⟨dz, l, decide (e1 = 9), e1⟩ else ⟨dz, l.set i none, false, 0⟩ := by
          unfold zeroVt
          rw [if_neg (by decide), if_neg h1, show (i : Int) + 1 - 1 = (i : Int) by omega, Int.toNat_natCast, getD_atV hi, if_neg (by rw [hs]; simp), show (List.replicate 40 0#8) = noughts 40 from rfl, hov]
        have HOV := Lib.hid hov
        have HZR := Lib.hid hzr
        have HPL := Lib.hid HAT.out.places
        clear hg h1 HGET hk hov hzr hi hs
        go_enter Tryd.func41, Tryd.ntmps41
        go_upto_region 8 with (first
          | (go_at_call 23; refine HG.out.mono ?_; rintro e w1 ⟨rfl, hb1⟩; have HI1 := Lib.hid (HI.out.below hb1); clear hb1)
          | (refine wpList_store_new rfl 36 (.tmp 5) (.tmp 15) rfl w1.heap.size rfl (bytesV k).toArray rfl rfl HIK.out (by exact HZS.out) HON.out ?_; intro w2 h2 b2; have HI2 := Lib.hid (HI1.out.below b2); clear h2 b2))
        have HID := Lib.hid (HI2.out.below (Below.refl _ w2).drew)
        have HSX : Hid (w2.drew.cell? ⟨v, 0, none⟩ = some (.pointer (some ⟨x, 0, none⟩))) := show _ = _ from by obtain ⟨_, _, h0, -⟩ := HID.out.cells; exact h0
        clear HI1 HI2
        refine region_phase (fun w' => w'.cell? ⟨v, 0, none⟩ = some (.pointer (some ⟨x, 0, none⟩))) (fun _ => True) 99 (HSX.out) trivial [(0, .free), (1, .free), (2, .free), (3, .free), (4, .free), (5, .free), (6, .free), (7, .free), (8, .behind), (9, .behind), (10, .behind), (11, .free)] (by kernel_rfl) (by kernel_rfl) (by kernel_rfl) (by kernel_rfl) (fun ops hops A2 hA => ?_)
        have hsz : A2.tmps.size = 44 := by rw [hA]; rfl
        have base0 : A2.eval (.tmp 0) = .pointer (some ⟨v, 0, none⟩) := by rw [hA]; rfl
        have base1 : A2.eval (.tmp 1) = .int .i64 ((i : Int) + 1) := by rw [hA]; rfl
        have HAA := Lib.hid hA; clear hA
        obtain ⟨o0, po0, q0, d0, gd0⟩ : ∃ o, ops[0]? = some o ∧ o.op = .move (.tmp 0) ∧ o.dst = some 22 ∧ o.guard = none := ⟨_, by rw [hops]; rfl, rfl, rfl, rfl⟩
        obtain ⟨o1, po1, q1, d1, gd1⟩ : ∃ o, ops[1]? = some o ∧ o.op = .move (.tmp 0) ∧ o.dst = some 23 ∧ o.guard = none := ⟨_, by rw [hops]; rfl, rfl, rfl, rfl⟩
        obtain ⟨o2, po2, q2, d2, gd2⟩ : ∃ o, ops[2]? = some o ∧ o.op = .nilCheck (.tmp 23) ∧ o.dst = some 24 ∧ o.guard = none := ⟨_, by rw [hops]; rfl, rfl, rfl, rfl⟩
        obtain ⟨o3, po3, q3, d3, gd3⟩ : ∃ o, ops[3]? = some o ∧ o.op = .fieldAddr 78 (.tmp 24) 0 ∧ o.dst = some 25 ∧ o.guard = none := ⟨_, by rw [hops]; rfl, rfl, rfl, rfl⟩
        obtain ⟨o4, po4, q4, d4, gd4⟩ : ∃ o, ops[4]? = some o ∧ o.op = .load 26 (.tmp 25) ∧ o.dst = some 26 ∧ o.guard = none := ⟨_, by rw [hops]; rfl, rfl, rfl, rfl⟩
        obtain ⟨o5, po5, q5, d5, gd5⟩ : ∃ o, ops[5]? = some o ∧ o.op = .move (.tmp 1) ∧ o.dst = some 27 ∧ o.guard = none := ⟨_, by rw [hops]; rfl, rfl, rfl, rfl⟩
        obtain ⟨o6, po6, q6, d6, gd6⟩ : ∃ o, ops[6]? = some o ∧ o.op = .binOp .sub 3 (.tmp 27) (.const (.int .i64 1)) 3 ∧ o.dst = some 28 ∧ o.guard = none := ⟨_, by rw [hops]; rfl, rfl, rfl, rfl⟩
        obtain ⟨o7, po7, q7, d7, gd7⟩ : ∃ o, ops[7]? = some o ∧ o.op = .binOp .mul 3 (.const (.int .i64 40)) (.tmp 28) 3 ∧ o.dst = some 29 ∧ o.guard = none := ⟨_, by rw [hops]; rfl, rfl, rfl, rfl⟩
        obtain ⟨o8, po8, q8, d8, gd8⟩ : ∃ o, ops[8]? = some o ∧ o.op = .makeSlice 37 (.const (.int .i64 40)) (.const (.int .i64 40)) ∧ o.dst = some 30 ∧ o.guard = none := ⟨_, by rw [hops]; rfl, rfl, rfl, rfl⟩
        obtain ⟨o9, po9, q9, d9, gd9⟩ : ∃ o, ops[9]? = some o ∧ o.op = .call { callee := .value (.func 71), args := #[.tmp 26, .const (.int .i64 0), .tmp 29, .tmp 30], argTypes := #[26, 3, 3, 37] } ∧ o.dst = some 31 ∧ o.guard = none := ⟨_, by rw [hops]; rfl, rfl, rfl, rfl⟩
        obtain ⟨o10, po10, q10, d10, gd10⟩ : ∃ o, ops[10]? = some o ∧ o.op = .call { callee := .value (.func 69), args := #[.tmp 22, .tmp 31], argTypes := #[29, 43] } ∧ o.dst = some 32 ∧ o.guard = none := ⟨_, by rw [hops]; rfl, rfl, rfl, rfl⟩
        obtain ⟨o11, po11, q11, d11, gd11⟩ : ∃ o, ops[11]? = some o ∧ o.op = .assign (.tmp 32) ∧ o.dst = some 6 ∧ o.guard = none := ⟨_, by rw [hops]; rfl, rfl, rfl, rfl⟩
        clear hops
        refine met_free po0 d0 (wanted_of gd0) (fun w' h' => run_move q0 base0 w') ?_
        refine met_free po1 d1 (wanted_of gd1) (fun w' h' => run_move q1 ((eval_other _ 22 0 _ (by decide)).trans base0) w') ?_
        refine met_free po2 d2 (wanted_of gd2) (fun w' h' => run_nilCheck q2 (eval_same _ _ _ (by simp only [put_size, hsz]; decide)) w') ?_
        refine met_free po3 d3 (wanted_of gd3) (fun w' h' => run_fieldT (off := 0) q3 (fun _ => by kernel_rfl) (eval_same _ _ _ (by simp only [put_size, hsz]; decide)) w') ?_
        refine met_free po4 d4 (wanted_of gd4) (fun w' h' => run_loadRD q4 (eval_same _ _ _ (by simp only [put_size, hsz]; decide)) h') ?_
        refine met_free po5 d5 (wanted_of gd5) (fun w' h' => run_move q5 ((eval_other _ 26 1 _ (by decide)).trans ((eval_other _ 25 1 _ (by decide)).trans ((eval_other _ 24 1 _ (by decide)).trans ((eval_other _ 23 1 _ (by decide)).trans ((eval_other _ 22 1 _ (by decide)).trans base1))))) w') ?_
        refine met_free po6 d6 (wanted_of gd6) (fun w' h' => run_subOneV q6 (fun _ => rfl) (eval_same _ _ _ (by simp only [put_size, hsz]; decide)) (by have := HII.out.2; omega) w') ?_
        refine met_free po7 d7 (wanted_of gd7) (fun w' h' => run_mul40 q7 (fun _ => rfl) (eval_same _ _ _ (by simp only [put_size, hsz]; decide)) (by have := HII.out.2; omega) w') ?_
        refine met_makeV po8 d8 (wanted_of gd8) q8 rfl rfl (by decide) ?_
        intro w3 hB3 b3
        have HB3 := Lib.hid hB3
        have HI3 := Lib.hid (HID.out.below b3)
        have HX3 : Hid (x < w2.drew.heap.size) := show _ < _ from by have := HPL.out.2.2; have := HID.out.size; omega
        clear hB3 b3
        refine ⟨by obtain ⟨_, _, h0, -⟩ := HI3.out.cells; exact h0, ?_⟩
        refine m_enter po9 d9 (wanted_of gd9) (run_callf4 q9 rfl ((eval_other _ 30 26 _ (by decide)).trans ((eval_other _ 29 26 _ (by decide)).trans ((eval_other _ 28 26 _ (by decide)).trans ((eval_other _ 27 26 _ (by decide)).trans (eval_same _ _ _ (by simp only [put_size, hsz]; decide)))))) rfl ((eval_other _ 30 29 _ (by decide)).trans (eval_same _ _ _ (by simp only [put_size, hsz]; decide))) (eval_same _ _ _ (by simp only [put_size, hsz]; decide)) Tryd.func71 (by kernel_rfl) _) (HI3.out.call (d' := dz) (e0 := .returned (.int .i64 e1)) (fun T hT => by have h := rfOver_any (T := T) (g := x) (w := w3) (d := d) 0 (40 * (i : Int)) (noughts 40) 40 40 (some ⟨w2.drew.heap.size, 0, none⟩) hT HOK.out (by have := HC.out.1; omega) (by have := HII.out.2; omega) (noughts_length 40) (by decide) (fun w' hs => Or.inr ⟨_, _, rfl, range_of_block HB3.out.range (hs.block _ HB3.out.size (fun e => by have := HX3.out; omega))⟩); rwa [HOV.out] at h)) ?_
        rintro e w4 ⟨rfl, hi4, -⟩
        have HI4 := Lib.hid hi4
        clear hi4
        refine ⟨_, rfl, by obtain ⟨_, _, h0, -⟩ := HI4.out.cells; exact h0, ?_⟩
        refine m_enter po10 d10 (wanted_of gd10) (run_callf2 q10 rfl ((eval_other _ 31 22 _ (by decide)).trans ((eval_other _ 30 22 _ (by decide)).trans ((eval_other _ 29 22 _ (by decide)).trans ((eval_other _ 28 22 _ (by decide)).trans ((eval_other _ 27 22 _ (by decide)).trans ((eval_other _ 26 22 _ (by decide)).trans ((eval_other _ 25 22 _ (by decide)).trans ((eval_other _ 24 22 _ (by decide)).trans ((eval_other _ 23 22 _ (by decide)).trans (eval_same _ _ _ (by rw [hsz]; decide))))))))))) (eval_same _ _ _ (by simp only [put_size, hsz]; decide)) Tryd.func69 (by kernel_rfl) _) (rvSaw_any e1 HI4.out) ?_
        rintro e w5 ⟨rfl, rfl⟩
        have HI5 := Lib.hid (HI4.out.putDead (false || decide (e1 = 9)))
        refine ⟨_, rfl, by obtain ⟨_, _, h0, -⟩ := HI5.out.cells; exact h0, ?_⟩
        refine met_free po11 d11 (wanted_of gd11) (fun w' h' => run_assign q11 (eval_same _ _ _ (by simp only [put_size, hsz]; decide)) w') ?_
        show NoPanic _ .normal _ _
        refine NoPanic.normal ?_
        rw [HAA.out]
        go_frame
        clear HAA
        clear po0 q0 d0 gd0 po1 q1 d1 gd1 po2 q2 d2 gd2 po3 q3 d3 gd3 po4 q4 d4 gd4 po5 q5 d5 gd5 po6 q6 d6 gd6 po7 q7 d7 gd7 po8 q8 d8 gd8 po9 q9 d9 gd9 po10 q10 d10 gd10 po11 q11 d11 gd11
        clear base0 base1 hsz HI3 HI4
        generalize w4.setCell ⟨v, 2, none⟩ (.bool (false || decide (e1 = 9))) = w5 at HI5 ⊢
        by_cases h0 : e1 = 0
        · subst h0
          have hdd : (false || decide ((0 : Int) = 9)) = false := rfl
          rw [hdd] at HI5
          rw [if_neg (fun h => h rfl)] at HZR
          obtain ⟨b, cap, hc1', hth, hgo⟩ := HI5.out.gone HII.out.1
          obtain ⟨hrgone, hsz33⟩ : (slotC (noughts 32) true).toArray.size = 33 ∧ True := ⟨slotC_size (noughts_length 32) true, trivial⟩
          have HGO := Lib.hid hgo
          have HTH : Hid (w5.there b (i * 33) (slotC (noughts 32) true).toArray.size) := show World.there _ _ _ _ by rw [hrgone]; exact hth
          have HSI : Hid ((Tryd.prog.info? 86).map (·.size) = some (slotC (noughts 32) true).toArray.size) := show _ = _ from size_slot hrgone
          have HSO := Lib.hid (slotC_ones (noughts 32) true)
          have HWI : Hid (wrap64 (i : Int) = (i : Int)) := show _ = _ by have := HII.out.2; unfold wrap64; omega
          clear hgo hth hrgone hsz33 hdd
          go_wp2_with (first
            | (show wpList _ _ _ (⟨_, .build 86 _, _, _, _, _⟩ :: _) _ _; go_loud (refine wpList_runV (by rfl) (run_goneSlot rfl (fun _ => rfl) _) ?_))
            | (show wpList _ _ _ (⟨_, .indexAddr _ _ _, _, _, _, _⟩ :: _) _ _; go_loud (refine wpList_runV (by rfl) (run_ixSlot (x := .tmp 38) (y := .tmp 40) (i := i) rfl rfl (congrArg (Value.int .i64) HWI.out) HII.out.1 _) ?_))
            | (show wpList _ _ _ (⟨_, .store 86 _ _, _, _, _, _⟩ :: _) _ _; go_loud (refine wpList_store_mid rfl 86 (.tmp 42) (.tmp 41) rfl b (i * 33) (slotC (noughts 32) true).toArray rfl rfl HTH.out HSI.out HSO.out ?_)))
          go_ret
          unfold ZeroR
          rw [HZR.out]
          exact ⟨rfl, HGO.out.go⟩
        · have q1 : (e1 == 0) = false := beq_eq_false_iff_ne.2 h0
          rw [if_pos h0] at HZR
          clear h0
          go_wp2_with fail
          go_ret
          unfold ZeroR
          rw [HZR.out]
          exact ⟨rfl, HI5.out.go⟩
end Go.Proofs.YtoidjapenompiaaDoor

/-
  The document's Open.
-/
namespace Go.Proofs.YtoidjapenompiaaDoor
open Go.RowKit Go.Proofs.ShaWords
section
variable {ρ : Operand → Value} {o : Oper} {x y z : Operand}
theorem run_fromToV {b off n c k m : Nat} (ho : o.op = .slice 37 x (some y) (some z) none) (hx : ρ x = .slice (some ⟨b, off, none⟩) n c) (hy : ρ y = .int .i64 (k : Int)) (hz : ρ z = .int .i64 ((m + k : Nat) : Int)) (hm : m + k ≤ c) (hk : k < c) (w : World) :
    (execOp ρ o).run Tryd.prog w = .ok (.value (.slice (some ⟨b, off + k, none⟩) m (c - k))) w := by
  obtain ⟨dst, op, ty', pos, after, guard⟩ := o
  simp only at ho
  subst ho
  have q1 : (k : Int) ≤ ((m + k : Nat) : Int) := by omega
  have q2 : ((m + k : Nat) : Int) ≤ (c : Int) := by omega
  have q3 : ¬ c = k := by omega
  have q4 : (m : Int) + (k : Int) ≤ (c : Int) := by omega
  have q5 : m + k - k = m := by omega
  have q6 : ((m : Int) + (k : Int)).toNat = m + k := by omega
  have q7 : (0 : Int) ≤ (m : Int) + (k : Int) := by omega
  go_simp
end
theorem run_allocRf {ρ : Operand → Value} {o : Oper} (ho : o.op = .alloc 86) (w : World) : (execOp ρ o).run Tryd.prog w = .ok (.value (.pointer (some ⟨w.heap.size, 0, none⟩))) (w.alloc (.cells (slotC (noughts 32) false).toArray 86)) := by
  obtain ⟨dst, op, ty', pos, after, guard⟩ := o
  simp only at ho
  subst ho
  kernel_rfl
theorem run_mulLen {ρ : Operand → Value} {o : Oper} {x : Operand} {m : Nat} (ho : o.op = .binOp .mul 3 (.const (.int .i64 40)) x 3) (h0 : ∀ u, ρ (.const u) = u) (hx : ρ x = .int .i64 (m : Int)) (hm : m ≤ 1000000) (w : World) : (execOp ρ o).run Tryd.prog w = .ok (.value (.int .i64 ((40 * m : Nat) : Int))) w := by
  obtain ⟨dst, op, ty', pos, after, guard⟩ := o
  simp only at ho
  subst ho
  have h := IntWalk.i64_in (40 * (m : Int)) (by omega)
  have h1 := h0 (.int .i64 40)
  go_simp
theorem refVault_zero : ∃ it z, Tryd.prog.info? 78 = some it ∧ it.zero = some z ∧ z.cells = #[.pointer none, .slice none 0 0, .bool false] := by
  have e : ((Tryd.prog.info? 78).bind (·.zero)).map (·.cells) = some #[.pointer none, .slice none 0 0, .bool false] := by kernel_rfl
  cases hi : Tryd.prog.info? 78 with
  | none => rw [hi] at e; cases e
  | some it =>
    rw [hi] at e
    cases hz : it.zero with
    | none => simp [hz] at e
    | some z =>
      simp only [Option.bind_some, hz, Option.map_some, Option.some.injEq] at e
      exact ⟨it, z, rfl, hz, e⟩
theorem refVault_built (g : Nat) : Tryd.prog.built 78 [(0, .pointer (some ⟨g, 0, none⟩))] = some #[.pointer (some ⟨g, 0, none⟩), .slice none 0 0, .bool false] := by
  obtain ⟨fields, hu, hp⟩ : ∃ fields, Tryd.prog.underlying 78 = some (.struct fields) ∧ fields.toList.mapM (fun f => (Tryd.prog.info? f.type).map fun i => (f.offset, i.size)) = some [(0, 1), (1, 1), (2, 1)] := ⟨_, Tryd.underlying78, by kernel_rfl⟩
  obtain ⟨it, z, hi, hz, hc⟩ := refVault_zero
  unfold Program.built
  simp only [hi, hz, hu, hp, hc]
  have h := fill_seq ([(0, 1), (1, 1), (2, 1)].toArray[·]?) [.pointer (some ⟨g, 0, none⟩)] 0 [] [.pointer none] [.slice none 0 0, .bool false] (by refine ⟨?_, trivial⟩; rfl) rfl
  simpa [Value.cells] using h
theorem run_buildRfV {ρ : Operand → Value} {o : Oper} {x : Operand} {g : Nat} (ho : o.op = .build 78 #[(0, x)]) (hx : ρ x = .pointer (some ⟨g, 0, none⟩)) (w : World) :
    (execOp ρ o).run Tryd.prog w = .ok (.value (.agg #[.pointer (some ⟨g, 0, none⟩), .slice none 0 0, .bool false])) w := by
  have hr := Go.run_build (P := Tryd.prog) w 78 #[(0, .pointer (some ⟨g, 0, none⟩))] _ (refVault_built g)
  obtain ⟨dst, op, ty', pos, after, guard⟩ := o
  simp only at ho
  subst ho
  unfold execOp
  simp only [List.map_toArray, List.map_cons, List.map_nil, hx, Sem.run_bind, hr, Result.andThen_ok, Sem.run_pure]
theorem vt_round {b : List (BitVec 8)} {l lj rest : List SlotV} {r : List (BitVec 8)} {m : Nat} (h : VtOf b l r) (e : l = lj ++ rest) (hm : lj.length = m) (h64 : m < 64) (h40 : 40 * (m + 1) ≤ b.length) :
    (rdOk ((b.drop (40 * m)).take 40) (m + 1) = true ∧ ∃ rest', rest = rdS ((b.drop (40 * m)).take 40) :: rest') ∨ (rdOk ((b.drop (40 * m)).take 40) (m + 1) = false ∧ rest = []) := by
  cases rest with
  | nil =>
    right
    rw [List.append_nil] at e
    subst e
    have hb : (b.drop (40 * m)).take 40 = r.take 40 := by
      have h1 := h.take
      rw [hm] at h1
      have h2 := h.is
      rw [← h1] at h2
      have h3 : b = b.take (40 * m) ++ b.drop (40 * m) := (List.take_append_drop _ _).symm
      have h4 := List.append_cancel_left (h3.symm.trans h2)
      rw [h4]
    refine ⟨?_, rfl⟩
    cases hr : rdOk ((b.drop (40 * m)).take 40) (m + 1) with
    | false => rfl
    | true =>
      exfalso
      have h1 := of_decide_eq_true hr
      have h2 := h.length
      rw [hm] at h2
      rcases h.stop with h0 | h0 | h0
      · omega
      · omega
      · refine h0 (rdS ((b.drop (40 * m)).take 40)) (rdS_ok (by rw [List.length_take, List.length_drop]; omega)) ?_
        rw [hm, h1, hb]
  | cons s rest =>
    left
    have hi : m < l.length := by rw [e, List.length_append, List.length_cons]; omega
    have hs : l[m] = s := by
      subst hm
      simp [e]
    have hb : (b.drop (40 * m)).take 40 = slotB s (m + 1) := by
      rw [h.is, slotsB_part l m hi, hs]
      have h1 : (slotsB (l.take m)).length = 40 * m := by rw [slotsB_length (fun s hs => h.ok s (List.mem_of_mem_take hs)), List.length_take, Nat.min_eq_left (by omega)]
      have h2 : (slotB s (m + 1)).length = 40 := slotB_length (h.ok s (by rw [e]; simp)) _
      rw [List.append_assoc, ← h1, List.drop_left, List.append_assoc, ← h2, List.take_left]
    have hok : SlotOk s := h.ok s (by rw [e]; simp)
    rw [hb]
    exact ⟨rdOk_of hok (by omega) (by omega), rest, by rw [rdS_of hok (by omega) (by omega)]⟩
theorem rvOpen_down {T : Nat → Prop} {x : Nat} {d : DiskM} {w : World} (h : RefAt T w x d) (hd : d.down = true) :
    Calls Tryd.prog 35 #[.pointer (some ⟨x, 0, none⟩)] w fun e w' => e = .returned (.tuple #[.pointer none, .int .i64 9]) ∧ w' = w := by
  have hx := rfDown_any T x d w h
  rw [hd] at hx
  have HX := Lib.hid hx
  clear h hx hd
  go_enter Tryd.func35, Tryd.ntmps35
  go_wp2_with fail
  refine HX.out.mono ?_
  rintro e w1 ⟨rfl, rfl⟩
  go_wp2_with fail
  go_ret2
  exact ⟨rfl, rfl⟩
/-- What Open leaves. -/
def OpR (T : Nat → Prop) (w : World) (x : Nat) (d : DiskM) (l : List SlotV) (err : Int) (e : Ending) (w' : World) : Prop :=
  (err = 0 ∧ ∃ v U, e = .returned (.tuple #[.pointer (some ⟨v, 0, none⟩), .int .i64 0]) ∧ w.heap.size ≤ v ∧ RvAt U w' v x d l false ∧ (∀ k, U k → T k ∨ w.heap.size ≤ k) ∧ Stays T w w') ∨
  (err ≠ 0 ∧ ∃ T', e = .returned (.tuple #[.pointer none, .int .i64 err]) ∧ RefAt T' w' x d ∧ (∀ k, T' k → T k ∨ w.heap.size ≤ k) ∧ Stays T w w')
def OrS (v : Nat) (ps : Option Addr) (n cs : Nat) (w : World) : Prop := w.cell? ⟨v, 1, none⟩ = some (.slice ps n cs) ∧ v < w.heap.size
theorem opR_of {T : Nat → Prop} {w w2 w' : World} {x v : Nat} {d : DiskM} {l : List SlotV} (hB : Below w.heap.size w w2) (hv : v = w.heap.size) (h : RvIn (fun k => T k ∨ k = v) w2 v x d l false w') (err : Int) :
    (err = 0 → OpR T w x d l err (.returned (.tuple #[.pointer (some ⟨v, 0, none⟩), .int .i64 err])) w') ∧ (err ≠ 0 → OpR T w x d l err (.returned (.tuple #[.pointer none, .int .i64 err])) w') := by
  obtain ⟨U', hA, hU, hs⟩ := h.go
  have hst : Stays T w w' := (Below.stays (F := T) hB).trans (G := fun k => T k ∨ k = v) hs (fun k e hlt => e.elim id (fun h => by omega))
  have hU2 : ∀ k, U' k → T k ∨ w.heap.size ≤ k := fun k u => (hU k u).elim (fun e => e.elim Or.inl (fun e => Or.inr (by omega))) (fun e => Or.inr (Nat.le_trans hB.size e))
  refine ⟨fun e => Or.inl ⟨e, v, U', by rw [e], by omega, hA, hU2, hst⟩, fun e => Or.inr ⟨e, ?_⟩⟩
  obtain ⟨T', sv, hV⟩ := hA
  exact ⟨T', rfl, hV.disk, fun k t => hU2 k (hV.sub k t), hst⟩
theorem OrS.below {v n cs : Nat} {ps : Option Addr} {w w' : World} (h : OrS v ps n cs w) (hb : Below w.heap.size w w') : OrS v ps n cs w' := ⟨(hb.cell (p := ⟨v, 1, none⟩) h.2).trans h.1, Nat.lt_of_lt_of_le h.2 hb.size⟩
set_option maxRecDepth 1000000 in
set_option maxHeartbeats 4000000 in
theorem rvOpen_any {T : Nat → Prop} {x : Nat} {d : DiskM} {w : World} (l : List SlotV) (r : List (BitVec 8)) (h : RefAt T w x d) (hok : d.Ok) (hd : d.down = false) (hc : d.count < 999999000) (hV : VtOf (d.files 0).all l r) :
    Calls Tryd.prog 35 #[.pointer (some ⟨x, 0, none⟩)] w fun e w' => OpR T w x (openVt d l r).1 l (openVt d l r).2 e w' := by
  have hx := rfDown_any T x d w h
  rw [hd] at hx
  have HX := Lib.hid hx
  have HD := Lib.hid h
  have HOK := Lib.hid hok
  have HC := Lib.hid (And.intro hc trivial)
  have HV := Lib.hid hV
  have HTD := Lib.hid h.dom
  have hsm : (d.files 0).all.length ≤ 262144 := file_small hok 0 (by omega)
  obtain ⟨n, hn⟩ : ∃ n, (d.files 0).all.length = n := ⟨_, rfl⟩
  have HN := Lib.hid hn
  have HNS : Hid (n ≤ 262144 ∧ n = 40 * l.length + r.length) := show _ ∧ _ from ⟨by omega, by rw [← hn]; exact hV.length⟩
  clear h hx hd hc hV hok hsm hn
  go_enter Tryd.func35, Tryd.ntmps35
  go_wp2_with fail
  refine HX.out.mono ?_
  rintro e w1 ⟨rfl, rfl⟩
  clear HX
  go_upto_region 4 with (show wpList _ _ _ (⟨_, .build 78 _, _, _, _, _⟩ :: _) _ _; refine wpList_runV (by rfl) (run_buildRfV (x := .tmp 11) rfl rfl _) ?_)
  refine wp_gen (fun A => Below w.heap.size w A ∧ A.heap[w.heap.size]? = some (.cells #[.pointer (some ⟨x, 0, none⟩), .slice none 0 0, .bool false] 78 (0, 0))) ⟨(Below.refl _ _).alloc (Nat.le_refl _) _, heap_new_at rfl⟩ ?_
  rintro A ⟨bA, hA⟩
  obtain ⟨v, hv⟩ : ∃ v, v = w.heap.size := ⟨_, rfl⟩
  rw [← hv] at hA ⊢
  have hAt : RvAt (fun k => T k ∨ k = v) A v x d [] false := ⟨T, .slice none 0 0, ⟨HD.out.below bA, fun k t => Or.inl t, Or.inr rfl, fun t => by have := HTD.out v t; omega, hA, World.ownsRow_nil _ _ _ _, (fun e => by cases e), (fun k e => by cases e), fun k u => by
    rcases u with u | u
    · exact Nat.lt_of_lt_of_le (HTD.out k u) bA.size
    · rw [u]; exact (Array.getElem?_eq_some_iff.1 hA).1, by decide, (fun s hs => by cases hs)⟩⟩
  have HAT := Lib.hid hAt
  have HBA := Lib.hid bA
  have HVV := Lib.hid hv
  have HRD := Lib.hid (rfRead_any T x d A 0 (HD.out.below bA) HOK.out)
  clear bA hA hv hAt
  go_wp2_with fail
  refine HRD.out.mono ?_
  rintro e w2 ⟨sv, rfl, ho, hb⟩
  have hrd : d.read 0 = (d.files 0).all := by unfold DiskM.read; rw [if_pos (by omega)]; rfl
  rw [hrd] at ho
  obtain ⟨p, c, rfl, hnc, -, -⟩ := ho.slP HN.out
  have hA2 := HAT.out.below hb
  have HI0 := Lib.hid hA2.start
  have HVL : Hid (v < w2.heap.size ∧ A.heap.size ≤ w2.heap.size) := show _ ∧ _ from ⟨hA2.places.2.1, hb.size⟩
  have HLB : Hid (∀ w', Stays (fun k => T k ∨ k = v) w2 w' → Lies w' p (d.files 0).all) := show ∀ _, _ → _ from fun w' hs => by
    have h1 : Own A.heap.size w' (d.files 0).all (.slice p n c) := ownsRow_stays ho hs (fun k hk f => by
      have h2 := (World.ownsRow.lt ho k hk).1
      rcases f with f | f
      · have h3 := HTD.out k f; have h4 := HBA.out.size; omega
      · obtain ⟨_, _, h5⟩ := HAT.out
        have h6 := h5.dom v (Or.inr rfl)
        omega)
    obtain ⟨_, _, e, -, -, hl⟩ := h1.slP HN.out
    cases e
    exact hl
  have HNC := Lib.hid (And.intro hnc trivial)
  have HB2 := Lib.hid (HBA.out.trans (hb.mono HBA.out.size))
  clear ho hb hrd HRD hA2 HAT hnc
  have HHL : Hid (∀ lj rest : List SlotV, l = lj ++ rest → ¬ (lj.length < 64 ∧ 40 * (lj.length + 1) ≤ n) → lj = l) := show ∀ _ _, _ → _ → _ from fun lj rest e h => by
    cases rest with
    | nil => rw [e, List.append_nil]
    | cons s rest =>
      exfalso
      have h1 := HV.out.le
      have h2 := HNS.out.2
      have h3 : l.length = lj.length + rest.length + 1 := by rw [e, List.length_append, List.length_cons, Nat.add_assoc]
      exact h ⟨by omega, by omega⟩
  go_upto_block 0 with fail
  go_cut [6, 7] from 16 to 70 (fun _ _ wx => RvIn (fun k => T k ∨ k = v) w2 v x d l false wx)
  case first =>
    go_wp2_with fail
    go_loopg [6, 7] (l.length) (fun gk _ _ wr => ∃ lj rest, l = lj ++ rest ∧ gk = rest.length ∧ RvIn (fun k => T k ∨ k = v) w2 v x d lj false wr)
    case atStart => exact ⟨[], l, rfl, rfl, HI0.out⟩
    case round =>
      clear HI0
      obtain ⟨lj, rest, hl, hgk, hI⟩ := hrel
      have HI := Lib.hid hI
      have HLL := Lib.hid hl
      have hst : Stays (fun k => T k ∨ k = v) w2 wr := by obtain ⟨_, _, _, _, _, h⟩ := hI; exact h
      have HST := Lib.hid hst
      have hm : lj.length ≤ 64 := hI.le
      have hn2 : n ≤ 262144 := HNS.out.1
      have hfin := HHL.out lj rest hl
      obtain ⟨ps, cs, -, hc1, -, -⟩ := hI.cells
      obtain ⟨m, hmm⟩ : ∃ m, lj.length = m := ⟨_, rfl⟩
      rw [hmm] at hm hc1 hfin
      have HM := Lib.hid hmm
      have HW1 : Hid (wrap64 ((m : Int) + 1) = ((m + 1 : Nat) : Int)) := show _ = _ by unfold wrap64; omega
      clear hst hI hl hmm
      by_cases h64 : m < 64
      · have q64 : (m : Int) < 64 := by omega
        by_cases h40 : 40 * (m + 1) ≤ n
        · clear hfin
          obtain ⟨bs, hbs⟩ : ∃ bs, ((d.files 0).all.drop (40 * m)).take 40 = bs := ⟨_, rfl⟩
          have hb40 : bs.length = 40 := by rw [← hbs, List.length_take, List.length_drop, HN.out]; omega
          obtain ⟨b, off, hp, -⟩ := lies_dropV (HLB.out wr HST.out) (40 * m) (by rw [HN.out]; omega)
          have hls : ∀ w', Stays (fun k => T k ∨ k = v) w2 w' → Lies w' (some ⟨b, off + 40 * m, none⟩) bs := fun w' hs => by
            obtain ⟨b', off', hp', hl'⟩ := lies_dropV (HLB.out w' hs) (40 * m) (by rw [HN.out]; omega)
            rw [hp] at hp'
            obtain ⟨rfl, rfl⟩ : b = b' ∧ off = off' := by simpa using hp'
            rw [← hbs]
            exact lies_takeV hl' 40
          have HLS := Lib.hid hls
          have HBS := Lib.hid hbs
          have HB40 := Lib.hid hb40
          have HH40 := Lib.hid h40
          have HHM : Hid (m < 64) := show _ < _ from h64
          have HGK := Lib.hid hgk
          have HLT : Hid (40 * m < c ∧ 40 + 40 * m ≤ c) := show _ ∧ _ from by have := HNC.out.1; omega
          have HZ : Hid (Value.int .i64 ((40 * (m + 1) : Nat) : Int) = .int .i64 ((40 + 40 * m : Nat) : Int)) := show _ = _ from by rw [show 40 * (m + 1) = 40 + 40 * m by omega]
          obtain ⟨C, ok, hrv, hC33, hCo, hCy⟩ : ∃ C ok, rdV bs (m + 1) = .tuple #[.agg C, .bool ok] ∧ C.size = 33 ∧ C.all (·.oneCell') = true ∧ ok = rdOk bs (m + 1) ∧ (ok = true → C = (slotRf (rdS bs)).toArray) := by
            cases hr : rdOk bs (m + 1) with
            | true => exact ⟨_, _, rdV_yes hr, by rw [List.size_toArray]; exact slotRf_length (rdS_ok hb40), slotC_ones _ _, rfl, fun _ => rfl⟩
            | false => exact ⟨_, _, rdV_no hr, slotC_size (noughts_length 32) false, slotC_ones _ _, rfl, fun h => by cases h⟩
          have HRV := Lib.hid hrv
          have HCS := Lib.hid hC33
          have HCO := Lib.hid hCo
          have HCY := Lib.hid hCy
          have HOR : Hid (OrS v ps m cs wr) := show OrS _ _ _ _ _ from ⟨hc1, by obtain ⟨_, ha⟩ := HI.out.at; exact ha.places.2.1⟩
          have q40 : ((40 * (m + 1) : Nat) : Int) ≤ (n : Int) := by omega
          have hmm : m ≤ 64 := hm
          subst hp
          clear h40 hbs hb40 hls hrv hC33 hCo hCy hgk h64
          go_upto_region 6 with (first
            | (show wpList _ _ _ (⟨_, .binOp .add _ _ _ _, _, _, _, _⟩ :: _) _ _; refine wpList_runV (by rfl) (run_addOneV (n := m) rfl (fun _ => rfl) rfl (by omega) _) ?_)
            | (show wpList _ _ _ (⟨_, .binOp .mul _ _ _ _, _, _, _, _⟩ :: _) _ _; refine wpList_runV (by rfl) (run_mulLen (m := m + 1) rfl (fun _ => rfl) rfl (by omega) _) ?_))
          clear hc1 q40 q64
          go_cut [6, 7] from 16 to 70 (fun s6 s7 wx => ∃ S6 : Nat, s6 = .pointer (some ⟨S6, 0, none⟩) ∧ s7 = .bool ok ∧ wr.heap.size ≤ S6 ∧ wx.heap[S6]? = some (.cells C 86 (0, 0)) ∧ Below wr.heap.size wr wx)
          case first =>
            refine region_tree (OrS v ps m cs) (HOR.out.below (Below.refl _ wr).drew) (.pure 0 (.pure 1 (.pure 2 (.pure 3 (.pure 4 (.pure 5 (.pure 6 (.pure 7 (.pure 8 (.pure 9 (.pure 10 (.pure 11 (.pure 12 (.pure 13 (.pure 14 (.pure 15 (.pure 16 (.pure 17 (.pure 18 (.pure 19 (.pure 20 (.two 21 25 (.pure 22 (.pure 23 (.pure 24 (.one 25 (.one 26 (.pure 27 .nil)))))) (.one 21 (.pure 22 (.pure 23 (.pure 24 (.one 26 (.pure 27 .nil)))))))))))))))))))))))))))) (by kernel_rfl) (by kernel_rfl) (by kernel_rfl) (fun ops hops A hA => ?_)
            have hsz : A.tmps.size = 97 := by rw [hA]; rfl
            have base4 : A.eval (.tmp 4) = .pointer (some ⟨v, 0, none⟩) := by rw [hA]; rfl
            have base5 : A.eval (.tmp 5) = .slice (some ⟨b, off, none⟩) n c := by rw [hA]; rfl
            have HAA := Lib.hid hA; clear hA
            obtain ⟨o0, po0, q0, d0, gd0⟩ : ∃ o, ops[0]? = some o ∧ o.op = .move (.tmp 5) ∧ o.dst = some 35 ∧ o.guard = none := ⟨_, by rw [hops]; rfl, rfl, rfl, rfl⟩
            obtain ⟨o1, po1, q1, d1, gd1⟩ : ∃ o, ops[1]? = some o ∧ o.op = .move (.tmp 4) ∧ o.dst = some 36 ∧ o.guard = none := ⟨_, by rw [hops]; rfl, rfl, rfl, rfl⟩
            obtain ⟨o2, po2, q2, d2, gd2⟩ : ∃ o, ops[2]? = some o ∧ o.op = .nilCheck (.tmp 36) ∧ o.dst = some 37 ∧ o.guard = none := ⟨_, by rw [hops]; rfl, rfl, rfl, rfl⟩
            obtain ⟨o3, po3, q3, d3, gd3⟩ : ∃ o, ops[3]? = some o ∧ o.op = .fieldAddr 78 (.tmp 37) 1 ∧ o.dst = some 38 ∧ o.guard = none := ⟨_, by rw [hops]; rfl, rfl, rfl, rfl⟩
            obtain ⟨o4, po4, q4, d4, gd4⟩ : ∃ o, ops[4]? = some o ∧ o.op = .load 76 (.tmp 38) ∧ o.dst = some 39 ∧ o.guard = none := ⟨_, by rw [hops]; rfl, rfl, rfl, rfl⟩
            obtain ⟨o5, po5, q5, d5, gd5⟩ : ∃ o, ops[5]? = some o ∧ o.op = .call { callee := .builtin .len, args := #[.tmp 39], argTypes := #[76] } ∧ o.dst = some 40 ∧ o.guard = none := ⟨_, by rw [hops]; rfl, rfl, rfl, rfl⟩
            obtain ⟨o6, po6, q6, d6, gd6⟩ : ∃ o, ops[6]? = some o ∧ o.op = .binOp .mul 3 (.const (.int .i64 40)) (.tmp 40) 3 ∧ o.dst = some 41 ∧ o.guard = none := ⟨_, by rw [hops]; rfl, rfl, rfl, rfl⟩
            obtain ⟨o7, po7, q7, d7, gd7⟩ : ∃ o, ops[7]? = some o ∧ o.op = .move (.tmp 4) ∧ o.dst = some 42 ∧ o.guard = none := ⟨_, by rw [hops]; rfl, rfl, rfl, rfl⟩
            obtain ⟨o8, po8, q8, d8, gd8⟩ : ∃ o, ops[8]? = some o ∧ o.op = .nilCheck (.tmp 42) ∧ o.dst = some 43 ∧ o.guard = none := ⟨_, by rw [hops]; rfl, rfl, rfl, rfl⟩
            obtain ⟨o9, po9, q9, d9, gd9⟩ : ∃ o, ops[9]? = some o ∧ o.op = .fieldAddr 78 (.tmp 43) 1 ∧ o.dst = some 44 ∧ o.guard = none := ⟨_, by rw [hops]; rfl, rfl, rfl, rfl⟩
            obtain ⟨o10, po10, q10, d10, gd10⟩ : ∃ o, ops[10]? = some o ∧ o.op = .load 76 (.tmp 44) ∧ o.dst = some 45 ∧ o.guard = none := ⟨_, by rw [hops]; rfl, rfl, rfl, rfl⟩
            obtain ⟨o11, po11, q11, d11, gd11⟩ : ∃ o, ops[11]? = some o ∧ o.op = .call { callee := .builtin .len, args := #[.tmp 45], argTypes := #[76] } ∧ o.dst = some 46 ∧ o.guard = none := ⟨_, by rw [hops]; rfl, rfl, rfl, rfl⟩
            obtain ⟨o12, po12, q12, d12, gd12⟩ : ∃ o, ops[12]? = some o ∧ o.op = .binOp .add 3 (.tmp 46) (.const (.int .i64 1)) 3 ∧ o.dst = some 47 ∧ o.guard = none := ⟨_, by rw [hops]; rfl, rfl, rfl, rfl⟩
            obtain ⟨o13, po13, q13, d13, gd13⟩ : ∃ o, ops[13]? = some o ∧ o.op = .binOp .mul 3 (.const (.int .i64 40)) (.tmp 47) 3 ∧ o.dst = some 48 ∧ o.guard = none := ⟨_, by rw [hops]; rfl, rfl, rfl, rfl⟩
            obtain ⟨o14, po14, q14, d14, gd14⟩ : ∃ o, ops[14]? = some o ∧ o.op = .slice 37 (.tmp 35) (some (.tmp 41)) (some (.tmp 48)) none ∧ o.dst = some 49 ∧ o.guard = none := ⟨_, by rw [hops]; rfl, rfl, rfl, rfl⟩
            obtain ⟨o15, po15, q15, d15, gd15⟩ : ∃ o, ops[15]? = some o ∧ o.op = .move (.tmp 4) ∧ o.dst = some 50 ∧ o.guard = none := ⟨_, by rw [hops]; rfl, rfl, rfl, rfl⟩
            obtain ⟨o16, po16, q16, d16, gd16⟩ : ∃ o, ops[16]? = some o ∧ o.op = .nilCheck (.tmp 50) ∧ o.dst = some 51 ∧ o.guard = none := ⟨_, by rw [hops]; rfl, rfl, rfl, rfl⟩
            obtain ⟨o17, po17, q17, d17, gd17⟩ : ∃ o, ops[17]? = some o ∧ o.op = .fieldAddr 78 (.tmp 51) 1 ∧ o.dst = some 52 ∧ o.guard = none := ⟨_, by rw [hops]; rfl, rfl, rfl, rfl⟩
            obtain ⟨o18, po18, q18, d18, gd18⟩ : ∃ o, ops[18]? = some o ∧ o.op = .load 76 (.tmp 52) ∧ o.dst = some 53 ∧ o.guard = none := ⟨_, by rw [hops]; rfl, rfl, rfl, rfl⟩
            obtain ⟨o19, po19, q19, d19, gd19⟩ : ∃ o, ops[19]? = some o ∧ o.op = .call { callee := .builtin .len, args := #[.tmp 53], argTypes := #[76] } ∧ o.dst = some 54 ∧ o.guard = none := ⟨_, by rw [hops]; rfl, rfl, rfl, rfl⟩
            obtain ⟨o20, po20, q20, d20, gd20⟩ : ∃ o, ops[20]? = some o ∧ o.op = .binOp .add 3 (.tmp 54) (.const (.int .i64 1)) 3 ∧ o.dst = some 55 ∧ o.guard = none := ⟨_, by rw [hops]; rfl, rfl, rfl, rfl⟩
            obtain ⟨o21, po21, q21, d21, gd21⟩ : ∃ o, ops[21]? = some o ∧ o.op = .call { callee := .value (.func 64), args := #[.tmp 49, .tmp 55], argTypes := #[37, 3] } ∧ o.dst = some 56 ∧ o.guard = none := ⟨_, by rw [hops]; rfl, rfl, rfl, rfl⟩
            obtain ⟨o22, po22, q22, d22, gd22⟩ : ∃ o, ops[22]? = some o ∧ o.op = .move (.tmp 56) ∧ o.dst = some 34 ∧ o.guard = none := ⟨_, by rw [hops]; rfl, rfl, rfl, rfl⟩
            obtain ⟨o23, po23, q23, d23, gd23⟩ : ∃ o, ops[23]? = some o ∧ o.op = .extract (.tmp 34) 0 ∧ o.dst = some 57 ∧ o.guard = none := ⟨_, by rw [hops]; rfl, rfl, rfl, rfl⟩
            obtain ⟨o24, po24, q24, d24, gd24⟩ : ∃ o, ops[24]? = some o ∧ o.op = .extract (.tmp 34) 1 ∧ o.dst = some 58 ∧ o.guard = none := ⟨_, by rw [hops]; rfl, rfl, rfl, rfl⟩
            obtain ⟨o25, po25, q25, d25, gd25⟩ : ∃ o, ops[25]? = some o ∧ o.op = .alloc 86 ∧ o.dst = some 6 ∧ o.guard = none := ⟨_, by rw [hops]; rfl, rfl, rfl, rfl⟩
            obtain ⟨o26, po26, q26, d26, gd26⟩ : ∃ o, ops[26]? = some o ∧ o.op = .store 86 (.tmp 6) (.tmp 57) ∧ o.dst = none ∧ o.guard = none := ⟨_, by rw [hops]; rfl, rfl, rfl, rfl⟩
            obtain ⟨o27, po27, q27, d27, gd27⟩ : ∃ o, ops[27]? = some o ∧ o.op = .assign (.tmp 58) ∧ o.dst = some 7 ∧ o.guard = none := ⟨_, by rw [hops]; rfl, rfl, rfl, rfl⟩
            clear hops
            refine Tr.takes po0 d0 (wanted_of gd0) (fun w' h' => run_move q0 base5 w') ?_
            refine Tr.takes po1 d1 (wanted_of gd1) (fun w' h' => run_move q1 ((eval_other _ 35 4 _ (by decide)).trans base4) w') ?_
            refine Tr.takes po2 d2 (wanted_of gd2) (fun w' h' => run_nilCheck q2 (eval_same _ _ _ (by simp only [put_size, hsz]; decide)) w') ?_
            refine Tr.takes po3 d3 (wanted_of gd3) (fun w' h' => run_fieldT (off := 1) q3 (fun _ => by kernel_rfl) (eval_same _ _ _ (by simp only [put_size, hsz]; decide)) w') ?_
            refine Tr.takes po4 d4 (wanted_of gd4) (fun w' h' => run_loadSlots q4 (eval_same _ _ _ (by simp only [put_size, hsz]; decide)) h'.1) ?_
            refine Tr.takes po5 d5 (wanted_of gd5) (fun w' h' => run_lenSlots q5 (eval_same _ _ _ (by simp only [put_size, hsz]; decide)) w') ?_
            refine Tr.takes po6 d6 (wanted_of gd6) (fun w' h' => run_mulLen (m := m) q6 (fun _ => rfl) (eval_same _ _ _ (by simp only [put_size, hsz]; decide)) (by omega) w') ?_
            refine Tr.takes po7 d7 (wanted_of gd7) (fun w' h' => run_move q7 ((eval_other _ 41 4 _ (by decide)).trans ((eval_other _ 40 4 _ (by decide)).trans ((eval_other _ 39 4 _ (by decide)).trans ((eval_other _ 38 4 _ (by decide)).trans ((eval_other _ 37 4 _ (by decide)).trans ((eval_other _ 36 4 _ (by decide)).trans ((eval_other _ 35 4 _ (by decide)).trans base4))))))) w') ?_
            refine Tr.takes po8 d8 (wanted_of gd8) (fun w' h' => run_nilCheck q8 (eval_same _ _ _ (by simp only [put_size, hsz]; decide)) w') ?_
            refine Tr.takes po9 d9 (wanted_of gd9) (fun w' h' => run_fieldT (off := 1) q9 (fun _ => by kernel_rfl) (eval_same _ _ _ (by simp only [put_size, hsz]; decide)) w') ?_
            refine Tr.takes po10 d10 (wanted_of gd10) (fun w' h' => run_loadSlots q10 (eval_same _ _ _ (by simp only [put_size, hsz]; decide)) h'.1) ?_
            refine Tr.takes po11 d11 (wanted_of gd11) (fun w' h' => run_lenSlots q11 (eval_same _ _ _ (by simp only [put_size, hsz]; decide)) w') ?_
            refine Tr.takes po12 d12 (wanted_of gd12) (fun w' h' => run_addOneV (n := m) q12 (fun _ => rfl) (eval_same _ _ _ (by simp only [put_size, hsz]; decide)) (by omega) w') ?_
            refine Tr.takes po13 d13 (wanted_of gd13) (fun w' h' => run_mulLen (m := m + 1) q13 (fun _ => rfl) (eval_same _ _ _ (by simp only [put_size, hsz]; decide)) (by omega) w') ?_
            refine Tr.takes po14 d14 (wanted_of gd14) (fun w' h' => run_fromToV (m := 40) (k := 40 * m) q14 ((eval_other _ 48 35 _ (by decide)).trans ((eval_other _ 47 35 _ (by decide)).trans ((eval_other _ 46 35 _ (by decide)).trans ((eval_other _ 45 35 _ (by decide)).trans ((eval_other _ 44 35 _ (by decide)).trans ((eval_other _ 43 35 _ (by decide)).trans ((eval_other _ 42 35 _ (by decide)).trans ((eval_other _ 41 35 _ (by decide)).trans ((eval_other _ 40 35 _ (by decide)).trans ((eval_other _ 39 35 _ (by decide)).trans ((eval_other _ 38 35 _ (by decide)).trans ((eval_other _ 37 35 _ (by decide)).trans ((eval_other _ 36 35 _ (by decide)).trans (eval_same _ _ _ (by rw [hsz]; decide))))))))))))))) ((eval_other _ 48 41 _ (by decide)).trans ((eval_other _ 47 41 _ (by decide)).trans ((eval_other _ 46 41 _ (by decide)).trans ((eval_other _ 45 41 _ (by decide)).trans ((eval_other _ 44 41 _ (by decide)).trans ((eval_other _ 43 41 _ (by decide)).trans ((eval_other _ 42 41 _ (by decide)).trans (eval_same _ _ _ (by simp only [put_size, hsz]; decide))))))))) ((eval_same _ _ _ (by simp only [put_size, hsz]; decide)).trans HZ.out) HLT.out.2 HLT.out.1 w') ?_
            refine Tr.takes po15 d15 (wanted_of gd15) (fun w' h' => run_move q15 ((eval_other _ 49 4 _ (by decide)).trans ((eval_other _ 48 4 _ (by decide)).trans ((eval_other _ 47 4 _ (by decide)).trans ((eval_other _ 46 4 _ (by decide)).trans ((eval_other _ 45 4 _ (by decide)).trans ((eval_other _ 44 4 _ (by decide)).trans ((eval_other _ 43 4 _ (by decide)).trans ((eval_other _ 42 4 _ (by decide)).trans ((eval_other _ 41 4 _ (by decide)).trans ((eval_other _ 40 4 _ (by decide)).trans ((eval_other _ 39 4 _ (by decide)).trans ((eval_other _ 38 4 _ (by decide)).trans ((eval_other _ 37 4 _ (by decide)).trans ((eval_other _ 36 4 _ (by decide)).trans ((eval_other _ 35 4 _ (by decide)).trans base4))))))))))))))) w') ?_
            refine Tr.takes po16 d16 (wanted_of gd16) (fun w' h' => run_nilCheck q16 (eval_same _ _ _ (by simp only [put_size, hsz]; decide)) w') ?_
            refine Tr.takes po17 d17 (wanted_of gd17) (fun w' h' => run_fieldT (off := 1) q17 (fun _ => by kernel_rfl) (eval_same _ _ _ (by simp only [put_size, hsz]; decide)) w') ?_
            refine Tr.takes po18 d18 (wanted_of gd18) (fun w' h' => run_loadSlots q18 (eval_same _ _ _ (by simp only [put_size, hsz]; decide)) h'.1) ?_
            refine Tr.takes po19 d19 (wanted_of gd19) (fun w' h' => run_lenSlots q19 (eval_same _ _ _ (by simp only [put_size, hsz]; decide)) w') ?_
            refine Tr.takes po20 d20 (wanted_of gd20) (fun w' h' => run_addOneV (n := m) q20 (fun _ => rfl) (eval_same _ _ _ (by simp only [put_size, hsz]; decide)) (by omega) w') ?_
            refine ⟨?_, ?_⟩
            · have _t := trivial
              refine t_enterV po21 d21 (wanted_of gd21) (run_callf2 q21 rfl ((eval_other _ 55 49 _ (by decide)).trans ((eval_other _ 54 49 _ (by decide)).trans ((eval_other _ 53 49 _ (by decide)).trans ((eval_other _ 52 49 _ (by decide)).trans ((eval_other _ 51 49 _ (by decide)).trans ((eval_other _ 50 49 _ (by decide)).trans (eval_same _ _ _ (by simp only [put_size, hsz]; decide)))))))) (eval_same _ _ _ (by simp only [put_size, hsz]; decide)) Tryd.func64 (by kernel_rfl) _) (rfRead11_any bs (m + 1) (some ⟨b, off + 40 * m, none⟩) (c - 40 * m) HB40.out (by omega) wr.drew (HLS.out wr.drew (HST.out.trans (G := fun _ => False) (Below.stays (Below.refl _ wr).drew) (fun _ f _ => f.elim)))) ?_
              rintro e w3 ⟨rfl, b2⟩
              rw [HRV.out]
              have HB3 : Hid (Below wr.heap.size wr w3) := show Below _ _ _ from (Below.refl _ wr).drew.trans b2
              clear b2
              refine ⟨_, rfl, HOR.out.below HB3.out, ?_⟩
              refine Tr.takes po22 d22 (wanted_of gd22) (fun w' h' => run_move q22 (eval_same _ _ _ (by simp only [put_size, hsz]; decide)) w') ?_
              refine Tr.takes po23 d23 (wanted_of gd23) (fun w' h' => run_extract q23 (eval_same _ _ _ (by simp only [put_size, hsz]; decide)) rfl w') ?_
              refine Tr.takes po24 d24 (wanted_of gd24) (fun w' h' => run_extract q24 ((eval_other _ 57 34 _ (by decide)).trans (eval_same _ _ _ (by simp only [put_size, hsz]; decide))) rfl w') ?_
              refine at_op po25 d25 (wanted_of gd25) (run_allocRf q25 w3) ?_
              have HBT : Hid (Below wr.heap.size wr (w3.alloc (.cells (slotC (noughts 32) false).toArray 86))) := show Below _ _ _ from HB3.out.trans ((Below.refl _ _).alloc HB3.out.size _)
              refine ⟨HOR.out.below HBT.out, ?_⟩
              have HT : Hid ((w3.alloc (.cells (slotC (noughts 32) false).toArray 86)).heap[w3.heap.size]? = some (.cells (slotC (noughts 32) false).toArray 86 (0, 0))) := show _ = _ from heap_new_at rfl
              have HTS : Hid (wr.heap.size ≤ w3.heap.size) := show _ ≤ _ from HB3.out.size
              have HPF : Hid (OrS v ps m cs ((w3.alloc (.cells (slotC (noughts 32) false).toArray 86)).setRow w3.heap.size C)) := show OrS _ _ _ _ _ from HOR.out.below (below_setRow HBT.out HTS.out _)
              generalize w3.alloc (.cells (slotC (noughts 32) false).toArray 86) = w4 at HT HBT HPF ⊢
              refine at_wp po26 (wanted_of gd26) (wp_store_row 86 (.tmp 6) (.tmp 57) q26 w3.heap.size C (eval_same _ _ _ (by simp only [put_size, hsz]; decide)) ((eval_other _ 6 57 _ (by decide)).trans ((eval_other _ 58 57 _ (by decide)).trans (eval_same _ _ _ (by simp only [put_size, hsz]; decide)))) 86 _ HT.out (size_slot HCS.out) (by rw [HCS.out]; exact (slotC_size (noughts_length 32) false).symm) HCO.out ⟨HPF.out, ?_⟩)
              rw [d26]
              have HROW := Lib.hid (setRow_heap w4 w3.heap.size _ C 86 _ HT.out)
              have HBF := Lib.hid (below_setRow HBT.out HTS.out C)
              generalize w4.setRow w3.heap.size C = wz at HROW HBF HPF ⊢
              refine Tr.takes po27 d27 (wanted_of gd27) (fun w' h' => run_assign q27 ((eval_none _ _ 58).trans ((eval_other _ 6 58 _ (by decide)).trans (eval_same _ _ _ (by simp only [put_size, hsz]; decide)))) w') ?_
              show NoPanic _ .normal _ _
              refine NoPanic.normal ?_
              rw [HAA.out]
              go_frame
              clear HAA
              go_wp2_with fail
              go_meet
              exact ⟨w3.heap.size, rfl, rfl, HTS.out, HROW.out, HBF.out⟩
            · have _t := trivial
              refine at_op po25 d25 (wanted_of gd25) (run_allocRf q25 wr.drew) ?_
              have HBT0 : Hid (Below wr.heap.size wr (wr.drew.alloc (.cells (slotC (noughts 32) false).toArray 86))) := show Below _ _ _ from (Below.refl _ wr).drew.alloc (Nat.le_refl _) _
              refine ⟨HOR.out.below HBT0.out, ?_⟩
              have HT0 : Hid ((wr.drew.alloc (.cells (slotC (noughts 32) false).toArray 86)).heap[wr.heap.size]? = some (.cells (slotC (noughts 32) false).toArray 86 (0, 0))) := show _ = _ from heap_new_at rfl
              have HTS : Hid (wr.heap.size ≤ wr.heap.size) := show _ ≤ _ from Nat.le_refl _
              generalize wr.drew.alloc (.cells (slotC (noughts 32) false).toArray 86) = w4 at HT0 HBT0 ⊢
              refine t_enterV po21 d21 (wanted_of gd21) (run_callf2 q21 rfl ((eval_other _ 6 49 _ (by decide)).trans ((eval_other _ 55 49 _ (by decide)).trans ((eval_other _ 54 49 _ (by decide)).trans ((eval_other _ 53 49 _ (by decide)).trans ((eval_other _ 52 49 _ (by decide)).trans ((eval_other _ 51 49 _ (by decide)).trans ((eval_other _ 50 49 _ (by decide)).trans (eval_same _ _ _ (by simp only [put_size, hsz]; decide))))))))) ((eval_other _ 6 55 _ (by decide)).trans (eval_same _ _ _ (by simp only [put_size, hsz]; decide))) Tryd.func64 (by kernel_rfl) _) (rfRead11_any bs (m + 1) (some ⟨b, off + 40 * m, none⟩) (c - 40 * m) HB40.out (by omega) w4 (HLS.out w4 (HST.out.trans (G := fun _ => False) (Below.stays HBT0.out) (fun _ f _ => f.elim)))) ?_
              rintro e w3 ⟨rfl, b2⟩
              rw [HRV.out]
              have HBT : Hid (Below wr.heap.size wr w3) := show Below _ _ _ from HBT0.out.trans (b2.mono HBT0.out.size)
              have HT : Hid (w3.heap[wr.heap.size]? = some (.cells (slotC (noughts 32) false).toArray 86 (0, 0))) := show _ = _ from (b2.block _ (Array.getElem?_eq_some_iff.1 HT0.out).1).trans HT0.out
              clear b2
              have HPF : Hid (OrS v ps m cs (w3.setRow wr.heap.size C)) := show OrS _ _ _ _ _ from HOR.out.below (below_setRow HBT.out HTS.out _)
              refine ⟨_, rfl, HOR.out.below HBT.out, ?_⟩
              refine Tr.takes po22 d22 (wanted_of gd22) (fun w' h' => run_move q22 (eval_same _ _ _ (by simp only [put_size, hsz]; decide)) w') ?_
              refine Tr.takes po23 d23 (wanted_of gd23) (fun w' h' => run_extract q23 (eval_same _ _ _ (by simp only [put_size, hsz]; decide)) rfl w') ?_
              refine Tr.takes po24 d24 (wanted_of gd24) (fun w' h' => run_extract q24 ((eval_other _ 57 34 _ (by decide)).trans (eval_same _ _ _ (by simp only [put_size, hsz]; decide))) rfl w') ?_
              refine at_wp po26 (wanted_of gd26) (wp_store_row 86 (.tmp 6) (.tmp 57) q26 wr.heap.size C ((eval_other _ 58 6 _ (by decide)).trans ((eval_other _ 57 6 _ (by decide)).trans ((eval_other _ 34 6 _ (by decide)).trans ((eval_other _ 56 6 _ (by decide)).trans (eval_same _ _ _ (by simp only [put_size, hsz]; decide)))))) ((eval_other _ 58 57 _ (by decide)).trans (eval_same _ _ _ (by simp only [put_size, hsz]; decide))) 86 _ HT.out (size_slot HCS.out) (by rw [HCS.out]; exact (slotC_size (noughts_length 32) false).symm) HCO.out ⟨HPF.out, ?_⟩)
              rw [d26]
              have HROW := Lib.hid (setRow_heap w3 wr.heap.size _ C 86 _ HT.out)
              have HBF := Lib.hid (below_setRow HBT.out HTS.out C)
              generalize w3.setRow wr.heap.size C = wz at HROW HBF HPF ⊢
              refine Tr.takes po27 d27 (wanted_of gd27) (fun w' h' => run_assign q27 ((eval_none _ _ 58).trans (eval_same _ _ _ (by simp only [put_size, hsz]; decide))) w') ?_
              show NoPanic _ .normal _ _
              refine NoPanic.normal ?_
              rw [HAA.out]
              go_frame
              clear HAA
              go_wp2_with fail
              go_meet
              exact ⟨wr.heap.size, rfl, rfl, HTS.out, HROW.out, HBF.out⟩
          case rest =>
            obtain ⟨S6, rfl, rfl, hS6, hSB, hb⟩ := hcut
            have hvr := vt_round HV.out HLL.out HM.out HHM.out (by rw [HN.out]; exact HH40.out)
            rw [HBS.out] at hvr
            obtain ⟨hoe, hCe⟩ := HCY.out
            rcases hvr with ⟨h1, rest', hr⟩ | ⟨h1, hr⟩
            · obtain ⟨s, hs⟩ : ∃ s, rdS bs = s := ⟨_, rfl⟩
              have hC := hCe (hoe.trans h1)
              have hso : SlotOk s := by rw [← hs]; exact rdS_ok HB40.out
              rw [hs] at hC hr
              subst hoe
              subst hC
              rw [h1]
              obtain ⟨U', T', sv, hV0, hgr, hst0⟩ := HI.out
              have hne : S6 ≠ v := fun e => by have := hV0.dom v hV0.here; omega
              have hV1 : RvV U' T' wc.drew v x d lj false sv := hV0.keep (F := fun _ => False) (Below.stays hb.drew) (fun _ f => f.elim)
              obtain ⟨p3, c3, rfl⟩ := hV1.slice
              have HV1 := Lib.hid hV1
              have HGR := Lib.hid hgr
              have HST1 : Hid (Stays (fun k => T k ∨ k = v) w2 wc.drew) := show Stays _ _ _ from hst0.trans (G := fun _ => False) (Below.stays hb.drew) (fun _ f _ => f.elim)
              have HSL : Hid (wc.drew.heap[S6]? = some (.cells (slotRf s).toArray 86 (0, 0))) := show _ = _ from hSB
              have HNU : Hid (¬ U' S6) := show ¬ _ from fun u => by have := hV0.dom _ u; omega
              have HNE := Lib.hid (And.intro hne trivial)
              have HSO := Lib.hid hso
              have HON1 : Hid (∀ u ∈ (slotRf s).toArray.toList, u.oneCell' = true) := show ∀ u ∈ _, _ from fun u hu => by
                have := HCO.out
                rw [Array.all_eq_true_iff_forall_mem] at this
                exact this u (by simpa using hu)
              have HLT1 : Hid (lj.length < 64) := show _ < _ from by rw [HM.out]; exact HHM.out
              have HRE := Lib.hid hr
              clear hV0 hgr hst0 hne hV1 hSB hb hso hr h1 hs hCe hS6
              go_upto_region 8 with fail
              refine region_phase (fun w' => w'.heap[S6]? = some (.cells (slotRf s).toArray 86 (0, 0))) (fun w' => w'.cell? ⟨v, 1, none⟩ = some (.slice p3 lj.length c3)) 10 (HSL.out) HV1.out.cell.2.1 [(0, .free), (1, .free), (2, .free), (3, .free), (4, .early), (5, .free), (6, .before), (7, .before), (8, .free), (9, .free), (10, .behind)] (by kernel_rfl) (by kernel_rfl) (by kernel_rfl) (by kernel_rfl) (fun ops hops A hA => ?_)
              have hsz : A.tmps.size = 97 := by rw [hA]; rfl
              have base4 : A.eval (.tmp 4) = .pointer (some ⟨v, 0, none⟩) := by rw [hA]; rfl
              have base6 : A.eval (.tmp 6) = .pointer (some ⟨S6, 0, none⟩) := by rw [hA]; rfl
              have HAA := Lib.hid hA; clear hA
              obtain ⟨o0, po0, q0, d0, gd0⟩ : ∃ o, ops[0]? = some o ∧ o.op = .move (.tmp 4) ∧ o.dst = some 61 ∧ o.guard = none := ⟨_, by rw [hops]; rfl, rfl, rfl, rfl⟩
              obtain ⟨o1, po1, q1, d1, gd1⟩ : ∃ o, ops[1]? = some o ∧ o.op = .move (.tmp 4) ∧ o.dst = some 62 ∧ o.guard = none := ⟨_, by rw [hops]; rfl, rfl, rfl, rfl⟩
              obtain ⟨o2, po2, q2, d2, gd2⟩ : ∃ o, ops[2]? = some o ∧ o.op = .nilCheck (.tmp 62) ∧ o.dst = some 63 ∧ o.guard = none := ⟨_, by rw [hops]; rfl, rfl, rfl, rfl⟩
              obtain ⟨o3, po3, q3, d3, gd3⟩ : ∃ o, ops[3]? = some o ∧ o.op = .fieldAddr 78 (.tmp 63) 1 ∧ o.dst = some 64 ∧ o.guard = none := ⟨_, by rw [hops]; rfl, rfl, rfl, rfl⟩
              obtain ⟨o4, po4, q4, d4, gd4⟩ : ∃ o, ops[4]? = some o ∧ o.op = .load 76 (.tmp 64) ∧ o.dst = some 65 ∧ o.guard = none := ⟨_, by rw [hops]; rfl, rfl, rfl, rfl⟩
              obtain ⟨o5, po5, q5, d5, gd5⟩ : ∃ o, ops[5]? = some o ∧ o.op = .load 86 (.tmp 6) ∧ o.dst = some 66 ∧ o.guard = none := ⟨_, by rw [hops]; rfl, rfl, rfl, rfl⟩
              obtain ⟨o6, po6, q6, d6, gd6⟩ : ∃ o, ops[6]? = some o ∧ o.op = .buildSlice 76 1 #[(0, (.tmp 66))] ∧ o.dst = some 67 ∧ o.guard = none := ⟨_, by rw [hops]; rfl, rfl, rfl, rfl⟩
              obtain ⟨o7, po7, q7, d7, gd7⟩ : ∃ o, ops[7]? = some o ∧ o.op = .call { callee := .builtin .append, args := #[.tmp 65, .tmp 67], argTypes := #[76, 76] } ∧ o.dst = some 68 ∧ o.guard = none := ⟨_, by rw [hops]; rfl, rfl, rfl, rfl⟩
              obtain ⟨o8, po8, q8, d8, gd8⟩ : ∃ o, ops[8]? = some o ∧ o.op = .nilCheck (.tmp 61) ∧ o.dst = some 69 ∧ o.guard = none := ⟨_, by rw [hops]; rfl, rfl, rfl, rfl⟩
              obtain ⟨o9, po9, q9, d9, gd9⟩ : ∃ o, ops[9]? = some o ∧ o.op = .fieldAddr 78 (.tmp 69) 1 ∧ o.dst = some 70 ∧ o.guard = none := ⟨_, by rw [hops]; rfl, rfl, rfl, rfl⟩
              obtain ⟨o10, po10, q10, d10, gd10⟩ : ∃ o, ops[10]? = some o ∧ o.op = .store 76 (.tmp 70) (.tmp 68) ∧ o.dst = none ∧ o.guard = none := ⟨_, by rw [hops]; rfl, rfl, rfl, rfl⟩
              clear hops
              refine met_free po0 d0 (wanted_of gd0) (fun w' h' => run_move q0 base4 w') ?_
              refine met_free po1 d1 (wanted_of gd1) (fun w' h' => run_move q1 ((eval_other _ 61 4 _ (by decide)).trans base4) w') ?_
              refine met_free po2 d2 (wanted_of gd2) (fun w' h' => run_nilCheck q2 (eval_same _ _ _ (by simp only [put_size, hsz]; decide)) w') ?_
              refine met_free po3 d3 (wanted_of gd3) (fun w' h' => run_fieldT (off := 1) q3 (fun _ => by kernel_rfl) (eval_same _ _ _ (by simp only [put_size, hsz]; decide)) w') ?_
              refine met_early po4 d4 (wanted_of gd4) (fun w' h' hE' => run_loadSlots q4 (eval_same _ _ _ (by simp only [put_size, hsz]; decide)) hE') ?_
              refine met_free po5 d5 (wanted_of gd5) (fun w' h' => run_loadSlotR q5 ((eval_other _ 65 6 _ (by decide)).trans ((eval_other _ 64 6 _ (by decide)).trans ((eval_other _ 63 6 _ (by decide)).trans ((eval_other _ 62 6 _ (by decide)).trans ((eval_other _ 61 6 _ (by decide)).trans base6))))) h' HCS.out) ?_
              refine mb_value po6 d6 (wanted_of gd6) (refSlotT.run_one q6 (eval_same _ _ _ (by simp only [put_size, hsz]; decide)) HCS.out wc.drew) ?_
              have HB8 : Hid (Below wc.drew.heap.size wc.drew (wc.drew.alloc (.cells (slotRf s).toArray 86))) := show Below _ _ _ from (Below.refl _ _).alloc (Nat.le_refl _) _
              have HC8 : Hid ((wc.drew.alloc (.cells (slotRf s).toArray 86)).heap[wc.drew.heap.size]? = some (.cells (slotRf s).toArray 86 (0, 0))) := show _ = _ from heap_new_at rfl
              generalize wc.drew.alloc (.cells (slotRf s).toArray 86) = w8 at HB8 HC8 ⊢
              have HV8 := Lib.hid (HV1.out.keep (Below.stays (F := fun _ => False) HB8.out) (fun _ f => f.elim))
              have HSL8 : Hid (w8.heap[S6]? = some (.cells (slotRf s).toArray 86 (0, 0))) := show _ = _ from (HB8.out.block _ (Array.getElem?_eq_some_iff.1 HSL.out).1).trans HSL.out
              refine ⟨⟨HSL8.out, HV8.out.cell.2.1⟩, ?_⟩
              refine refSlotT.mb_append po7 d7 (wanted_of gd7) q7 ((eval_other _ 67 65 _ (by decide)).trans ((eval_other _ 66 65 _ (by decide)).trans (eval_same _ _ _ (by simp only [put_size, hsz]; decide)))) HV8.out.rows (eval_same _ _ _ (by simp only [put_size, hsz]; decide)) HC8.out HCS.out HON1.out (by have := HLT1.out; omega) (Nat.zero_le _) ?_
              intro v9 w9 hrow9 hg9 hat9
              obtain ⟨p9, c9, rfl⟩ : ∃ p9 c9, v9 = .slice p9 (lj.length + 1) c9 := by rcases hrow9.2 with ⟨h0, h1⟩ | ⟨b, cap, cur, h0, -⟩; exact absurd h1 (by omega); exact ⟨_, _, h0⟩
              have HG9 : Hid (Stays (fun k => Value.ownBlock (.slice p3 lj.length c3) = some k) w8 w9) := show Stays _ _ _ from grown_stays hg9 (fun k e => e)
              have HROW9 := Lib.hid hrow9
              have HAT9 := Lib.hid hat9
              clear hrow9 hg9 hat9
              have HSL9 : Hid (w9.heap[S6]? = some (.cells (slotRf s).toArray 86 (0, 0))) := show _ = _ from (HG9.out.block _ (Array.getElem?_eq_some_iff.1 HSL8.out).1 (fun e => HNU.out (HV8.out.clear _ e).2)).trans HSL8.out
              have HBK9 : Hid (w9.heap[v]? = some (.cells #[.pointer (some ⟨x, 0, none⟩), .slice p3 lj.length c3, .bool false] 78 (0, 0))) := show _ = _ from (HG9.out.block v (HV8.out.dom v HV8.out.here) (fun e => HV8.out.apart e)).trans HV8.out.block
              refine ⟨⟨HSL9.out, by rw [cell_of_row w9 v 1 _ _ _ HBK9.out]; rfl⟩, ?_⟩
              refine met_free po8 d8 (wanted_of gd8) (fun w' h' => run_nilCheck q8 ((eval_other _ 68 61 _ (by decide)).trans ((eval_other _ 67 61 _ (by decide)).trans ((eval_other _ 66 61 _ (by decide)).trans ((eval_other _ 65 61 _ (by decide)).trans ((eval_other _ 64 61 _ (by decide)).trans ((eval_other _ 63 61 _ (by decide)).trans ((eval_other _ 62 61 _ (by decide)).trans (eval_same _ _ _ (by rw [hsz]; decide))))))))) w') ?_
              refine met_free po9 d9 (wanted_of gd9) (fun w' h' => run_fieldT (off := 1) q9 (fun _ => by kernel_rfl) (eval_same _ _ _ (by simp only [put_size, hsz]; decide)) w') ?_
              refine met_skip po10 d10 (wanted_of gd10) (run_storeSlots q10 (eval_same _ _ _ (by simp only [put_size, hsz]; decide)) ((eval_other _ 70 68 _ (by decide)).trans ((eval_other _ 69 68 _ (by decide)).trans (eval_same _ _ _ (by simp only [put_size, hsz]; decide)))) (by rw [cell_of_row w9 v 1 _ _ _ HBK9.out]; rfl) (frozen_of_row _ _ _ _ _ HBK9.out)) (((stays_set w9 v 1 _).block S6 (Array.getElem?_eq_some_iff.1 HSL9.out).1 HNE.out.1).trans HSL9.out) ?_
              show NoPanic _ .normal _ _
              refine NoPanic.normal ?_
              rw [HAA.out]
              go_frame
              clear HAA
              clear po0 q0 d0 gd0 po1 q1 d1 gd1 po2 q2 d2 gd2 po3 q3 d3 gd3 po4 q4 d4 gd4 po5 q5 d5 gd5 po6 q6 d6 gd6 po7 q7 d7 gd7 po8 q8 d8 gd8 po9 q9 d9 gd9 po10 q10 d10 gd10
              clear base4 base6 hsz
              have HIN : Hid (RvIn (fun k => T k ∨ k = v) w2 v x d (lj ++ [s]) false (w9.setCell ⟨v, 1, none⟩ (.slice p9 (lj.length + 1) c9))) := show RvIn _ _ _ _ _ _ _ _ from RvIn.push (s := s) HV1.out HGR.out HST1.out HB8.out HG9.out HROW9.out HAT9.out HSO.out HLT1.out
              generalize w9.setCell ⟨v, 1, none⟩ (.slice p9 (lj.length + 1) c9) = w10 at HIN ⊢
              clear HSL9 HBK9 HROW9 HAT9 HG9 HSL8 HV8 HC8 HB8 HNU HSL HST1 HGR HV1
              go_wp2_with fail
              go_roundg rest'.length
              case measure =>
                have := HGK.out
                rw [HRE.out] at this
                simp at this
                omega
              case rel => exact ⟨lj ++ [s], rest', by rw [HLL.out, HRE.out]; simp, rfl, HIN.out⟩
            · have HFIN : Hid (lj = l) := show _ = _ from by rw [HLL.out, hr, List.append_nil]
              have hof : ok = false := hoe.trans h1
              subst hof
              have HI9 := Lib.hid (HI.out.below hb)
              clear hCe h1 hr hS6 hSB hb hoe
              go_wp2_with fail
              go_meet
              rw [← HFIN.out]
              exact HI9.out
        · have HFIN : Hid (lj = l) := show _ = _ from hfin (fun h => h40 h.2)
          have q40 : ¬ (((40 * (m + 1) : Nat) : Int) ≤ (n : Int)) := by omega
          clear hfin h40 hgk h64
          go_wp2_with (first
            | (show wpList _ _ _ (⟨_, .binOp .add _ _ _ _, _, _, _, _⟩ :: _) _ _; go_loud (refine wpList_runV (by rfl) (run_addOneV (n := m) rfl (fun _ => rfl) rfl (by omega) _) ?_))
            | (show wpList _ _ _ (⟨_, .binOp .mul _ _ _ _, _, _, _, _⟩ :: _) _ _; go_loud (refine wpList_runV (by rfl) (run_mulLen (m := m + 1) rfl (fun _ => rfl) rfl (by omega) _) ?_)))
          go_meet
          rw [← HFIN.out]
          exact HI.out
      · have HFIN : Hid (lj = l) := show _ = _ from hfin (fun h => h64 h.1)
        have q64 : ¬ (m : Int) < 64 := by omega
        clear hfin h64 hgk
        go_wp2_with fail
        go_meet
        rw [← HFIN.out]
        exact HI.out
  case rest =>
    have HI := Lib.hid hcut
    obtain ⟨p3, c3, -, hc1, -, -⟩ := hcut.cells
    obtain ⟨m, hmm⟩ : ∃ m, l.length = m := ⟨_, rfl⟩
    have hm : m ≤ 64 := by rw [← hmm]; exact HI.out.le
    have HM := Lib.hid hmm
    rw [hmm] at hc1
    have HNM : Hid (n = 40 * m + r.length ∧ n ≤ 262144) := show _ ∧ _ from by rw [← hmm]; exact ⟨HNS.out.2, HNS.out.1⟩
    clear hcut hmm HI0 HHL
    by_cases hr : r = []
    · have hnm : n = 40 * m := by rw [HNM.out.1, hr]; rfl
      by_cases hl : l = []
      · have hn0 : n = 0 := by rw [hnm, ← HM.out, hl]; rfl
        have HP : Hid (∀ wz, RvIn (fun k => T k ∨ k = v) w2 v x d l false wz → OpR T w x (openVt d l r).1 l (openVt d l r).2 (.returned (.tuple #[.pointer (some ⟨v, 0, none⟩), .int .i64 0])) wz) := show ∀ _, _ from fun wz h => by
          have e : openVt d l r = (d, 0) := by unfold openVt; rw [if_neg (fun h => h hr), if_neg (fun h => h hl)]
          rw [e]
          exact (opR_of HB2.out HVV.out h 0).1 rfl
        have q0 : ¬ ((n : Int) > ((40 * m : Nat) : Int)) := by omega
        have q1 : ¬ ((n : Int) > 0) := by omega
        clear hnm hn0 hr hl
        go_wp2_with (show wpList _ _ _ (⟨_, .binOp .mul _ _ _ _, _, _, _, _⟩ :: _) _ _; refine wpList_runV (by rfl) (run_mulLen (m := m) rfl (fun _ => rfl) rfl (by omega) _) ?_)
        go_ret2
        exact HP.out _ HI.out
      · obtain ⟨d1, e1, hcu⟩ : ∃ d1 e1, d.sync 0 = (d1, e1) := ⟨_, _, rfl⟩
        have hlp : 0 < m := by rw [← HM.out]; exact List.length_pos_iff.2 hl
        have HP : Hid (∀ wz, RvIn (fun k => T k ∨ k = v) w2 v x d1 l false wz → (e1 = 0 → OpR T w x (openVt d l r).1 l (openVt d l r).2 (.returned (.tuple #[.pointer (some ⟨v, 0, none⟩), .int .i64 e1])) wz) ∧ (e1 ≠ 0 → OpR T w x (openVt d l r).1 l (openVt d l r).2 (.returned (.tuple #[.pointer none, .int .i64 e1])) wz)) := show ∀ _, _ → _ from fun wz h => by
          have e : openVt d l r = (d1, e1) := by unfold openVt; rw [if_neg (fun h => h hr), if_pos hl, hcu]
          rw [e]
          exact opR_of HB2.out HVV.out h e1
        have HCU := Lib.hid (HI.out.call (d' := d1) (e0 := .returned (.int .i64 e1)) (fun T' hT => by have h := rfSync_any T' x d _ 0 hT HOK.out (by have := HC.out.1; omega); rwa [hcu] at h))
        have q0 : ¬ ((n : Int) > ((40 * m : Nat) : Int)) := by omega
        have q1 : (n : Int) > 0 := by omega
        clear hnm hr hl hcu hlp
        by_cases h0 : e1 = 0
        · subst h0
          go_wp2_with (first
            | (show wpList _ _ _ (⟨_, .binOp .mul _ _ _ _, _, _, _, _⟩ :: _) _ _; refine wpList_runV (by rfl) (run_mulLen (m := m) rfl (fun _ => rfl) rfl (by omega) _) ?_)
            | (go_at_call 66; refine HCU.out.mono ?_; rintro e w5 ⟨rfl, hi5, -⟩; have HI5 := Lib.hid hi5; clear hi5))
          go_ret2
          exact (HP.out _ HI5.out).1 (by first | trivial | rfl)
        · have q2 : (e1 == 0) = false := beq_eq_false_iff_ne.2 h0
          have HE0 := Lib.hid h0
          clear h0
          go_wp2_with (first
            | (show wpList _ _ _ (⟨_, .binOp .mul _ _ _ _, _, _, _, _⟩ :: _) _ _; refine wpList_runV (by rfl) (run_mulLen (m := m) rfl (fun _ => rfl) rfl (by omega) _) ?_)
            | (go_at_call 66; refine HCU.out.mono ?_; rintro e w5 ⟨rfl, hi5, -⟩; have HI5 := Lib.hid hi5; clear hi5))
          go_ret2
          exact (HP.out _ HI5.out).2 HE0.out
    · have hrp : 0 < r.length := List.length_pos_iff.2 hr
      obtain ⟨d1, e1, hcu⟩ : ∃ d1 e1, d.cut 0 ((40 * m : Nat) : Int) = (d1, e1) := ⟨_, _, rfl⟩
      have HP : Hid (∀ wz, RvIn (fun k => T k ∨ k = v) w2 v x d1 l false wz → (e1 = 0 → OpR T w x (openVt d l r).1 l (openVt d l r).2 (.returned (.tuple #[.pointer (some ⟨v, 0, none⟩), .int .i64 e1])) wz) ∧ (e1 ≠ 0 → OpR T w x (openVt d l r).1 l (openVt d l r).2 (.returned (.tuple #[.pointer none, .int .i64 e1])) wz)) := show ∀ _, _ → _ from fun wz h => by
        have e : openVt d l r = (d1, e1) := by unfold openVt; rw [if_pos hr, HM.out, hcu]
        rw [e]
        exact opR_of HB2.out HVV.out h e1
      have HCU := Lib.hid (HI.out.call (d' := d1) (e0 := .returned (.int .i64 e1)) (fun T' hT => by have h := rfCut_any T' x d _ 0 ((40 * m : Nat) : Int) hT HOK.out (by have := HC.out.1; omega); rwa [hcu] at h))
      have q0 : (n : Int) > ((40 * m : Nat) : Int) := by have := HNM.out.1; omega
      clear hr hcu hrp
      by_cases h0 : e1 = 0
      · subst h0
        go_wp2_with (first
          | (show wpList _ _ _ (⟨_, .binOp .mul _ _ _ _, _, _, _, _⟩ :: _) _ _; refine wpList_runV (by rfl) (run_mulLen (m := m) rfl (fun _ => rfl) rfl (by omega) _) ?_)
          | (go_at_call 65; refine HCU.out.mono ?_; rintro e w5 ⟨rfl, hi5, -⟩; have HI5 := Lib.hid hi5; clear hi5))
        go_ret2
        exact (HP.out _ HI5.out).1 (by first | trivial | rfl)
      · have q2 : (e1 == 0) = false := beq_eq_false_iff_ne.2 h0
        have HE0 := Lib.hid h0
        clear h0
        go_wp2_with (first
          | (show wpList _ _ _ (⟨_, .binOp .mul _ _ _ _, _, _, _, _⟩ :: _) _ _; refine wpList_runV (by rfl) (run_mulLen (m := m) rfl (fun _ => rfl) rfl (by omega) _) ?_)
          | (go_at_call 65; refine HCU.out.mono ?_; rintro e w5 ⟨rfl, hi5, -⟩; have HI5 := Lib.hid hi5; clear hi5))
        go_ret2
        exact (HP.out _ HI5.out).2 HE0.out
end Go.Proofs.YtoidjapenompiaaDoor

/-
  Two things side by side, each in blocks of its own; both vaults, with their disks.
-/
namespace Go.Proofs.YtoidjapenompiaaDoor
open Go.RowKit Go.Proofs.ShaWords
/-- Both vaults, where they are open: the program's, the document's, the slots, is it dead? -/
abbrev PairS := Option (Nat × Nat × List SlotV × Bool)
def AP (g : Nat) (d : DiskM) : PairS → (Nat → Prop) → World → Prop
  | none => fun S w => DkAt S w g d
  | some (v, _, l, a) => fun S w => ∃ S0, VtIn S0 w v g d l a ∧ ∀ k, S k ↔ (S0 k ∨ k = v)
def BP (x : Nat) (d : DiskM) : PairS → (Nat → Prop) → World → Prop
  | none => fun U w => RefAt U w x d
  | some (_, y, l, a) => fun U w => RvAt U w y x d l a
section
variable {g x v y : Nat} {d d' : DiskM} {o : PairS} {l l' : List SlotV} {a a' : Bool} {S U : Nat → Prop} {w : World} {f : FuncId} {args : Array Value}
theorem AP.part (g : Nat) (d : DiskM) (o : PairS) : Part (AP g d o) := by
  cases o with
  | none => exact ⟨fun S w h => h.dom2, fun S w w' F h hs hF => DkAt.keep h hs hF⟩
  | some p =>
    obtain ⟨v, y, l, a⟩ := p
    exact ⟨fun S w ⟨S0, h, e⟩ k s => h.dom k ((e k).1 s), fun S w w' F ⟨S0, h, e⟩ hs hF => ⟨S0, h.keep hs (fun k f s => hF k f ((e k).2 s)), e⟩⟩
theorem RvAt.dom (h : RvAt U w v x d l a) : ∀ k, U k → k < w.heap.size := by
  obtain ⟨T, sv, h⟩ := h
  exact h.dom
theorem BP.part (x : Nat) (d : DiskM) (o : PairS) : Part (BP x d o) := by
  cases o with
  | none => exact ⟨fun S w h => RefAt.dom h, fun S w w' F h hs hF => RefAt.keep h hs hF⟩
  | some p =>
    obtain ⟨v, y, l, a⟩ := p
    exact ⟨fun S w h => RvAt.dom h, fun S w w' F h hs hF => RvAt.keep h hs hF⟩
/-- A call of the program's disk. -/
theorem AP.dk {e0 : Ending} (h : AP g d o S w) (hc : ∀ S0, DkAt S0 w g d → (∀ k, S0 k → S k) → Calls Tryd.prog f args w fun e w' => e = e0 ∧ DkGo S0 g d' w w') :
    Calls Tryd.prog f args w fun e w' => e = e0 ∧ ∃ S', AP g d' o S' w' ∧ (∀ k, S' k → S k ∨ w.heap.size ≤ k) ∧ Stays S w w' := by
  cases o with
  | none => exact (hc S h (fun _ s => s)).mono fun e w' ⟨a, S', b1, b2, b3⟩ => ⟨a, S', b1, fun k s => (b2 k s).imp id (fun h => h.1), b3⟩
  | some p =>
    obtain ⟨v, y, l, a⟩ := p
    obtain ⟨S0, h, e⟩ := h
    refine (hc S0 h.disk (fun k s => (e k).2 (Or.inl s))).mono fun e' w' ⟨a, hgo⟩ => ⟨a, ?_⟩
    obtain ⟨S', b1, b2, b3⟩ := hgo.vault h
    refine ⟨fun k => S' k ∨ k = v, ⟨S', b1, fun k => Iff.rfl⟩, fun k s => ?_, b3.more (fun k s => (e k).2 s)⟩
    rcases s with s | s
    · exact (b2 k s).imp (fun s => (e k).2 (Or.inl s)) id
    · exact Or.inl ((e k).2 (Or.inr s))
theorem AP.vault {R : Ending → Prop} (h : AP g d (some (v, y, l, a)) S w) (hc : ∀ S0, VtIn S0 w v g d l a → Calls Tryd.prog f args w fun e w' => R e ∧ VtGo S0 v g d' l' a' w w') :
    Calls Tryd.prog f args w fun e w' => R e ∧ ∃ S', AP g d' (some (v, y, l', a')) S' w' ∧ (∀ k, S' k → S k ∨ w.heap.size ≤ k) ∧ Stays S w w' := by
  obtain ⟨S0, h, e⟩ := h
  refine (hc S0 h).mono fun e' w' ⟨a, hgo⟩ => ⟨a, ?_⟩
  obtain ⟨S', b1, b2, b3⟩ := hgo
  refine ⟨fun k => S' k ∨ k = v, ⟨S', b1, fun k => Iff.rfl⟩, fun k s => ?_, b3.more (fun k s => (e k).2 s)⟩
  rcases s with s | s
  · exact (b2 k s).imp (fun s => (e k).2 (Or.inl s)) id
  · exact Or.inl ((e k).2 (Or.inr s))
theorem BP.rf {e0 : Ending} (h : BP x d o U w) (hc : ∀ T, RefAt T w x d → (∀ k, T k → U k) → Calls Tryd.prog f args w fun e w' => e = e0 ∧ RefGo T x d' w w') :
    Calls Tryd.prog f args w fun e w' => e = e0 ∧ ∃ U', BP x d' o U' w' ∧ (∀ k, U' k → U k ∨ w.heap.size ≤ k) ∧ Stays U w w' := by
  cases o with
  | none => exact (hc U h (fun _ s => s)).mono fun e w' ⟨a, U', b1, b2, b3⟩ => ⟨a, U', b1, b2, b3.more (fun k e => e ▸ RefAt.own h)⟩
  | some p =>
    obtain ⟨v, y, l, a⟩ := p
    obtain ⟨T, sv, hV⟩ := h
    refine (hc T hV.disk hV.sub).mono fun e w' ⟨a, hgo⟩ => ⟨a, ?_⟩
    obtain ⟨T', b1, b2, b3⟩ := hgo
    have hx := hV.disk.own
    have hvx : y ≠ x := fun e => hV.off (e ▸ hx)
    have hT' : ∀ k, k < w.heap.size → ¬ T k → ¬ T' k := fun k hk ht t => (b2 k t).elim ht (fun h => by omega)
    refine ⟨fun k => U k ∨ T' k, ⟨T', sv, b1, fun k t => Or.inr t, Or.inl hV.here, hT' y (hV.dom y hV.here) hV.off, (b3.block y (hV.dom y hV.here) hvx).trans hV.block, ownsRow_stays hV.rows b3 (fun k hk e => (hV.clear k hk).1 (e ▸ hx)), hV.apart, fun k hk => ⟨hT' k (hV.dom k (hV.clear k hk).2) (hV.clear k hk).1, Or.inl (hV.clear k hk).2⟩, fun k u => u.elim (fun u => Nat.lt_of_lt_of_le (hV.dom k u) b3.size) (fun t => b1.dom k t), hV.le, hV.slots⟩, fun k u => ?_, b3.more (fun k e => e ▸ hV.sub x hx)⟩
    rcases u with u | t
    · exact Or.inl u
    · exact (b2 k t).imp (fun t => hV.sub k t) id
theorem BP.vault {R : Ending → Prop} (h : BP x d (some (v, y, l, a)) U w) (hc : RvAt U w y x d l a → Calls Tryd.prog f args w fun e w' => R e ∧ RvGo U y x d' l' a' w w') :
    Calls Tryd.prog f args w fun e w' => R e ∧ ∃ U', BP x d' (some (v, y, l', a')) U' w' ∧ (∀ k, U' k → U k ∨ w.heap.size ≤ k) ∧ Stays U w w' := hc h
theorem AP.drop (h : AP g d o S w) : ∃ S', AP g d none S' w ∧ ∀ k, S' k → S k := by
  cases o with
  | none => exact ⟨S, h, fun _ s => s⟩
  | some p =>
    obtain ⟨v, y, l, a⟩ := p
    obtain ⟨S0, h, e⟩ := h
    exact ⟨S0, h.disk, fun k s => (e k).2 (Or.inl s)⟩
theorem BP.drop (h : BP x d o U w) : ∃ U', BP x d none U' w ∧ ∀ k, U' k → U k := by
  cases o with
  | none => exact ⟨U, h, fun _ s => s⟩
  | some p =>
    obtain ⟨v, y, l, a⟩ := p
    obtain ⟨T, sv, hV⟩ := h
    exact ⟨T, hV.disk, hV.sub⟩
theorem AP.ok (h : AP g d o S w) : d.Ok := by
  obtain ⟨S0, h, -⟩ := h.drop
  exact h.2.1
end
/-- Opening, whatever the power is. -/
def openD (d : DiskM) (l : List SlotV) (r : List (BitVec 8)) : DiskM × Int := if d.down = true then (d, 9) else openVt d l r
def OpI (err : Int) (i : Option Nat) (e : Ending) : Prop := match i with
  | none => err ≠ 0 ∧ e = .returned (.tuple #[.pointer none, .int .i64 err])
  | some v => err = 0 ∧ e = .returned (.tuple #[.pointer (some ⟨v, 0, none⟩), .int .i64 0])
section
variable {g x : Nat} {d : DiskM} {S U : Nat → Prop} {w : World} {l : List SlotV} {r : List (BitVec 8)}
theorem AP.openV (h : AP g d none S w) (hG : ¬ S 0) (hR : Rem w) (hc : d.count < 1000000000) (hV : VtOf (d.files 0).all l r) :
    Calls Tryd.prog 24 #[.pointer (some ⟨g, 0, none⟩)] w fun e w' => ∃ i, OpI (openD d l r).2 i e ∧ ∃ S', AP g (openD d l r).1 (i.map fun v => (v, 0, l, false)) S' w' ∧ (∀ k, S' k → S k ∨ w.heap.size ≤ k) ∧ Stays S w w' := by
  unfold openD
  cases hd : d.down with
  | true =>
    rw [if_pos rfl]
    refine (vtOpen_down S g d w h hd).mono ?_
    rintro e w' ⟨rfl, rfl⟩
    exact ⟨none, ⟨show (9 : Int) ≠ 0 by decide, rfl⟩, S, h, fun k s => Or.inl s, Stays.refl _ _⟩
  | false =>
    rw [if_neg (by decide)]
    refine (vtOpen_any S g d w l r h hd hc hV hR hG).mono ?_
    rintro e w' (⟨h0, v, S', rfl, hv, hI, hS, hst⟩ | ⟨h0, S', rfl, hD, hS, hst⟩)
    · refine ⟨some v, ⟨h0, rfl⟩, fun k => S' k ∨ k = v, ⟨S', hI, fun k => Iff.rfl⟩, fun k s => ?_, hst⟩
      rcases s with s | s
      · exact hS k s
      · exact Or.inr (s ▸ hv)
    · exact ⟨none, ⟨h0, rfl⟩, S', hD, hS, hst⟩
theorem BP.openY (h : BP x d none U w) (hok : d.Ok) (hc : d.count < 999999000) (hV : VtOf (d.files 0).all l r) :
    Calls Tryd.prog 35 #[.pointer (some ⟨x, 0, none⟩)] w fun e w' => ∃ j, OpI (openD d l r).2 j e ∧ ∃ U', BP x (openD d l r).1 (j.map fun y => (0, y, l, false)) U' w' ∧ (∀ k, U' k → U k ∨ w.heap.size ≤ k) ∧ Stays U w w' := by
  unfold openD
  cases hd : d.down with
  | true =>
    rw [if_pos rfl]
    refine (rvOpen_down h hd).mono ?_
    rintro e w' ⟨rfl, rfl⟩
    exact ⟨none, ⟨show (9 : Int) ≠ 0 by decide, rfl⟩, U, h, fun k s => Or.inl s, Stays.refl _ _⟩
  | false =>
    rw [if_neg (by decide)]
    refine (rvOpen_any l r h hok hd hc hV).mono ?_
    rintro e w' (⟨h0, y, U', rfl, -, hI, hS, hst⟩ | ⟨h0, T', rfl, hD, hS, hst⟩)
    · exact ⟨some y, ⟨h0, rfl⟩, U', hI, hS, hst⟩
    · exact ⟨none, ⟨h0, rfl⟩, T', hD, hS, hst⟩
theorem openD_count (d : DiskM) (l : List SlotV) (r : List (BitVec 8)) : (openD d l r).1.count ≤ d.count + 1 := by
  unfold openD openVt
  split
  · exact Nat.le_succ _
  · split
    · exact cut_count _ _ _
    · split
      · exact sync_count _ _
      · exact Nat.le_succ _
end
/-- The pair's block. -/
def pairO (g x : Nat) (o : PairS) : Obj := .cells #[.pointer (some ⟨g, 0, none⟩), .pointer (some ⟨x, 0, none⟩), .pointer (o.map fun p => ⟨p.1, 0, none⟩), .pointer (o.map fun p => ⟨p.2.1, 0, none⟩)] 31 (0, 0)
theorem pair_set {g x q : Nat} {o : PairS} {w : World} {a b : Value} (h : w.heap[q]? = some (pairO g x o)) :
    ((w.setCell ⟨q, 2, none⟩ a).setCell ⟨q, 3, none⟩ b).heap[q]? = some (.cells #[.pointer (some ⟨g, 0, none⟩), .pointer (some ⟨x, 0, none⟩), a, b] 31 (0, 0)) ∧ Stays (fun y => y = q) w ((w.setCell ⟨q, 2, none⟩ a).setCell ⟨q, 3, none⟩ b) := by
  have h1 := heap_setCell_same w q 2 _ _ a h
  have h2 := heap_setCell_same _ q 3 _ _ b h1
  exact ⟨h2.trans rfl, (stays_set w q 2 a).trans (stays_set _ q 3 b) (fun k e _ => e)⟩
set_option maxRecDepth 100000 in
theorem pairOpen_any {g x q lo : Nat} {d : DiskM} {o : PairS} {w : World} {L : List (Nat × Obj)} (h : X2 (AP g d o) (BP x d o) lo w ((q, pairO g x o) :: L)) (hL : ∀ y ∈ L, y.1 ≠ q) (hq : lo ≤ q) (hlo : lo ≤ w.heap.size) (hG : 0 < lo) (hR : Rem w) (hc : d.count < 999999000) :
    Calls Tryd.prog 11 #[.pointer (some ⟨q, 0, none⟩)] w fun e w' => e = .returned (.bool true) ∧ ∃ d' o', d'.count ≤ d.count + 1 ∧ X2 (AP g d' o') (BP x d' o') lo w' ((q, pairO g x o') :: L) ∧ Below lo w w' := by
  obtain ⟨l, r, hV⟩ := vt_ex (d.files 0).all
  have hok : d.Ok := by obtain ⟨S, U, hA, -⟩ := h; exact hA.ok
  have h0 : X2 (AP g d none) (BP x d none) lo w ((q, pairO g x o) :: L) := (((h.weak (fun S h => h.drop)).symm).weak (fun S h => h.drop)).symm
  have HX := Lib.hid h0
  have c0 : w.cell? ⟨q, 0, none⟩ = some (.pointer (some ⟨g, 0, none⟩)) := (cell_of_row _ _ _ _ _ _ (h0.all _ List.mem_cons_self)).trans rfl
  have HLO := Lib.hid hlo
  have HLL := Lib.hid hL
  have HOK := Lib.hid hok
  have HC := Lib.hid (And.intro hc trivial)
  have HV := Lib.hid hV
  have HCT := Lib.hid (openD_count d l r)
  have HO := Lib.hid (h0.goI (C := fun i => AP g (openD d l r).1 (i.map fun v => (v, 0, l, false))) (R := OpI (openD d l r).2) (BP.part x d none) hlo (fun S hA _ hS => AP.openV hA (fun s => by have := hS _ s; omega) hR (by omega) hV))
  clear h h0 hlo hL hok hc hV hR
  go_enter Tryd.func11, Tryd.ntmps11
  go_wp2_with fail
  refine HO.out.mono ?_
  rintro e w1 ⟨i, hi, hx1, hb1⟩
  have HX1 := Lib.hid hx1
  have HB1 := Lib.hid hb1
  have HOY := Lib.hid (hx1.goYI (C := fun j => BP x (openD d l r).1 (j.map fun y => (0, y, l, false))) (R := OpI (openD d l r).2) (AP.part g _ _) (Nat.le_trans HLO.out hb1.size) (fun U hB _ _ => BP.openY hB HOK.out HC.out.1 HV.out))
  have c1 : w1.cell? ⟨q, 1, none⟩ = some (.pointer (some ⟨x, 0, none⟩)) := (cell_of_row _ _ _ _ _ _ (hx1.all _ List.mem_cons_self)).trans rfl
  clear c0 hx1 hb1 HX
  generalize (openD d l r).1 = d' at *
  generalize (openD d l r).2 = err at *
  cases i with
  | none =>
    obtain ⟨he, rfl⟩ := hi
    have HE := Lib.hid he
    have q1 : (err == 0) = false := beq_eq_false_iff_ne.2 he
    have q2 : (err != 0) = true := by simp [he]
    clear he HO
    go_wp2_with fail
    refine HOY.out.mono ?_
    rintro e w2 ⟨j, hj, hx2, hb2⟩
    cases j with
    | some y => exact absurd hj.1 HE.out
    | none =>
      obtain ⟨-, rfl⟩ := hj
      have HX2 := Lib.hid hx2
      have HB2 := Lib.hid (HB1.out.trans hb2)
      have hrow : w2.heap[q]? = some (pairO g x o) := hx2.all _ List.mem_cons_self
      have HRW := Lib.hid hrow
      have t2 : w2.frozen? ⟨q, 2, none⟩ = false := frozen_of_row _ _ _ _ _ hrow
      have t3 : w2.frozen? ⟨q, 3, none⟩ = false := frozen_of_row _ _ _ _ _ hrow
      have c2 : w2.cell? ⟨q, 2, none⟩ = some (.pointer (o.map fun p => ⟨p.1, 0, none⟩)) := (cell_of_row _ _ _ _ _ _ hrow).trans rfl
      have c3 : w2.cell? ⟨q, 3, none⟩ = some (.pointer (o.map fun p => ⟨p.2.1, 0, none⟩)) := (cell_of_row _ _ _ _ _ _ hrow).trans rfl
      clear hx2 hb2 hrow HOY c1 HX1
      go_wp2_with fail
      go_ret
      obtain ⟨s1, s2⟩ := pair_set (a := .pointer none) (b := .pointer none) HRW.out
      refine ⟨rfl, _, none, HCT.out, HX2.out.set (AP.part g _ _) (BP.part x _ _) List.mem_cons_self s2 s1 (fun y hy => ?_), HB2.out.trans (s2.below (fun k e => e ▸ hq) (Nat.le_trans HLO.out HB2.out.size))⟩
      rcases List.mem_cons.1 hy with rfl | hy
      · exact Or.inl rfl
      · exact Or.inr ⟨List.mem_cons_of_mem _ hy, HLL.out y hy⟩
  | some v =>
    obtain ⟨rfl, rfl⟩ := hi
    clear HO
    go_wp2_with fail
    refine HOY.out.mono ?_
    rintro e w2 ⟨j, hj, hx2, hb2⟩
    cases j with
    | none => exact absurd rfl hj.1
    | some y =>
      obtain ⟨-, rfl⟩ := hj
      have HX2 := Lib.hid hx2
      have HB2 := Lib.hid (HB1.out.trans hb2)
      have hrow : w2.heap[q]? = some (pairO g x o) := hx2.all _ List.mem_cons_self
      have HRW := Lib.hid hrow
      have t2 : w2.frozen? ⟨q, 2, none⟩ = false := frozen_of_row _ _ _ _ _ hrow
      have t3 : w2.frozen? ⟨q, 3, none⟩ = false := frozen_of_row _ _ _ _ _ hrow
      have c2 : w2.cell? ⟨q, 2, none⟩ = some (.pointer (o.map fun p => ⟨p.1, 0, none⟩)) := (cell_of_row _ _ _ _ _ _ hrow).trans rfl
      have c3 : w2.cell? ⟨q, 3, none⟩ = some (.pointer (o.map fun p => ⟨p.2.1, 0, none⟩)) := (cell_of_row _ _ _ _ _ _ hrow).trans rfl
      clear hx2 hb2 hrow HOY c1 HX1
      go_wp2_with fail
      go_ret
      obtain ⟨s1, s2⟩ := pair_set (a := .pointer (some ⟨v, 0, none⟩)) (b := .pointer (some ⟨y, 0, none⟩)) HRW.out
      refine ⟨rfl, _, some (v, y, l, false), HCT.out, HX2.out.set (AP.part g _ _) (BP.part x _ _) List.mem_cons_self s2 s1 (fun y hy => ?_), HB2.out.trans (s2.below (fun k e => e ▸ hq) (Nat.le_trans HLO.out HB2.out.size))⟩
      rcases List.mem_cons.1 hy with rfl | hy
      · exact Or.inl rfl
      · exact Or.inr ⟨List.mem_cons_of_mem _ hy, HLL.out y hy⟩
end Go.Proofs.YtoidjapenompiaaDoor

/-
  The pair's calls, its disks.
-/
namespace Go.Proofs.YtoidjapenompiaaDoor
open Go.RowKit Go.Proofs.ShaWords
structure Op11 where
  kind : Int
  n : Int
  m : Int
  key : List (BitVec 8)
  b : List (BitVec 8)
  p : Option Addr
  c : Nat
def Op11.cells (o : Op11) : List Value := [.int .i64 o.kind, .int .i64 o.n, .int .i64 o.m] ++ (bytesV o.key ++ [.slice o.p o.b.length o.c])
structure Op11.Ok (w : World) (o : Op11) : Prop where
  nw : wrap64 o.n = o.n
  mw : wrap64 o.m = o.m
  key : o.key.length = 32
  cap : o.b.length ≤ o.c
  lies : Lies w o.p o.b
theorem Op11.at (o : Op11) (hk : o.key.length = 32) : o.cells.length = 36 ∧ o.cells[0]? = some (.int .i64 o.kind) ∧ o.cells[1]? = some (.int .i64 o.n) ∧ o.cells[2]? = some (.int .i64 o.m) ∧ o.cells[35]? = some (.slice o.p o.b.length o.c) := by
  have h := bytesV_length o.key
  unfold Op11.cells
  refine ⟨by simp [h, hk], rfl, rfl, rfl, ?_⟩
  rw [List.getElem?_append_right (by simp), List.getElem?_append_right (by rw [h, hk]; simp), h, hk]
  rfl
theorem Op11.mid (o : Op11) (hk : o.key.length = 32) : (o.cells.toArray.extract 3 (3 + 32)).toList = bytesV o.key := by
  have h := bytesV_length o.key
  unfold Op11.cells
  simp [h, hk]
theorem run_loadKey3 {ρ : Operand → Value} {o : Oper} {x : Operand} {b : Nat} {op : Op11} {w : World} (ho : o.op = .load 36 x) (hx : ρ x = .pointer (some ⟨b, 3, none⟩)) (hk : op.key.length = 32) (hC : w.heap[b]? = some (.cells op.cells.toArray 39 (0, 0))) :
    (execOp ρ o).run Tryd.prog w = .ok (.value (.agg (bytesV op.key).toArray)) w := by
  have h := World.rangeAt_of_block hC 3 32
  rw [op.mid hk] at h
  have h2 := run_loadAt_mid (P := Tryd.prog) w b 3 36 (bytesV op.key) _ h Tryd.underlying36 rfl (by rw [infoKey _ hk]; simp)
  unfold execOp
  simp only [ho, hx, Sem.run_bind, h2, Result.andThen_ok, Sem.run_pure]
theorem putVt_count (d : DiskM) (l : List SlotV) (a : Bool) (k : List (BitVec 8)) : (putVt d l a k).d.count ≤ d.count + 2 := by
  have h1 := write_count d 0 (slotB (some k) (l.length + 1))
  have h2 := sync_count (d.write 0 (slotB (some k) (l.length + 1))).1 0
  unfold putVt
  split
  · exact Nat.le_add_right _ _
  · split
    · exact Nat.le_add_right _ _
    · split
      · exact Nat.le_succ_of_le h1
      · split
        · exact Nat.le_trans h2 (Nat.succ_le_succ h1)
        · exact Nat.le_trans h2 (Nat.succ_le_succ h1)
theorem zeroVt_count (d : DiskM) (l : List SlotV) (a : Bool) (z : Int) : (zeroVt d l a z).d.count ≤ d.count + 2 := by
  have h1 := over_count d 0 (40 * (z - 1)) (List.replicate 40 0#8)
  unfold zeroVt
  split
  · exact Nat.le_add_right _ _
  · split
    · exact Nat.le_add_right _ _
    · split
      · exact Nat.le_add_right _ _
      · split
        · exact Nat.le_succ_of_le h1
        · exact Nat.le_succ_of_le h1
section
variable {A B : (Nat → Prop) → World → Prop} {lo : Nat} {w : World} {L : List (Nat × Obj)} {v y g x : Nat} {d d1 : DiskM} {l l1 : List SlotV} {a a1 : Bool} {k : List (BitVec 8)} {e1 n z : Int}
theorem X2.putV (h : X2 (AP g d (some (v, y, l, a))) B lo w L) (PB : Part B) (hlo : lo ≤ w.heap.size) (hk : k.length = 32) (hc : d.count < 999999000) (hR : Rem w) (hP : putVt d l a k = ⟨d1, l1, a1, e1⟩) (hn : n = if e1 = 0 then (l1.length : Int) else 0) :
    Calls Tryd.prog 25 #[.pointer (some ⟨v, 0, none⟩), .agg (bytesV k).toArray] w fun e w' => e = .returned (.tuple #[.int .i64 n, .int .i64 e1]) ∧ X2 (AP g d1 (some (v, y, l1, a1))) B lo w' L ∧ Below lo w w' :=
  h.go PB hlo (fun S hA _ _ => hA.vault (fun S0 hI => by
    have h := vtPut_any k w hI hk hc hR
    unfold PutP at h
    rw [hP] at h
    rw [hn]
    exact h))
theorem X2.putY (h : X2 A (BP x d (some (v, y, l, a))) lo w L) (PA : Part A) (hlo : lo ≤ w.heap.size) (hok : d.Ok) (hk : k.length = 32) (hc : d.count < 999999000) (hP : putVt d l a k = ⟨d1, l1, a1, e1⟩) (hn : n = if e1 = 0 then (l1.length : Int) else 0) :
    Calls Tryd.prog 40 #[.pointer (some ⟨y, 0, none⟩), .agg (bytesV k).toArray] w fun e w' => e = .returned (.tuple #[.int .i64 n, .int .i64 e1]) ∧ X2 A (BP x d1 (some (v, y, l1, a1))) lo w' L ∧ Below lo w w' :=
  h.goY PA hlo (fun U hB _ _ => BP.vault (v := v) hB (fun hI => by
    have h := rvPut_any k w hk hok hc hI
    unfold PutR at h
    rw [hP] at h
    rw [hn]
    exact h))
theorem X2.zeroV (h : X2 (AP g d (some (v, y, l, a))) B lo w L) (PB : Part B) (hlo : lo ≤ w.heap.size) (hc : d.count < 999999000) (hP : zeroVt d l a z = ⟨d1, l1, a1, e1⟩) :
    Calls Tryd.prog 27 #[.pointer (some ⟨v, 0, none⟩), .int .i64 z] w fun e w' => e = .returned (.int .i64 e1) ∧ X2 (AP g d1 (some (v, y, l1, a1))) B lo w' L ∧ Below lo w w' :=
  h.go PB hlo (fun S hA _ _ => hA.vault (fun S0 hI => by
    have h := vtZero_any z w hI hc
    unfold ZeroP at h
    rw [hP] at h
    exact h))
theorem X2.zeroY (h : X2 A (BP x d (some (v, y, l, a))) lo w L) (PA : Part A) (hlo : lo ≤ w.heap.size) (hok : d.Ok) (hc : d.count < 999999000) (hP : zeroVt d l a z = ⟨d1, l1, a1, e1⟩) :
    Calls Tryd.prog 41 #[.pointer (some ⟨y, 0, none⟩), .int .i64 z] w fun e w' => e = .returned (.int .i64 e1) ∧ X2 A (BP x d1 (some (v, y, l1, a1))) lo w' L ∧ Below lo w w' :=
  h.goY PA hlo (fun U hB _ _ => BP.vault (v := v) hB (fun hI => by
    have h := rvZero_any z w hok hc hI
    unfold ZeroR at h
    rw [hP] at h
    exact h))
theorem X2.getV (h : X2 (AP g d (some (v, y, l, a))) B lo w L) (z : Int) : Calls Tryd.prog 22 #[.pointer (some ⟨v, 0, none⟩), .int .i64 z] w fun e w' => e = .returned (gvV l z) ∧ Below w.heap.size w w' := by
  obtain ⟨S, U, ⟨S0, hI, -⟩, -⟩ := h
  exact vtGet_any z w hI
theorem X2.getY (h : X2 A (BP x d (some (v, y, l, a))) lo w L) (z : Int) : Calls Tryd.prog 23 #[.pointer (some ⟨y, 0, none⟩), .int .i64 z] w fun e w' => e = .returned (gvV l z) ∧ Below w.heap.size w w' := by
  obtain ⟨S, U, -, hI, -⟩ := h
  exact rvGet_any z w hI
theorem X2.lenV (h : X2 (AP g d (some (v, y, l, a))) B lo w L) : Calls Tryd.prog 29 #[.pointer (some ⟨v, 0, none⟩)] w fun e w' => e = .returned (.int .i64 (l.length : Int)) ∧ w' = w := by
  obtain ⟨S, U, ⟨S0, hI, -⟩, -⟩ := h
  exact vtLen_any w hI
theorem X2.lenY (h : X2 A (BP x d (some (v, y, l, a))) lo w L) : Calls Tryd.prog 21 #[.pointer (some ⟨y, 0, none⟩)] w fun e w' => e = .returned (.int .i64 (l.length : Int)) ∧ w = w' := by
  obtain ⟨S, U, -, hI, -⟩ := h
  exact rvLen_any hI
theorem X2.okA {o : PairS} (h : X2 (AP g d o) B lo w L) : d.Ok := by
  obtain ⟨S, U, hA, -⟩ := h
  exact hA.ok
end
theorem getVt_len {l : List SlotV} (h : ∀ s ∈ l, SlotOk s) (z : Int) : (getVt l z).1.length = 32 := by
  by_cases hz : z < 1 ∨ (l.length : Int) < z
  · rw [getVt_none hz]; rfl
  · obtain ⟨i, rfl⟩ : ∃ i : Nat, z = (i : Int) + 1 := ⟨(z - 1).toNat, by omega⟩
    have hi : i < l.length := by omega
    rw [getVt_at hi]
    cases hs : l[i] with
    | none => rfl
    | some k => exact h _ (List.getElem_mem hi) k hs
theorem X2.slotsA {B : (Nat → Prop) → World → Prop} {lo g v y : Nat} {d : DiskM} {l : List SlotV} {a : Bool} {w : World} {L : List (Nat × Obj)} (h : X2 (AP g d (some (v, y, l, a))) B lo w L) : ∀ s ∈ l, SlotOk s := by
  obtain ⟨S, U, ⟨S0, hI, -⟩, -⟩ := h
  exact hI.slots
/-- What is read amid a call of the pair. -/
def PcS (q b0 g x v y : Nat) (C : Array Value) (w : World) : Prop := w.heap[q]? = some (pairO g x (some (v, y, [], false))) ∧ w.heap[b0]? = some (.cells C 39 (0, 0))
theorem PcS.below {q b0 g x v y : Nat} {C : Array Value} {w w' : World} (h : PcS q b0 g x v y C w) (hb : Below w.heap.size w w') : PcS q b0 g x v y C w' := ⟨(hb.block _ (Array.getElem?_eq_some_iff.1 h.1).1).trans h.1, (hb.block _ (Array.getElem?_eq_some_iff.1 h.2).1).trans h.2⟩
theorem PcS.v {q b0 g x v y : Nat} {C : Array Value} {w : World} (h : PcS q b0 g x v y C w) : w.cell? ⟨q, 2, none⟩ = some (.pointer (some ⟨v, 0, none⟩)) := (cell_of_row _ _ _ _ _ _ h.1).trans rfl
theorem PcS.y {q b0 g x v y : Nat} {C : Array Value} {w : World} (h : PcS q b0 g x v y C w) : w.cell? ⟨q, 3, none⟩ = some (.pointer (some ⟨y, 0, none⟩)) := (cell_of_row _ _ _ _ _ _ h.1).trans rfl
theorem PcS.n {q b0 g x v y : Nat} {op : Op11} {w : World} {C : Array Value} (h : PcS q b0 g x v y C w) (hC : op.cells.toArray = C) (hk : op.key.length = 32) : w.cell? ⟨b0, 1, none⟩ = some (.int .i64 op.n) := by
  have h2 := h.2
  rw [← hC] at h2
  exact (cell_of_row _ _ _ _ _ _ h2).trans (by simpa using (op.at hk).2.2.1)
theorem X2.pc {A B : (Nat → Prop) → World → Prop} {lo : Nat} {w : World} {q b0 g x v y : Nat} {l : List SlotV} {a : Bool} {C : Array Value} (h : X2 A B lo w [(b0, .cells C 39 (0, 0)), (q, pairO g x (some (v, y, l, a)))]) : PcS q b0 g x v y C w := ⟨h.all (q, pairO g x (some (v, y, l, a))) (by simp), h.all (b0, .cells C 39 (0, 0)) (by simp)⟩
section
variable {ρ : Operand → Value} {o : Oper} {x y : Operand}
theorem run_loadPV {a p : Addr} (ho : o.op = .load 28 x) (hx : ρ x = .pointer (some a)) {w : World} (hc : w.cell? a = some (.pointer (some p))) : (execOp ρ o).run Tryd.prog w = .ok (.value (.pointer (some p))) w := by
  obtain ⟨dst, op, ty', pos, after, guard⟩ := o
  simp only at ho
  subst ho
  go_simp
theorem run_loadPY {a p : Addr} (ho : o.op = .load 29 x) (hx : ρ x = .pointer (some a)) {w : World} (hc : w.cell? a = some (.pointer (some p))) : (execOp ρ o).run Tryd.prog w = .ok (.value (.pointer (some p))) w := by
  obtain ⟨dst, op, ty', pos, after, guard⟩ := o
  simp only at ho
  subst ho
  go_simp
theorem run_allocKeyP (ho : o.op = .alloc 36) (w : World) : (execOp ρ o).run Tryd.prog w = .ok (.value (.pointer (some ⟨w.heap.size, 0, none⟩))) (w.alloc (.cells (bytesV (noughts 32)).toArray 36)) := by
  obtain ⟨dst, op, ty', pos, after, guard⟩ := o
  simp only at ho
  subst ho
  kernel_rfl
theorem run_neErrP {n : Int} {ty : TypeId} (ho : o.op = .binOp .neq 43 x y ty) (hx : ρ x = .int .i64 n) (hy : ρ y = .int .i64 n) (w : World) : (execOp ρ o).run Tryd.prog w = .ok (.value (.bool false)) w := by
  obtain ⟨dst, op, ty', pos, after, guard⟩ := o
  simp only at ho
  subst ho
  go_simp
theorem run_eqErrP {n : Int} {ty : TypeId} (ho : o.op = .binOp .eql 43 x y ty) (hx : ρ x = .int .i64 n) (hy : ρ y = .int .i64 n) (w : World) : (execOp ρ o).run Tryd.prog w = .ok (.value (.bool true)) w := by
  obtain ⟨dst, op, ty', pos, after, guard⟩ := o
  simp only at ho
  subst ho
  go_simp
theorem run_eqInP {n : Int} {ty : TypeId} (ho : o.op = .binOp .eql 3 x y ty) (hx : ρ x = .int .i64 n) (hy : ρ y = .int .i64 n) (w : World) : (execOp ρ o).run Tryd.prog w = .ok (.value (.bool true)) w := by
  obtain ⟨dst, op, ty', pos, after, guard⟩ := o
  simp only at ho
  subst ho
  go_simp
end
set_option maxRecDepth 100000 in
theorem pairCall_any {g x q lo : Nat} {d : DiskM} {o : PairS} {op : Op11} {w : World} (h : X2 (AP g d o) (BP x d o) lo w [(q, pairO g x o)]) (hlo : lo ≤ w.heap.size) (hR : Rem w) (hG : 0 < lo) (hc : d.count < 999998000) (hk : op.key.length = 32) :
    Calls Tryd.prog 13 #[.pointer (some ⟨q, 0, none⟩), .agg op.cells.toArray] w fun e w' => e = .returned (.bool true) ∧ ∃ d' o', d'.count ≤ d.count + 2 ∧ X2 (AP g d' o') (BP x d' o') lo w' [(q, pairO g x o')] ∧ Below lo w w' := by
  obtain ⟨C, hC⟩ : ∃ C, op.cells.toArray = C := ⟨_, rfl⟩
  rw [hC]
  have HC := Lib.hid hC
  have HK := Lib.hid hk
  have HX := Lib.hid h
  have HLO := Lib.hid hlo
  have HR := Lib.hid hR
  have HCT := Lib.hid (And.intro hc trivial)
  have HOK := Lib.hid h.okA
  clear h hlo hR hc hk hC
  go_enter Tryd.func13, Tryd.ntmps13
  go_upto_region 1 with fail
  refine wp_gen (fun A => Below w.heap.size w A ∧ A.heap[w.heap.size]? = some (.cells C 39 (0, 0))) ⟨(Below.refl _ _).alloc (Nat.le_refl _) _, heap_new_at rfl⟩ ?_
  rintro A ⟨bA, hA⟩
  obtain ⟨b0, hb0⟩ : ∃ b0, b0 = w.heap.size := ⟨_, rfl⟩
  rw [← hb0] at hA ⊢
  have hx1 : X2 (AP g d o) (BP x d o) lo A ([(b0, .cells C 39 (0, 0))] ++ [(q, pairO g x o)]) := HX.out.add (AP.part g _ _) (BP.part x _ _) bA (fun y hy => by rw [List.mem_singleton.1 hy]; exact ⟨Nat.le_of_eq hb0.symm, hA⟩)
  have HX1 : Hid (X2 (AP g d o) (BP x d o) lo A [(b0, .cells C 39 (0, 0)), (q, pairO g x o)]) := show X2 _ _ _ _ _ from hx1
  have HB1 := Lib.hid (bA.mono HLO.out)
  have hrow : A.heap[q]? = some (pairO g x o) := hx1.all (q, pairO g x o) (by simp)
  have HB0 := Lib.hid hb0
  clear hx1 hA bA HX hb0
  cases o with
  | none =>
    have c2 : A.cell? ⟨q, 2, none⟩ = some (.pointer none) := (cell_of_row _ _ _ _ _ _ hrow).trans rfl
    clear hrow
    go_wp2_with fail
    go_ret
    exact ⟨rfl, d, none, by omega, HX1.out.fewer (by simp), HB1.out⟩
  | some p =>
    obtain ⟨v, y, l, a⟩ := p
    have c2 : A.cell? ⟨q, 2, none⟩ = some (.pointer (some ⟨v, 0, none⟩)) := (cell_of_row _ _ _ _ _ _ hrow).trans rfl
    have c3 : A.cell? ⟨q, 3, none⟩ = some (.pointer (some ⟨y, 0, none⟩)) := (cell_of_row _ _ _ _ _ _ hrow).trans rfl
    clear hrow
    obtain ⟨f0, f1, -, f3⟩ : A.cell? ⟨b0, 0, none⟩ = some (.int .i64 op.kind) ∧ A.cell? ⟨b0, 1, none⟩ = some (.int .i64 op.n) ∧ True ∧ True := by
      have hb := HX1.out.all (b0, .cells C 39 (0, 0)) (by simp)
      rw [← HC.out] at hb
      have h := op.at HK.out
      exact ⟨(cell_of_row _ _ _ _ _ _ hb).trans (by simpa using h.2.1), (cell_of_row _ _ _ _ _ _ hb).trans (by simpa using h.2.2.1), trivial, trivial⟩
    obtain ⟨kd, hkd⟩ : ∃ kd, op.kind = kd := ⟨_, rfl⟩
    rw [hkd] at f0
    clear f3
    go_upto_block 0 with fail
    clear f0 f1
    go_cut [5, 6, 7, 8] (fun _ _ _ _ wx => ∃ d' l' a', d'.count ≤ d.count + 2 ∧ X2 (AP g d' (some (v, y, l', a'))) (BP x d' (some (v, y, l', a'))) lo wx [(b0, .cells C 39 (0, 0)), (q, pairO g x (some (v, y, l, a)))] ∧ Below lo w wx)
    case first =>
      clear c3
      by_cases h0 : kd = 0
      · subst h0
        obtain ⟨⟨d1, l1, a1, e1⟩, hP⟩ : ∃ P, putVt d l a op.key = P := ⟨_, rfl⟩
        obtain ⟨n1, hn⟩ : ∃ n1 : Int, n1 = if e1 = 0 then (l1.length : Int) else 0 := ⟨_, rfl⟩
        have hd1 := putVt_count d l a op.key
        rw [hP] at hd1
        have HD1 : Hid (d1.count ≤ d.count + 2) := show _ ≤ _ from hd1
        have HP := Lib.hid hP
        have HN := Lib.hid hn
        clear hP hn hd1
        go_upto_region 5 with fail
        have HXD := Lib.hid (HX1.out.below (AP.part g _ _) (BP.part x _ _) (Below.refl _ A).drew)
        have HBD : Hid (Below lo w A.drew) := show Below _ _ _ from HB1.out.drew
        refine region_phase (PcS q b0 g x v y C) (fun _ => True) 6 (HXD.out.pc) trivial [(0, .free), (1, .free), (2, .free), (3, .free), (4, .free), (5, .free), (6, .behind), (7, .free), (8, .free), (9, .free), (10, .free), (11, .free)] (by kernel_rfl) (by kernel_rfl) (by kernel_rfl) (by kernel_rfl) (fun ops hops A5 hA => ?_)
        have hsz : A5.tmps.size = 115 := by rw [hA]; rfl
        have base0 : A5.eval (.tmp 0) = .pointer (some ⟨q, 0, none⟩) := by rw [hA]; rfl
        have base3 : A5.eval (.tmp 3) = .pointer (some ⟨b0, 0, none⟩) := by rw [hA]; rfl
        have HAA := Lib.hid hA; clear hA
        obtain ⟨o0, po0, q0, d0, gd0⟩ : ∃ o, ops[0]? = some o ∧ o.op = .move (.tmp 0) ∧ o.dst = some 30 ∧ o.guard = none := ⟨_, by rw [hops]; rfl, rfl, rfl, rfl⟩
        obtain ⟨o1, po1, q1, d1, gd1⟩ : ∃ o, ops[1]? = some o ∧ o.op = .nilCheck (.tmp 30) ∧ o.dst = some 31 ∧ o.guard = none := ⟨_, by rw [hops]; rfl, rfl, rfl, rfl⟩
        obtain ⟨o2, po2, q2, d2, gd2⟩ : ∃ o, ops[2]? = some o ∧ o.op = .fieldAddr 31 (.tmp 31) 2 ∧ o.dst = some 32 ∧ o.guard = none := ⟨_, by rw [hops]; rfl, rfl, rfl, rfl⟩
        obtain ⟨o3, po3, q3, d3, gd3⟩ : ∃ o, ops[3]? = some o ∧ o.op = .load 28 (.tmp 32) ∧ o.dst = some 33 ∧ o.guard = none := ⟨_, by rw [hops]; rfl, rfl, rfl, rfl⟩
        obtain ⟨o4, po4, q4, d4, gd4⟩ : ∃ o, ops[4]? = some o ∧ o.op = .fieldAddr 39 (.tmp 3) 3 ∧ o.dst = some 34 ∧ o.guard = none := ⟨_, by rw [hops]; rfl, rfl, rfl, rfl⟩
        obtain ⟨o5, po5, q5, d5, gd5⟩ : ∃ o, ops[5]? = some o ∧ o.op = .load 36 (.tmp 34) ∧ o.dst = some 35 ∧ o.guard = none := ⟨_, by rw [hops]; rfl, rfl, rfl, rfl⟩
        obtain ⟨o6, po6, q6, d6, gd6⟩ : ∃ o, ops[6]? = some o ∧ o.op = .call { callee := .value (.func 25), args := #[.tmp 33, .tmp 35], argTypes := #[28, 36] } ∧ o.dst = some 36 ∧ o.guard = none := ⟨_, by rw [hops]; rfl, rfl, rfl, rfl⟩
        obtain ⟨o7, po7, q7, d7, gd7⟩ : ∃ o, ops[7]? = some o ∧ o.op = .move (.tmp 36) ∧ o.dst = some 29 ∧ o.guard = none := ⟨_, by rw [hops]; rfl, rfl, rfl, rfl⟩
        obtain ⟨o8, po8, q8, d8, gd8⟩ : ∃ o, ops[8]? = some o ∧ o.op = .extract (.tmp 29) 0 ∧ o.dst = some 37 ∧ o.guard = none := ⟨_, by rw [hops]; rfl, rfl, rfl, rfl⟩
        obtain ⟨o9, po9, q9, d9, gd9⟩ : ∃ o, ops[9]? = some o ∧ o.op = .extract (.tmp 29) 1 ∧ o.dst = some 38 ∧ o.guard = none := ⟨_, by rw [hops]; rfl, rfl, rfl, rfl⟩
        obtain ⟨o10, po10, q10, d10, gd10⟩ : ∃ o, ops[10]? = some o ∧ o.op = .assign (.tmp 37) ∧ o.dst = some 5 ∧ o.guard = none := ⟨_, by rw [hops]; rfl, rfl, rfl, rfl⟩
        obtain ⟨o11, po11, q11, d11, gd11⟩ : ∃ o, ops[11]? = some o ∧ o.op = .assign (.tmp 38) ∧ o.dst = some 6 ∧ o.guard = none := ⟨_, by rw [hops]; rfl, rfl, rfl, rfl⟩
        clear hops
        refine met_free po0 d0 (wanted_of gd0) (fun w' h' => run_move q0 base0 w') ?_
        refine met_free po1 d1 (wanted_of gd1) (fun w' h' => run_nilCheck q1 (eval_same _ _ _ (by rw [hsz]; decide)) w') ?_
        refine met_free po2 d2 (wanted_of gd2) (fun w' h' => run_fieldT (off := 2) q2 (fun _ => by kernel_rfl) (eval_same _ _ _ (by simp only [put_size, hsz]; decide)) w') ?_
        refine met_free po3 d3 (wanted_of gd3) (fun w' h' => run_loadPV q3 (eval_same _ _ _ (by simp only [put_size, hsz]; decide)) h'.v) ?_
        refine met_free po4 d4 (wanted_of gd4) (fun w' h' => run_fieldT (off := 3) q4 (fun _ => by kernel_rfl) ((eval_other _ 33 3 _ (by decide)).trans ((eval_other _ 32 3 _ (by decide)).trans ((eval_other _ 31 3 _ (by decide)).trans ((eval_other _ 30 3 _ (by decide)).trans base3)))) w') ?_
        refine met_free po5 d5 (wanted_of gd5) (fun w' h' => run_loadKey3 q5 (eval_same _ _ _ (by simp only [put_size, hsz]; decide)) HK.out (by rw [HC.out]; exact h'.2)) ?_
        refine m_enter po6 d6 (wanted_of gd6) (run_callf2 q6 rfl ((eval_other _ 35 33 _ (by decide)).trans ((eval_other _ 34 33 _ (by decide)).trans (eval_same _ _ _ (by simp only [put_size, hsz]; decide)))) (eval_same _ _ _ (by simp only [put_size, hsz]; decide)) Tryd.func25 (by kernel_rfl) _) (HXD.out.putV (BP.part x _ _) (Nat.le_trans HLO.out HBD.out.size) HK.out (by have := HCT.out.1; omega) (HR.out.below HBD.out hG) HP.out HN.out) ?_
        rintro e w3 ⟨rfl, hx3, hb3⟩
        have HX3 := Lib.hid hx3
        have HB3 := Lib.hid (HBD.out.trans hb3)
        clear hx3 hb3
        refine ⟨_, rfl, HX3.out.pc, ?_⟩
        refine met_free po7 d7 (wanted_of gd7) (fun w' h' => run_move q7 (eval_same _ _ _ (by simp only [put_size, hsz]; decide)) w') ?_
        refine met_free po8 d8 (wanted_of gd8) (fun w' h' => run_extract q8 (eval_same _ _ _ (by simp only [put_size, hsz]; decide)) rfl w') ?_
        refine met_free po9 d9 (wanted_of gd9) (fun w' h' => run_extract q9 ((eval_other _ 37 29 _ (by decide)).trans (eval_same _ _ _ (by simp only [put_size, hsz]; decide))) rfl w') ?_
        refine met_free po10 d10 (wanted_of gd10) (fun w' h' => run_assign q10 ((eval_other _ 38 37 _ (by decide)).trans (eval_same _ _ _ (by simp only [put_size, hsz]; decide))) w') ?_
        refine met_free po11 d11 (wanted_of gd11) (fun w' h' => run_assign q11 ((eval_other _ 5 38 _ (by decide)).trans (eval_same _ _ _ (by simp only [put_size, hsz]; decide))) w') ?_
        show NoPanic _ .normal _ _
        refine NoPanic.normal ?_
        rw [HAA.out]
        go_frame
        clear HAA
        clear po0 q0 d0 gd0 po1 q1 d1 gd1 po2 q2 d2 gd2 po3 q3 d3 gd3 po4 q4 d4 gd4 po5 q5 d5 gd5 po6 q6 d6 gd6 po7 q7 d7 gd7 po8 q8 d8 gd8 po9 q9 d9 gd9 po10 q10 d10 gd10 po11 q11 d11 gd11
        clear base0 base3 hsz
        have HXE := Lib.hid (HX3.out.below (AP.part g _ _) (BP.part x _ _) (Below.refl _ w3).drew)
        have HBE : Hid (Below lo w w3.drew) := show Below _ _ _ from HB3.out.drew
        clear HXD HBD HX3 HB3 HX1 HB1 c2
        go_upto_region 6 with fail
        refine region_phase (PcS q b0 g x v y C) (fun _ => True) 6 (HXE.out.pc) trivial [(0, .free), (1, .free), (2, .free), (3, .free), (4, .free), (5, .free), (6, .behind), (7, .free), (8, .free), (9, .free), (10, .free), (11, .free)] (by kernel_rfl) (by kernel_rfl) (by kernel_rfl) (by kernel_rfl) (fun ops hops A6 hA => ?_)
        have hsz : A6.tmps.size = 115 := by rw [hA]; rfl
        have base0 : A6.eval (.tmp 0) = .pointer (some ⟨q, 0, none⟩) := by rw [hA]; rfl
        have base3 : A6.eval (.tmp 3) = .pointer (some ⟨b0, 0, none⟩) := by rw [hA]; rfl
        have HAA := Lib.hid hA; clear hA
        obtain ⟨o0, po0, q0, d0, gd0⟩ : ∃ o, ops[0]? = some o ∧ o.op = .move (.tmp 0) ∧ o.dst = some 40 ∧ o.guard = none := ⟨_, by rw [hops]; rfl, rfl, rfl, rfl⟩
        obtain ⟨o1, po1, q1, d1, gd1⟩ : ∃ o, ops[1]? = some o ∧ o.op = .nilCheck (.tmp 40) ∧ o.dst = some 41 ∧ o.guard = none := ⟨_, by rw [hops]; rfl, rfl, rfl, rfl⟩
        obtain ⟨o2, po2, q2, d2, gd2⟩ : ∃ o, ops[2]? = some o ∧ o.op = .fieldAddr 31 (.tmp 41) 3 ∧ o.dst = some 42 ∧ o.guard = none := ⟨_, by rw [hops]; rfl, rfl, rfl, rfl⟩
        obtain ⟨o3, po3, q3, d3, gd3⟩ : ∃ o, ops[3]? = some o ∧ o.op = .load 29 (.tmp 42) ∧ o.dst = some 43 ∧ o.guard = none := ⟨_, by rw [hops]; rfl, rfl, rfl, rfl⟩
        obtain ⟨o4, po4, q4, d4, gd4⟩ : ∃ o, ops[4]? = some o ∧ o.op = .fieldAddr 39 (.tmp 3) 3 ∧ o.dst = some 44 ∧ o.guard = none := ⟨_, by rw [hops]; rfl, rfl, rfl, rfl⟩
        obtain ⟨o5, po5, q5, d5, gd5⟩ : ∃ o, ops[5]? = some o ∧ o.op = .load 36 (.tmp 44) ∧ o.dst = some 45 ∧ o.guard = none := ⟨_, by rw [hops]; rfl, rfl, rfl, rfl⟩
        obtain ⟨o6, po6, q6, d6, gd6⟩ : ∃ o, ops[6]? = some o ∧ o.op = .call { callee := .value (.func 40), args := #[.tmp 43, .tmp 45], argTypes := #[29, 36] } ∧ o.dst = some 46 ∧ o.guard = none := ⟨_, by rw [hops]; rfl, rfl, rfl, rfl⟩
        obtain ⟨o7, po7, q7, d7, gd7⟩ : ∃ o, ops[7]? = some o ∧ o.op = .move (.tmp 46) ∧ o.dst = some 39 ∧ o.guard = none := ⟨_, by rw [hops]; rfl, rfl, rfl, rfl⟩
        obtain ⟨o8, po8, q8, d8, gd8⟩ : ∃ o, ops[8]? = some o ∧ o.op = .extract (.tmp 39) 0 ∧ o.dst = some 47 ∧ o.guard = none := ⟨_, by rw [hops]; rfl, rfl, rfl, rfl⟩
        obtain ⟨o9, po9, q9, d9, gd9⟩ : ∃ o, ops[9]? = some o ∧ o.op = .extract (.tmp 39) 1 ∧ o.dst = some 48 ∧ o.guard = none := ⟨_, by rw [hops]; rfl, rfl, rfl, rfl⟩
        obtain ⟨o10, po10, q10, d10, gd10⟩ : ∃ o, ops[10]? = some o ∧ o.op = .assign (.tmp 47) ∧ o.dst = some 7 ∧ o.guard = none := ⟨_, by rw [hops]; rfl, rfl, rfl, rfl⟩
        obtain ⟨o11, po11, q11, d11, gd11⟩ : ∃ o, ops[11]? = some o ∧ o.op = .assign (.tmp 48) ∧ o.dst = some 8 ∧ o.guard = none := ⟨_, by rw [hops]; rfl, rfl, rfl, rfl⟩
        clear hops
        refine met_free po0 d0 (wanted_of gd0) (fun w' h' => run_move q0 base0 w') ?_
        refine met_free po1 d1 (wanted_of gd1) (fun w' h' => run_nilCheck q1 (eval_same _ _ _ (by rw [hsz]; decide)) w') ?_
        refine met_free po2 d2 (wanted_of gd2) (fun w' h' => run_fieldT (off := 3) q2 (fun _ => by kernel_rfl) (eval_same _ _ _ (by simp only [put_size, hsz]; decide)) w') ?_
        refine met_free po3 d3 (wanted_of gd3) (fun w' h' => run_loadPY q3 (eval_same _ _ _ (by simp only [put_size, hsz]; decide)) h'.y) ?_
        refine met_free po4 d4 (wanted_of gd4) (fun w' h' => run_fieldT (off := 3) q4 (fun _ => by kernel_rfl) ((eval_other _ 43 3 _ (by decide)).trans ((eval_other _ 42 3 _ (by decide)).trans ((eval_other _ 41 3 _ (by decide)).trans ((eval_other _ 40 3 _ (by decide)).trans base3)))) w') ?_
        refine met_free po5 d5 (wanted_of gd5) (fun w' h' => run_loadKey3 q5 (eval_same _ _ _ (by simp only [put_size, hsz]; decide)) HK.out (by rw [HC.out]; exact h'.2)) ?_
        refine m_enter po6 d6 (wanted_of gd6) (run_callf2 q6 rfl ((eval_other _ 45 43 _ (by decide)).trans ((eval_other _ 44 43 _ (by decide)).trans (eval_same _ _ _ (by simp only [put_size, hsz]; decide)))) (eval_same _ _ _ (by simp only [put_size, hsz]; decide)) Tryd.func40 (by kernel_rfl) _) (HXE.out.putY (AP.part g _ _) (Nat.le_trans HLO.out HBE.out.size) HOK.out HK.out (by have := HCT.out.1; omega) HP.out HN.out) ?_
        rintro e w4 ⟨rfl, hx4, hb4⟩
        have HX4 := Lib.hid hx4
        have HB4 := Lib.hid (HBE.out.trans hb4)
        clear hx4 hb4
        refine ⟨_, rfl, HX4.out.pc, ?_⟩
        refine met_free po7 d7 (wanted_of gd7) (fun w' h' => run_move q7 (eval_same _ _ _ (by simp only [put_size, hsz]; decide)) w') ?_
        refine met_free po8 d8 (wanted_of gd8) (fun w' h' => run_extract q8 (eval_same _ _ _ (by simp only [put_size, hsz]; decide)) rfl w') ?_
        refine met_free po9 d9 (wanted_of gd9) (fun w' h' => run_extract q9 ((eval_other _ 47 39 _ (by decide)).trans (eval_same _ _ _ (by simp only [put_size, hsz]; decide))) rfl w') ?_
        refine met_free po10 d10 (wanted_of gd10) (fun w' h' => run_assign q10 ((eval_other _ 48 47 _ (by decide)).trans (eval_same _ _ _ (by simp only [put_size, hsz]; decide))) w') ?_
        refine met_free po11 d11 (wanted_of gd11) (fun w' h' => run_assign q11 ((eval_other _ 7 48 _ (by decide)).trans (eval_same _ _ _ (by simp only [put_size, hsz]; decide))) w') ?_
        show NoPanic _ .normal _ _
        refine NoPanic.normal ?_
        rw [HAA.out]
        go_frame
        clear HAA
        clear po0 q0 d0 gd0 po1 q1 d1 gd1 po2 q2 d2 gd2 po3 q3 d3 gd3 po4 q4 d4 gd4 po5 q5 d5 gd5 po6 q6 d6 gd6 po7 q7 d7 gd7 po8 q8 d8 gd8 po9 q9 d9 gd9 po10 q10 d10 gd10 po11 q11 d11 gd11
        clear base0 base3 hsz
        go_wp2_with fail
        go_meet
        exact ⟨d1, l1, a1, HD1.out, HX4.out, HB4.out⟩
      · have q0 : (kd == 0) = false := beq_eq_false_iff_ne.2 h0
        clear h0
        by_cases h1 : kd = 1
        · subst h1
          obtain ⟨⟨d1, l1, a1, e1⟩, hP⟩ : ∃ P, zeroVt d l a op.n = P := ⟨_, rfl⟩
          have hd1 := zeroVt_count d l a op.n
          rw [hP] at hd1
          have HD1 : Hid (d1.count ≤ d.count + 2) := show _ ≤ _ from hd1
          have HP := Lib.hid hP
          clear hP hd1 q0
          go_upto_region 10 with fail
          have HXD := Lib.hid (HX1.out.below (AP.part g _ _) (BP.part x _ _) (Below.refl _ A).drew)
          have HBD : Hid (Below lo w A.drew) := show Below _ _ _ from HB1.out.drew
          refine region_phase (PcS q b0 g x v y C) (fun _ => True) 99 (HXD.out.pc) trivial [(0, .free), (1, .free), (2, .free), (3, .free), (4, .free), (5, .free), (7, .free), (8, .free), (9, .free), (10, .free), (11, .free), (12, .free), (6, .behind), (13, .behind), (14, .free)] (by kernel_rfl) (by kernel_rfl) (by kernel_rfl) (by kernel_rfl) (fun ops hops A10 hA => ?_)
          have hsz : A10.tmps.size = 115 := by rw [hA]; rfl
          have base0 : A10.eval (.tmp 0) = .pointer (some ⟨q, 0, none⟩) := by rw [hA]; rfl
          have base3 : A10.eval (.tmp 3) = .pointer (some ⟨b0, 0, none⟩) := by rw [hA]; rfl
          have HAA := Lib.hid hA; clear hA
          obtain ⟨o0, po0, q0, d0, gd0⟩ : ∃ o, ops[0]? = some o ∧ o.op = .move (.tmp 0) ∧ o.dst = some 59 ∧ o.guard = none := ⟨_, by rw [hops]; rfl, rfl, rfl, rfl⟩
          obtain ⟨o1, po1, q1, d1, gd1⟩ : ∃ o, ops[1]? = some o ∧ o.op = .nilCheck (.tmp 59) ∧ o.dst = some 60 ∧ o.guard = none := ⟨_, by rw [hops]; rfl, rfl, rfl, rfl⟩
          obtain ⟨o2, po2, q2, d2, gd2⟩ : ∃ o, ops[2]? = some o ∧ o.op = .fieldAddr 31 (.tmp 60) 2 ∧ o.dst = some 61 ∧ o.guard = none := ⟨_, by rw [hops]; rfl, rfl, rfl, rfl⟩
          obtain ⟨o3, po3, q3, d3, gd3⟩ : ∃ o, ops[3]? = some o ∧ o.op = .load 28 (.tmp 61) ∧ o.dst = some 62 ∧ o.guard = none := ⟨_, by rw [hops]; rfl, rfl, rfl, rfl⟩
          obtain ⟨o4, po4, q4, d4, gd4⟩ : ∃ o, ops[4]? = some o ∧ o.op = .fieldAddr 39 (.tmp 3) 1 ∧ o.dst = some 63 ∧ o.guard = none := ⟨_, by rw [hops]; rfl, rfl, rfl, rfl⟩
          obtain ⟨o5, po5, q5, d5, gd5⟩ : ∃ o, ops[5]? = some o ∧ o.op = .load 3 (.tmp 63) ∧ o.dst = some 64 ∧ o.guard = none := ⟨_, by rw [hops]; rfl, rfl, rfl, rfl⟩
          obtain ⟨o6, po6, q6, d6, gd6⟩ : ∃ o, ops[6]? = some o ∧ o.op = .call { callee := .value (.func 27), args := #[.tmp 62, .tmp 64], argTypes := #[28, 3] } ∧ o.dst = some 65 ∧ o.guard = none := ⟨_, by rw [hops]; rfl, rfl, rfl, rfl⟩
          obtain ⟨o7, po7, q7, d7, gd7⟩ : ∃ o, ops[7]? = some o ∧ o.op = .move (.tmp 0) ∧ o.dst = some 66 ∧ o.guard = none := ⟨_, by rw [hops]; rfl, rfl, rfl, rfl⟩
          obtain ⟨o8, po8, q8, d8, gd8⟩ : ∃ o, ops[8]? = some o ∧ o.op = .nilCheck (.tmp 66) ∧ o.dst = some 67 ∧ o.guard = none := ⟨_, by rw [hops]; rfl, rfl, rfl, rfl⟩
          obtain ⟨o9, po9, q9, d9, gd9⟩ : ∃ o, ops[9]? = some o ∧ o.op = .fieldAddr 31 (.tmp 67) 3 ∧ o.dst = some 68 ∧ o.guard = none := ⟨_, by rw [hops]; rfl, rfl, rfl, rfl⟩
          obtain ⟨o10, po10, q10, d10, gd10⟩ : ∃ o, ops[10]? = some o ∧ o.op = .load 29 (.tmp 68) ∧ o.dst = some 69 ∧ o.guard = none := ⟨_, by rw [hops]; rfl, rfl, rfl, rfl⟩
          obtain ⟨o11, po11, q11, d11, gd11⟩ : ∃ o, ops[11]? = some o ∧ o.op = .fieldAddr 39 (.tmp 3) 1 ∧ o.dst = some 70 ∧ o.guard = none := ⟨_, by rw [hops]; rfl, rfl, rfl, rfl⟩
          obtain ⟨o12, po12, q12, d12, gd12⟩ : ∃ o, ops[12]? = some o ∧ o.op = .load 3 (.tmp 70) ∧ o.dst = some 71 ∧ o.guard = none := ⟨_, by rw [hops]; rfl, rfl, rfl, rfl⟩
          obtain ⟨o13, po13, q13, d13, gd13⟩ : ∃ o, ops[13]? = some o ∧ o.op = .call { callee := .value (.func 41), args := #[.tmp 69, .tmp 71], argTypes := #[29, 3] } ∧ o.dst = some 72 ∧ o.guard = none := ⟨_, by rw [hops]; rfl, rfl, rfl, rfl⟩
          obtain ⟨o14, po14, q14, d14, gd14⟩ : ∃ o, ops[14]? = some o ∧ o.op = .binOp .neq 43 (.tmp 65) (.tmp 72) 43 ∧ o.dst = some 73 ∧ o.guard = none := ⟨_, by rw [hops]; rfl, rfl, rfl, rfl⟩
          clear hops
          refine met_free po0 d0 (wanted_of gd0) (fun w' h' => run_move q0 base0 w') ?_
          refine met_free po1 d1 (wanted_of gd1) (fun w' h' => run_nilCheck q1 (eval_same _ _ _ (by rw [hsz]; decide)) w') ?_
          refine met_free po2 d2 (wanted_of gd2) (fun w' h' => run_fieldT (off := 2) q2 (fun _ => by kernel_rfl) (eval_same _ _ _ (by simp only [put_size, hsz]; decide)) w') ?_
          refine met_free po3 d3 (wanted_of gd3) (fun w' h' => run_loadPV q3 (eval_same _ _ _ (by simp only [put_size, hsz]; decide)) h'.v) ?_
          refine met_free po4 d4 (wanted_of gd4) (fun w' h' => run_fieldT (off := 1) q4 (fun _ => by kernel_rfl) ((eval_other _ 62 3 _ (by decide)).trans ((eval_other _ 61 3 _ (by decide)).trans ((eval_other _ 60 3 _ (by decide)).trans ((eval_other _ 59 3 _ (by decide)).trans base3)))) w') ?_
          refine met_free po5 d5 (wanted_of gd5) (fun w' h' => run_loadI3V q5 (eval_same _ _ _ (by simp only [put_size, hsz]; decide)) (h'.n HC.out HK.out)) ?_
          refine met_free po7 d7 (wanted_of gd7) (fun w' h' => run_move q7 ((eval_other _ 64 0 _ (by decide)).trans ((eval_other _ 63 0 _ (by decide)).trans ((eval_other _ 62 0 _ (by decide)).trans ((eval_other _ 61 0 _ (by decide)).trans ((eval_other _ 60 0 _ (by decide)).trans ((eval_other _ 59 0 _ (by decide)).trans base0)))))) w') ?_
          refine met_free po8 d8 (wanted_of gd8) (fun w' h' => run_nilCheck q8 (eval_same _ _ _ (by simp only [put_size, hsz]; decide)) w') ?_
          refine met_free po9 d9 (wanted_of gd9) (fun w' h' => run_fieldT (off := 3) q9 (fun _ => by kernel_rfl) (eval_same _ _ _ (by simp only [put_size, hsz]; decide)) w') ?_
          refine met_free po10 d10 (wanted_of gd10) (fun w' h' => run_loadPY q10 (eval_same _ _ _ (by simp only [put_size, hsz]; decide)) h'.y) ?_
          refine met_free po11 d11 (wanted_of gd11) (fun w' h' => run_fieldT (off := 1) q11 (fun _ => by kernel_rfl) ((eval_other _ 69 3 _ (by decide)).trans ((eval_other _ 68 3 _ (by decide)).trans ((eval_other _ 67 3 _ (by decide)).trans ((eval_other _ 66 3 _ (by decide)).trans ((eval_other _ 64 3 _ (by decide)).trans ((eval_other _ 63 3 _ (by decide)).trans ((eval_other _ 62 3 _ (by decide)).trans ((eval_other _ 61 3 _ (by decide)).trans ((eval_other _ 60 3 _ (by decide)).trans ((eval_other _ 59 3 _ (by decide)).trans base3)))))))))) w') ?_
          refine met_free po12 d12 (wanted_of gd12) (fun w' h' => run_loadI3V q12 (eval_same _ _ _ (by simp only [put_size, hsz]; decide)) (h'.n HC.out HK.out)) ?_
          refine m_enter po6 d6 (wanted_of gd6) (run_callf2 q6 rfl ((eval_other _ 71 62 _ (by decide)).trans ((eval_other _ 70 62 _ (by decide)).trans ((eval_other _ 69 62 _ (by decide)).trans ((eval_other _ 68 62 _ (by decide)).trans ((eval_other _ 67 62 _ (by decide)).trans ((eval_other _ 66 62 _ (by decide)).trans ((eval_other _ 64 62 _ (by decide)).trans ((eval_other _ 63 62 _ (by decide)).trans (eval_same _ _ _ (by simp only [put_size, hsz]; decide)))))))))) ((eval_other _ 71 64 _ (by decide)).trans ((eval_other _ 70 64 _ (by decide)).trans ((eval_other _ 69 64 _ (by decide)).trans ((eval_other _ 68 64 _ (by decide)).trans ((eval_other _ 67 64 _ (by decide)).trans ((eval_other _ 66 64 _ (by decide)).trans (eval_same _ _ _ (by simp only [put_size, hsz]; decide)))))))) Tryd.func27 (by kernel_rfl) _) (HXD.out.zeroV (BP.part x _ _) (Nat.le_trans HLO.out HBD.out.size) (by have := HCT.out.1; omega) HP.out) ?_
          rintro e w3 ⟨rfl, hx3, hb3⟩
          have HX3 := Lib.hid hx3
          have HB3 := Lib.hid (HBD.out.trans hb3)
          clear hx3 hb3
          refine ⟨_, rfl, HX3.out.pc, ?_⟩
          refine m_enter po13 d13 (wanted_of gd13) (run_callf2 q13 rfl ((eval_other _ 65 69 _ (by decide)).trans ((eval_other _ 71 69 _ (by decide)).trans ((eval_other _ 70 69 _ (by decide)).trans (eval_same _ _ _ (by simp only [put_size, hsz]; decide))))) ((eval_other _ 65 71 _ (by decide)).trans (eval_same _ _ _ (by simp only [put_size, hsz]; decide))) Tryd.func41 (by kernel_rfl) _) (HX3.out.zeroY (AP.part g _ _) (Nat.le_trans HLO.out HB3.out.size) HOK.out (by have := HCT.out.1; omega) HP.out) ?_
          rintro e w4 ⟨rfl, hx4, hb4⟩
          have HX4 := Lib.hid hx4
          have HB4 := Lib.hid (HB3.out.trans hb4)
          clear hx4 hb4
          refine ⟨_, rfl, HX4.out.pc, ?_⟩
          refine met_free po14 d14 (wanted_of gd14) (fun w' h' => run_neErrP q14 ((eval_other _ 72 65 _ (by decide)).trans (eval_same _ _ _ (by simp only [put_size, hsz]; decide))) (eval_same _ _ _ (by simp only [put_size, hsz]; decide)) w') ?_
          show NoPanic _ .normal _ _
          refine NoPanic.normal ?_
          rw [HAA.out]
          go_frame
          clear HAA
          clear po0 q0 d0 gd0 po1 q1 d1 gd1 po2 q2 d2 gd2 po3 q3 d3 gd3 po4 q4 d4 gd4 po5 q5 d5 gd5 po6 q6 d6 gd6 po7 q7 d7 gd7 po8 q8 d8 gd8 po9 q9 d9 gd9 po10 q10 d10 gd10 po11 q11 d11 gd11 po12 q12 d12 gd12 po13 q13 d13 gd13 po14 q14 d14 gd14
          clear base0 base3 hsz
          go_wp2_with fail
          go_meet
          exact ⟨d1, l1, a1, HD1.out, HX4.out, HB4.out⟩
        · have q1 : (kd == 1) = false := beq_eq_false_iff_ne.2 h1
          clear h1
          go_wp2_with fail
          go_meet
          exact ⟨d, l, a, by omega, HX1.out, HB1.out⟩
    case rest =>
      clear HX1 HB1 c2 c3
      obtain ⟨d2, l2, a2, hd2, hx2, hb2⟩ := hcut
      have HX2 := Lib.hid hx2
      have HB2 := Lib.hid hb2
      have HD2 := Lib.hid (And.intro hd2 trivial)
      clear hx2 hb2 hd2
      have HSL : Hid (∀ s ∈ l2, SlotOk s) := show ∀ _ ∈ _, _ from HX2.out.slotsA
      obtain ⟨gk, ge, hgv, hgl⟩ : ∃ gk ge, gvV l2 op.n = .tuple #[.agg (bytesV gk).toArray, .int .i64 ge] ∧ gk.length = 32 := ⟨_, _, rfl, getVt_len HSL.out op.n⟩
      have HGV := Lib.hid hgv
      have HGL := Lib.hid hgl
      clear hgv hgl HSL
      obtain ⟨W1, hW1⟩ : ∃ W1, W1 = wc := ⟨_, rfl⟩
      subst hW1
      have HXW := HX2
      have HPC := Lib.hid HX2.out.pc
      go_upto_region 12 with fail
      go_cut [9, 10] (fun s9 s10 wx => ∃ T : Nat, s9 = .pointer (some ⟨T, 0, none⟩) ∧ s10 = .int .i64 ge ∧ W1.heap.size ≤ T ∧ BytesAt wx T 36 gk ∧ Below W1.heap.size W1 wx)
      case first =>
        refine region_tree (PcS q b0 g x v y C) (HPC.out.below (Below.refl _ W1).drew) (.pure 0 (.pure 1 (.pure 2 (.pure 3 (.pure 4 (.pure 5 (.two 6 10 (.pure 7 (.pure 8 (.pure 9 (.one 10 (.one 11 (.pure 12 .nil)))))) (.one 6 (.pure 7 (.pure 8 (.pure 9 (.one 11 (.pure 12 .nil))))))))))))) (by kernel_rfl) (by kernel_rfl) (by kernel_rfl) (fun ops hops A12 hA => ?_)
        have hsz : A12.tmps.size = 115 := by rw [hA]; rfl
        have base0 : A12.eval (.tmp 0) = .pointer (some ⟨q, 0, none⟩) := by rw [hA]; rfl
        have base3 : A12.eval (.tmp 3) = .pointer (some ⟨b0, 0, none⟩) := by rw [hA]; rfl
        have HAA := Lib.hid hA; clear hA
        obtain ⟨o0, po0, q0, d0, gd0⟩ : ∃ o, ops[0]? = some o ∧ o.op = .move (.tmp 0) ∧ o.dst = some 75 ∧ o.guard = none := ⟨_, by rw [hops]; rfl, rfl, rfl, rfl⟩
        obtain ⟨o1, po1, q1, d1, gd1⟩ : ∃ o, ops[1]? = some o ∧ o.op = .nilCheck (.tmp 75) ∧ o.dst = some 76 ∧ o.guard = none := ⟨_, by rw [hops]; rfl, rfl, rfl, rfl⟩
        obtain ⟨o2, po2, q2, d2, gd2⟩ : ∃ o, ops[2]? = some o ∧ o.op = .fieldAddr 31 (.tmp 76) 2 ∧ o.dst = some 77 ∧ o.guard = none := ⟨_, by rw [hops]; rfl, rfl, rfl, rfl⟩
        obtain ⟨o3, po3, q3, d3, gd3⟩ : ∃ o, ops[3]? = some o ∧ o.op = .load 28 (.tmp 77) ∧ o.dst = some 78 ∧ o.guard = none := ⟨_, by rw [hops]; rfl, rfl, rfl, rfl⟩
        obtain ⟨o4, po4, q4, d4, gd4⟩ : ∃ o, ops[4]? = some o ∧ o.op = .fieldAddr 39 (.tmp 3) 1 ∧ o.dst = some 79 ∧ o.guard = none := ⟨_, by rw [hops]; rfl, rfl, rfl, rfl⟩
        obtain ⟨o5, po5, q5, d5, gd5⟩ : ∃ o, ops[5]? = some o ∧ o.op = .load 3 (.tmp 79) ∧ o.dst = some 80 ∧ o.guard = none := ⟨_, by rw [hops]; rfl, rfl, rfl, rfl⟩
        obtain ⟨o6, po6, q6, d6, gd6⟩ : ∃ o, ops[6]? = some o ∧ o.op = .call { callee := .value (.func 22), args := #[.tmp 78, .tmp 80], argTypes := #[28, 3] } ∧ o.dst = some 81 ∧ o.guard = none := ⟨_, by rw [hops]; rfl, rfl, rfl, rfl⟩
        obtain ⟨o7, po7, q7, d7, gd7⟩ : ∃ o, ops[7]? = some o ∧ o.op = .move (.tmp 81) ∧ o.dst = some 74 ∧ o.guard = none := ⟨_, by rw [hops]; rfl, rfl, rfl, rfl⟩
        obtain ⟨o8, po8, q8, d8, gd8⟩ : ∃ o, ops[8]? = some o ∧ o.op = .extract (.tmp 74) 0 ∧ o.dst = some 82 ∧ o.guard = none := ⟨_, by rw [hops]; rfl, rfl, rfl, rfl⟩
        obtain ⟨o9, po9, q9, d9, gd9⟩ : ∃ o, ops[9]? = some o ∧ o.op = .extract (.tmp 74) 1 ∧ o.dst = some 83 ∧ o.guard = none := ⟨_, by rw [hops]; rfl, rfl, rfl, rfl⟩
        obtain ⟨o10, po10, q10, d10, gd10⟩ : ∃ o, ops[10]? = some o ∧ o.op = .alloc 36 ∧ o.dst = some 9 ∧ o.guard = none := ⟨_, by rw [hops]; rfl, rfl, rfl, rfl⟩
        obtain ⟨o11, po11, q11, d11, gd11⟩ : ∃ o, ops[11]? = some o ∧ o.op = .store 36 (.tmp 9) (.tmp 82) ∧ o.dst = none ∧ o.guard = none := ⟨_, by rw [hops]; rfl, rfl, rfl, rfl⟩
        obtain ⟨o12, po12, q12, d12, gd12⟩ : ∃ o, ops[12]? = some o ∧ o.op = .assign (.tmp 83) ∧ o.dst = some 10 ∧ o.guard = none := ⟨_, by rw [hops]; rfl, rfl, rfl, rfl⟩
        clear hops
        refine Tr.takes po0 d0 (wanted_of gd0) (fun w' h' => run_move q0 base0 w') ?_
        refine Tr.takes po1 d1 (wanted_of gd1) (fun w' h' => run_nilCheck q1 (eval_same _ _ _ (by rw [hsz]; decide)) w') ?_
        refine Tr.takes po2 d2 (wanted_of gd2) (fun w' h' => run_fieldT (off := 2) q2 (fun _ => by kernel_rfl) (eval_same _ _ _ (by simp only [put_size, hsz]; decide)) w') ?_
        refine Tr.takes po3 d3 (wanted_of gd3) (fun w' h' => run_loadPV q3 (eval_same _ _ _ (by simp only [put_size, hsz]; decide)) h'.v) ?_
        refine Tr.takes po4 d4 (wanted_of gd4) (fun w' h' => run_fieldT (off := 1) q4 (fun _ => by kernel_rfl) ((eval_other _ 78 3 _ (by decide)).trans ((eval_other _ 77 3 _ (by decide)).trans ((eval_other _ 76 3 _ (by decide)).trans ((eval_other _ 75 3 _ (by decide)).trans base3)))) w') ?_
        refine Tr.takes po5 d5 (wanted_of gd5) (fun w' h' => run_loadI3V q5 (eval_same _ _ _ (by simp only [put_size, hsz]; decide)) (h'.n HC.out HK.out)) ?_
        refine ⟨?_, ?_⟩
        · have _t := trivial
          refine t_enterV po6 d6 (wanted_of gd6) (run_callf2 q6 rfl ((eval_other _ 80 78 _ (by decide)).trans ((eval_other _ 79 78 _ (by decide)).trans (eval_same _ _ _ (by simp only [put_size, hsz]; decide)))) (eval_same _ _ _ (by simp only [put_size, hsz]; decide)) Tryd.func22 (by kernel_rfl) _) ((HXW.out.below (AP.part g _ _) (BP.part x _ _) (Below.refl _ W1).drew).getV op.n) ?_
          rintro e w3 ⟨rfl, b2⟩
          rw [HGV.out]
          have HB3 : Hid (Below W1.heap.size W1 w3) := show Below _ _ _ from (Below.refl _ W1).drew.trans b2
          clear b2
          refine ⟨_, rfl, HPC.out.below HB3.out, ?_⟩
          refine Tr.takes po7 d7 (wanted_of gd7) (fun w' h' => run_move q7 (eval_same _ _ _ (by simp only [put_size, hsz]; decide)) w') ?_
          refine Tr.takes po8 d8 (wanted_of gd8) (fun w' h' => run_extract q8 (eval_same _ _ _ (by simp only [put_size, hsz]; decide)) rfl w') ?_
          refine Tr.takes po9 d9 (wanted_of gd9) (fun w' h' => run_extract q9 ((eval_other _ 82 74 _ (by decide)).trans (eval_same _ _ _ (by simp only [put_size, hsz]; decide))) rfl w') ?_
          refine at_op po10 d10 (wanted_of gd10) (run_allocKeyP q10 w3) ?_
          have HBT : Hid (Below W1.heap.size W1 (w3.alloc (.cells (bytesV (noughts 32)).toArray 36))) := show Below _ _ _ from HB3.out.trans ((Below.refl _ _).alloc HB3.out.size _)
          refine ⟨HPC.out.below HBT.out, ?_⟩
          have HT : Hid ((w3.alloc (.cells (bytesV (noughts 32)).toArray 36)).heap[w3.heap.size]? = some (.cells (bytesV (noughts 32)).toArray 36 (0, 0))) := show _ = _ from heap_new_at rfl
          have HTS : Hid (W1.heap.size ≤ w3.heap.size) := show _ ≤ _ from HB3.out.size
          have HPF : Hid (PcS q b0 g x v y C ((w3.alloc (.cells (bytesV (noughts 32)).toArray 36)).setRow w3.heap.size (bytesV gk).toArray)) := show PcS _ _ _ _ _ _ _ _ from HPC.out.below (below_setRow HBT.out HTS.out _)
          generalize w3.alloc (.cells (bytesV (noughts 32)).toArray 36) = w4 at HT HBT HPF ⊢
          refine at_wp po11 (wanted_of gd11) (wp_store_row 36 (.tmp 9) (.tmp 82) q11 w3.heap.size (bytesV gk).toArray (eval_same _ _ _ (by simp only [put_size, hsz]; decide)) ((eval_other _ 9 82 _ (by decide)).trans ((eval_other _ 83 82 _ (by decide)).trans (eval_same _ _ _ (by simp only [put_size, hsz]; decide)))) 36 _ HT.out (infoKey _ HGL.out) (by rw [bytesV_size _ 32 HGL.out, bytesV_size _ 32 (noughts_length 32)]) (bytesV_one gk) ⟨HPF.out, ?_⟩)
          rw [d11]
          have HROW := Lib.hid (setRow_heap w4 w3.heap.size _ (bytesV gk).toArray 36 _ HT.out)
          have HBF := Lib.hid (below_setRow HBT.out HTS.out (bytesV gk).toArray)
          generalize w4.setRow w3.heap.size (bytesV gk).toArray = wz at HROW HBF HPF ⊢
          refine Tr.takes po12 d12 (wanted_of gd12) (fun w' h' => run_assign q12 ((eval_none _ _ 83).trans ((eval_other _ 9 83 _ (by decide)).trans (eval_same _ _ _ (by simp only [put_size, hsz]; decide)))) w') ?_
          show NoPanic _ .normal _ _
          refine NoPanic.normal ?_
          rw [HAA.out]
          go_frame
          clear HAA
          go_wp2_with fail
          go_meet
          exact ⟨w3.heap.size, rfl, rfl, HTS.out, HROW.out, HBF.out⟩
        · have _t := trivial
          refine at_op po10 d10 (wanted_of gd10) (run_allocKeyP q10 W1.drew) ?_
          have HBT0 : Hid (Below W1.heap.size W1 (W1.drew.alloc (.cells (bytesV (noughts 32)).toArray 36))) := show Below _ _ _ from (Below.refl _ W1).drew.alloc (Nat.le_refl _) _
          refine ⟨HPC.out.below HBT0.out, ?_⟩
          have HT0 : Hid ((W1.drew.alloc (.cells (bytesV (noughts 32)).toArray 36)).heap[W1.heap.size]? = some (.cells (bytesV (noughts 32)).toArray 36 (0, 0))) := show _ = _ from heap_new_at rfl
          have HTS : Hid (W1.heap.size ≤ W1.heap.size) := show _ ≤ _ from Nat.le_refl _
          generalize W1.drew.alloc (.cells (bytesV (noughts 32)).toArray 36) = w4 at HT0 HBT0 ⊢
          refine t_enterV po6 d6 (wanted_of gd6) (run_callf2 q6 rfl ((eval_other _ 9 78 _ (by decide)).trans ((eval_other _ 80 78 _ (by decide)).trans ((eval_other _ 79 78 _ (by decide)).trans (eval_same _ _ _ (by simp only [put_size, hsz]; decide))))) ((eval_other _ 9 80 _ (by decide)).trans (eval_same _ _ _ (by simp only [put_size, hsz]; decide))) Tryd.func22 (by kernel_rfl) _) ((HXW.out.below (AP.part g _ _) (BP.part x _ _) HBT0.out).getV op.n) ?_
          rintro e w3 ⟨rfl, b2⟩
          rw [HGV.out]
          have HBT : Hid (Below W1.heap.size W1 w3) := show Below _ _ _ from HBT0.out.trans (b2.mono HBT0.out.size)
          have HT : Hid (w3.heap[W1.heap.size]? = some (.cells (bytesV (noughts 32)).toArray 36 (0, 0))) := show _ = _ from (b2.block _ (Array.getElem?_eq_some_iff.1 HT0.out).1).trans HT0.out
          clear b2
          have HPF : Hid (PcS q b0 g x v y C (w3.setRow W1.heap.size (bytesV gk).toArray)) := show PcS _ _ _ _ _ _ _ _ from HPC.out.below (below_setRow HBT.out HTS.out _)
          refine ⟨_, rfl, HPC.out.below HBT.out, ?_⟩
          refine Tr.takes po7 d7 (wanted_of gd7) (fun w' h' => run_move q7 (eval_same _ _ _ (by simp only [put_size, hsz]; decide)) w') ?_
          refine Tr.takes po8 d8 (wanted_of gd8) (fun w' h' => run_extract q8 (eval_same _ _ _ (by simp only [put_size, hsz]; decide)) rfl w') ?_
          refine Tr.takes po9 d9 (wanted_of gd9) (fun w' h' => run_extract q9 ((eval_other _ 82 74 _ (by decide)).trans (eval_same _ _ _ (by simp only [put_size, hsz]; decide))) rfl w') ?_
          refine at_wp po11 (wanted_of gd11) (wp_store_row 36 (.tmp 9) (.tmp 82) q11 W1.heap.size (bytesV gk).toArray ((eval_other _ 83 9 _ (by decide)).trans ((eval_other _ 82 9 _ (by decide)).trans ((eval_other _ 74 9 _ (by decide)).trans ((eval_other _ 81 9 _ (by decide)).trans (eval_same _ _ _ (by simp only [put_size, hsz]; decide)))))) ((eval_other _ 83 82 _ (by decide)).trans (eval_same _ _ _ (by simp only [put_size, hsz]; decide))) 36 _ HT.out (infoKey _ HGL.out) (by rw [bytesV_size _ 32 HGL.out, bytesV_size _ 32 (noughts_length 32)]) (bytesV_one gk) ⟨HPF.out, ?_⟩)
          rw [d11]
          have HROW := Lib.hid (setRow_heap w3 W1.heap.size _ (bytesV gk).toArray 36 _ HT.out)
          have HBF := Lib.hid (below_setRow HBT.out HTS.out (bytesV gk).toArray)
          generalize w3.setRow W1.heap.size (bytesV gk).toArray = wz at HROW HBF HPF ⊢
          refine Tr.takes po12 d12 (wanted_of gd12) (fun w' h' => run_assign q12 ((eval_none _ _ 83).trans (eval_same _ _ _ (by simp only [put_size, hsz]; decide))) w') ?_
          show NoPanic _ .normal _ _
          refine NoPanic.normal ?_
          rw [HAA.out]
          go_frame
          clear HAA
          go_wp2_with fail
          go_meet
          exact ⟨W1.heap.size, rfl, rfl, HTS.out, HROW.out, HBF.out⟩
      case rest =>
        obtain ⟨T1, rfl, rfl, hT1, hTB1, hb3⟩ := hcut
        have HTB1 := Lib.hid hTB1
        have HXW := Lib.hid (HX2.out.below (AP.part g _ _) (BP.part x _ _) hb3)
        have HPC := Lib.hid HXW.out.pc
        have HBW := Lib.hid (HB2.out.trans (hb3.mono (Nat.le_trans HLO.out HB2.out.size)))
        clear hT1 hTB1 hb3 HX2 HB2
        obtain ⟨W2, hW2⟩ : ∃ W2, W2 = wc := ⟨_, rfl⟩
        subst hW2
        go_upto_region 13 with fail
        go_cut [11, 12] (fun s11 s12 wx => ∃ T : Nat, s11 = .pointer (some ⟨T, 0, none⟩) ∧ s12 = .int .i64 ge ∧ W2.heap.size ≤ T ∧ BytesAt wx T 36 gk ∧ Below W2.heap.size W2 wx)
        case first =>
          refine region_tree (PcS q b0 g x v y C) (HPC.out.below (Below.refl _ W2).drew) (.pure 0 (.pure 1 (.pure 2 (.pure 3 (.pure 4 (.pure 5 (.two 6 10 (.pure 7 (.pure 8 (.pure 9 (.one 10 (.one 11 (.pure 12 .nil)))))) (.one 6 (.pure 7 (.pure 8 (.pure 9 (.one 11 (.pure 12 .nil))))))))))))) (by kernel_rfl) (by kernel_rfl) (by kernel_rfl) (fun ops hops A13 hA => ?_)
          have hsz : A13.tmps.size = 115 := by rw [hA]; rfl
          have base0 : A13.eval (.tmp 0) = .pointer (some ⟨q, 0, none⟩) := by rw [hA]; rfl
          have base3 : A13.eval (.tmp 3) = .pointer (some ⟨b0, 0, none⟩) := by rw [hA]; rfl
          have HAA := Lib.hid hA; clear hA
          obtain ⟨o0, po0, q0, d0, gd0⟩ : ∃ o, ops[0]? = some o ∧ o.op = .move (.tmp 0) ∧ o.dst = some 85 ∧ o.guard = none := ⟨_, by rw [hops]; rfl, rfl, rfl, rfl⟩
          obtain ⟨o1, po1, q1, d1, gd1⟩ : ∃ o, ops[1]? = some o ∧ o.op = .nilCheck (.tmp 85) ∧ o.dst = some 86 ∧ o.guard = none := ⟨_, by rw [hops]; rfl, rfl, rfl, rfl⟩
          obtain ⟨o2, po2, q2, d2, gd2⟩ : ∃ o, ops[2]? = some o ∧ o.op = .fieldAddr 31 (.tmp 86) 3 ∧ o.dst = some 87 ∧ o.guard = none := ⟨_, by rw [hops]; rfl, rfl, rfl, rfl⟩
          obtain ⟨o3, po3, q3, d3, gd3⟩ : ∃ o, ops[3]? = some o ∧ o.op = .load 29 (.tmp 87) ∧ o.dst = some 88 ∧ o.guard = none := ⟨_, by rw [hops]; rfl, rfl, rfl, rfl⟩
          obtain ⟨o4, po4, q4, d4, gd4⟩ : ∃ o, ops[4]? = some o ∧ o.op = .fieldAddr 39 (.tmp 3) 1 ∧ o.dst = some 89 ∧ o.guard = none := ⟨_, by rw [hops]; rfl, rfl, rfl, rfl⟩
          obtain ⟨o5, po5, q5, d5, gd5⟩ : ∃ o, ops[5]? = some o ∧ o.op = .load 3 (.tmp 89) ∧ o.dst = some 90 ∧ o.guard = none := ⟨_, by rw [hops]; rfl, rfl, rfl, rfl⟩
          obtain ⟨o6, po6, q6, d6, gd6⟩ : ∃ o, ops[6]? = some o ∧ o.op = .call { callee := .value (.func 23), args := #[.tmp 88, .tmp 90], argTypes := #[29, 3] } ∧ o.dst = some 91 ∧ o.guard = none := ⟨_, by rw [hops]; rfl, rfl, rfl, rfl⟩
          obtain ⟨o7, po7, q7, d7, gd7⟩ : ∃ o, ops[7]? = some o ∧ o.op = .move (.tmp 91) ∧ o.dst = some 84 ∧ o.guard = none := ⟨_, by rw [hops]; rfl, rfl, rfl, rfl⟩
          obtain ⟨o8, po8, q8, d8, gd8⟩ : ∃ o, ops[8]? = some o ∧ o.op = .extract (.tmp 84) 0 ∧ o.dst = some 92 ∧ o.guard = none := ⟨_, by rw [hops]; rfl, rfl, rfl, rfl⟩
          obtain ⟨o9, po9, q9, d9, gd9⟩ : ∃ o, ops[9]? = some o ∧ o.op = .extract (.tmp 84) 1 ∧ o.dst = some 93 ∧ o.guard = none := ⟨_, by rw [hops]; rfl, rfl, rfl, rfl⟩
          obtain ⟨o10, po10, q10, d10, gd10⟩ : ∃ o, ops[10]? = some o ∧ o.op = .alloc 36 ∧ o.dst = some 11 ∧ o.guard = none := ⟨_, by rw [hops]; rfl, rfl, rfl, rfl⟩
          obtain ⟨o11, po11, q11, d11, gd11⟩ : ∃ o, ops[11]? = some o ∧ o.op = .store 36 (.tmp 11) (.tmp 92) ∧ o.dst = none ∧ o.guard = none := ⟨_, by rw [hops]; rfl, rfl, rfl, rfl⟩
          obtain ⟨o12, po12, q12, d12, gd12⟩ : ∃ o, ops[12]? = some o ∧ o.op = .assign (.tmp 93) ∧ o.dst = some 12 ∧ o.guard = none := ⟨_, by rw [hops]; rfl, rfl, rfl, rfl⟩
          clear hops
          refine Tr.takes po0 d0 (wanted_of gd0) (fun w' h' => run_move q0 base0 w') ?_
          refine Tr.takes po1 d1 (wanted_of gd1) (fun w' h' => run_nilCheck q1 (eval_same _ _ _ (by rw [hsz]; decide)) w') ?_
          refine Tr.takes po2 d2 (wanted_of gd2) (fun w' h' => run_fieldT (off := 3) q2 (fun _ => by kernel_rfl) (eval_same _ _ _ (by simp only [put_size, hsz]; decide)) w') ?_
          refine Tr.takes po3 d3 (wanted_of gd3) (fun w' h' => run_loadPY q3 (eval_same _ _ _ (by simp only [put_size, hsz]; decide)) h'.y) ?_
          refine Tr.takes po4 d4 (wanted_of gd4) (fun w' h' => run_fieldT (off := 1) q4 (fun _ => by kernel_rfl) ((eval_other _ 88 3 _ (by decide)).trans ((eval_other _ 87 3 _ (by decide)).trans ((eval_other _ 86 3 _ (by decide)).trans ((eval_other _ 85 3 _ (by decide)).trans base3)))) w') ?_
          refine Tr.takes po5 d5 (wanted_of gd5) (fun w' h' => run_loadI3V q5 (eval_same _ _ _ (by simp only [put_size, hsz]; decide)) (h'.n HC.out HK.out)) ?_
          refine ⟨?_, ?_⟩
          · have _t := trivial
            refine t_enterV po6 d6 (wanted_of gd6) (run_callf2 q6 rfl ((eval_other _ 90 88 _ (by decide)).trans ((eval_other _ 89 88 _ (by decide)).trans (eval_same _ _ _ (by simp only [put_size, hsz]; decide)))) (eval_same _ _ _ (by simp only [put_size, hsz]; decide)) Tryd.func23 (by kernel_rfl) _) ((HXW.out.below (AP.part g _ _) (BP.part x _ _) (Below.refl _ W2).drew).getY op.n) ?_
            rintro e w3 ⟨rfl, b2⟩
            rw [HGV.out]
            have HB3 : Hid (Below W2.heap.size W2 w3) := show Below _ _ _ from (Below.refl _ W2).drew.trans b2
            clear b2
            refine ⟨_, rfl, HPC.out.below HB3.out, ?_⟩
            refine Tr.takes po7 d7 (wanted_of gd7) (fun w' h' => run_move q7 (eval_same _ _ _ (by simp only [put_size, hsz]; decide)) w') ?_
            refine Tr.takes po8 d8 (wanted_of gd8) (fun w' h' => run_extract q8 (eval_same _ _ _ (by simp only [put_size, hsz]; decide)) rfl w') ?_
            refine Tr.takes po9 d9 (wanted_of gd9) (fun w' h' => run_extract q9 ((eval_other _ 92 84 _ (by decide)).trans (eval_same _ _ _ (by simp only [put_size, hsz]; decide))) rfl w') ?_
            refine at_op po10 d10 (wanted_of gd10) (run_allocKeyP q10 w3) ?_
            have HBT : Hid (Below W2.heap.size W2 (w3.alloc (.cells (bytesV (noughts 32)).toArray 36))) := show Below _ _ _ from HB3.out.trans ((Below.refl _ _).alloc HB3.out.size _)
            refine ⟨HPC.out.below HBT.out, ?_⟩
            have HT : Hid ((w3.alloc (.cells (bytesV (noughts 32)).toArray 36)).heap[w3.heap.size]? = some (.cells (bytesV (noughts 32)).toArray 36 (0, 0))) := show _ = _ from heap_new_at rfl
            have HTS : Hid (W2.heap.size ≤ w3.heap.size) := show _ ≤ _ from HB3.out.size
            have HPF : Hid (PcS q b0 g x v y C ((w3.alloc (.cells (bytesV (noughts 32)).toArray 36)).setRow w3.heap.size (bytesV gk).toArray)) := show PcS _ _ _ _ _ _ _ _ from HPC.out.below (below_setRow HBT.out HTS.out _)
            generalize w3.alloc (.cells (bytesV (noughts 32)).toArray 36) = w4 at HT HBT HPF ⊢
            refine at_wp po11 (wanted_of gd11) (wp_store_row 36 (.tmp 11) (.tmp 92) q11 w3.heap.size (bytesV gk).toArray (eval_same _ _ _ (by simp only [put_size, hsz]; decide)) ((eval_other _ 11 92 _ (by decide)).trans ((eval_other _ 93 92 _ (by decide)).trans (eval_same _ _ _ (by simp only [put_size, hsz]; decide)))) 36 _ HT.out (infoKey _ HGL.out) (by rw [bytesV_size _ 32 HGL.out, bytesV_size _ 32 (noughts_length 32)]) (bytesV_one gk) ⟨HPF.out, ?_⟩)
            rw [d11]
            have HROW := Lib.hid (setRow_heap w4 w3.heap.size _ (bytesV gk).toArray 36 _ HT.out)
            have HBF := Lib.hid (below_setRow HBT.out HTS.out (bytesV gk).toArray)
            generalize w4.setRow w3.heap.size (bytesV gk).toArray = wz at HROW HBF HPF ⊢
            refine Tr.takes po12 d12 (wanted_of gd12) (fun w' h' => run_assign q12 ((eval_none _ _ 93).trans ((eval_other _ 11 93 _ (by decide)).trans (eval_same _ _ _ (by simp only [put_size, hsz]; decide)))) w') ?_
            show NoPanic _ .normal _ _
            refine NoPanic.normal ?_
            rw [HAA.out]
            go_frame
            clear HAA
            go_wp2_with fail
            go_meet
            exact ⟨w3.heap.size, rfl, rfl, HTS.out, HROW.out, HBF.out⟩
          · have _t := trivial
            refine at_op po10 d10 (wanted_of gd10) (run_allocKeyP q10 W2.drew) ?_
            have HBT0 : Hid (Below W2.heap.size W2 (W2.drew.alloc (.cells (bytesV (noughts 32)).toArray 36))) := show Below _ _ _ from (Below.refl _ W2).drew.alloc (Nat.le_refl _) _
            refine ⟨HPC.out.below HBT0.out, ?_⟩
            have HT0 : Hid ((W2.drew.alloc (.cells (bytesV (noughts 32)).toArray 36)).heap[W2.heap.size]? = some (.cells (bytesV (noughts 32)).toArray 36 (0, 0))) := show _ = _ from heap_new_at rfl
            have HTS : Hid (W2.heap.size ≤ W2.heap.size) := show _ ≤ _ from Nat.le_refl _
            generalize W2.drew.alloc (.cells (bytesV (noughts 32)).toArray 36) = w4 at HT0 HBT0 ⊢
            refine t_enterV po6 d6 (wanted_of gd6) (run_callf2 q6 rfl ((eval_other _ 11 88 _ (by decide)).trans ((eval_other _ 90 88 _ (by decide)).trans ((eval_other _ 89 88 _ (by decide)).trans (eval_same _ _ _ (by simp only [put_size, hsz]; decide))))) ((eval_other _ 11 90 _ (by decide)).trans (eval_same _ _ _ (by simp only [put_size, hsz]; decide))) Tryd.func23 (by kernel_rfl) _) ((HXW.out.below (AP.part g _ _) (BP.part x _ _) HBT0.out).getY op.n) ?_
            rintro e w3 ⟨rfl, b2⟩
            rw [HGV.out]
            have HBT : Hid (Below W2.heap.size W2 w3) := show Below _ _ _ from HBT0.out.trans (b2.mono HBT0.out.size)
            have HT : Hid (w3.heap[W2.heap.size]? = some (.cells (bytesV (noughts 32)).toArray 36 (0, 0))) := show _ = _ from (b2.block _ (Array.getElem?_eq_some_iff.1 HT0.out).1).trans HT0.out
            clear b2
            have HPF : Hid (PcS q b0 g x v y C (w3.setRow W2.heap.size (bytesV gk).toArray)) := show PcS _ _ _ _ _ _ _ _ from HPC.out.below (below_setRow HBT.out HTS.out _)
            refine ⟨_, rfl, HPC.out.below HBT.out, ?_⟩
            refine Tr.takes po7 d7 (wanted_of gd7) (fun w' h' => run_move q7 (eval_same _ _ _ (by simp only [put_size, hsz]; decide)) w') ?_
            refine Tr.takes po8 d8 (wanted_of gd8) (fun w' h' => run_extract q8 (eval_same _ _ _ (by simp only [put_size, hsz]; decide)) rfl w') ?_
            refine Tr.takes po9 d9 (wanted_of gd9) (fun w' h' => run_extract q9 ((eval_other _ 92 84 _ (by decide)).trans (eval_same _ _ _ (by simp only [put_size, hsz]; decide))) rfl w') ?_
            refine at_wp po11 (wanted_of gd11) (wp_store_row 36 (.tmp 11) (.tmp 92) q11 W2.heap.size (bytesV gk).toArray ((eval_other _ 93 11 _ (by decide)).trans ((eval_other _ 92 11 _ (by decide)).trans ((eval_other _ 84 11 _ (by decide)).trans ((eval_other _ 91 11 _ (by decide)).trans (eval_same _ _ _ (by simp only [put_size, hsz]; decide)))))) ((eval_other _ 93 92 _ (by decide)).trans (eval_same _ _ _ (by simp only [put_size, hsz]; decide))) 36 _ HT.out (infoKey _ HGL.out) (by rw [bytesV_size _ 32 HGL.out, bytesV_size _ 32 (noughts_length 32)]) (bytesV_one gk) ⟨HPF.out, ?_⟩)
            rw [d11]
            have HROW := Lib.hid (setRow_heap w3 W2.heap.size _ (bytesV gk).toArray 36 _ HT.out)
            have HBF := Lib.hid (below_setRow HBT.out HTS.out (bytesV gk).toArray)
            generalize w3.setRow W2.heap.size (bytesV gk).toArray = wz at HROW HBF HPF ⊢
            refine Tr.takes po12 d12 (wanted_of gd12) (fun w' h' => run_assign q12 ((eval_none _ _ 93).trans (eval_same _ _ _ (by simp only [put_size, hsz]; decide))) w') ?_
            show NoPanic _ .normal _ _
            refine NoPanic.normal ?_
            rw [HAA.out]
            go_frame
            clear HAA
            go_wp2_with fail
            go_meet
            exact ⟨W2.heap.size, rfl, rfl, HTS.out, HROW.out, HBF.out⟩
        case rest =>
          obtain ⟨T2, rfl, rfl, -, hTB2, hb4⟩ := hcut
          have HTB2 := Lib.hid hTB2
          have HXE := Lib.hid (HXW.out.below (AP.part g _ _) (BP.part x _ _) hb4.drew)
          have HS14 : Hid (PcS q b0 g x v y C wc.drew ∧ BytesAt wc.drew T1 36 gk ∧ BytesAt wc.drew T2 36 gk) := show _ ∧ _ ∧ _ from ⟨HXE.out.pc, (hb4.block _ (Array.getElem?_eq_some_iff.1 HTB1.out).1).trans HTB1.out, hTB2⟩
          have HBE := Lib.hid (HBW.out.trans (hb4.drew.mono (Nat.le_trans HLO.out HBW.out.size)))
          clear hTB2 hb4 HXW HBW HPC
          go_upto_region 14 with fail
          refine region_phase (fun w' => PcS q b0 g x v y C w' ∧ BytesAt w' T1 36 gk ∧ BytesAt w' T2 36 gk) (fun _ => True) 99 (HS14.out) trivial [(0, .free), (1, .free), (2, .free), (3, .free), (4, .free), (5, .free), (6, .free), (7, .free), (8, .free), (9, .free), (10, .free), (11, .free), (12, .free), (14, .free), (15, .free), (16, .free), (17, .free), (13, .behind), (18, .behind), (19, .free), (20, .free), (21, .free)] (by kernel_rfl) (by kernel_rfl) (by kernel_rfl) (by kernel_rfl) (fun ops hops A14 hA => ?_)
          have hsz : A14.tmps.size = 115 := by rw [hA]; rfl
          have base0 : A14.eval (.tmp 0) = .pointer (some ⟨q, 0, none⟩) := by rw [hA]; rfl
          have base3 : A14.eval (.tmp 3) = .pointer (some ⟨b0, 0, none⟩) := by rw [hA]; rfl
          have base9 : A14.eval (.tmp 9) = .pointer (some ⟨T1, 0, none⟩) := by rw [hA]; rfl
          have base11 : A14.eval (.tmp 11) = .pointer (some ⟨T2, 0, none⟩) := by rw [hA]; rfl
          have base10 : A14.eval (.tmp 10) = .int .i64 ge := by rw [hA]; rfl
          have base12 : A14.eval (.tmp 12) = .int .i64 ge := by rw [hA]; rfl
          have HAA := Lib.hid hA; clear hA
          obtain ⟨o0, po0, q0, d0, gd0⟩ : ∃ o, ops[0]? = some o ∧ o.op = .load 36 (.tmp 9) ∧ o.dst = some 94 ∧ o.guard = none := ⟨_, by rw [hops]; rfl, rfl, rfl, rfl⟩
          obtain ⟨o1, po1, q1, d1, gd1⟩ : ∃ o, ops[1]? = some o ∧ o.op = .load 36 (.tmp 11) ∧ o.dst = some 95 ∧ o.guard = none := ⟨_, by rw [hops]; rfl, rfl, rfl, rfl⟩
          obtain ⟨o2, po2, q2, d2, gd2⟩ : ∃ o, ops[2]? = some o ∧ o.op = .binOp .eql 36 (.tmp 94) (.tmp 95) 36 ∧ o.dst = some 96 ∧ o.guard = none := ⟨_, by rw [hops]; rfl, rfl, rfl, rfl⟩
          obtain ⟨o3, po3, q3, d3, gd3⟩ : ∃ o, ops[3]? = some o ∧ o.op = .move (.tmp 96) ∧ o.dst = some 97 ∧ o.guard = none := ⟨_, by rw [hops]; rfl, rfl, rfl, rfl⟩
          obtain ⟨o4, po4, q4, d4, gd4⟩ : ∃ o, ops[4]? = some o ∧ o.op = .move (.tmp 10) ∧ o.dst = some 98 ∧ o.guard = some (3, true) := ⟨_, by rw [hops]; rfl, rfl, rfl, rfl⟩
          obtain ⟨o5, po5, q5, d5, gd5⟩ : ∃ o, ops[5]? = some o ∧ o.op = .move (.tmp 12) ∧ o.dst = some 99 ∧ o.guard = some (3, true) := ⟨_, by rw [hops]; rfl, rfl, rfl, rfl⟩
          obtain ⟨o6, po6, q6, d6, gd6⟩ : ∃ o, ops[6]? = some o ∧ o.op = .binOp .eql 43 (.tmp 98) (.tmp 99) 43 ∧ o.dst = some 100 ∧ o.guard = some (3, true) := ⟨_, by rw [hops]; rfl, rfl, rfl, rfl⟩
          obtain ⟨o7, po7, q7, d7, gd7⟩ : ∃ o, ops[7]? = some o ∧ o.op = .pick (.tmp 97) (.tmp 100) (.const (.bool false)) ∧ o.dst = some 101 ∧ o.guard = none := ⟨_, by rw [hops]; rfl, rfl, rfl, rfl⟩
          obtain ⟨o8, po8, q8, d8, gd8⟩ : ∃ o, ops[8]? = some o ∧ o.op = .move (.tmp 101) ∧ o.dst = some 102 ∧ o.guard = none := ⟨_, by rw [hops]; rfl, rfl, rfl, rfl⟩
          obtain ⟨o9, po9, q9, d9, gd9⟩ : ∃ o, ops[9]? = some o ∧ o.op = .move (.tmp 0) ∧ o.dst = some 103 ∧ o.guard = some (8, true) := ⟨_, by rw [hops]; rfl, rfl, rfl, rfl⟩
          obtain ⟨o10, po10, q10, d10, gd10⟩ : ∃ o, ops[10]? = some o ∧ o.op = .nilCheck (.tmp 103) ∧ o.dst = some 104 ∧ o.guard = some (8, true) := ⟨_, by rw [hops]; rfl, rfl, rfl, rfl⟩
          obtain ⟨o11, po11, q11, d11, gd11⟩ : ∃ o, ops[11]? = some o ∧ o.op = .fieldAddr 31 (.tmp 104) 2 ∧ o.dst = some 105 ∧ o.guard = some (8, true) := ⟨_, by rw [hops]; rfl, rfl, rfl, rfl⟩
          obtain ⟨o12, po12, q12, d12, gd12⟩ : ∃ o, ops[12]? = some o ∧ o.op = .load 28 (.tmp 105) ∧ o.dst = some 106 ∧ o.guard = some (8, true) := ⟨_, by rw [hops]; rfl, rfl, rfl, rfl⟩
          obtain ⟨o13, po13, q13, d13, gd13⟩ : ∃ o, ops[13]? = some o ∧ o.op = .call { callee := .value (.func 29), args := #[.tmp 106], argTypes := #[28] } ∧ o.dst = some 107 ∧ o.guard = some (8, true) := ⟨_, by rw [hops]; rfl, rfl, rfl, rfl⟩
          obtain ⟨o14, po14, q14, d14, gd14⟩ : ∃ o, ops[14]? = some o ∧ o.op = .move (.tmp 0) ∧ o.dst = some 108 ∧ o.guard = some (8, true) := ⟨_, by rw [hops]; rfl, rfl, rfl, rfl⟩
          obtain ⟨o15, po15, q15, d15, gd15⟩ : ∃ o, ops[15]? = some o ∧ o.op = .nilCheck (.tmp 108) ∧ o.dst = some 109 ∧ o.guard = some (8, true) := ⟨_, by rw [hops]; rfl, rfl, rfl, rfl⟩
          obtain ⟨o16, po16, q16, d16, gd16⟩ : ∃ o, ops[16]? = some o ∧ o.op = .fieldAddr 31 (.tmp 109) 3 ∧ o.dst = some 110 ∧ o.guard = some (8, true) := ⟨_, by rw [hops]; rfl, rfl, rfl, rfl⟩
          obtain ⟨o17, po17, q17, d17, gd17⟩ : ∃ o, ops[17]? = some o ∧ o.op = .load 29 (.tmp 110) ∧ o.dst = some 111 ∧ o.guard = some (8, true) := ⟨_, by rw [hops]; rfl, rfl, rfl, rfl⟩
          obtain ⟨o18, po18, q18, d18, gd18⟩ : ∃ o, ops[18]? = some o ∧ o.op = .call { callee := .value (.func 21), args := #[.tmp 111], argTypes := #[29] } ∧ o.dst = some 112 ∧ o.guard = some (8, true) := ⟨_, by rw [hops]; rfl, rfl, rfl, rfl⟩
          obtain ⟨o19, po19, q19, d19, gd19⟩ : ∃ o, ops[19]? = some o ∧ o.op = .binOp .eql 3 (.tmp 107) (.tmp 112) 3 ∧ o.dst = some 113 ∧ o.guard = some (8, true) := ⟨_, by rw [hops]; rfl, rfl, rfl, rfl⟩
          obtain ⟨o20, po20, q20, d20, gd20⟩ : ∃ o, ops[20]? = some o ∧ o.op = .pick (.tmp 102) (.tmp 113) (.const (.bool false)) ∧ o.dst = some 114 ∧ o.guard = none := ⟨_, by rw [hops]; rfl, rfl, rfl, rfl⟩
          obtain ⟨o21, po21, q21, d21, gd21⟩ : ∃ o, ops[21]? = some o ∧ o.op = .assign (.tmp 114) ∧ o.dst = some 4 ∧ o.guard = none := ⟨_, by rw [hops]; rfl, rfl, rfl, rfl⟩
          clear hops
          refine met_free po0 d0 (wanted_of gd0) (fun w' h' => run_loadKeyB q0 base9 HGL.out h'.2.1) ?_
          refine met_free po1 d1 (wanted_of gd1) (fun w' h' => run_loadKeyB q1 ((eval_other _ 94 11 _ (by decide)).trans base11) HGL.out h'.2.2) ?_
          refine met_free po2 d2 (wanted_of gd2) (fun w' h' => run_eqKeyT q2 HGL.out HGL.out ((eval_other _ 95 94 _ (by decide)).trans (eval_same _ _ _ (by rw [hsz]; decide))) (eval_same _ _ _ (by simp only [put_size, hsz]; decide)) (decide_eq_true rfl) w') ?_
          refine met_free po3 d3 (wanted_of gd3) (fun w' h' => run_move q3 (eval_same _ _ _ (by simp only [put_size, hsz]; decide)) w') ?_
          refine met_free po4 d4 (wanted_guard gd4 po3 d3 (eval_same _ _ _ (by simp only [put_size, hsz]; decide))) (fun w' h' => run_move q4 ((eval_other _ 97 10 _ (by decide)).trans ((eval_other _ 96 10 _ (by decide)).trans ((eval_other _ 95 10 _ (by decide)).trans ((eval_other _ 94 10 _ (by decide)).trans base10)))) w') ?_
          refine met_free po5 d5 (wanted_guard gd5 po3 d3 ((eval_other _ 98 97 _ (by decide)).trans (eval_same _ _ _ (by simp only [put_size, hsz]; decide)))) (fun w' h' => run_move q5 ((eval_other _ 98 12 _ (by decide)).trans ((eval_other _ 97 12 _ (by decide)).trans ((eval_other _ 96 12 _ (by decide)).trans ((eval_other _ 95 12 _ (by decide)).trans ((eval_other _ 94 12 _ (by decide)).trans base12))))) w') ?_
          refine met_free po6 d6 (wanted_guard gd6 po3 d3 ((eval_other _ 99 97 _ (by decide)).trans ((eval_other _ 98 97 _ (by decide)).trans (eval_same _ _ _ (by simp only [put_size, hsz]; decide))))) (fun w' h' => run_eqErrP q6 ((eval_other _ 99 98 _ (by decide)).trans (eval_same _ _ _ (by simp only [put_size, hsz]; decide))) (eval_same _ _ _ (by simp only [put_size, hsz]; decide)) w') ?_
          refine met_free po7 d7 (wanted_of gd7) (fun w' h' => run_pick_true q7 ((eval_other _ 100 97 _ (by decide)).trans ((eval_other _ 99 97 _ (by decide)).trans ((eval_other _ 98 97 _ (by decide)).trans (eval_same _ _ _ (by simp only [put_size, hsz]; decide))))) (eval_same _ _ _ (by simp only [put_size, hsz]; decide)) w') ?_
          refine met_free po8 d8 (wanted_of gd8) (fun w' h' => run_move q8 (eval_same _ _ _ (by simp only [put_size, hsz]; decide)) w') ?_
          refine met_free po9 d9 (wanted_guard gd9 po8 d8 (eval_same _ _ _ (by simp only [put_size, hsz]; decide))) (fun w' h' => run_move q9 ((eval_other _ 102 0 _ (by decide)).trans ((eval_other _ 101 0 _ (by decide)).trans ((eval_other _ 100 0 _ (by decide)).trans ((eval_other _ 99 0 _ (by decide)).trans ((eval_other _ 98 0 _ (by decide)).trans ((eval_other _ 97 0 _ (by decide)).trans ((eval_other _ 96 0 _ (by decide)).trans ((eval_other _ 95 0 _ (by decide)).trans ((eval_other _ 94 0 _ (by decide)).trans base0))))))))) w') ?_
          refine met_free po10 d10 (wanted_guard gd10 po8 d8 ((eval_other _ 103 102 _ (by decide)).trans (eval_same _ _ _ (by simp only [put_size, hsz]; decide)))) (fun w' h' => run_nilCheck q10 (eval_same _ _ _ (by simp only [put_size, hsz]; decide)) w') ?_
          refine met_free po11 d11 (wanted_guard gd11 po8 d8 ((eval_other _ 104 102 _ (by decide)).trans ((eval_other _ 103 102 _ (by decide)).trans (eval_same _ _ _ (by simp only [put_size, hsz]; decide))))) (fun w' h' => run_fieldT (off := 2) q11 (fun _ => by kernel_rfl) (eval_same _ _ _ (by simp only [put_size, hsz]; decide)) w') ?_
          refine met_free po12 d12 (wanted_guard gd12 po8 d8 ((eval_other _ 105 102 _ (by decide)).trans ((eval_other _ 104 102 _ (by decide)).trans ((eval_other _ 103 102 _ (by decide)).trans (eval_same _ _ _ (by simp only [put_size, hsz]; decide)))))) (fun w' h' => run_loadPV q12 (eval_same _ _ _ (by simp only [put_size, hsz]; decide)) h'.1.v) ?_
          refine met_free po14 d14 (wanted_guard gd14 po8 d8 ((eval_other _ 106 102 _ (by decide)).trans ((eval_other _ 105 102 _ (by decide)).trans ((eval_other _ 104 102 _ (by decide)).trans ((eval_other _ 103 102 _ (by decide)).trans (eval_same _ _ _ (by simp only [put_size, hsz]; decide))))))) (fun w' h' => run_move q14 ((eval_other _ 106 0 _ (by decide)).trans ((eval_other _ 105 0 _ (by decide)).trans ((eval_other _ 104 0 _ (by decide)).trans ((eval_other _ 103 0 _ (by decide)).trans ((eval_other _ 102 0 _ (by decide)).trans ((eval_other _ 101 0 _ (by decide)).trans ((eval_other _ 100 0 _ (by decide)).trans ((eval_other _ 99 0 _ (by decide)).trans ((eval_other _ 98 0 _ (by decide)).trans ((eval_other _ 97 0 _ (by decide)).trans ((eval_other _ 96 0 _ (by decide)).trans ((eval_other _ 95 0 _ (by decide)).trans ((eval_other _ 94 0 _ (by decide)).trans base0))))))))))))) w') ?_
          refine met_free po15 d15 (wanted_guard gd15 po8 d8 ((eval_other _ 108 102 _ (by decide)).trans ((eval_other _ 106 102 _ (by decide)).trans ((eval_other _ 105 102 _ (by decide)).trans ((eval_other _ 104 102 _ (by decide)).trans ((eval_other _ 103 102 _ (by decide)).trans (eval_same _ _ _ (by simp only [put_size, hsz]; decide)))))))) (fun w' h' => run_nilCheck q15 (eval_same _ _ _ (by simp only [put_size, hsz]; decide)) w') ?_
          refine met_free po16 d16 (wanted_guard gd16 po8 d8 ((eval_other _ 109 102 _ (by decide)).trans ((eval_other _ 108 102 _ (by decide)).trans ((eval_other _ 106 102 _ (by decide)).trans ((eval_other _ 105 102 _ (by decide)).trans ((eval_other _ 104 102 _ (by decide)).trans ((eval_other _ 103 102 _ (by decide)).trans (eval_same _ _ _ (by simp only [put_size, hsz]; decide))))))))) (fun w' h' => run_fieldT (off := 3) q16 (fun _ => by kernel_rfl) (eval_same _ _ _ (by simp only [put_size, hsz]; decide)) w') ?_
          refine met_free po17 d17 (wanted_guard gd17 po8 d8 ((eval_other _ 110 102 _ (by decide)).trans ((eval_other _ 109 102 _ (by decide)).trans ((eval_other _ 108 102 _ (by decide)).trans ((eval_other _ 106 102 _ (by decide)).trans ((eval_other _ 105 102 _ (by decide)).trans ((eval_other _ 104 102 _ (by decide)).trans ((eval_other _ 103 102 _ (by decide)).trans (eval_same _ _ _ (by simp only [put_size, hsz]; decide)))))))))) (fun w' h' => run_loadPY q17 (eval_same _ _ _ (by simp only [put_size, hsz]; decide)) h'.1.y) ?_
          refine m_enter po13 d13 (wanted_guard gd13 po8 d8 ((eval_other _ 111 102 _ (by decide)).trans ((eval_other _ 110 102 _ (by decide)).trans ((eval_other _ 109 102 _ (by decide)).trans ((eval_other _ 108 102 _ (by decide)).trans ((eval_other _ 106 102 _ (by decide)).trans ((eval_other _ 105 102 _ (by decide)).trans ((eval_other _ 104 102 _ (by decide)).trans ((eval_other _ 103 102 _ (by decide)).trans (eval_same _ _ _ (by simp only [put_size, hsz]; decide))))))))))) (run_callf1 q13 rfl ((eval_other _ 111 106 _ (by decide)).trans ((eval_other _ 110 106 _ (by decide)).trans ((eval_other _ 109 106 _ (by decide)).trans ((eval_other _ 108 106 _ (by decide)).trans (eval_same _ _ _ (by simp only [put_size, hsz]; decide)))))) Tryd.func29 (by kernel_rfl) _) (HXE.out.lenV) ?_
          rintro e w7 ⟨rfl, rfl⟩
          refine ⟨_, rfl, HS14.out, ?_⟩
          refine m_enter po18 d18 (wanted_guard gd18 po8 d8 ((eval_other _ 107 102 _ (by decide)).trans ((eval_other _ 111 102 _ (by decide)).trans ((eval_other _ 110 102 _ (by decide)).trans ((eval_other _ 109 102 _ (by decide)).trans ((eval_other _ 108 102 _ (by decide)).trans ((eval_other _ 106 102 _ (by decide)).trans ((eval_other _ 105 102 _ (by decide)).trans ((eval_other _ 104 102 _ (by decide)).trans ((eval_other _ 103 102 _ (by decide)).trans (eval_same _ _ _ (by simp only [put_size, hsz]; decide)))))))))))) (run_callf1 q18 rfl ((eval_other _ 107 111 _ (by decide)).trans (eval_same _ _ _ (by simp only [put_size, hsz]; decide))) Tryd.func21 (by kernel_rfl) _) (HXE.out.lenY) ?_
          rintro e w8 ⟨rfl, rfl⟩
          refine ⟨_, rfl, HS14.out, ?_⟩
          refine met_free po19 d19 (wanted_guard gd19 po8 d8 ((eval_other _ 112 102 _ (by decide)).trans ((eval_other _ 107 102 _ (by decide)).trans ((eval_other _ 111 102 _ (by decide)).trans ((eval_other _ 110 102 _ (by decide)).trans ((eval_other _ 109 102 _ (by decide)).trans ((eval_other _ 108 102 _ (by decide)).trans ((eval_other _ 106 102 _ (by decide)).trans ((eval_other _ 105 102 _ (by decide)).trans ((eval_other _ 104 102 _ (by decide)).trans ((eval_other _ 103 102 _ (by decide)).trans (eval_same _ _ _ (by simp only [put_size, hsz]; decide))))))))))))) (fun w' h' => run_eqInP q19 ((eval_other _ 112 107 _ (by decide)).trans (eval_same _ _ _ (by simp only [put_size, hsz]; decide))) (eval_same _ _ _ (by simp only [put_size, hsz]; decide)) w') ?_
          refine met_free po20 d20 (wanted_of gd20) (fun w' h' => run_pick_true q20 ((eval_other _ 113 102 _ (by decide)).trans ((eval_other _ 112 102 _ (by decide)).trans ((eval_other _ 107 102 _ (by decide)).trans ((eval_other _ 111 102 _ (by decide)).trans ((eval_other _ 110 102 _ (by decide)).trans ((eval_other _ 109 102 _ (by decide)).trans ((eval_other _ 108 102 _ (by decide)).trans ((eval_other _ 106 102 _ (by decide)).trans ((eval_other _ 105 102 _ (by decide)).trans ((eval_other _ 104 102 _ (by decide)).trans ((eval_other _ 103 102 _ (by decide)).trans (eval_same _ _ _ (by simp only [put_size, hsz]; decide))))))))))))) (eval_same _ _ _ (by simp only [put_size, hsz]; decide)) w') ?_
          refine met_free po21 d21 (wanted_of gd21) (fun w' h' => run_assign q21 (eval_same _ _ _ (by simp only [put_size, hsz]; decide)) w') ?_
          show NoPanic _ .normal _ _
          refine NoPanic.normal ?_
          rw [HAA.out]
          go_frame
          clear HAA
          clear po0 q0 d0 gd0 po1 q1 d1 gd1 po2 q2 d2 gd2 po3 q3 d3 gd3 po4 q4 d4 gd4 po5 q5 d5 gd5 po6 q6 d6 gd6 po7 q7 d7 gd7 po8 q8 d8 gd8 po9 q9 d9 gd9 po10 q10 d10 gd10 po11 q11 d11 gd11 po12 q12 d12 gd12 po13 q13 d13 gd13 po14 q14 d14 gd14 po15 q15 d15 gd15 po16 q16 d16 gd16 po17 q17 d17 gd17 po18 q18 d18 gd18 po19 q19 d19 gd19 po20 q20 d20 gd20 po21 q21 d21 gd21
          clear base0 base3 base9 base11 base10 base12 hsz
          go_wp2_with fail
          go_ret
          exact ⟨rfl, d2, some (v, y, l2, a2), HD2.out.1, HXE.out.fewer (fun z hz => by rw [List.mem_singleton.1 hz]; exact List.mem_cons_of_mem _ List.mem_cons_self), HBE.out⟩
end Go.Proofs.YtoidjapenompiaaDoor

/-
  The pair's disks.
-/
namespace Go.Proofs.YtoidjapenompiaaDoor
open Go.RowKit Go.Proofs.ShaWords
section
variable {A B : (Nat → Prop) → World → Prop} {lo : Nat} {w : World} {L : List (Nat × Obj)} {g x : Nat} {d d' : DiskM} {o : PairS} {f : FuncId} {args : Array Value} {e0 : Ending}
theorem X2.dk (h : X2 (AP g d o) B lo w L) (PB : Part B) (hlo : lo ≤ w.heap.size) (hc : ∀ S0, DkAt S0 w g d → (∀ y ∈ L, ¬ S0 y.1) → Calls Tryd.prog f args w fun e w' => e = e0 ∧ DkGo S0 g d' w w') :
    Calls Tryd.prog f args w fun e w' => e = e0 ∧ X2 (AP g d' o) B lo w' L ∧ Below lo w w' :=
  h.go PB hlo (fun _ hA hL _ => hA.dk (fun S0 hD hs => hc S0 hD (fun y hy s => hL y hy (hs _ s))))
theorem X2.rf (h : X2 A (BP x d o) lo w L) (PA : Part A) (hlo : lo ≤ w.heap.size) (hc : ∀ T, RefAt T w x d → (∀ y ∈ L, ¬ T y.1) → lo ≤ x → Calls Tryd.prog f args w fun e w' => e = e0 ∧ RefGo T x d' w w') :
    Calls Tryd.prog f args w fun e w' => e = e0 ∧ X2 A (BP x d' o) lo w' L ∧ Below lo w w' :=
  h.goY PA hlo (fun _ hB hL hU => hB.rf (fun T hD hs => hc T hD (fun y hy s => hL y hy (hs _ s)) (hU x (hs x (RefAt.own hD)))))
end
/-- What is read amid what is done to the disks. -/
def DcS (q b0 g x : Nat) (C : Array Value) (w : World) : Prop := (∃ o, w.heap[q]? = some (pairO g x o)) ∧ w.heap[b0]? = some (.cells C 39 (0, 0))
section
variable {q b0 g x : Nat} {o : PairS} {C : Array Value} {w w' : World} {op : Op11}
theorem DcS.below (h : DcS q b0 g x C w) (hb : Below w.heap.size w w') : DcS q b0 g x C w' := ⟨h.1.imp fun _ h => (hb.block _ (Array.getElem?_eq_some_iff.1 h).1).trans h, (hb.block _ (Array.getElem?_eq_some_iff.1 h.2).1).trans h.2⟩
theorem DcS.gp (h : DcS q b0 g x C w) : w.cell? ⟨q, 0, none⟩ = some (.pointer (some ⟨g, 0, none⟩)) := by
  obtain ⟨⟨o, h⟩, -⟩ := h
  exact (cell_of_row _ _ _ _ _ _ h).trans rfl
theorem DcS.xp (h : DcS q b0 g x C w) : w.cell? ⟨q, 1, none⟩ = some (.pointer (some ⟨x, 0, none⟩)) := by
  obtain ⟨⟨o, h⟩, -⟩ := h
  exact (cell_of_row _ _ _ _ _ _ h).trans rfl
theorem DcS.at (h : DcS q b0 g x C w) (hC : op.cells.toArray = C) (hk : op.key.length = 32) : w.cell? ⟨b0, 0, none⟩ = some (.int .i64 op.kind) ∧ w.cell? ⟨b0, 1, none⟩ = some (.int .i64 op.n) ∧ w.cell? ⟨b0, 2, none⟩ = some (.int .i64 op.m) ∧ w.cell? ⟨b0, 35, none⟩ = some (.slice op.p op.b.length op.c) := by
  have h2 := h.2
  rw [← hC] at h2
  have ha := op.at hk
  exact ⟨(cell_of_row _ _ _ _ _ _ h2).trans (by simpa using ha.2.1), (cell_of_row _ _ _ _ _ _ h2).trans (by simpa using ha.2.2.1), (cell_of_row _ _ _ _ _ _ h2).trans (by simpa using ha.2.2.2.1), (cell_of_row _ _ _ _ _ _ h2).trans (by simpa using ha.2.2.2.2)⟩
theorem X2.dc {A B : (Nat → Prop) → World → Prop} {lo : Nat} {L : List (Nat × Obj)} (h : X2 A B lo w L) (o : PairS) (h1 : (q, pairO g x o) ∈ L) (h2 : (b0, Obj.cells C 39 (0, 0)) ∈ L) : DcS q b0 g x C w := ⟨⟨_, h.all _ h1⟩, h.all _ h2⟩
end
section
variable {ρ : Operand → Value} {o : Oper} {x y : Operand}
theorem run_loadDP {a p : Addr} (ho : o.op = .load 24 x) (hx : ρ x = .pointer (some a)) {w : World} (hc : w.cell? a = some (.pointer (some p))) : (execOp ρ o).run Tryd.prog w = .ok (.value (.pointer (some p))) w := by
  obtain ⟨dst, op, ty', pos, after, guard⟩ := o
  simp only at ho
  subst ho
  go_simp
theorem run_loadBsP {a : Addr} {p : Option Addr} {n c : Nat} (ho : o.op = .load 37 x) (hx : ρ x = .pointer (some a)) {w : World} (hc : w.cell? a = some (.slice p n c)) : (execOp ρ o).run Tryd.prog w = .ok (.value (.slice p n c)) w := by
  obtain ⟨dst, op, ty', pos, after, guard⟩ := o
  simp only at ho
  subst ho
  go_simp
theorem run_build2 {n m : Int} (ho : o.op = .buildSlice 55 2 #[(0, x), (1, y)]) (hx : ρ x = .int .i64 n) (hy : ρ y = .int .i64 m) (w : World) :
    (execOp ρ o).run Tryd.prog w = .ok (.value (.slice (some ⟨w.heap.size, 0, none⟩) 2 2)) (w.alloc (.cells #[.int .i64 n, .int .i64 m] 3)) := by
  obtain ⟨dst, op, ty', pos, after, guard⟩ := o
  simp only at ho
  subst ho
  unfold execOp
  simp only [List.map_toArray, List.map_cons, List.map_nil, hx, hy]
  kernel_rfl
end
theorem keep_range {w : World} {b : Nat} {n m : Int} {t : TypeId} (h : w.heap[b]? = some (.cells #[.int .i64 n, .int .i64 m] t (0, 0))) : w.rangeAt b 0 (intsV [n, m]) := fun j v hv => by
  rw [Nat.zero_add, cell_of_row w b j _ _ _ h]
  simpa [intsV] using hv
theorem arm_count (d : DiskM) (n : Int) : (d.arm n).count ≤ d.count + 2 := by
  unfold DiskM.arm
  exact Nat.le_add_right _ _
theorem crash_count (d : DiskM) (keep : List Int) : (d.crash keep).count ≤ d.count := by
  unfold DiskM.crash
  exact Nat.le_refl _
set_option maxRecDepth 100000 in
set_option maxHeartbeats 1000000 in
theorem pairDisks_any {g x q lo : Nat} {d : DiskM} {o : PairS} {op : Op11} {w : World} (h : X2 (AP g d o) (BP x d o) lo w [(q, pairO g x o)]) (hq : lo ≤ q) (hlo : lo ≤ w.heap.size) (hR : Rem w) (hG : 0 < lo) (hc : d.count < 999998000) (hk : op.key.length = 32) (hn : op.n < 9223372036854775808) (hb : op.b.length ≤ 8192) (hL : ∀ w', Below lo w w' → Lies w' op.p op.b) :
    Calls Tryd.prog 12 #[.pointer (some ⟨q, 0, none⟩), .agg op.cells.toArray] w fun e w' => e = .returned (.bool true) ∧ ∃ d' o', d'.count ≤ d.count + 2 ∧ X2 (AP g d' o') (BP x d' o') lo w' [(q, pairO g x o')] ∧ Below lo w w' := by
  obtain ⟨C, hC⟩ : ∃ C, op.cells.toArray = C := ⟨_, rfl⟩
  rw [hC]
  have HC := Lib.hid hC
  have HK := Lib.hid hk
  have HX := Lib.hid h
  have HLO := Lib.hid hlo
  have HR := Lib.hid hR
  have HCT := Lib.hid (And.intro hc trivial)
  have HOK := Lib.hid h.okA
  have HNB := Lib.hid (And.intro hn hb)
  have HXQ := Lib.hid (h.all (q, pairO g x o) List.mem_cons_self)
  have HL := Lib.hid hL
  clear h hlo hR hc hk hC hn hb hL
  go_enter Tryd.func12, Tryd.ntmps12
  go_upto_region 1 with fail
  refine wp_gen (fun A => Below w.heap.size w A ∧ A.heap[w.heap.size]? = some (.cells C 39 (0, 0))) ⟨(Below.refl _ _).alloc (Nat.le_refl _) _, heap_new_at rfl⟩ ?_
  rintro A ⟨bA, hA⟩
  obtain ⟨b0, hb0⟩ : ∃ b0, b0 = w.heap.size := ⟨_, rfl⟩
  rw [← hb0] at hA ⊢
  have hx1 : X2 (AP g d o) (BP x d o) lo A ([(b0, .cells C 39 (0, 0))] ++ [(q, pairO g x o)]) := HX.out.add (AP.part g _ _) (BP.part x _ _) bA (fun y hy => by rw [List.mem_singleton.1 hy]; exact ⟨Nat.le_of_eq hb0.symm, hA⟩)
  have HX1 : Hid (X2 (AP g d o) (BP x d o) lo A [(b0, .cells C 39 (0, 0)), (q, pairO g x o)]) := show X2 _ _ _ _ _ from hx1
  have HB1 := Lib.hid (bA.mono HLO.out)
  have HB0 := Lib.hid hb0
  have f0 := ((hx1.dc (q := q) (b0 := b0) (g := g) (x := x) (C := C) o (by simp) (by simp)).at HC.out HK.out).1
  obtain ⟨kd, hkd⟩ : ∃ kd, op.kind = kd := ⟨_, rfl⟩
  rw [hkd] at f0
  clear hx1 hA bA HX hb0
  have HXD := Lib.hid (HX1.out.below (AP.part g _ _) (BP.part x _ _) (Below.refl _ A).drew)
  have HBD : Hid (Below lo w A.drew) := show Below _ _ _ from HB1.out.drew
  have HDC : Hid (DcS q b0 g x C A.drew) := show DcS _ _ _ _ _ _ from HXD.out.dc o (by simp) (by simp)
  by_cases h2 : kd = 2
  · subst h2
    go_upto_region 3 with fail
    refine region_phase (DcS q b0 g x C) (fun _ => True) 99 (HDC.out) trivial [(0, .free), (1, .free), (2, .free), (3, .free), (4, .free), (5, .free), (6, .behind)] (by kernel_rfl) (by kernel_rfl) (by kernel_rfl) (by kernel_rfl) (fun ops hops A3 hA => ?_)
    have hsz : A3.tmps.size = 85 := by rw [hA]; rfl
    have base0 : A3.eval (.tmp 0) = .pointer (some ⟨q, 0, none⟩) := by rw [hA]; rfl
    have base3 : A3.eval (.tmp 3) = .pointer (some ⟨b0, 0, none⟩) := by rw [hA]; rfl
    have HAA := Lib.hid hA; clear hA
    obtain ⟨o0, po0, q0, d0, gd0⟩ : ∃ o, ops[0]? = some o ∧ o.op = .move (.tmp 0) ∧ o.dst = some 9 ∧ o.guard = none := ⟨_, by rw [hops]; rfl, rfl, rfl, rfl⟩
    obtain ⟨o1, po1, q1, d1, gd1⟩ : ∃ o, ops[1]? = some o ∧ o.op = .nilCheck (.tmp 9) ∧ o.dst = some 10 ∧ o.guard = none := ⟨_, by rw [hops]; rfl, rfl, rfl, rfl⟩
    obtain ⟨o2, po2, q2, d2, gd2⟩ : ∃ o, ops[2]? = some o ∧ o.op = .fieldAddr 31 (.tmp 10) 0 ∧ o.dst = some 11 ∧ o.guard = none := ⟨_, by rw [hops]; rfl, rfl, rfl, rfl⟩
    obtain ⟨o3, po3, q3, d3, gd3⟩ : ∃ o, ops[3]? = some o ∧ o.op = .load 24 (.tmp 11) ∧ o.dst = some 12 ∧ o.guard = none := ⟨_, by rw [hops]; rfl, rfl, rfl, rfl⟩
    obtain ⟨o4, po4, q4, d4, gd4⟩ : ∃ o, ops[4]? = some o ∧ o.op = .fieldAddr 39 (.tmp 3) 1 ∧ o.dst = some 13 ∧ o.guard = none := ⟨_, by rw [hops]; rfl, rfl, rfl, rfl⟩
    obtain ⟨o5, po5, q5, d5, gd5⟩ : ∃ o, ops[5]? = some o ∧ o.op = .load 3 (.tmp 13) ∧ o.dst = some 14 ∧ o.guard = none := ⟨_, by rw [hops]; rfl, rfl, rfl, rfl⟩
    obtain ⟨o6, po6, q6, d6, gd6⟩ : ∃ o, ops[6]? = some o ∧ o.op = .call { callee := .value (.func 36), args := #[.tmp 12, .tmp 14], argTypes := #[24, 3] } ∧ o.dst = some 15 ∧ o.guard = none := ⟨_, by rw [hops]; rfl, rfl, rfl, rfl⟩
    clear hops
    refine met_free po0 d0 (wanted_of gd0) (fun w' h' => run_move q0 base0 w') ?_
    refine met_free po1 d1 (wanted_of gd1) (fun w' h' => run_nilCheck q1 (eval_same _ _ _ (by rw [hsz]; decide)) w') ?_
    refine met_free po2 d2 (wanted_of gd2) (fun w' h' => run_fieldT (off := 0) q2 (fun _ => by kernel_rfl) (eval_same _ _ _ (by simp only [put_size, hsz]; decide)) w') ?_
    refine met_free po3 d3 (wanted_of gd3) (fun w' h' => run_loadDP q3 (eval_same _ _ _ (by simp only [put_size, hsz]; decide)) h'.gp) ?_
    refine met_free po4 d4 (wanted_of gd4) (fun w' h' => run_fieldT (off := 1) q4 (fun _ => by kernel_rfl) ((eval_other _ 12 3 _ (by decide)).trans ((eval_other _ 11 3 _ (by decide)).trans ((eval_other _ 10 3 _ (by decide)).trans ((eval_other _ 9 3 _ (by decide)).trans base3)))) w') ?_
    refine met_free po5 d5 (wanted_of gd5) (fun w' h' => run_loadI3V q5 (eval_same _ _ _ (by simp only [put_size, hsz]; decide)) (h'.at HC.out HK.out).2.1) ?_
    refine m_enter po6 d6 (wanted_of gd6) (run_callf2 q6 rfl ((eval_other _ 14 12 _ (by decide)).trans ((eval_other _ 13 12 _ (by decide)).trans (eval_same _ _ _ (by simp only [put_size, hsz]; decide)))) (eval_same _ _ _ (by simp only [put_size, hsz]; decide)) Tryd.func36 (by kernel_rfl) _) (HXD.out.dk (BP.part x _ _) (Nat.le_trans HLO.out HBD.out.size) (fun S0 hD _ => dkArm_any S0 g d op.n _ hD HNB.out.1)) ?_
    rintro e w3 ⟨rfl, hx3, hb3⟩
    have HX3 := Lib.hid hx3
    have HB3 := Lib.hid (HBD.out.trans hb3)
    clear hx3 hb3
    refine ⟨_, rfl, HX3.out.dc o (by simp) (by simp), ?_⟩
    show NoPanic _ .normal _ _
    refine NoPanic.normal ?_
    rw [HAA.out]
    go_frame
    clear HAA
    clear po0 q0 d0 gd0 po1 q1 d1 gd1 po2 q2 d2 gd2 po3 q3 d3 gd3 po4 q4 d4 gd4 po5 q5 d5 gd5 po6 q6 d6 gd6
    clear base0 base3 hsz
    have HXE := Lib.hid (HX3.out.below (AP.part g _ _) (BP.part x _ _) (Below.refl _ w3).drew)
    have HBE : Hid (Below lo w w3.drew) := show Below _ _ _ from HB3.out.drew
    clear HXD HBD HX3 HB3 HX1 HB1 HDC
    go_upto_region 4 with fail
    refine region_phase (DcS q b0 g x C) (fun _ => True) 99 (HXE.out.dc o (by simp) (by simp)) trivial [(0, .free), (1, .free), (2, .free), (3, .free), (4, .free), (5, .free), (6, .behind)] (by kernel_rfl) (by kernel_rfl) (by kernel_rfl) (by kernel_rfl) (fun ops hops A4 hA => ?_)
    have hsz : A4.tmps.size = 85 := by rw [hA]; rfl
    have base0 : A4.eval (.tmp 0) = .pointer (some ⟨q, 0, none⟩) := by rw [hA]; rfl
    have base3 : A4.eval (.tmp 3) = .pointer (some ⟨b0, 0, none⟩) := by rw [hA]; rfl
    have HAA := Lib.hid hA; clear hA
    obtain ⟨o0, po0, q0, d0, gd0⟩ : ∃ o, ops[0]? = some o ∧ o.op = .move (.tmp 0) ∧ o.dst = some 16 ∧ o.guard = none := ⟨_, by rw [hops]; rfl, rfl, rfl, rfl⟩
    obtain ⟨o1, po1, q1, d1, gd1⟩ : ∃ o, ops[1]? = some o ∧ o.op = .nilCheck (.tmp 16) ∧ o.dst = some 17 ∧ o.guard = none := ⟨_, by rw [hops]; rfl, rfl, rfl, rfl⟩
    obtain ⟨o2, po2, q2, d2, gd2⟩ : ∃ o, ops[2]? = some o ∧ o.op = .fieldAddr 31 (.tmp 17) 1 ∧ o.dst = some 18 ∧ o.guard = none := ⟨_, by rw [hops]; rfl, rfl, rfl, rfl⟩
    obtain ⟨o3, po3, q3, d3, gd3⟩ : ∃ o, ops[3]? = some o ∧ o.op = .load 26 (.tmp 18) ∧ o.dst = some 19 ∧ o.guard = none := ⟨_, by rw [hops]; rfl, rfl, rfl, rfl⟩
    obtain ⟨o4, po4, q4, d4, gd4⟩ : ∃ o, ops[4]? = some o ∧ o.op = .fieldAddr 39 (.tmp 3) 1 ∧ o.dst = some 20 ∧ o.guard = none := ⟨_, by rw [hops]; rfl, rfl, rfl, rfl⟩
    obtain ⟨o5, po5, q5, d5, gd5⟩ : ∃ o, ops[5]? = some o ∧ o.op = .load 3 (.tmp 20) ∧ o.dst = some 21 ∧ o.guard = none := ⟨_, by rw [hops]; rfl, rfl, rfl, rfl⟩
    obtain ⟨o6, po6, q6, d6, gd6⟩ : ∃ o, ops[6]? = some o ∧ o.op = .call { callee := .value (.func 37), args := #[.tmp 19, .tmp 21], argTypes := #[26, 3] } ∧ o.dst = some 22 ∧ o.guard = none := ⟨_, by rw [hops]; rfl, rfl, rfl, rfl⟩
    clear hops
    refine met_free po0 d0 (wanted_of gd0) (fun w' h' => run_move q0 base0 w') ?_
    refine met_free po1 d1 (wanted_of gd1) (fun w' h' => run_nilCheck q1 (eval_same _ _ _ (by rw [hsz]; decide)) w') ?_
    refine met_free po2 d2 (wanted_of gd2) (fun w' h' => run_fieldT (off := 1) q2 (fun _ => by kernel_rfl) (eval_same _ _ _ (by simp only [put_size, hsz]; decide)) w') ?_
    refine met_free po3 d3 (wanted_of gd3) (fun w' h' => run_loadRD q3 (eval_same _ _ _ (by simp only [put_size, hsz]; decide)) h'.xp) ?_
    refine met_free po4 d4 (wanted_of gd4) (fun w' h' => run_fieldT (off := 1) q4 (fun _ => by kernel_rfl) ((eval_other _ 19 3 _ (by decide)).trans ((eval_other _ 18 3 _ (by decide)).trans ((eval_other _ 17 3 _ (by decide)).trans ((eval_other _ 16 3 _ (by decide)).trans base3)))) w') ?_
    refine met_free po5 d5 (wanted_of gd5) (fun w' h' => run_loadI3V q5 (eval_same _ _ _ (by simp only [put_size, hsz]; decide)) (h'.at HC.out HK.out).2.1) ?_
    refine m_enter po6 d6 (wanted_of gd6) (run_callf2 q6 rfl ((eval_other _ 21 19 _ (by decide)).trans ((eval_other _ 20 19 _ (by decide)).trans (eval_same _ _ _ (by simp only [put_size, hsz]; decide)))) (eval_same _ _ _ (by simp only [put_size, hsz]; decide)) Tryd.func37 (by kernel_rfl) _) (HXE.out.rf (AP.part g _ _) (Nat.le_trans HLO.out HBE.out.size) (fun T hD _ _ => rfArm_any T x d _ op.n hD)) ?_
    rintro e w4 ⟨rfl, hx4, hb4⟩
    have HX4 := Lib.hid hx4
    have HB4 := Lib.hid (HBE.out.trans hb4)
    clear hx4 hb4
    refine ⟨_, rfl, HX4.out.dc o (by simp) (by simp), ?_⟩
    show NoPanic _ .normal _ _
    refine NoPanic.normal ?_
    rw [HAA.out]
    go_frame
    clear HAA
    clear po0 q0 d0 gd0 po1 q1 d1 gd1 po2 q2 d2 gd2 po3 q3 d3 gd3 po4 q4 d4 gd4 po5 q5 d5 gd5 po6 q6 d6 gd6
    clear base0 base3 hsz
    go_wp2_with fail
    go_ret
    have hfw : X2 (AP g (d.arm op.n) o) (BP x (d.arm op.n) o) lo w4 [(q, pairO g x o)] := HX4.out.fewer (fun z hz => by rw [List.mem_singleton.1 hz]; simp)
    first | exact ⟨rfl, d.arm op.n, o, arm_count _ _, hfw, HB4.out⟩ | exact ⟨rfl, d.arm op.n, arm_count _ _, ⟨o, hfw⟩, HB4.out⟩ | exact ⟨rfl, d.arm op.n, arm_count _ _, o, hfw, HB4.out⟩
  · have q2 : (kd == 2) = false := beq_eq_false_iff_ne.2 h2
    clear h2
    by_cases h3 : kd = 3
    · subst h3
      go_upto_region 6 with fail
      refine region_phase (DcS q b0 g x C) (fun _ => True) 99 (HDC.out) trivial [(0, .free), (1, .free), (2, .free), (3, .free), (4, .free), (5, .free), (6, .free), (7, .free), (8, .behind), (9, .behind)] (by kernel_rfl) (by kernel_rfl) (by kernel_rfl) (by kernel_rfl) (fun ops hops A6 hA => ?_)
      have hsz : A6.tmps.size = 85 := by rw [hA]; rfl
      have base0 : A6.eval (.tmp 0) = .pointer (some ⟨q, 0, none⟩) := by rw [hA]; rfl
      have base3 : A6.eval (.tmp 3) = .pointer (some ⟨b0, 0, none⟩) := by rw [hA]; rfl
      have HAA := Lib.hid hA; clear hA
      obtain ⟨o0, po0, q0, d0, gd0⟩ : ∃ o, ops[0]? = some o ∧ o.op = .move (.tmp 0) ∧ o.dst = some 25 ∧ o.guard = none := ⟨_, by rw [hops]; rfl, rfl, rfl, rfl⟩
      obtain ⟨o1, po1, q1, d1, gd1⟩ : ∃ o, ops[1]? = some o ∧ o.op = .nilCheck (.tmp 25) ∧ o.dst = some 26 ∧ o.guard = none := ⟨_, by rw [hops]; rfl, rfl, rfl, rfl⟩
      obtain ⟨o2, po2, q2, d2, gd2⟩ : ∃ o, ops[2]? = some o ∧ o.op = .fieldAddr 31 (.tmp 26) 0 ∧ o.dst = some 27 ∧ o.guard = none := ⟨_, by rw [hops]; rfl, rfl, rfl, rfl⟩
      obtain ⟨o3, po3, q3, d3, gd3⟩ : ∃ o, ops[3]? = some o ∧ o.op = .load 24 (.tmp 27) ∧ o.dst = some 28 ∧ o.guard = none := ⟨_, by rw [hops]; rfl, rfl, rfl, rfl⟩
      obtain ⟨o4, po4, q4, d4, gd4⟩ : ∃ o, ops[4]? = some o ∧ o.op = .fieldAddr 39 (.tmp 3) 1 ∧ o.dst = some 29 ∧ o.guard = none := ⟨_, by rw [hops]; rfl, rfl, rfl, rfl⟩
      obtain ⟨o5, po5, q5, d5, gd5⟩ : ∃ o, ops[5]? = some o ∧ o.op = .load 3 (.tmp 29) ∧ o.dst = some 30 ∧ o.guard = none := ⟨_, by rw [hops]; rfl, rfl, rfl, rfl⟩
      obtain ⟨o6, po6, q6, d6, gd6⟩ : ∃ o, ops[6]? = some o ∧ o.op = .fieldAddr 39 (.tmp 3) 2 ∧ o.dst = some 31 ∧ o.guard = none := ⟨_, by rw [hops]; rfl, rfl, rfl, rfl⟩
      obtain ⟨o7, po7, q7, d7, gd7⟩ : ∃ o, ops[7]? = some o ∧ o.op = .load 3 (.tmp 31) ∧ o.dst = some 32 ∧ o.guard = none := ⟨_, by rw [hops]; rfl, rfl, rfl, rfl⟩
      obtain ⟨o8, po8, q8, d8, gd8⟩ : ∃ o, ops[8]? = some o ∧ o.op = .buildSlice 55 2 #[(0, (.tmp 30)), (1, (.tmp 32))] ∧ o.dst = some 33 ∧ o.guard = none := ⟨_, by rw [hops]; rfl, rfl, rfl, rfl⟩
      obtain ⟨o9, po9, q9, d9, gd9⟩ : ∃ o, ops[9]? = some o ∧ o.op = .call { callee := .value (.func 28), args := #[.tmp 28, .tmp 33], argTypes := #[24, 55] } ∧ o.dst = some 34 ∧ o.guard = none := ⟨_, by rw [hops]; rfl, rfl, rfl, rfl⟩
      clear hops
      refine met_free po0 d0 (wanted_of gd0) (fun w' h' => run_move q0 base0 w') ?_
      refine met_free po1 d1 (wanted_of gd1) (fun w' h' => run_nilCheck q1 (eval_same _ _ _ (by rw [hsz]; decide)) w') ?_
      refine met_free po2 d2 (wanted_of gd2) (fun w' h' => run_fieldT (off := 0) q2 (fun _ => by kernel_rfl) (eval_same _ _ _ (by simp only [put_size, hsz]; decide)) w') ?_
      refine met_free po3 d3 (wanted_of gd3) (fun w' h' => run_loadDP q3 (eval_same _ _ _ (by simp only [put_size, hsz]; decide)) h'.gp) ?_
      refine met_free po4 d4 (wanted_of gd4) (fun w' h' => run_fieldT (off := 1) q4 (fun _ => by kernel_rfl) ((eval_other _ 28 3 _ (by decide)).trans ((eval_other _ 27 3 _ (by decide)).trans ((eval_other _ 26 3 _ (by decide)).trans ((eval_other _ 25 3 _ (by decide)).trans base3)))) w') ?_
      refine met_free po5 d5 (wanted_of gd5) (fun w' h' => run_loadI3V q5 (eval_same _ _ _ (by simp only [put_size, hsz]; decide)) (h'.at HC.out HK.out).2.1) ?_
      refine met_free po6 d6 (wanted_of gd6) (fun w' h' => run_fieldT (off := 2) q6 (fun _ => by kernel_rfl) ((eval_other _ 30 3 _ (by decide)).trans ((eval_other _ 29 3 _ (by decide)).trans ((eval_other _ 28 3 _ (by decide)).trans ((eval_other _ 27 3 _ (by decide)).trans ((eval_other _ 26 3 _ (by decide)).trans ((eval_other _ 25 3 _ (by decide)).trans base3)))))) w') ?_
      refine met_free po7 d7 (wanted_of gd7) (fun w' h' => run_loadI3V q7 (eval_same _ _ _ (by simp only [put_size, hsz]; decide)) (h'.at HC.out HK.out).2.2.1) ?_
      refine met_op po8 d8 (wanted_of gd8) (run_build2 q8 ((eval_other _ 32 30 _ (by decide)).trans ((eval_other _ 31 30 _ (by decide)).trans (eval_same _ _ _ (by simp only [put_size, hsz]; decide)))) (eval_same _ _ _ (by simp only [put_size, hsz]; decide)) A.drew) ((HDC.out).below ((Below.refl _ _).alloc (Nat.le_refl _) _)) ?_
      have HXK := Lib.hid (HXD.out.add (AP.part g _ _) (BP.part x _ _) (w' := A.drew.alloc (.cells #[.int .i64 op.n, .int .i64 op.m] 3)) ((Below.refl _ _).alloc (Nat.le_refl _) _) (L' := [(A.drew.heap.size, Obj.cells #[.int .i64 op.n, .int .i64 op.m] 3 (0, 0))]) (fun y hy => by rw [List.mem_singleton.1 hy]; exact ⟨Nat.le_refl _, heap_new_at rfl⟩))
      have HBK : Hid (Below lo w (A.drew.alloc (.cells #[.int .i64 op.n, .int .i64 op.m] 3))) := show Below _ _ _ from HBD.out.alloc (Nat.le_trans HLO.out HBD.out.size) _
      obtain ⟨kb, hkb⟩ : ∃ kb, kb = A.drew.heap.size := ⟨_, rfl⟩
      rw [← hkb] at HXK ⊢
      generalize A.drew.alloc (.cells #[.int .i64 op.n, .int .i64 op.m] 3) = wk at HXK HBK ⊢
      have hkr : wk.heap[kb]? = some (Obj.cells #[.int .i64 op.n, .int .i64 op.m] 3 (0, 0)) := HXK.out.all (kb, Obj.cells #[.int .i64 op.n, .int .i64 op.m] 3 (0, 0)) (by simp)
      have HKR := Lib.hid hkr
      clear hkr hkb
      refine m_enter po9 d9 (wanted_of gd9) (run_callf2 q9 rfl ((eval_other _ 33 28 _ (by decide)).trans ((eval_other _ 32 28 _ (by decide)).trans ((eval_other _ 31 28 _ (by decide)).trans ((eval_other _ 30 28 _ (by decide)).trans ((eval_other _ 29 28 _ (by decide)).trans (eval_same _ _ _ (by simp only [put_size, hsz]; decide))))))) (eval_same _ _ _ (by simp only [put_size, hsz]; decide)) Tryd.func28 (by kernel_rfl) _) (HXK.out.dk (BP.part x _ _) (Nat.le_trans HLO.out HBK.out.size) (fun S0 hD hL => dkCrash_any S0 g d [op.n, op.m] 2 2 (some ⟨kb, 0, none⟩) wk hD rfl (Nat.le_refl _) (Or.inr ⟨kb, 0, rfl, hL (kb, Obj.cells #[.int .i64 op.n, .int .i64 op.m] 3 (0, 0)) (by simp), (Array.getElem?_eq_some_iff.1 HKR.out).1, keep_range HKR.out⟩))) ?_
      rintro e w3 ⟨rfl, hx3, hb3⟩
      have HX3 := Lib.hid hx3
      have HB3 := Lib.hid (HBK.out.trans hb3)
      clear hx3 hb3
      refine ⟨_, rfl, HX3.out.dc o (by simp) (by simp), ?_⟩
      show NoPanic _ .normal _ _
      refine NoPanic.normal ?_
      rw [HAA.out]
      go_frame
      clear HAA
      clear po0 q0 d0 gd0 po1 q1 d1 gd1 po2 q2 d2 gd2 po3 q3 d3 gd3 po4 q4 d4 gd4 po5 q5 d5 gd5 po6 q6 d6 gd6 po7 q7 d7 gd7 po8 q8 d8 gd8 po9 q9 d9 gd9
      clear base0 base3 hsz
      have HXE : Hid (X2 (AP g (d.crash [op.n, op.m]) o) (BP x d o) lo w3.drew [(b0, .cells C 39 (0, 0)), (q, pairO g x o)]) := show X2 _ _ _ _ _ from (HX3.out.below (AP.part g _ _) (BP.part x _ _) (Below.refl _ w3).drew).fewer (fun z hz => List.mem_cons_of_mem _ hz)
      have HBE : Hid (Below lo w w3.drew) := show Below _ _ _ from HB3.out.drew
      clear HXD HBD HX3 HB3 HX1 HB1 HDC HXK HBK HKR
      go_upto_region 7 with fail
      refine region_phase (DcS q b0 g x C) (fun _ => True) 99 (HXE.out.dc o (by simp) (by simp)) trivial [(0, .free), (1, .free), (2, .free), (3, .free), (4, .free), (5, .free), (6, .free), (7, .free), (8, .behind), (9, .behind)] (by kernel_rfl) (by kernel_rfl) (by kernel_rfl) (by kernel_rfl) (fun ops hops A7 hA => ?_)
      have hsz : A7.tmps.size = 85 := by rw [hA]; rfl
      have base0 : A7.eval (.tmp 0) = .pointer (some ⟨q, 0, none⟩) := by rw [hA]; rfl
      have base3 : A7.eval (.tmp 3) = .pointer (some ⟨b0, 0, none⟩) := by rw [hA]; rfl
      have HAA := Lib.hid hA; clear hA
      obtain ⟨o0, po0, q0, d0, gd0⟩ : ∃ o, ops[0]? = some o ∧ o.op = .move (.tmp 0) ∧ o.dst = some 35 ∧ o.guard = none := ⟨_, by rw [hops]; rfl, rfl, rfl, rfl⟩
      obtain ⟨o1, po1, q1, d1, gd1⟩ : ∃ o, ops[1]? = some o ∧ o.op = .nilCheck (.tmp 35) ∧ o.dst = some 36 ∧ o.guard = none := ⟨_, by rw [hops]; rfl, rfl, rfl, rfl⟩
      obtain ⟨o2, po2, q2, d2, gd2⟩ : ∃ o, ops[2]? = some o ∧ o.op = .fieldAddr 31 (.tmp 36) 1 ∧ o.dst = some 37 ∧ o.guard = none := ⟨_, by rw [hops]; rfl, rfl, rfl, rfl⟩
      obtain ⟨o3, po3, q3, d3, gd3⟩ : ∃ o, ops[3]? = some o ∧ o.op = .load 26 (.tmp 37) ∧ o.dst = some 38 ∧ o.guard = none := ⟨_, by rw [hops]; rfl, rfl, rfl, rfl⟩
      obtain ⟨o4, po4, q4, d4, gd4⟩ : ∃ o, ops[4]? = some o ∧ o.op = .fieldAddr 39 (.tmp 3) 1 ∧ o.dst = some 39 ∧ o.guard = none := ⟨_, by rw [hops]; rfl, rfl, rfl, rfl⟩
      obtain ⟨o5, po5, q5, d5, gd5⟩ : ∃ o, ops[5]? = some o ∧ o.op = .load 3 (.tmp 39) ∧ o.dst = some 40 ∧ o.guard = none := ⟨_, by rw [hops]; rfl, rfl, rfl, rfl⟩
      obtain ⟨o6, po6, q6, d6, gd6⟩ : ∃ o, ops[6]? = some o ∧ o.op = .fieldAddr 39 (.tmp 3) 2 ∧ o.dst = some 41 ∧ o.guard = none := ⟨_, by rw [hops]; rfl, rfl, rfl, rfl⟩
      obtain ⟨o7, po7, q7, d7, gd7⟩ : ∃ o, ops[7]? = some o ∧ o.op = .load 3 (.tmp 41) ∧ o.dst = some 42 ∧ o.guard = none := ⟨_, by rw [hops]; rfl, rfl, rfl, rfl⟩
      obtain ⟨o8, po8, q8, d8, gd8⟩ : ∃ o, ops[8]? = some o ∧ o.op = .buildSlice 55 2 #[(0, (.tmp 40)), (1, (.tmp 42))] ∧ o.dst = some 43 ∧ o.guard = none := ⟨_, by rw [hops]; rfl, rfl, rfl, rfl⟩
      obtain ⟨o9, po9, q9, d9, gd9⟩ : ∃ o, ops[9]? = some o ∧ o.op = .call { callee := .value (.func 38), args := #[.tmp 38, .tmp 43], argTypes := #[26, 55] } ∧ o.dst = some 44 ∧ o.guard = none := ⟨_, by rw [hops]; rfl, rfl, rfl, rfl⟩
      clear hops
      refine met_free po0 d0 (wanted_of gd0) (fun w' h' => run_move q0 base0 w') ?_
      refine met_free po1 d1 (wanted_of gd1) (fun w' h' => run_nilCheck q1 (eval_same _ _ _ (by rw [hsz]; decide)) w') ?_
      refine met_free po2 d2 (wanted_of gd2) (fun w' h' => run_fieldT (off := 1) q2 (fun _ => by kernel_rfl) (eval_same _ _ _ (by simp only [put_size, hsz]; decide)) w') ?_
      refine met_free po3 d3 (wanted_of gd3) (fun w' h' => run_loadRD q3 (eval_same _ _ _ (by simp only [put_size, hsz]; decide)) h'.xp) ?_
      refine met_free po4 d4 (wanted_of gd4) (fun w' h' => run_fieldT (off := 1) q4 (fun _ => by kernel_rfl) ((eval_other _ 38 3 _ (by decide)).trans ((eval_other _ 37 3 _ (by decide)).trans ((eval_other _ 36 3 _ (by decide)).trans ((eval_other _ 35 3 _ (by decide)).trans base3)))) w') ?_
      refine met_free po5 d5 (wanted_of gd5) (fun w' h' => run_loadI3V q5 (eval_same _ _ _ (by simp only [put_size, hsz]; decide)) (h'.at HC.out HK.out).2.1) ?_
      refine met_free po6 d6 (wanted_of gd6) (fun w' h' => run_fieldT (off := 2) q6 (fun _ => by kernel_rfl) ((eval_other _ 40 3 _ (by decide)).trans ((eval_other _ 39 3 _ (by decide)).trans ((eval_other _ 38 3 _ (by decide)).trans ((eval_other _ 37 3 _ (by decide)).trans ((eval_other _ 36 3 _ (by decide)).trans ((eval_other _ 35 3 _ (by decide)).trans base3)))))) w') ?_
      refine met_free po7 d7 (wanted_of gd7) (fun w' h' => run_loadI3V q7 (eval_same _ _ _ (by simp only [put_size, hsz]; decide)) (h'.at HC.out HK.out).2.2.1) ?_
      refine met_op po8 d8 (wanted_of gd8) (run_build2 q8 ((eval_other _ 42 40 _ (by decide)).trans ((eval_other _ 41 40 _ (by decide)).trans (eval_same _ _ _ (by simp only [put_size, hsz]; decide)))) (eval_same _ _ _ (by simp only [put_size, hsz]; decide)) w3.drew) ((HXE.out.dc o (by simp) (by simp)).below ((Below.refl _ _).alloc (Nat.le_refl _) _)) ?_
      have HXK := Lib.hid (HXE.out.add (AP.part g _ _) (BP.part x _ _) (w' := w3.drew.alloc (.cells #[.int .i64 op.n, .int .i64 op.m] 3)) ((Below.refl _ _).alloc (Nat.le_refl _) _) (L' := [(w3.drew.heap.size, Obj.cells #[.int .i64 op.n, .int .i64 op.m] 3 (0, 0))]) (fun y hy => by rw [List.mem_singleton.1 hy]; exact ⟨Nat.le_refl _, heap_new_at rfl⟩))
      have HBK : Hid (Below lo w (w3.drew.alloc (.cells #[.int .i64 op.n, .int .i64 op.m] 3))) := show Below _ _ _ from HBE.out.alloc (Nat.le_trans HLO.out HBE.out.size) _
      obtain ⟨kb, hkb⟩ : ∃ kb, kb = w3.drew.heap.size := ⟨_, rfl⟩
      rw [← hkb] at HXK ⊢
      generalize w3.drew.alloc (.cells #[.int .i64 op.n, .int .i64 op.m] 3) = wk at HXK HBK ⊢
      have hkr : wk.heap[kb]? = some (Obj.cells #[.int .i64 op.n, .int .i64 op.m] 3 (0, 0)) := HXK.out.all (kb, Obj.cells #[.int .i64 op.n, .int .i64 op.m] 3 (0, 0)) (by simp)
      have HKR := Lib.hid hkr
      clear hkr hkb
      refine m_enter po9 d9 (wanted_of gd9) (run_callf2 q9 rfl ((eval_other _ 43 38 _ (by decide)).trans ((eval_other _ 42 38 _ (by decide)).trans ((eval_other _ 41 38 _ (by decide)).trans ((eval_other _ 40 38 _ (by decide)).trans ((eval_other _ 39 38 _ (by decide)).trans (eval_same _ _ _ (by simp only [put_size, hsz]; decide))))))) (eval_same _ _ _ (by simp only [put_size, hsz]; decide)) Tryd.func38 (by kernel_rfl) _) (HXK.out.rf (AP.part g _ _) (Nat.le_trans HLO.out HBK.out.size) (fun T hD hL _ => rfCrash_any T x d wk [op.n, op.m] 2 2 (some ⟨kb, 0, none⟩) hD HOK.out rfl (fun w' hs => Or.inr ⟨kb, 0, rfl, keep_range ((hs.block kb (Array.getElem?_eq_some_iff.1 HKR.out).1 (fun e => hL (kb, Obj.cells #[.int .i64 op.n, .int .i64 op.m] 3 (0, 0)) (by simp) (e ▸ RefAt.own hD))).trans HKR.out)⟩))) ?_
      rintro e w4 ⟨rfl, hx4, hb4⟩
      have HX4 := Lib.hid hx4
      have HB4 := Lib.hid (HBK.out.trans hb4)
      clear hx4 hb4
      refine ⟨_, rfl, HX4.out.dc o (by simp) (by simp), ?_⟩
      show NoPanic _ .normal _ _
      refine NoPanic.normal ?_
      rw [HAA.out]
      go_frame
      clear HAA
      clear po0 q0 d0 gd0 po1 q1 d1 gd1 po2 q2 d2 gd2 po3 q3 d3 gd3 po4 q4 d4 gd4 po5 q5 d5 gd5 po6 q6 d6 gd6 po7 q7 d7 gd7 po8 q8 d8 gd8 po9 q9 d9 gd9
      clear base0 base3 hsz
      have HXF : Hid (X2 (AP g (d.crash [op.n, op.m]) o) (BP x (d.crash [op.n, op.m]) o) lo w4 [(q, pairO g x o)]) := show X2 _ _ _ _ _ from HX4.out.fewer (fun z hz => by rw [List.mem_singleton.1 hz]; simp)
      have HO := Lib.hid (pairOpen_any HXF.out (fun z hz => by cases hz) hq (Nat.le_trans HLO.out HB4.out.size) hG (HR.out.below HB4.out hG) (by have := crash_count d [op.n, op.m]; have := HCT.out.1; omega))
      go_wp2_with fail
      refine HO.out.mono ?_
      rintro e w5 ⟨rfl, dy, oy, hd5, hx5, hb5⟩
      have HX5 := Lib.hid hx5
      have HB5 := Lib.hid (HB4.out.trans hb5)
      have HD5 : Hid (dy.count ≤ d.count + 2) := show _ ≤ _ from by have := crash_count d [op.n, op.m]; omega
      clear hx5 hb5 hd5 HO
      go_wp2_with fail
      go_ret
      first | exact ⟨rfl, dy, oy, HD5.out, HX5.out, HB5.out⟩ | exact ⟨rfl, dy, HD5.out, ⟨oy, HX5.out⟩, HB5.out⟩
    · have q3 : (kd == 3) = false := beq_eq_false_iff_ne.2 h3
      clear h3
      by_cases h4 : kd = 4
      · subst h4
        obtain ⟨⟨dz, ez⟩, hW⟩ : ∃ P, d.write 0 op.b = P := ⟨_, rfl⟩
        have hd1 := write_count d 0 op.b
        rw [hW] at hd1
        have HD1 : Hid (dz.count ≤ d.count + 1) := show _ ≤ _ from hd1
        have HW := Lib.hid hW
        have hqr := HX1.out.all (q, pairO g x o) (by simp)
        have HNE : Hid (b0 ≠ q) := show _ ≠ _ from fun e => by have := (Array.getElem?_eq_some_iff.1 (HXQ.out)).1; have := HB0.out; omega
        clear hd1 hW hqr
        go_upto_region 10 with fail
        refine region_phase (DcS q b0 g x C) (fun _ => True) 99 (HDC.out) trivial [(0, .free), (1, .free), (2, .free), (3, .free), (4, .free), (5, .free), (7, .free), (8, .free), (9, .free), (10, .free), (11, .free), (12, .free), (6, .behind), (13, .behind), (14, .free), (15, .free), (16, .free), (17, .behind), (18, .free), (19, .free)] (by kernel_rfl) (by kernel_rfl) (by kernel_rfl) (by kernel_rfl) (fun ops hops A10 hA => ?_)
        have hsz : A10.tmps.size = 85 := by rw [hA]; rfl
        have base0 : A10.eval (.tmp 0) = .pointer (some ⟨q, 0, none⟩) := by rw [hA]; rfl
        have base3 : A10.eval (.tmp 3) = .pointer (some ⟨b0, 0, none⟩) := by rw [hA]; rfl
        have HAA := Lib.hid hA; clear hA
        obtain ⟨o0, po0, q0, d0, gd0⟩ : ∃ o, ops[0]? = some o ∧ o.op = .move (.tmp 0) ∧ o.dst = some 49 ∧ o.guard = none := ⟨_, by rw [hops]; rfl, rfl, rfl, rfl⟩
        obtain ⟨o1, po1, q1, d1, gd1⟩ : ∃ o, ops[1]? = some o ∧ o.op = .nilCheck (.tmp 49) ∧ o.dst = some 50 ∧ o.guard = none := ⟨_, by rw [hops]; rfl, rfl, rfl, rfl⟩
        obtain ⟨o2, po2, q2, d2, gd2⟩ : ∃ o, ops[2]? = some o ∧ o.op = .fieldAddr 31 (.tmp 50) 0 ∧ o.dst = some 51 ∧ o.guard = none := ⟨_, by rw [hops]; rfl, rfl, rfl, rfl⟩
        obtain ⟨o3, po3, q3, d3, gd3⟩ : ∃ o, ops[3]? = some o ∧ o.op = .load 24 (.tmp 51) ∧ o.dst = some 52 ∧ o.guard = none := ⟨_, by rw [hops]; rfl, rfl, rfl, rfl⟩
        obtain ⟨o4, po4, q4, d4, gd4⟩ : ∃ o, ops[4]? = some o ∧ o.op = .fieldAddr 39 (.tmp 3) 4 ∧ o.dst = some 53 ∧ o.guard = none := ⟨_, by rw [hops]; rfl, rfl, rfl, rfl⟩
        obtain ⟨o5, po5, q5, d5, gd5⟩ : ∃ o, ops[5]? = some o ∧ o.op = .load 37 (.tmp 53) ∧ o.dst = some 54 ∧ o.guard = none := ⟨_, by rw [hops]; rfl, rfl, rfl, rfl⟩
        obtain ⟨o6, po6, q6, d6, gd6⟩ : ∃ o, ops[6]? = some o ∧ o.op = .call { callee := .value (.func 30), args := #[.tmp 52, .const (.int .i64 0), .tmp 54], argTypes := #[24, 3, 37] } ∧ o.dst = some 55 ∧ o.guard = none := ⟨_, by rw [hops]; rfl, rfl, rfl, rfl⟩
        obtain ⟨o7, po7, q7, d7, gd7⟩ : ∃ o, ops[7]? = some o ∧ o.op = .move (.tmp 0) ∧ o.dst = some 56 ∧ o.guard = none := ⟨_, by rw [hops]; rfl, rfl, rfl, rfl⟩
        obtain ⟨o8, po8, q8, d8, gd8⟩ : ∃ o, ops[8]? = some o ∧ o.op = .nilCheck (.tmp 56) ∧ o.dst = some 57 ∧ o.guard = none := ⟨_, by rw [hops]; rfl, rfl, rfl, rfl⟩
        obtain ⟨o9, po9, q9, d9, gd9⟩ : ∃ o, ops[9]? = some o ∧ o.op = .fieldAddr 31 (.tmp 57) 1 ∧ o.dst = some 58 ∧ o.guard = none := ⟨_, by rw [hops]; rfl, rfl, rfl, rfl⟩
        obtain ⟨o10, po10, q10, d10, gd10⟩ : ∃ o, ops[10]? = some o ∧ o.op = .load 26 (.tmp 58) ∧ o.dst = some 59 ∧ o.guard = none := ⟨_, by rw [hops]; rfl, rfl, rfl, rfl⟩
        obtain ⟨o11, po11, q11, d11, gd11⟩ : ∃ o, ops[11]? = some o ∧ o.op = .fieldAddr 39 (.tmp 3) 4 ∧ o.dst = some 60 ∧ o.guard = none := ⟨_, by rw [hops]; rfl, rfl, rfl, rfl⟩
        obtain ⟨o12, po12, q12, d12, gd12⟩ : ∃ o, ops[12]? = some o ∧ o.op = .load 37 (.tmp 60) ∧ o.dst = some 61 ∧ o.guard = none := ⟨_, by rw [hops]; rfl, rfl, rfl, rfl⟩
        obtain ⟨o13, po13, q13, d13, gd13⟩ : ∃ o, ops[13]? = some o ∧ o.op = .call { callee := .value (.func 39), args := #[.tmp 59, .const (.int .i64 0), .tmp 61], argTypes := #[26, 3, 37] } ∧ o.dst = some 62 ∧ o.guard = none := ⟨_, by rw [hops]; rfl, rfl, rfl, rfl⟩
        obtain ⟨o14, po14, q14, d14, gd14⟩ : ∃ o, ops[14]? = some o ∧ o.op = .binOp .eql 43 (.tmp 55) (.tmp 62) 43 ∧ o.dst = some 63 ∧ o.guard = none := ⟨_, by rw [hops]; rfl, rfl, rfl, rfl⟩
        obtain ⟨o15, po15, q15, d15, gd15⟩ : ∃ o, ops[15]? = some o ∧ o.op = .move (.tmp 63) ∧ o.dst = some 64 ∧ o.guard = none := ⟨_, by rw [hops]; rfl, rfl, rfl, rfl⟩
        obtain ⟨o16, po16, q16, d16, gd16⟩ : ∃ o, ops[16]? = some o ∧ o.op = .move (.tmp 0) ∧ o.dst = some 65 ∧ o.guard = some (15, true) := ⟨_, by rw [hops]; rfl, rfl, rfl, rfl⟩
        obtain ⟨o17, po17, q17, d17, gd17⟩ : ∃ o, ops[17]? = some o ∧ o.op = .call { callee := .value (.func 11), args := #[.tmp 65], argTypes := #[23] } ∧ o.dst = some 66 ∧ o.guard = some (15, true) := ⟨_, by rw [hops]; rfl, rfl, rfl, rfl⟩
        obtain ⟨o18, po18, q18, d18, gd18⟩ : ∃ o, ops[18]? = some o ∧ o.op = .pick (.tmp 64) (.tmp 66) (.const (.bool false)) ∧ o.dst = some 67 ∧ o.guard = none := ⟨_, by rw [hops]; rfl, rfl, rfl, rfl⟩
        obtain ⟨o19, po19, q19, d19, gd19⟩ : ∃ o, ops[19]? = some o ∧ o.op = .assign (.tmp 67) ∧ o.dst = some 4 ∧ o.guard = none := ⟨_, by rw [hops]; rfl, rfl, rfl, rfl⟩
        clear hops
        refine met_free po0 d0 (wanted_of gd0) (fun w' h' => run_move q0 base0 w') ?_
        refine met_free po1 d1 (wanted_of gd1) (fun w' h' => run_nilCheck q1 (eval_same _ _ _ (by rw [hsz]; decide)) w') ?_
        refine met_free po2 d2 (wanted_of gd2) (fun w' h' => run_fieldT (off := 0) q2 (fun _ => by kernel_rfl) (eval_same _ _ _ (by simp only [put_size, hsz]; decide)) w') ?_
        refine met_free po3 d3 (wanted_of gd3) (fun w' h' => run_loadDP q3 (eval_same _ _ _ (by simp only [put_size, hsz]; decide)) h'.gp) ?_
        refine met_free po4 d4 (wanted_of gd4) (fun w' h' => run_fieldT (off := 35) q4 (fun _ => by kernel_rfl) ((eval_other _ 52 3 _ (by decide)).trans ((eval_other _ 51 3 _ (by decide)).trans ((eval_other _ 50 3 _ (by decide)).trans ((eval_other _ 49 3 _ (by decide)).trans base3)))) w') ?_
        refine met_free po5 d5 (wanted_of gd5) (fun w' h' => run_loadBsP q5 (eval_same _ _ _ (by simp only [put_size, hsz]; decide)) (h'.at HC.out HK.out).2.2.2) ?_
        refine met_free po7 d7 (wanted_of gd7) (fun w' h' => run_move q7 ((eval_other _ 54 0 _ (by decide)).trans ((eval_other _ 53 0 _ (by decide)).trans ((eval_other _ 52 0 _ (by decide)).trans ((eval_other _ 51 0 _ (by decide)).trans ((eval_other _ 50 0 _ (by decide)).trans ((eval_other _ 49 0 _ (by decide)).trans base0)))))) w') ?_
        refine met_free po8 d8 (wanted_of gd8) (fun w' h' => run_nilCheck q8 (eval_same _ _ _ (by simp only [put_size, hsz]; decide)) w') ?_
        refine met_free po9 d9 (wanted_of gd9) (fun w' h' => run_fieldT (off := 1) q9 (fun _ => by kernel_rfl) (eval_same _ _ _ (by simp only [put_size, hsz]; decide)) w') ?_
        refine met_free po10 d10 (wanted_of gd10) (fun w' h' => run_loadRD q10 (eval_same _ _ _ (by simp only [put_size, hsz]; decide)) h'.xp) ?_
        refine met_free po11 d11 (wanted_of gd11) (fun w' h' => run_fieldT (off := 35) q11 (fun _ => by kernel_rfl) ((eval_other _ 59 3 _ (by decide)).trans ((eval_other _ 58 3 _ (by decide)).trans ((eval_other _ 57 3 _ (by decide)).trans ((eval_other _ 56 3 _ (by decide)).trans ((eval_other _ 54 3 _ (by decide)).trans ((eval_other _ 53 3 _ (by decide)).trans ((eval_other _ 52 3 _ (by decide)).trans ((eval_other _ 51 3 _ (by decide)).trans ((eval_other _ 50 3 _ (by decide)).trans ((eval_other _ 49 3 _ (by decide)).trans base3)))))))))) w') ?_
        refine met_free po12 d12 (wanted_of gd12) (fun w' h' => run_loadBsP q12 (eval_same _ _ _ (by simp only [put_size, hsz]; decide)) (h'.at HC.out HK.out).2.2.2) ?_
        refine m_enter po6 d6 (wanted_of gd6) (run_callf3 q6 rfl ((eval_other _ 61 52 _ (by decide)).trans ((eval_other _ 60 52 _ (by decide)).trans ((eval_other _ 59 52 _ (by decide)).trans ((eval_other _ 58 52 _ (by decide)).trans ((eval_other _ 57 52 _ (by decide)).trans ((eval_other _ 56 52 _ (by decide)).trans ((eval_other _ 54 52 _ (by decide)).trans ((eval_other _ 53 52 _ (by decide)).trans (eval_same _ _ _ (by simp only [put_size, hsz]; decide)))))))))) rfl ((eval_other _ 61 54 _ (by decide)).trans ((eval_other _ 60 54 _ (by decide)).trans ((eval_other _ 59 54 _ (by decide)).trans ((eval_other _ 58 54 _ (by decide)).trans ((eval_other _ 57 54 _ (by decide)).trans ((eval_other _ 56 54 _ (by decide)).trans (eval_same _ _ _ (by simp only [put_size, hsz]; decide)))))))) Tryd.func30 (by kernel_rfl) _) (HXD.out.dk (d' := dz) (e0 := .returned (.int .i64 ez)) (BP.part x _ _) (Nat.le_trans HLO.out HBD.out.size) (fun S0 hD _ => by have h := dkWrite_any S0 g d 0 op.b op.b.length op.c op.p _ hD (by have := HCT.out.1; omega) rfl (by have := HNB.out.2; omega) (HL.out _ HBD.out); rwa [HW.out] at h)) ?_
        rintro e w3 ⟨rfl, hx3, hb3⟩
        have HX3 := Lib.hid hx3
        have HB3 := Lib.hid (HBD.out.trans hb3)
        clear hx3 hb3
        refine ⟨_, rfl, HX3.out.dc o (by simp) (by simp), ?_⟩
        refine m_enter po13 d13 (wanted_of gd13) (run_callf3 q13 rfl ((eval_other _ 55 59 _ (by decide)).trans ((eval_other _ 61 59 _ (by decide)).trans ((eval_other _ 60 59 _ (by decide)).trans (eval_same _ _ _ (by simp only [put_size, hsz]; decide))))) rfl ((eval_other _ 55 61 _ (by decide)).trans (eval_same _ _ _ (by simp only [put_size, hsz]; decide))) Tryd.func39 (by kernel_rfl) _) (HX3.out.rf (d' := dz) (e0 := .returned (.int .i64 ez)) (AP.part g _ _) (Nat.le_trans HLO.out HB3.out.size) (fun T hD _ hx => by have h := rfWrite_any T x d w3 0 op.b op.b.length op.c op.p hD HOK.out (by have := HCT.out.1; omega) rfl (by have := HNB.out.2; omega) (fun w' hs => HL.out _ (HB3.out.trans (hs.below (fun k e => e ▸ hx) (Nat.le_trans HLO.out HB3.out.size)))); rwa [HW.out] at h)) ?_
        rintro e w4 ⟨rfl, hx4, hb4⟩
        have HX4 := Lib.hid hx4
        have HB4 := Lib.hid (HB3.out.trans hb4)
        clear hx4 hb4
        refine ⟨_, rfl, HX4.out.dc o (by simp) (by simp), ?_⟩
        refine met_free po14 d14 (wanted_of gd14) (fun w' h' => run_eqErrP q14 ((eval_other _ 62 55 _ (by decide)).trans (eval_same _ _ _ (by simp only [put_size, hsz]; decide))) (eval_same _ _ _ (by simp only [put_size, hsz]; decide)) w') ?_
        refine met_free po15 d15 (wanted_of gd15) (fun w' h' => run_move q15 (eval_same _ _ _ (by simp only [put_size, hsz]; decide)) w') ?_
        refine met_free po16 d16 (wanted_guard gd16 po15 d15 (eval_same _ _ _ (by simp only [put_size, hsz]; decide))) (fun w' h' => run_move q16 ((eval_other _ 64 0 _ (by decide)).trans ((eval_other _ 63 0 _ (by decide)).trans ((eval_other _ 62 0 _ (by decide)).trans ((eval_other _ 55 0 _ (by decide)).trans ((eval_other _ 61 0 _ (by decide)).trans ((eval_other _ 60 0 _ (by decide)).trans ((eval_other _ 59 0 _ (by decide)).trans ((eval_other _ 58 0 _ (by decide)).trans ((eval_other _ 57 0 _ (by decide)).trans ((eval_other _ 56 0 _ (by decide)).trans ((eval_other _ 54 0 _ (by decide)).trans ((eval_other _ 53 0 _ (by decide)).trans ((eval_other _ 52 0 _ (by decide)).trans ((eval_other _ 51 0 _ (by decide)).trans ((eval_other _ 50 0 _ (by decide)).trans ((eval_other _ 49 0 _ (by decide)).trans base0)))))))))))))))) w') ?_
        have HXO : Hid (X2 (AP g dz o) (BP x dz o) lo w4 [(q, pairO g x o), (b0, .cells C 39 (0, 0))]) := show X2 _ _ _ _ _ from HX4.out.fewer (fun z hz => by simp only [List.mem_cons, List.not_mem_nil, or_false] at hz ⊢; rcases hz with hz | hz; exact Or.inr hz; exact Or.inl hz)
        refine m_enter po17 d17 (wanted_guard gd17 po15 d15 ((eval_other _ 65 64 _ (by decide)).trans (eval_same _ _ _ (by simp only [put_size, hsz]; decide)))) (run_callf1 q17 rfl (eval_same _ _ _ (by simp only [put_size, hsz]; decide)) Tryd.func11 (by kernel_rfl) _) (pairOpen_any HXO.out (fun z hz => by rw [List.mem_singleton.1 hz]; exact HNE.out) hq (Nat.le_trans HLO.out HB4.out.size) hG (HR.out.below HB4.out hG) (by have := HD1.out; have := HCT.out.1; omega)) ?_
        rintro e w5 ⟨rfl, dy, oy, hd5, hx5, hb5⟩
        have HX5 := Lib.hid hx5
        have HB5 := Lib.hid (HB4.out.trans hb5)
        have HD5 := Lib.hid (And.intro hd5 trivial)
        clear hx5 hb5 hd5
        refine ⟨_, rfl, HX5.out.dc oy (by simp) (by simp), ?_⟩
        refine met_free po18 d18 (wanted_of gd18) (fun w' h' => run_pick_true q18 ((eval_other _ 66 64 _ (by decide)).trans ((eval_other _ 65 64 _ (by decide)).trans (eval_same _ _ _ (by simp only [put_size, hsz]; decide)))) (eval_same _ _ _ (by simp only [put_size, hsz]; decide)) w') ?_
        refine met_free po19 d19 (wanted_of gd19) (fun w' h' => run_assign q19 (eval_same _ _ _ (by simp only [put_size, hsz]; decide)) w') ?_
        show NoPanic _ .normal _ _
        refine NoPanic.normal ?_
        rw [HAA.out]
        go_frame
        clear HAA
        clear po0 q0 d0 gd0 po1 q1 d1 gd1 po2 q2 d2 gd2 po3 q3 d3 gd3 po4 q4 d4 gd4 po5 q5 d5 gd5 po6 q6 d6 gd6 po7 q7 d7 gd7 po8 q8 d8 gd8 po9 q9 d9 gd9 po10 q10 d10 gd10 po11 q11 d11 gd11 po12 q12 d12 gd12 po13 q13 d13 gd13 po14 q14 d14 gd14 po15 q15 d15 gd15 po16 q16 d16 gd16 po17 q17 d17 gd17 po18 q18 d18 gd18 po19 q19 d19 gd19
        clear base0 base3 hsz
        go_wp2_with fail
        go_ret
        have hcn : dy.count ≤ d.count + 2 := by have := HD5.out.1; have := HD1.out; omega
        have hfw : X2 (AP g dy oy) (BP x dy oy) lo w5 [(q, pairO g x oy)] := HX5.out.fewer (fun z hz => by rw [List.mem_singleton.1 hz]; simp)
        first | exact ⟨rfl, dy, oy, hcn, hfw, HB5.out⟩ | exact ⟨rfl, dy, hcn, ⟨oy, hfw⟩, HB5.out⟩
      · have q4 : (kd == 4) = false := beq_eq_false_iff_ne.2 h4
        clear h4
        by_cases h5 : kd = 5
        · subst h5
          obtain ⟨⟨dz, ez⟩, hW⟩ : ∃ P, d.write 1 op.b = P := ⟨_, rfl⟩
          have hd1 := write_count d 1 op.b
          rw [hW] at hd1
          have HD1 : Hid (dz.count ≤ d.count + 1) := show _ ≤ _ from hd1
          have HW := Lib.hid hW
          have hqr := HX1.out.all (q, pairO g x o) (by simp)
          have HNE : Hid (b0 ≠ q) := show _ ≠ _ from fun e => by have := (Array.getElem?_eq_some_iff.1 (HXQ.out)).1; have := HB0.out; omega
          clear hd1 hW hqr
          go_upto_region 12 with fail
          refine region_phase (DcS q b0 g x C) (fun _ => True) 99 (HDC.out) trivial [(0, .free), (1, .free), (2, .free), (3, .free), (4, .free), (5, .free), (7, .free), (8, .free), (9, .free), (10, .free), (11, .free), (12, .free), (6, .behind), (13, .behind), (14, .free), (15, .free)] (by kernel_rfl) (by kernel_rfl) (by kernel_rfl) (by kernel_rfl) (fun ops hops A12 hA => ?_)
          have hsz : A12.tmps.size = 85 := by rw [hA]; rfl
          have base0 : A12.eval (.tmp 0) = .pointer (some ⟨q, 0, none⟩) := by rw [hA]; rfl
          have base3 : A12.eval (.tmp 3) = .pointer (some ⟨b0, 0, none⟩) := by rw [hA]; rfl
          have HAA := Lib.hid hA; clear hA
          obtain ⟨o0, po0, q0, d0, gd0⟩ : ∃ o, ops[0]? = some o ∧ o.op = .move (.tmp 0) ∧ o.dst = some 70 ∧ o.guard = none := ⟨_, by rw [hops]; rfl, rfl, rfl, rfl⟩
          obtain ⟨o1, po1, q1, d1, gd1⟩ : ∃ o, ops[1]? = some o ∧ o.op = .nilCheck (.tmp 70) ∧ o.dst = some 71 ∧ o.guard = none := ⟨_, by rw [hops]; rfl, rfl, rfl, rfl⟩
          obtain ⟨o2, po2, q2, d2, gd2⟩ : ∃ o, ops[2]? = some o ∧ o.op = .fieldAddr 31 (.tmp 71) 0 ∧ o.dst = some 72 ∧ o.guard = none := ⟨_, by rw [hops]; rfl, rfl, rfl, rfl⟩
          obtain ⟨o3, po3, q3, d3, gd3⟩ : ∃ o, ops[3]? = some o ∧ o.op = .load 24 (.tmp 72) ∧ o.dst = some 73 ∧ o.guard = none := ⟨_, by rw [hops]; rfl, rfl, rfl, rfl⟩
          obtain ⟨o4, po4, q4, d4, gd4⟩ : ∃ o, ops[4]? = some o ∧ o.op = .fieldAddr 39 (.tmp 3) 4 ∧ o.dst = some 74 ∧ o.guard = none := ⟨_, by rw [hops]; rfl, rfl, rfl, rfl⟩
          obtain ⟨o5, po5, q5, d5, gd5⟩ : ∃ o, ops[5]? = some o ∧ o.op = .load 37 (.tmp 74) ∧ o.dst = some 75 ∧ o.guard = none := ⟨_, by rw [hops]; rfl, rfl, rfl, rfl⟩
          obtain ⟨o6, po6, q6, d6, gd6⟩ : ∃ o, ops[6]? = some o ∧ o.op = .call { callee := .value (.func 30), args := #[.tmp 73, .const (.int .i64 1), .tmp 75], argTypes := #[24, 3, 37] } ∧ o.dst = some 76 ∧ o.guard = none := ⟨_, by rw [hops]; rfl, rfl, rfl, rfl⟩
          obtain ⟨o7, po7, q7, d7, gd7⟩ : ∃ o, ops[7]? = some o ∧ o.op = .move (.tmp 0) ∧ o.dst = some 77 ∧ o.guard = none := ⟨_, by rw [hops]; rfl, rfl, rfl, rfl⟩
          obtain ⟨o8, po8, q8, d8, gd8⟩ : ∃ o, ops[8]? = some o ∧ o.op = .nilCheck (.tmp 77) ∧ o.dst = some 78 ∧ o.guard = none := ⟨_, by rw [hops]; rfl, rfl, rfl, rfl⟩
          obtain ⟨o9, po9, q9, d9, gd9⟩ : ∃ o, ops[9]? = some o ∧ o.op = .fieldAddr 31 (.tmp 78) 1 ∧ o.dst = some 79 ∧ o.guard = none := ⟨_, by rw [hops]; rfl, rfl, rfl, rfl⟩
          obtain ⟨o10, po10, q10, d10, gd10⟩ : ∃ o, ops[10]? = some o ∧ o.op = .load 26 (.tmp 79) ∧ o.dst = some 80 ∧ o.guard = none := ⟨_, by rw [hops]; rfl, rfl, rfl, rfl⟩
          obtain ⟨o11, po11, q11, d11, gd11⟩ : ∃ o, ops[11]? = some o ∧ o.op = .fieldAddr 39 (.tmp 3) 4 ∧ o.dst = some 81 ∧ o.guard = none := ⟨_, by rw [hops]; rfl, rfl, rfl, rfl⟩
          obtain ⟨o12, po12, q12, d12, gd12⟩ : ∃ o, ops[12]? = some o ∧ o.op = .load 37 (.tmp 81) ∧ o.dst = some 82 ∧ o.guard = none := ⟨_, by rw [hops]; rfl, rfl, rfl, rfl⟩
          obtain ⟨o13, po13, q13, d13, gd13⟩ : ∃ o, ops[13]? = some o ∧ o.op = .call { callee := .value (.func 39), args := #[.tmp 80, .const (.int .i64 1), .tmp 82], argTypes := #[26, 3, 37] } ∧ o.dst = some 83 ∧ o.guard = none := ⟨_, by rw [hops]; rfl, rfl, rfl, rfl⟩
          obtain ⟨o14, po14, q14, d14, gd14⟩ : ∃ o, ops[14]? = some o ∧ o.op = .binOp .eql 43 (.tmp 76) (.tmp 83) 43 ∧ o.dst = some 84 ∧ o.guard = none := ⟨_, by rw [hops]; rfl, rfl, rfl, rfl⟩
          obtain ⟨o15, po15, q15, d15, gd15⟩ : ∃ o, ops[15]? = some o ∧ o.op = .assign (.tmp 84) ∧ o.dst = some 4 ∧ o.guard = none := ⟨_, by rw [hops]; rfl, rfl, rfl, rfl⟩
          clear hops
          refine met_free po0 d0 (wanted_of gd0) (fun w' h' => run_move q0 base0 w') ?_
          refine met_free po1 d1 (wanted_of gd1) (fun w' h' => run_nilCheck q1 (eval_same _ _ _ (by rw [hsz]; decide)) w') ?_
          refine met_free po2 d2 (wanted_of gd2) (fun w' h' => run_fieldT (off := 0) q2 (fun _ => by kernel_rfl) (eval_same _ _ _ (by simp only [put_size, hsz]; decide)) w') ?_
          refine met_free po3 d3 (wanted_of gd3) (fun w' h' => run_loadDP q3 (eval_same _ _ _ (by simp only [put_size, hsz]; decide)) h'.gp) ?_
          refine met_free po4 d4 (wanted_of gd4) (fun w' h' => run_fieldT (off := 35) q4 (fun _ => by kernel_rfl) ((eval_other _ 73 3 _ (by decide)).trans ((eval_other _ 72 3 _ (by decide)).trans ((eval_other _ 71 3 _ (by decide)).trans ((eval_other _ 70 3 _ (by decide)).trans base3)))) w') ?_
          refine met_free po5 d5 (wanted_of gd5) (fun w' h' => run_loadBsP q5 (eval_same _ _ _ (by simp only [put_size, hsz]; decide)) (h'.at HC.out HK.out).2.2.2) ?_
          refine met_free po7 d7 (wanted_of gd7) (fun w' h' => run_move q7 ((eval_other _ 75 0 _ (by decide)).trans ((eval_other _ 74 0 _ (by decide)).trans ((eval_other _ 73 0 _ (by decide)).trans ((eval_other _ 72 0 _ (by decide)).trans ((eval_other _ 71 0 _ (by decide)).trans ((eval_other _ 70 0 _ (by decide)).trans base0)))))) w') ?_
          refine met_free po8 d8 (wanted_of gd8) (fun w' h' => run_nilCheck q8 (eval_same _ _ _ (by simp only [put_size, hsz]; decide)) w') ?_
          refine met_free po9 d9 (wanted_of gd9) (fun w' h' => run_fieldT (off := 1) q9 (fun _ => by kernel_rfl) (eval_same _ _ _ (by simp only [put_size, hsz]; decide)) w') ?_
          refine met_free po10 d10 (wanted_of gd10) (fun w' h' => run_loadRD q10 (eval_same _ _ _ (by simp only [put_size, hsz]; decide)) h'.xp) ?_
          refine met_free po11 d11 (wanted_of gd11) (fun w' h' => run_fieldT (off := 35) q11 (fun _ => by kernel_rfl) ((eval_other _ 80 3 _ (by decide)).trans ((eval_other _ 79 3 _ (by decide)).trans ((eval_other _ 78 3 _ (by decide)).trans ((eval_other _ 77 3 _ (by decide)).trans ((eval_other _ 75 3 _ (by decide)).trans ((eval_other _ 74 3 _ (by decide)).trans ((eval_other _ 73 3 _ (by decide)).trans ((eval_other _ 72 3 _ (by decide)).trans ((eval_other _ 71 3 _ (by decide)).trans ((eval_other _ 70 3 _ (by decide)).trans base3)))))))))) w') ?_
          refine met_free po12 d12 (wanted_of gd12) (fun w' h' => run_loadBsP q12 (eval_same _ _ _ (by simp only [put_size, hsz]; decide)) (h'.at HC.out HK.out).2.2.2) ?_
          refine m_enter po6 d6 (wanted_of gd6) (run_callf3 q6 rfl ((eval_other _ 82 73 _ (by decide)).trans ((eval_other _ 81 73 _ (by decide)).trans ((eval_other _ 80 73 _ (by decide)).trans ((eval_other _ 79 73 _ (by decide)).trans ((eval_other _ 78 73 _ (by decide)).trans ((eval_other _ 77 73 _ (by decide)).trans ((eval_other _ 75 73 _ (by decide)).trans ((eval_other _ 74 73 _ (by decide)).trans (eval_same _ _ _ (by simp only [put_size, hsz]; decide)))))))))) rfl ((eval_other _ 82 75 _ (by decide)).trans ((eval_other _ 81 75 _ (by decide)).trans ((eval_other _ 80 75 _ (by decide)).trans ((eval_other _ 79 75 _ (by decide)).trans ((eval_other _ 78 75 _ (by decide)).trans ((eval_other _ 77 75 _ (by decide)).trans (eval_same _ _ _ (by simp only [put_size, hsz]; decide)))))))) Tryd.func30 (by kernel_rfl) _) (HXD.out.dk (d' := dz) (e0 := .returned (.int .i64 ez)) (BP.part x _ _) (Nat.le_trans HLO.out HBD.out.size) (fun S0 hD _ => by have h := dkWrite_any S0 g d 1 op.b op.b.length op.c op.p _ hD (by have := HCT.out.1; omega) rfl (by have := HNB.out.2; omega) (HL.out _ HBD.out); rwa [HW.out] at h)) ?_
          rintro e w3 ⟨rfl, hx3, hb3⟩
          have HX3 := Lib.hid hx3
          have HB3 := Lib.hid (HBD.out.trans hb3)
          clear hx3 hb3
          refine ⟨_, rfl, HX3.out.dc o (by simp) (by simp), ?_⟩
          refine m_enter po13 d13 (wanted_of gd13) (run_callf3 q13 rfl ((eval_other _ 76 80 _ (by decide)).trans ((eval_other _ 82 80 _ (by decide)).trans ((eval_other _ 81 80 _ (by decide)).trans (eval_same _ _ _ (by simp only [put_size, hsz]; decide))))) rfl ((eval_other _ 76 82 _ (by decide)).trans (eval_same _ _ _ (by simp only [put_size, hsz]; decide))) Tryd.func39 (by kernel_rfl) _) (HX3.out.rf (d' := dz) (e0 := .returned (.int .i64 ez)) (AP.part g _ _) (Nat.le_trans HLO.out HB3.out.size) (fun T hD _ hx => by have h := rfWrite_any T x d w3 1 op.b op.b.length op.c op.p hD HOK.out (by have := HCT.out.1; omega) rfl (by have := HNB.out.2; omega) (fun w' hs => HL.out _ (HB3.out.trans (hs.below (fun k e => e ▸ hx) (Nat.le_trans HLO.out HB3.out.size)))); rwa [HW.out] at h)) ?_
          rintro e w4 ⟨rfl, hx4, hb4⟩
          have HX4 := Lib.hid hx4
          have HB4 := Lib.hid (HB3.out.trans hb4)
          clear hx4 hb4
          refine ⟨_, rfl, HX4.out.dc o (by simp) (by simp), ?_⟩
          refine met_free po14 d14 (wanted_of gd14) (fun w' h' => run_eqErrP q14 ((eval_other _ 83 76 _ (by decide)).trans (eval_same _ _ _ (by simp only [put_size, hsz]; decide))) (eval_same _ _ _ (by simp only [put_size, hsz]; decide)) w') ?_
          refine met_free po15 d15 (wanted_of gd15) (fun w' h' => run_assign q15 (eval_same _ _ _ (by simp only [put_size, hsz]; decide)) w') ?_
          show NoPanic _ .normal _ _
          refine NoPanic.normal ?_
          rw [HAA.out]
          go_frame
          clear HAA
          clear po0 q0 d0 gd0 po1 q1 d1 gd1 po2 q2 d2 gd2 po3 q3 d3 gd3 po4 q4 d4 gd4 po5 q5 d5 gd5 po6 q6 d6 gd6 po7 q7 d7 gd7 po8 q8 d8 gd8 po9 q9 d9 gd9 po10 q10 d10 gd10 po11 q11 d11 gd11 po12 q12 d12 gd12 po13 q13 d13 gd13 po14 q14 d14 gd14 po15 q15 d15 gd15
          clear base0 base3 hsz
          go_wp2_with fail
          go_ret
          have hcn : dz.count ≤ d.count + 2 := by have := HD1.out; omega
          have hfw : X2 (AP g dz o) (BP x dz o) lo w4 [(q, pairO g x o)] := HX4.out.fewer (fun z hz => by rw [List.mem_singleton.1 hz]; simp)
          first | exact ⟨rfl, dz, o, hcn, hfw, HB4.out⟩ | exact ⟨rfl, dz, hcn, ⟨o, hfw⟩, HB4.out⟩
        · have q5 : (kd == 5) = false := beq_eq_false_iff_ne.2 h5
          clear h5
          go_wp2_with fail
          go_ret
          have hcn : d.count ≤ d.count + 2 := by omega
          have hfw : X2 (AP g d o) (BP x d o) lo A [(q, pairO g x o)] := HX1.out.fewer (fun z hz => by rw [List.mem_singleton.1 hz]; simp)
          first | exact ⟨rfl, d, o, hcn, hfw, HB1.out⟩ | exact ⟨rfl, d, hcn, ⟨o, hfw⟩, HB1.out⟩
end Go.Proofs.YtoidjapenompiaaDoor
