/-
  What other texts lean on: BxRows, BxRef, BxMet, BxRefSeal, BxRefOpen, BxRefI, BxDraw, BxNumber, BxCode0, BxCodeSeal, BxRowOf, BxCodeOpen, BxCode, BxKnown6, BxOpen, BxThings, BxAll.
-/
import Derived.Test.YtacgkfngpeieaaaPkA
import Derived.Test.YtacgkfngpeieaaaPkP
import Derived.Test.YtacgkfngpeieaaaPkE
import Derived.Maps.AppendAt
import Derived.Deep.Cut
import Derived.Laws.ResultCell
/-
  Rows of a key, a nonce and three slices of bytes, in a slice of one's own.
-/
namespace Go.Proofs.Ytacgkfngpeieaaa
open Go.RowKit Go.Proofs.ShaWords

/-- A row, with the slices as they stand in memory. -/
structure RowM where
  key : List (BitVec 8)
  nonce : List (BitVec 8)
  head : List (BitVec 8)
  plain : List (BitVec 8)
  sealed : List (BitVec 8)
  hv : Value
  pv : Value
  sv : Value
def RowM.cells (r : RowM) : List Value := bytesV r.key ++ (bytesV r.nonce ++ [r.hv, r.pv, r.sv])
theorem RowM.ones {r : RowM} (h1 : r.hv.oneCell' = true) (h2 : r.pv.oneCell' = true) (h3 : r.sv.oneCell' = true) : ∀ u ∈ r.cells.toArray.toList, u.oneCell' = true := by
  intro u hu
  simp only [RowM.cells, bytesV, List.mem_append, List.mem_map, List.mem_cons, List.not_mem_nil, or_false] at hu
  rcases hu with ⟨x, _, rfl⟩ | ⟨x, _, rfl⟩ | rfl | rfl | rfl
  · rfl
  · rfl
  · exact h1
  · exact h2
  · exact h3
def rowsCells (R : List RowM) : List Value := R.flatMap RowM.cells
/-- A row whose slices lie in blocks of D. -/
structure RowOk (D : Nat → Prop) (w : World) (r : RowM) : Prop where
  key : r.key.length = 32
  nonce : r.nonce.length = 12
  head : SliceIn D w r.hv r.head
  plain : SliceIn D w r.pv r.plain
  sealed : SliceIn D w r.sv r.sealed
theorem RowOk.keep {D F : Nat → Prop} {w w' : World} {r : RowM} (h : RowOk D w r) (hk : Stays F w w') (hD : ∀ k, F k → ¬ D k) : RowOk D w' r := ⟨h.key, h.nonce, h.head.keep hk hD, h.plain.keep hk hD, h.sealed.keep hk hD⟩
theorem RowOk.more {D E : Nat → Prop} {w : World} {r : RowM} (h : RowOk D w r) (hE : ∀ k, D k → k < w.heap.size → E k) : RowOk E w r := ⟨h.key, h.nonce, h.head.more hE, h.plain.more hE, h.sealed.more hE⟩
theorem RowM.cells_length {r : RowM} (h1 : r.key.length = 32) (h2 : r.nonce.length = 12) : r.cells.length = 47 := by simp [RowM.cells, bytesV_length, h1, h2]
theorem rowsCells_length {R : List RowM} (h : ∀ r ∈ R, r.key.length = 32 ∧ r.nonce.length = 12) : (rowsCells R).length = R.length * 47 := by
  induction R with
  | nil => rfl
  | cons r R ih =>
    have h1 := RowM.cells_length (h r (by simp)).1 (h r (by simp)).2
    have h2 := ih (fun x hx => h x (by simp [hx]))
    show ((r.cells) ++ rowsCells R).length = _
    rw [List.length_append, h1, h2, List.length_cons]; omega
theorem rowsCells_at {R : List RowM} (h : ∀ r ∈ R, r.key.length = 32 ∧ r.nonce.length = 12) (i : Nat) (hi : i < R.length) (j : Nat) (hj : j < 47) : (rowsCells R)[i * 47 + j]? = R[i].cells[j]? := by
  induction R generalizing i with
  | nil => simp at hi
  | cons r R ih =>
    have h1 := RowM.cells_length (h r (by simp)).1 (h r (by simp)).2
    show ((r.cells) ++ rowsCells R)[i * 47 + j]? = _
    cases i with
    | zero => rw [List.getElem?_append_left (by omega)]; simp
    | succ i =>
      rw [List.getElem?_append_right (by omega), h1, show (i + 1) * 47 + j - 47 = i * 47 + j by omega]
      exact ih (fun x hx => h x (by simp [hx])) i (by simpa using hi)
theorem rowsCells_append (R : List RowM) (r : RowM) : rowsCells (R ++ [r]) = rowsCells R ++ r.cells := by simp [rowsCells]
theorem cells_agg (cs : Array Value) : (Value.agg cs).cells = cs := rfl
/-- A struct type of such rows, and the slices of it. -/
structure RowT (tr ts : TypeId) : Prop where
  sl : Try.prog.underlying ts = some (.slice tr)
  row : ∃ fields, Try.prog.underlying tr = some (.struct fields) ∧ fields.toList.mapM (fun f => (Try.prog.info? f.type).map fun i => (f.offset, i.size)) = some [(0, 32), (32, 12), (44, 1), (45, 1), (46, 1)]
  info : ∃ i z, Try.prog.info? tr = some i ∧ i.zero = some z ∧ i.size = 47 ∧ z.cells.size = 47 ∧ i.bytes = 120
section
variable {tr ts : TypeId} {ρ : Operand → Value} {o : Oper} {w : World}
theorem RowT.run_build (T : RowT tr ts) {x0 x1 x2 x3 x4 : Operand} (r : RowM) (ho : o.op = .build tr #[(0, x0), (1, x1), (2, x2), (3, x3), (4, x4)]) (hk : r.key.length = 32) (hn : r.nonce.length = 12)
    (h0 : ρ x0 = .agg (bytesV r.key).toArray) (h1 : ρ x1 = .agg (bytesV r.nonce).toArray) (h2 : ρ x2 = r.hv) (h3 : ρ x3 = r.pv) (h4 : ρ x4 = r.sv) (c2 : r.hv.cells = #[r.hv]) (c3 : r.pv.cells = #[r.pv]) (c4 : r.sv.cells = #[r.sv]) (w : World) :
    (execOp ρ o).run Try.prog w = .ok (.value (.agg r.cells.toArray)) w := by
  obtain ⟨fields, hu, hp⟩ := T.row
  obtain ⟨i, z, hi, hz, -, hzs, -⟩ := T.info
  have hl0 : (bytesV r.key).toArray.size = 32 := bytesV_size _ 32 hk
  have hl1 : (bytesV r.nonce).toArray.size = 12 := bytesV_size _ 12 hn
  have hcat : ([Value.agg (bytesV r.key).toArray, .agg (bytesV r.nonce).toArray, r.hv, r.pv, r.sv].flatMap (·.cells.toList)) = r.cells := by
    simp [cells_agg, RowM.cells, c2, c3, c4]
  have h := built_seq (P := Try.prog) tr [.agg (bytesV r.key).toArray, .agg (bytesV r.nonce).toArray, r.hv, r.pv, r.sv] fields _ 47 hu hp (by rw [hi, Option.bind_some, hz, Option.map_some, hzs])
    (by simp [Fits, cells_agg, c2, c3, c4, bytesV_length, hk, hn]) (by rw [hcat, RowM.cells_length hk hn])
  rw [hcat] at h
  have hr := Go.run_build (P := Try.prog) w tr #[(0, .agg (bytesV r.key).toArray), (1, .agg (bytesV r.nonce).toArray), (2, r.hv), (3, r.pv), (4, r.sv)] _ h
  obtain ⟨dst, op, ty', pos, after, guard⟩ := o
  simp only at ho
  subst ho
  unfold execOp
  simp only [List.map_toArray, List.map_cons, List.map_nil, h0, h1, h2, h3, h4, Sem.run_bind, hr, Result.andThen_ok, Sem.run_pure]
theorem RowT.run_one (T : RowT tr ts) {x : Operand} {C : Array Value} (ho : o.op = .buildSlice ts 1 #[(0, x)]) (hx : ρ x = .agg C) (hC : C.size = 47) (w : World) :
    (execOp ρ o).run Try.prog w = .ok (.value (.slice (some ⟨w.heap.size, 0, none⟩) 1 1)) (w.alloc (.cells C tr)) := by
  obtain ⟨i, z, hi, hz, hs, hzs, -⟩ := T.info
  have hf : Instr.fill (fun j => some (j * i.size, i.size)) ((Array.range (1 * i.size)).map (z.cells[· % z.cells.size]!)) [(0, .agg C)] = some C := by
    have h := fill_seq (fun j => some (j * i.size, i.size)) [.agg C] 0 [] ((Array.range (1 * i.size)).map (z.cells[· % z.cells.size]!)).toList [] (by simp [Fits, cells_agg, hC, hs]) (by simp [cells_agg, hC, hs])
    rw [List.nil_append, List.append_nil, Array.toArray_toList] at h
    exact h.trans (by simp [cells_agg])
  have hr := run_buildSlice (P := Try.prog) w ts tr 1 #[(0, .agg C)] C i z T.sl hi hz (by rw [hs]; omega) (by rw [hs]; omega) hf
  obtain ⟨dst, op, ty', pos, after, guard⟩ := o
  simp only at ho
  subst ho
  unfold execOp
  simp only [List.map_toArray, List.map_cons, List.map_nil, hx, Sem.run_bind, hr, Result.andThen_ok, Sem.run_pure]
theorem RowT.run_ix (T : RowT tr ts) {x y : Operand} {g n c i : Nat} (ho : o.op = .indexAddr ts x y) (hx : ρ x = .slice (some ⟨g, 0, none⟩) n c) (hy : ρ y = .int .i64 (i : Int)) (hi : i < n) (w : World) :
    (execOp ρ o).run Try.prog w = .ok (.value (.pointer (some ⟨g, i * 47, none⟩))) w := by
  obtain ⟨it, z, hit, hz, hs, hzs, -⟩ := T.info
  obtain ⟨dst, op, ty', pos, after, guard⟩ := o
  simp only at ho
  subst ho
  have q : (0 : Int) ≤ (i : Int) ∧ (i : Int) < (n : Int) := ⟨by omega, by omega⟩
  have hsz : (sizeOf tr).run Try.prog w = .ok 47 w := by simp [sizeOf, typeInfo, hit, hs]
  unfold execOp
  simp only [hx, hy, Instr.indexAt, asIntOf, run_underlying T.sl, hsz, q, Sem.run_bind, Sem.run_pure, Result.andThen_ok, if_true, and_self, Int.toNat_natCast]
  rw [Addr.add_mid, Nat.zero_add]
theorem RowT.run_append (T : RowT tr ts) {s x : Operand} {base g n : Nat} {v : Value} {xs : List Value} {C : Array Value} (ho : o.op = .call { callee := .builtin .append, args := #[s, x], argTypes := #[ts, ts] }) (hs : ρ s = v) (hown : w.ownsRow base tr 47 v n xs)
    (hx : ρ x = .slice (some ⟨g, 0, none⟩) 1 1) (hc : w.heap[g]? = some (.cells C tr (0, 0))) (hC : C.size = 47) (h1 : ∀ u ∈ C.toList, u.oneCell' = true) (hn : n ≤ 1000000) (hb : base ≤ w.heap.size) :
    ∃ v' w', (execOp ρ o).run Try.prog w = .ok (.value v') w' ∧ w'.ownsRow base tr 47 v' (n + 1) (xs ++ C.toList) ∧ w.grownBy w' v.ownBlock ∧ (v'.ownBlock = v.ownBlock ∨ v'.ownBlock = some w.heap.size) := by
  obtain ⟨it, z, hit, hz, hsz, hzs, hby⟩ := T.info
  obtain ⟨dst, op, ty', pos, after, guard⟩ := o
  simp only at ho
  subst ho
  obtain ⟨v', w', hr, h2, h3, -, h5⟩ := run_append_own_at (P := Try.prog) (w := w) base ts ty' tr it z 47 120 T.sl hit hz hsz hby hzs (by decide) v n xs hown ⟨g, 0, none⟩ 1 1 C.toList (by rw [Array.length_toList, hC]) (fun j u hu => by
    rw [Addr.add_mid, Nat.zero_add, cell_of_row w g j C tr (0, 0) hc]
    simpa using hu) h1 (by unfold maxLen; omega) (by omega) hb
  refine ⟨v', w', ?_, h2, h3, h5⟩
  unfold execOp
  simp only [resolve, invoke, builtin, Sem.run_bind, Sem.run_pure, Result.andThen_ok, List.map_toArray, List.map_cons, List.map_nil, hs, hx, hr]
end
end Go.Proofs.Ytacgkfngpeieaaa

/-
  The document's answer of layer 6: a box in memory; New.
-/
namespace Go.Proofs.Ytacgkfngpeieaaa
open Go.RowKit Go.Proofs.ShaWords

theorem refRowT : RowT 66 58 where
  sl := Try.underlying58
  row := ⟨_, Try.underlying66, by kernel_rfl⟩
  info := by
    obtain ⟨i, h1, h2⟩ : ∃ i, Try.prog.info? 66 = some i ∧ (i.zero.map (·.cells.size) = some 47 ∧ i.size = 47 ∧ i.bytes = 120) := by
      cases hi : Try.prog.info? 66 with
      | none => exact absurd hi (by have : (Try.prog.info? 66).isSome = true := by kernel_rfl
                                    intro h; rw [h] at this; cases this)
      | some i =>
        have e : (Try.prog.info? 66).map (fun i => (i.zero.map (·.cells.size), i.size, i.bytes)) = some (some 47, 47, 120) := by kernel_rfl
        rw [hi] at e
        simp only [Option.map_some, Option.some.injEq, Prod.mk.injEq] at e
        exact ⟨i, rfl, e.1, e.2.1, e.2.2⟩
    cases hz : i.zero with
    | none => rw [hz] at h2; simp at h2
    | some z =>
      rw [hz] at h2
      simp only [Option.map_some, Option.some.injEq] at h2
      exact ⟨i, z, h1, hz, h2.2.1, h2.1, h2.2.2⟩
/-- The document's box: its block, its list, its rows; the slices of both lie in blocks of D, which none of its changes reaches. -/
structure BoxR (D : Nat → Prop) (w : World) (b : Nat) (l : List (BitVec 8)) (d : Nat) (R : List RowM) (lv rv : Value) : Prop where
  block : w.heap[b]? = some (.cells #[lv, .int .i64 (d : Int), rv] 60 (0, 0))
  src : SliceIn D w lv l
  rows : w.ownsRow 0 66 47 rv R.length (rowsCells R)
  each : ∀ r ∈ R, RowOk D w r
  apart : rv.ownBlock ≠ some b
  clear : ¬ D b ∧ ∀ k, rv.ownBlock = some k → ¬ D k
  dom : ∀ k, D k → k < w.heap.size
/-- The blocks that its calls change. -/
def Mut (b : Nat) (rv : Value) (k : Nat) : Prop := k = b ∨ rv.ownBlock = some k
theorem BoxR.keep {D F : Nat → Prop} {w w' : World} {b d : Nat} {l : List (BitVec 8)} {R : List RowM} {lv rv : Value} (h : BoxR D w b l d R lv rv) (hk : Stays F w w') (hF : ∀ k, F k → ¬ D k ∧ ¬ Mut b rv k) : BoxR D w' b l d R lv rv :=
  ⟨(hk.block b (Array.getElem?_eq_some_iff.1 h.block).1 (fun f => (hF b f).2 (Or.inl rfl))).trans h.block, h.src.keep hk (fun k f => (hF k f).1),
    ownsRow_stays h.rows hk (fun k hk' f => (hF k f).2 (Or.inr hk')), fun r hr => (h.each r hr).keep hk (fun k f => (hF k f).1), h.apart, h.clear, fun k d => Nat.lt_of_lt_of_le (h.dom k d) hk.size⟩
theorem BoxR.more {D E : Nat → Prop} {w : World} {b d : Nat} {l : List (BitVec 8)} {R : List RowM} {lv rv : Value} (h : BoxR D w b l d R lv rv) (hE : ∀ k, D k → k < w.heap.size → E k) (hc : ¬ E b ∧ ∀ k, rv.ownBlock = some k → ¬ E k) (hd : ∀ k, E k → k < w.heap.size) : BoxR E w b l d R lv rv :=
  ⟨h.block, h.src.more hE, h.rows, fun r hr => (h.each r hr).more hE, h.apart, hc, hd⟩
set_option maxRecDepth 100000 in
theorem refNew_any (l : List (BitVec 8)) (n : Nat) (p : Option Addr) (c : Nat) (w : World) (hn : l.length = n) (hl : n < 140737488355328) (hp : Lies w p l) :
    Calls Try.prog 9 #[.slice p n c] w fun e w' => ∃ b lv, e = .returned (.pointer (some ⟨b, 0, none⟩)) ∧ w.heap.size ≤ b ∧ b < w'.heap.size ∧ BoxR (fun k => w.heap.size ≤ k ∧ k < b) w' b l 0 [] lv (.slice none 0 0) ∧ Below w.heap.size w w' := by
  have HP := Lib.hid hp; clear hp
  go_enter Try.func9, Try.ntmps9
  go_wp2_with fail
  subst hn
  refine (copy_big l p c w hl HP.out).mono ?_
  rintro e w1 ⟨v, rfl, ho, hb⟩
  obtain ⟨q, c1, rfl, h1, h2, -⟩ := ho.lies
  have HO := Lib.hid ho; clear ho
  have HB := Lib.hid hb; clear hb
  have sz := HB.out.size
  go_wp2_with fail
  go_ret
  refine ⟨w1.heap.size, .slice q l.length c1, rfl, sz, by rw [size_alloc]; omega, ⟨heap_new_at rfl, ?_, ⟨rfl, Or.inl ⟨rfl, rfl⟩⟩, by simp, by simp [Value.ownBlock], ⟨by omega, by simp [Value.ownBlock]⟩, fun k hk => by rw [size_alloc]; omega⟩, HB.out.alloc sz _⟩
  exact (HO.out.sliceIn (D := fun k => w.heap.size ≤ k ∧ k < w1.heap.size) (fun k hk => World.ownsRow.lt HO.out k hk)).keep (F := fun _ => False) (Below.stays ((Below.refl _ _).alloc (Nat.le_refl _) _)) (fun _ h => h.elim)
end Go.Proofs.Ytacgkfngpeieaaa

/-
  A row appended to a slice of one's own, as a step ahead of the store that ends a region.
-/
namespace Go.Proofs.Ytacgkfngpeieaaa
open Go.RowKit Go.Proofs.ShaWords
theorem run_callf5 {P : Program} {ρ : Operand → Value} {o : Oper} {f : FuncId} {fn : Func} {T : Array TypeId} {x0 x1 x2 x3 x4 : Operand} {v0 v1 v2 v3 v4 : Value} (ho : o.op = .call { callee := .value (.func f), args := #[x0, x1, x2, x3, x4], argTypes := T }) (hf : ρ (.func f) = .func (.func f) #[] #[]) (h0 : ρ x0 = v0) (h1 : ρ x1 = v1) (h2 : ρ x2 = v2) (h3 : ρ x3 = v3) (h4 : ρ x4 = v4) (hfn : P.funcs[f]? = some fn) (hb : (fn.name == "runtime.NumGoroutine" || fn.body.isNone) = false) (w : World) : (execOp ρ o).run P w = .ok (.enter f #[v0, v1, v2, v3, v4]) w := by
  obtain ⟨dst, op, ty, pos, after, guard⟩ := o
  simp only at ho
  subst ho
  have h := callFunc_body hfn hb #[v0, v1, v2, v3, v4] w
  go_simp
section
variable {ops : Array Oper} {Q : Exit → Act → World → Prop} {S E : World → Prop} {r : List (Nat × Met)} {i : Nat} {o : Oper} {d : Option Tmp} {a : Act} {w : World} {tr ts : TypeId}
theorem RowT.mb_append (T : RowT tr ts) (ho : ops[i]? = some o) (hd : o.dst = d) (hw : Region.wanted o (yielded ops a.tmps) = true) {s x : Operand} {base g n : Nat} {v : Value} {xs : List Value} {C : Array Value} (q : o.op = .call { callee := .builtin .append, args := #[s, x], argTypes := #[ts, ts] }) (hs : a.eval s = v) (hown : w.ownsRow base tr 47 v n xs)
    (hx : a.eval x = .slice (some ⟨g, 0, none⟩) 1 1) (hc : w.heap[g]? = some (.cells C tr (0, 0))) (hC : C.size = 47) (h1 : ∀ u ∈ C.toList, u.oneCell' = true) (hn : n ≤ 1000000) (hb : base ≤ w.heap.size)
    (h : ∀ p' c' w', w'.ownsRow base tr 47 (.slice p' (n + 1) c') (n + 1) (xs ++ C.toList) → w.grownBy w' v.ownBlock → ((Value.slice p' (n + 1) c').ownBlock = v.ownBlock ∨ (Value.slice p' (n + 1) c').ownBlock = some w.heap.size) → (S w' ∧ E w') ∧ wpE Try.prog ops Q S E r (a.put d (.slice p' (n + 1) c')) w') :
    wpE Try.prog ops Q S E ((i, .before) :: r) a w := by
  obtain ⟨v', w', hr, h2, h3, h4⟩ := T.run_append (ρ := a.eval) q hs hown hx hc hC h1 hn hb
  obtain ⟨p', c', rfl⟩ : ∃ p' c', v' = .slice p' (n + 1) c' := by
    rcases h2.2 with ⟨h0, h5⟩ | ⟨g', cap, cur, he, _⟩
    · omega
    · exact ⟨_, _, he⟩
  exact mb_value ho hd hw hr (h p' c' w' h2 h3 h4)
end
end Go.Proofs.Ytacgkfngpeieaaa

/-
  The document's answer of layer 6: Seal.
-/
namespace Go.Proofs.Ytacgkfngpeieaaa
open Go.RowKit Go.Proofs.ShaWords

/-- Drawn bytes: k of them, from the d-th of the list on. -/
def drawn (l : List (BitVec 8)) (d k : Nat) : List (BitVec 8) := (List.range k).map fun i => l.getD (d + i) 0#8
theorem drawn_zero (l : List (BitVec 8)) (d : Nat) : drawn l d 0 = [] := rfl
theorem drawn_succ (l : List (BitVec 8)) (d k : Nat) : drawn l d (k + 1) = drawn l d k ++ [l.getD (d + k) 0#8] := by simp [drawn, List.range_succ]
theorem drawn_length (l : List (BitVec 8)) (d k : Nat) : (drawn l d k).length = k := by simp [drawn]
/-- What Seal returns: of the list, how many were drawn, how many rows there are, how many bytes are sealed. -/
def boxOf (l : List (BitVec 8)) (d n m : Nat) : List (BitVec 8) := lenTo n 8 ++ drawn l d (8 + m)
theorem boxOf_length (l : List (BitVec 8)) (d n m : Nat) : (boxOf l d n m).length = 16 + m := by rw [boxOf, List.length_append, lenTo_length, drawn_length]; omega
/-- Where the second loop is. -/
structure SealW (w w0 : World) (key nonce : List (BitVec 8)) (b : Nat) (lv rv : Value) (d : Nat) (wr : World) : Prop where
  key : BytesAt wr w.heap.size 38 key
  nonce : BytesAt wr (w.heap.size + 1) 40 nonce
  block : wr.heap[b]? = some (.cells #[lv, .int .i64 (d : Int), rv] 60 (0, 0))
  keep : Stays (fun k => k = b) w0 wr
theorem SealW.on {w w0 wr w' : World} {key nonce : List (BitVec 8)} {b d : Nat} {lv rv : Value} (h : SealW w w0 key nonce b lv rv d wr) (hb : Below wr.heap.size wr w') : SealW w w0 key nonce b lv rv d w' :=
  ⟨h.key.keep hb, h.nonce.keep hb, (hb.block b (Array.getElem?_eq_some_iff.1 h.block).1).trans h.block, h.keep.trans (F := fun k => k = b) (G := fun k => k = b) (Below.stays hb) (fun _ h _ => h)⟩
theorem SealW.onB {w w0 wr w' : World} {key nonce : List (BitVec 8)} {b d : Nat} {lv rv : Value} (h : SealW w w0 key nonce b lv rv d wr) (hb : Below w0.heap.size wr w') (h0 : w.heap.size + 1 < w0.heap.size) (h1 : b < w0.heap.size) : SealW w w0 key nonce b lv rv d w' :=
  ⟨(hb.block _ (by omega)).trans h.key, (hb.block _ (by omega)).trans h.nonce, (hb.block b h1).trans h.block, h.keep.trans (F := fun k => k = b) (Below.staysB hb) (fun k hk hlt => by omega)⟩
theorem SealW.put {w w0 wr : World} {key nonce : List (BitVec 8)} {b d : Nat} {lv rv : Value} (h : SealW w w0 key nonce b lv rv d wr) (hb : b < w.heap.size) (d' : Nat) : SealW w w0 key nonce b lv rv d' (wr.setCell ⟨b, 1, none⟩ (.int .i64 (d' : Int))) :=
  ⟨h.key.putOther (by omega) _ _, h.nonce.putOther (by omega) _ _, (heap_setCell_same _ _ _ _ _ _ h.block).trans (by rfl), h.keep.trans (F := fun k => k = b) (G := fun k => k = b) (grown_stays (grown_setCell _ _ _ _) (fun k e => (Option.some.inj e).symm)) (fun _ h _ => h)⟩
theorem SealW.cell {w w0 wr : World} {key nonce : List (BitVec 8)} {b d : Nat} {lv rv : Value} (h : SealW w w0 key nonce b lv rv d wr) : wr.cell? ⟨b, 0, none⟩ = some lv ∧ wr.cell? ⟨b, 1, none⟩ = some (.int .i64 (d : Int)) ∧ wr.cell? ⟨b, 2, none⟩ = some rv := by
  refine ⟨?_, ?_, ?_⟩ <;> rw [cell_of_row wr b _ _ _ _ h.block] <;> rfl
theorem run_loadRef {ρ : Operand → Value} {o : Oper} {x : Operand} {w : World} {a : Addr} {p : Option Addr} {n c : Nat} (ho : o.op = .load 58 x) (hx : ρ x = .pointer (some a)) (hc : w.cell? a = some (.slice p n c)) : (execOp ρ o).run Try.prog w = .ok (.value (.slice p n c)) w := by
  obtain ⟨dst, op, ty', pos, after, guard⟩ := o
  simp only at ho
  subst ho
  go_simp
theorem run_storeRef {ρ : Operand → Value} {o : Oper} {x y : Operand} {w : World} {a : Addr} {p : Option Addr} {n c : Nat} {u : Value} (ho : o.op = .store 58 x y) (hx : ρ x = .pointer (some a)) (hy : ρ y = .slice p n c) (hc : w.cell? a = some u) (hf : w.frozen? a = false) :
    (execOp ρ o).run Try.prog w = .ok .skip (w.setCell a (.slice p n c)) := by
  obtain ⟨dst, op, ty', pos, after, guard⟩ := o
  simp only at ho
  subst ho
  go_simp
/-- The boxes of the key and of the nonce stand. -/
def KeyW (w : World) (key nonce : List (BitVec 8)) (wr : World) : Prop := BytesAt wr w.heap.size 38 key ∧ BytesAt wr (w.heap.size + 1) 40 nonce
def BlkW (b : Nat) (lv rv : Value) (d : Nat) (wr : World) : Prop := wr.heap[b]? = some (.cells #[lv, .int .i64 (d : Int), rv] 60 (0, 0))
theorem KeyW.on {w wr w' : World} {key nonce : List (BitVec 8)} {F : Nat → Prop} (h : KeyW w key nonce wr) (hk : Stays F wr w') (hF : ∀ k, F k → k < w.heap.size) : KeyW w key nonce w' :=
  ⟨(hk.block _ h.1.size (fun f => by have := hF _ f; omega)).trans h.1, (hk.block _ h.2.size (fun f => by have := hF _ f; omega)).trans h.2⟩
theorem BlkW.on {wr w' : World} {b d : Nat} {lv rv : Value} {F : Nat → Prop} (h : BlkW b lv rv d wr) (hk : Stays F wr w') (hF : ¬ F b) : BlkW b lv rv d w' := (hk.block _ (Array.getElem?_eq_some_iff.1 h).1 hF).trans h
attribute [local irreducible] lenTo drawn
set_option maxRecDepth 100000 in
set_option maxHeartbeats 4000000 in
theorem refSealB_any (D : Nat → Prop) (b d : Nat) (l key nonce head plain : List (BitVec 8)) (R : List RowM) (lv rv : Value) (n m : Nat) (p q : Option Addr) (cp cq : Nat) (w : World) (hk : key.length = 32) (hn : nonce.length = 12) (hhn : head.length = n) (hcm : plain.length = m) (hH : n ≤ 300000) (hC : m ≤ 300000) (hd : d ≤ 1000000000) (hR : R.length ≤ 100000) (_ : l.length < 140737488355328)
    (hp : Lies w p head) (hc : Lies w q plain) (hB : BoxR D w b l d R lv rv) :
    Calls Try.prog 14 #[.pointer (some ⟨b, 0, none⟩), .agg (bytesV key).toArray, .agg (bytesV nonce).toArray, .slice p n cp, .slice q m cq] w fun e w' => ∃ v r D' rv', e = .returned v ∧ (r.key = key ∧ r.nonce = nonce ∧ r.head = head ∧ r.plain = plain ∧ r.sealed = boxOf l d R.length m) ∧ BoxR D' w' b l (d + (8 + m)) (R ++ [r]) lv rv' ∧ (∀ k, D' k → D k ∨ w.heap.size ≤ k) ∧ (∀ k, rv'.ownBlock = some k → rv.ownBlock = some k ∨ w.heap.size ≤ k) ∧
      Own w.heap.size w' (boxOf l d R.length m) v ∧ (∀ k, v.ownBlock = some k → ¬ D' k ∧ ¬ Mut b rv' k) ∧ Stays (Mut b rv) w w' := by
  have HP := Lib.hid hp; clear hp
  have HC := Lib.hid hc; clear hc
  have HKL := Lib.hid hk; clear hk
  have HNL := Lib.hid hn; clear hn
  have HHN := Lib.hid hhn
  have HCM := Lib.hid hcm
  have HIK := Lib.hid (infoKey key HKL.out)
  have HIN := Lib.hid (infoNonce nonce HNL.out)
  have HB := Lib.hid hB; clear hB
  have hbs : b < w.heap.size := (Array.getElem?_eq_some_iff.1 HB.out.block).1
  have hrl : ∃ pr cr, rv = .slice pr R.length cr := by
    rcases HB.out.rows.2 with ⟨h0, h1⟩ | ⟨g, cap, cur, he, _⟩
    · exact ⟨_, _, by rw [h0, h1]⟩
    · exact ⟨_, _, he⟩
  obtain ⟨pr, cr, hrv⟩ := hrl
  subst hrv
  obtain ⟨ql, cl, hlv, hcl, -, hql⟩ := HB.out.src
  subst hlv
  have HQL := Lib.hid hql; clear hql
  have HDZ := Lib.hid (drawn_zero l d)
  clear hhn hcm
  go_enter Try.func14, Try.ntmps14
  go_upto_region 2 with (fail)
  refine wp_gen (SealW w ((w.alloc (.cells (bytesV key).toArray 38)).alloc (.cells (bytesV nonce).toArray 40)) key nonce b (.slice ql l.length cl) (.slice pr R.length cr) d)
    ⟨(knb_start w key nonce).key, (knb_start w key nonce).nonce, ((knb_start w key nonce).below.block b hbs).trans HB.out.block, Stays.refl _ _⟩ ?_
  intro w1 hw1
  obtain ⟨w0, hw0⟩ : ∃ w0, w0 = ((w.alloc (.cells (bytesV key).toArray 38)).alloc (.cells (bytesV nonce).toArray 40)) := ⟨_, rfl⟩
  rw [← hw0] at hw1
  have sz0 : w0.heap.size = w.heap.size + 1 + 1 := by rw [hw0, size_alloc, size_alloc]
  have hb0 : Below w.heap.size w w0 := by rw [hw0]; exact (knb_start w key nonce).below
  clear hw0
  have HB0 := Lib.hid hb0; clear hb0
  have e2 := hw1.cell.2.2
  have HW1 := Lib.hid hw1; clear hw1
  go_wp2_with fail
  clear e2
  obtain ⟨nR, hnR⟩ : ∃ nR, nR = R.length := ⟨_, rfl⟩
  have HNR := Lib.hid hnR
  have H0 : Hid (lenTo nR 0 = []) := show _ = _ from lenTo_zero nR
  go_loopw [11, 12, 13] (fun v x i wr => ∃ k : Nat, k ≤ 8 ∧ x = .int .i64 ((nR / 256 ^ k : Nat) : Int) ∧ i = .int .i64 (k : Int) ∧ Own w0.heap.size wr (lenTo nR k) v ∧ w0.heap.size ≤ wr.heap.size ∧ SealW w w0 key nonce b (.slice ql l.length cl) (.slice pr R.length cr) d wr) (fun _ _ i _ => 8 - (intOf i).toNat)
  case atStart => exact ⟨0, Nat.zero_le _, by rw [hnR]; simp, rfl, by rw [H0.out]; exact Own.nil _ _, HW1.out.keep.size, HW1.out⟩
  case round =>
    clear HW1
    obtain ⟨k, hk, rfl, rfl, ho, szr, hw⟩ := hrel
    have HO := Lib.hid ho; clear ho
    have HW := Lib.hid hw; clear hw
    by_cases hlt : k < 8
    · have HS := Lib.hid (lenTo_succ nR k)
      have HL := Lib.hid (show (lenTo nR k).length < 1099511627776 by rw [lenTo_length]; omega)
      have hX : nR / 256 ^ k ≤ nR := Nat.div_le_self _ _
      have hX2 : nR / 256 ^ (k + 1) = nR / 256 ^ k / 256 := by rw [Nat.pow_succ, Nat.div_div_eq_div_mul]
      have HX2 := Lib.hid hX2; clear hX2
      have hX3 : nR ≤ 100000 := by omega
      clear hnR
      generalize nR / 256 ^ k = X at hX HX2 HS ⊢
      have t1 : (X : Int).tmod 256 = ((X % 256 : Nat) : Int) := by rw [Int.tmod_eq_emod_of_nonneg (by omega)]; omega
      have t2 : IntKind.i64.wrap ((X % 256 : Nat) : Int) = ((X % 256 : Nat) : Int) := IntWalk.i64_in _ (by omega)
      have t3 : IntKind.u8.wrap ((X % 256 : Nat) : Int) = n8 (BitVec.ofNat 8 X) := by unfold n8; rw [IntKind.wrap_u8', BitVec.toNat_ofNat]; omega
      have t4 : (X : Int).tdiv 256 = ((X / 256 : Nat) : Int) := by rw [Int.tdiv_eq_ediv_of_nonneg (by omega)]; omega
      have t5 : IntKind.i64.wrap ((X / 256 : Nat) : Int) = ((X / 256 : Nat) : Int) := IntWalk.i64_in _ (by omega)
      generalize X % 256 = Y at t1 t2 t3
      generalize X / 256 = Z at t4 t5 HX2
      generalize BitVec.ofNat 8 X = bb at t3 HS
      go_wp2_with (at_builtin; refine wpList_append_byte rfl (.tmp 25) (.tmp 29) rfl w0.heap.size _ (lenTo nR k) bb rfl HO.out rfl HL.out szr ?_; intro v' w' ho' hb'; rw [← HS.out] at ho'; have HO' := Lib.hid ho'; have HW' := Lib.hid (HW.out.onB hb' (by omega) (by omega)); clear ho' hb')
      go_roundw
      case rel => exact ⟨k + 1, by omega, by rw [HX2.out], by go_num, HO'.out, HW'.out.keep.size, HW'.out⟩
      case measure => simp [intOf]; omega
    · have HK : Hid (k = 8) := show k = 8 by omega
      have HO2 : Hid (Own w0.heap.size wr (lenTo nR 8 ++ drawn l d 0) u11) := show Own _ _ _ _ by rw [HDZ.out, List.append_nil, ← HK.out]; exact HO.out
      have qk : ¬ (k : Int) < 8 := by omega
      clear HO hlt hk HK hnR H0
      obtain ⟨M, hM⟩ : ∃ M, M = 8 + m := ⟨_, rfl⟩
      have t1 : IntKind.i64.wrap (8 + (m : Int)) = (M : Int) := by rw [IntWalk.i64_in _ (by omega)]; omega
      have hM2 : M ≤ 300008 := by omega
      have HMM := Lib.hid hM; clear hM
      go_wp2_with fail
      rename World => w3
      go_loopw [11, 14] (fun v i wr => ∃ k : Nat, k ≤ M ∧ i = .int .i64 (k : Int) ∧ Own w0.heap.size wr (lenTo nR 8 ++ drawn l d k) v ∧ SealW w w0 key nonce b (.slice ql l.length cl) (.slice pr R.length cr) (d + k) wr) (fun _ i _ => M - (intOf i).toNat)
      case atStart => exact ⟨0, by omega, rfl, HO2.out, HW.out⟩
      case round =>
        clear HO2 HW szr
        obtain ⟨k, hk, rfl, ho, hw⟩ := hrel
        have HO := Lib.hid ho; clear ho
        have HW := Lib.hid hw; clear hw
        by_cases hlt : k < M
        · have q0 : (k : Int) < (M : Int) := by omega
          have HS : Hid (lenTo nR 8 ++ drawn l d (k + 1) = (lenTo nR 8 ++ drawn l d k) ++ [l.getD (d + k) 0#8]) := show _ = _ by rw [drawn_succ, List.append_assoc]
          have HL : Hid ((lenTo nR 8 ++ drawn l d k).length < 1099511627776) := show _ < _ by rw [List.length_append, lenTo_length, drawn_length]; omega
          obtain ⟨E, hE⟩ : ∃ E, E = d + k := ⟨_, rfl⟩
          have HE := Lib.hid hE
          rw [← hE] at HW HS
          have hE2 : E ≤ 2000000000 := by omega
          clear hE
          by_cases hin : E < l.length
          · have q1 : (E : Int) < (l.length : Int) := by omega
            have e0 := HW.out.cell.1
            have e1 := HW.out.cell.2.1
            go_wp2_with fail
            go_quiet (fail)
            have HO4 : Hid (Own w0.heap.size (wr.drewN nq) (lenTo nR 8 ++ drawn l d k) u11) := show Own _ _ _ _ from HO.out.below ⟨rfl, rfl, rfl, Nat.le_refl _, fun _ _ => rfl⟩
            have HW4 : Hid (SealW w w0 key nonce b (.slice ql l.length cl) (.slice pr R.length cr) E (wr.drewN nq)) := show SealW _ _ _ _ _ _ _ _ _ from HW.out.on ⟨rfl, rfl, rfl, Nat.le_refl _, fun _ _ => rfl⟩
            clear e0 e1 HO HW
            generalize wr.drewN nq = w4 at HO4 HW4 ⊢
            have hql := (HQL.out.keep (Below.stays (F := fun _ => False) HB0.out) (fun _ h => h.elim)).keep HW4.out.keep (fun k hk => by subst hk; exact HB.out.clear.1)
            obtain ⟨x, hx⟩ : ∃ x, x = l.getD E 0#8 := ⟨_, rfl⟩
            rcases hql with h0 | ⟨gl, off, rfl, -, -, hr⟩
            · exfalso; rw [h0] at hin; simp at hin
            have e3 := range_cell hr E hin
            rw [← hx] at e3 HS
            clear hx hr
            have e0 := HW4.out.cell.1
            have e1 := HW4.out.cell.2.1
            go_wp2_with fail
            go_quiet (fail)
            have HO5 : Hid (Own w0.heap.size (w4.drewN nq) (lenTo nR 8 ++ drawn l d k) u11) := show Own _ _ _ _ from HO4.out.below ⟨rfl, rfl, rfl, Nat.le_refl _, fun _ _ => rfl⟩
            have HW5 : Hid (SealW w w0 key nonce b (.slice (some ⟨gl, off, none⟩) l.length cl) (.slice pr R.length cr) E (w4.drewN nq)) := show SealW _ _ _ _ _ _ _ _ _ from HW4.out.on ⟨rfl, rfl, rfl, Nat.le_refl _, fun _ _ => rfl⟩
            clear e0 e1 e3 HO4 HW4
            generalize w4.drewN nq = w5 at HO5 HW5 ⊢
            obtain ⟨E1, hE1⟩ : ∃ E1, E1 = E + 1 := ⟨_, rfl⟩
            have t3 : IntKind.i64.wrap ((E : Int) + 1) = (E1 : Int) := by rw [IntWalk.i64_in _ (by omega)]; omega
            have e1 := HW5.out.cell.2.1
            have f1 : w5.frozen? ⟨b, 1, none⟩ = false := frozen_of_row _ _ _ _ _ HW5.out.block
            have HO6 : Hid (Own w0.heap.size (w5.setCell ⟨b, 1, none⟩ (.int .i64 (E1 : Int))) (lenTo nR 8 ++ drawn l d k) u11) := show Own _ _ _ _ from World.ownsRow.kept HO5.out (grown_setCell _ _ _ _) (Or.inr (fun e => by have := (World.ownsRow.lt HO5.out b e).1; omega))
            have HW6 := Lib.hid (HW5.out.put hbs E1)
            have HE1 := Lib.hid hE1; clear hE1
            go_upto_region 15 with (fail)
            generalize w5.setCell ⟨b, 1, none⟩ (.int .i64 (E1 : Int)) = w6 at HO6 HW6 ⊢
            clear e1 f1
            go_wp2_with (at_builtin; refine wpList_append_byte rfl (.tmp 68) (.tmp 70) rfl w0.heap.size _ (lenTo nR 8 ++ drawn l d k) x rfl HO6.out rfl HL.out (HW6.out.keep.size) ?_; intro v' w' ho' hb'; rw [← HS.out] at ho'; have HO' := Lib.hid ho'; have HW' := Lib.hid (HW6.out.onB hb' (by omega) (by omega)); clear ho' hb')
            go_roundw
            case rel => exact ⟨k + 1, by omega, by go_num, HO'.out, by have h := HW'.out; rw [HE1.out, HE.out] at h; exact h⟩
            case measure => simp [intOf]; omega
          · have q1 : ¬ (E : Int) < (l.length : Int) := by omega
            have hx : l.getD E 0#8 = 0#8 := by rw [List.getD_eq_getElem?_getD, List.getElem?_eq_none (by omega)]; rfl
            rw [hx] at HS
            clear hx
            have e0 := HW.out.cell.1
            have e1 := HW.out.cell.2.1
            go_wp2_with fail
            go_quiet (fail)
            have HO5 : Hid (Own w0.heap.size (wr.drewN nq) (lenTo nR 8 ++ drawn l d k) u11) := show Own _ _ _ _ from HO.out.below ⟨rfl, rfl, rfl, Nat.le_refl _, fun _ _ => rfl⟩
            have HW5 : Hid (SealW w w0 key nonce b (.slice ql l.length cl) (.slice pr R.length cr) E (wr.drewN nq)) := show SealW _ _ _ _ _ _ _ _ _ from HW.out.on ⟨rfl, rfl, rfl, Nat.le_refl _, fun _ _ => rfl⟩
            clear e0 e1 HO HW
            generalize wr.drewN nq = w5 at HO5 HW5 ⊢
            obtain ⟨E1, hE1⟩ : ∃ E1, E1 = E + 1 := ⟨_, rfl⟩
            have t3 : IntKind.i64.wrap ((E : Int) + 1) = (E1 : Int) := by rw [IntWalk.i64_in _ (by omega)]; omega
            have e1 := HW5.out.cell.2.1
            have f1 : w5.frozen? ⟨b, 1, none⟩ = false := frozen_of_row _ _ _ _ _ HW5.out.block
            have HO6 : Hid (Own w0.heap.size (w5.setCell ⟨b, 1, none⟩ (.int .i64 (E1 : Int))) (lenTo nR 8 ++ drawn l d k) u11) := show Own _ _ _ _ from World.ownsRow.kept HO5.out (grown_setCell _ _ _ _) (Or.inr (fun e => by have := (World.ownsRow.lt HO5.out b e).1; omega))
            have HW6 := Lib.hid (HW5.out.put hbs E1)
            have HE1 := Lib.hid hE1; clear hE1
            go_upto_region 15 with (fail)
            generalize w5.setCell ⟨b, 1, none⟩ (.int .i64 (E1 : Int)) = w6 at HO6 HW6 ⊢
            clear e1 f1
            go_wp2_with (at_builtin; refine wpList_append_byte rfl (.tmp 68) (.tmp 70) rfl w0.heap.size _ (lenTo nR 8 ++ drawn l d k) 0#8 rfl HO6.out rfl HL.out (HW6.out.keep.size) ?_; intro v' w' ho' hb'; rw [← HS.out] at ho'; have HO' := Lib.hid ho'; have HW' := Lib.hid (HW6.out.onB hb' (by omega) (by omega)); clear ho' hb')
            go_roundw
            case rel => exact ⟨k + 1, by omega, by go_num, HO'.out, by have h := HW'.out; rw [HE1.out, HE.out] at h; exact h⟩
            case measure => simp [intOf]; omega
        · have hkM : k = 8 + m := by have := HMM.out; omega
          have q0 : ¬ (k : Int) < (M : Int) := by omega
          have hbo : lenTo nR 8 ++ drawn l d k = boxOf l d R.length m := by rw [hkM, HNR.out]; rfl
          have HBL := Lib.hid (boxOf_length l d R.length m)
          have HO1 : Hid (Own w0.heap.size wr.drew (boxOf l d R.length m) u11) := show Own _ _ _ _ by rw [← hbo]; exact HO.out.below ⟨rfl, rfl, rfl, Nat.le_refl _, fun _ _ => rfl⟩
          have HW1 : Hid (SealW w w0 key nonce b (.slice ql l.length cl) (.slice pr R.length cr) (d + (8 + m)) wr.drew) := show SealW _ _ _ _ _ _ _ _ _ by rw [← hkM]; exact HW.out.on ⟨rfl, rfl, rfl, Nat.le_refl _, fun _ _ => rfl⟩
          have hSb : Stays (fun k => k = b) w wr.drew := (Below.stays HB0.out).trans HW1.out.keep (fun k hk _ => hk)
          have HSb := Lib.hid hSb
          obtain ⟨p11, c11, hv11, -, -, -⟩ := HO1.out.lies
          have hc11 : u11.cells = #[u11] := by rw [hv11]; rfl
          have hone11 : u11.oneCell' = true := by rw [hv11]; rfl
          have HV11 := Lib.hid hv11; clear hv11
          have hbL : ∀ (off : Nat) (x : BitVec 8), w.cell? ⟨b, off, none⟩ ≠ some (.int .u8 (n8 x)) := fun off x e => by
            rw [cell_of_row w b off _ _ _ HB.out.block] at e
            rcases off with _ | _ | _ | off <;> simp at e
          generalize hdM : d + (8 + m) = dM at HW1
          have HDM := Lib.hid hdM
          clear HO HW hkM hbo hSb hdM hk hlt
          go_upto_region 16 with (fail)
          refine region_phase (KeyW w key nonce) (BlkW b (.slice ql l.length cl) (.slice pr R.length cr) dM) 17 (⟨HW1.out.key, HW1.out.nonce⟩) HW1.out.block [(0, .free), (1, .free), (2, .free), (3, .free), (4, .early), (5, .free), (6, .free), (7, .free), (9, .free), (11, .free), (8, .before), (10, .before), (12, .free), (13, .before), (14, .before), (15, .free), (16, .free), (17, .behind)] (by kernel_rfl) (by kernel_rfl) (by kernel_rfl) (by kernel_rfl) (fun ops hops A hA => ?_)
          have hsz : A.tmps.size = 91 := by rw [hA]; rfl
          have base0 : A.eval (.tmp 0) = .pointer (some ⟨b, 0, none⟩) := by rw [hA]; rfl
          have base3 : A.eval (.tmp 3) = .slice p n cp := by rw [hA]; rfl
          have base4 : A.eval (.tmp 4) = .slice q m cq := by rw [hA]; rfl
          have base6 : A.eval (.tmp 6) = .pointer (some ⟨w.heap.size, 0, none⟩) := by rw [hA]; rfl
          have base7 : A.eval (.tmp 7) = .pointer (some ⟨w.heap.size + 1, 0, none⟩) := by rw [hA]; rfl
          have base11 : A.eval (.tmp 11) = u11 := by rw [hA]; rfl
          have HAA := Lib.hid hA; clear hA
          obtain ⟨o0, po0, q0, d0, gd0⟩ : ∃ o, ops[0]? = some o ∧ o.op = .move (.tmp 0) ∧ o.dst = some 72 ∧ o.guard = none := ⟨_, by rw [hops]; rfl, rfl, rfl, rfl⟩
          obtain ⟨o1, po1, q1, d1, gd1⟩ : ∃ o, ops[1]? = some o ∧ o.op = .move (.tmp 0) ∧ o.dst = some 73 ∧ o.guard = none := ⟨_, by rw [hops]; rfl, rfl, rfl, rfl⟩
          obtain ⟨o2, po2, q2, d2, gd2⟩ : ∃ o, ops[2]? = some o ∧ o.op = .nilCheck (.tmp 73) ∧ o.dst = some 74 ∧ o.guard = none := ⟨_, by rw [hops]; rfl, rfl, rfl, rfl⟩
          obtain ⟨o3, po3, q3, d3, gd3⟩ : ∃ o, ops[3]? = some o ∧ o.op = .fieldAddr 60 (.tmp 74) 2 ∧ o.dst = some 75 ∧ o.guard = none := ⟨_, by rw [hops]; rfl, rfl, rfl, rfl⟩
          obtain ⟨o4, po4, q4, d4, gd4⟩ : ∃ o, ops[4]? = some o ∧ o.op = .load 58 (.tmp 75) ∧ o.dst = some 76 ∧ o.guard = none := ⟨_, by rw [hops]; rfl, rfl, rfl, rfl⟩
          obtain ⟨o5, po5, q5, d5, gd5⟩ : ∃ o, ops[5]? = some o ∧ o.op = .load 38 (.tmp 6) ∧ o.dst = some 77 ∧ o.guard = none := ⟨_, by rw [hops]; rfl, rfl, rfl, rfl⟩
          obtain ⟨o6, po6, q6, d6, gd6⟩ : ∃ o, ops[6]? = some o ∧ o.op = .load 40 (.tmp 7) ∧ o.dst = some 78 ∧ o.guard = none := ⟨_, by rw [hops]; rfl, rfl, rfl, rfl⟩
          obtain ⟨o7, po7, q7, d7, gd7⟩ : ∃ o, ops[7]? = some o ∧ o.op = .move (.tmp 3) ∧ o.dst = some 79 ∧ o.guard = none := ⟨_, by rw [hops]; rfl, rfl, rfl, rfl⟩
          obtain ⟨o8, po8, q8, d8, gd8⟩ : ∃ o, ops[8]? = some o ∧ o.op = .call { callee := .value (.func 21), args := #[.tmp 79], argTypes := #[22] } ∧ o.dst = some 80 ∧ o.guard = none := ⟨_, by rw [hops]; rfl, rfl, rfl, rfl⟩
          obtain ⟨o9, po9, q9, d9, gd9⟩ : ∃ o, ops[9]? = some o ∧ o.op = .move (.tmp 4) ∧ o.dst = some 81 ∧ o.guard = none := ⟨_, by rw [hops]; rfl, rfl, rfl, rfl⟩
          obtain ⟨o10, po10, q10, d10, gd10⟩ : ∃ o, ops[10]? = some o ∧ o.op = .call { callee := .value (.func 21), args := #[.tmp 81], argTypes := #[22] } ∧ o.dst = some 82 ∧ o.guard = none := ⟨_, by rw [hops]; rfl, rfl, rfl, rfl⟩
          obtain ⟨o11, po11, q11, d11, gd11⟩ : ∃ o, ops[11]? = some o ∧ o.op = .move (.tmp 11) ∧ o.dst = some 83 ∧ o.guard = none := ⟨_, by rw [hops]; rfl, rfl, rfl, rfl⟩
          obtain ⟨o12, po12, q12, d12, gd12⟩ : ∃ o, ops[12]? = some o ∧ o.op = .build 66 #[(0, (.tmp 77)), (1, (.tmp 78)), (2, (.tmp 80)), (3, (.tmp 82)), (4, (.tmp 83))] ∧ o.dst = some 84 ∧ o.guard = none := ⟨_, by rw [hops]; rfl, rfl, rfl, rfl⟩
          obtain ⟨o13, po13, q13, d13, gd13⟩ : ∃ o, ops[13]? = some o ∧ o.op = .buildSlice 58 1 #[(0, (.tmp 84))] ∧ o.dst = some 85 ∧ o.guard = none := ⟨_, by rw [hops]; rfl, rfl, rfl, rfl⟩
          obtain ⟨o14, po14, q14, d14, gd14⟩ : ∃ o, ops[14]? = some o ∧ o.op = .call { callee := .builtin .append, args := #[.tmp 76, .tmp 85], argTypes := #[58, 58] } ∧ o.dst = some 86 ∧ o.guard = none := ⟨_, by rw [hops]; rfl, rfl, rfl, rfl⟩
          obtain ⟨o15, po15, q15, d15, gd15⟩ : ∃ o, ops[15]? = some o ∧ o.op = .nilCheck (.tmp 72) ∧ o.dst = some 87 ∧ o.guard = none := ⟨_, by rw [hops]; rfl, rfl, rfl, rfl⟩
          obtain ⟨o16, po16, q16, d16, gd16⟩ : ∃ o, ops[16]? = some o ∧ o.op = .fieldAddr 60 (.tmp 87) 2 ∧ o.dst = some 88 ∧ o.guard = none := ⟨_, by rw [hops]; rfl, rfl, rfl, rfl⟩
          obtain ⟨o17, po17, q17, d17, gd17⟩ : ∃ o, ops[17]? = some o ∧ o.op = .store 58 (.tmp 88) (.tmp 86) ∧ o.dst = none ∧ o.guard = none := ⟨_, by rw [hops]; rfl, rfl, rfl, rfl⟩
          clear hops
          refine met_free po0 d0 (wanted_of gd0) (fun w' h' => run_move q0 base0 w') ?_
          refine met_free po1 d1 (wanted_of gd1) (fun w' h' => run_move q1 ((eval_other _ 72 0 _ (by decide)).trans base0) w') ?_
          refine met_free po2 d2 (wanted_of gd2) (fun w' h' => run_nilCheck q2 (eval_same _ _ _ (by simp only [put_size, hsz]; decide)) w') ?_
          refine met_free po3 d3 (wanted_of gd3) (fun w' h' => run_fieldT (off := 2) q3 (fun _ => by kernel_rfl) (eval_same _ _ _ (by simp only [put_size, hsz]; decide)) w') ?_
          refine met_early po4 d4 (wanted_of gd4) (fun w' h' hE' => run_loadRef q4 (eval_same _ _ _ (by simp only [put_size, hsz]; decide)) (by rw [cell_of_row w' b _ _ _ _ hE']; rfl)) ?_
          refine met_free po5 d5 (wanted_of gd5) (fun w' h' => run_loadKeyB q5 ((eval_other _ 76 6 _ (by decide)).trans ((eval_other _ 75 6 _ (by decide)).trans ((eval_other _ 74 6 _ (by decide)).trans ((eval_other _ 73 6 _ (by decide)).trans ((eval_other _ 72 6 _ (by decide)).trans base6))))) HKL.out h'.1) ?_
          refine met_free po6 d6 (wanted_of gd6) (fun w' h' => run_loadNonceB q6 ((eval_other _ 77 7 _ (by decide)).trans ((eval_other _ 76 7 _ (by decide)).trans ((eval_other _ 75 7 _ (by decide)).trans ((eval_other _ 74 7 _ (by decide)).trans ((eval_other _ 73 7 _ (by decide)).trans ((eval_other _ 72 7 _ (by decide)).trans base7)))))) HNL.out h'.2) ?_
          refine met_free po7 d7 (wanted_of gd7) (fun w' h' => run_move q7 ((eval_other _ 78 3 _ (by decide)).trans ((eval_other _ 77 3 _ (by decide)).trans ((eval_other _ 76 3 _ (by decide)).trans ((eval_other _ 75 3 _ (by decide)).trans ((eval_other _ 74 3 _ (by decide)).trans ((eval_other _ 73 3 _ (by decide)).trans ((eval_other _ 72 3 _ (by decide)).trans base3))))))) w') ?_
          refine met_free po9 d9 (wanted_of gd9) (fun w' h' => run_move q9 ((eval_other _ 79 4 _ (by decide)).trans ((eval_other _ 78 4 _ (by decide)).trans ((eval_other _ 77 4 _ (by decide)).trans ((eval_other _ 76 4 _ (by decide)).trans ((eval_other _ 75 4 _ (by decide)).trans ((eval_other _ 74 4 _ (by decide)).trans ((eval_other _ 73 4 _ (by decide)).trans ((eval_other _ 72 4 _ (by decide)).trans base4)))))))) w') ?_
          refine met_free po11 d11 (wanted_of gd11) (fun w' h' => run_move q11 ((eval_other _ 81 11 _ (by decide)).trans ((eval_other _ 79 11 _ (by decide)).trans ((eval_other _ 78 11 _ (by decide)).trans ((eval_other _ 77 11 _ (by decide)).trans ((eval_other _ 76 11 _ (by decide)).trans ((eval_other _ 75 11 _ (by decide)).trans ((eval_other _ 74 11 _ (by decide)).trans ((eval_other _ 73 11 _ (by decide)).trans ((eval_other _ 72 11 _ (by decide)).trans base11))))))))) w') ?_
          refine mb_enter po8 d8 (wanted_of gd8) (run_callf1 q8 rfl ((eval_other _ 83 79 _ (by decide)).trans ((eval_other _ 81 79 _ (by decide)).trans (eval_same _ _ _ (by simp only [put_size, hsz]; decide)))) Try.func21 (by kernel_rfl) _) (copy_bigL head n p cp _ HHN.out (by omega) (HP.out.stay HSb.out hbL)) ?_
          rintro e w5 ⟨vh, rfl, ho5, hb5⟩
          obtain ⟨ph, ch, hvh, -, -, -⟩ := ho5.lies
          have HO5 := Lib.hid ho5; clear ho5
          have HB5 : Hid (Below wr.drew.heap.size wr.drew w5) := show Below _ _ _ from hb5
          have HK5 : Hid (KeyW w key nonce w5) := show KeyW _ _ _ _ from KeyW.on (F := fun _ => False) ⟨HW1.out.key, HW1.out.nonce⟩ (Below.stays hb5) (fun _ h => h.elim)
          have HBK5 : Hid (BlkW b (.slice ql l.length cl) (.slice pr R.length cr) dM w5) := show BlkW _ _ _ _ _ from BlkW.on (F := fun _ => False) HW1.out.block (Below.stays hb5) (fun h => h.elim)
          clear hb5
          refine ⟨_, rfl, ⟨HK5.out, HBK5.out⟩, ?_⟩
          refine mb_enter po10 d10 (wanted_of gd10) (run_callf1 q10 rfl ((eval_other _ 80 81 _ (by decide)).trans ((eval_other _ 83 81 _ (by decide)).trans (eval_same _ _ _ (by simp only [put_size, hsz]; decide)))) Try.func21 (by kernel_rfl) _) (copy_bigL plain m q cq w5 HCM.out (by omega) (HC.out.stay (HSb.out.trans (Below.stays HB5.out) (fun _ h _ => h)) hbL)) ?_
          rintro e w6 ⟨vp, rfl, ho6, hb6⟩
          obtain ⟨pp, cpp, hvp, -, -, -⟩ := ho6.lies
          have HO6 := Lib.hid ho6; clear ho6
          have HB6 := Lib.hid hb6
          have HK6 : Hid (KeyW w key nonce w6) := show KeyW _ _ _ _ from KeyW.on (F := fun _ => False) HK5.out (Below.stays hb6) (fun _ h => h.elim)
          have HBK6 : Hid (BlkW b (.slice ql l.length cl) (.slice pr R.length cr) dM w6) := show BlkW _ _ _ _ _ from BlkW.on (F := fun _ => False) HBK5.out (Below.stays hb6) (fun h => h.elim)
          clear hb6
          refine ⟨_, rfl, ⟨HK6.out, HBK6.out⟩, ?_⟩
          obtain ⟨rw', hrw⟩ : ∃ r : RowM, r = ⟨key, nonce, head, plain, boxOf l d R.length m, vh, vp, u11⟩ := ⟨_, rfl⟩
          refine met_free po12 d12 (wanted_of gd12) (fun w' h' => refRowT.run_build rw' q12 (by rw [hrw]; exact HKL.out) (by rw [hrw]; exact HNL.out) (by rw [hrw]; exact ((eval_other _ 82 77 _ (by decide)).trans ((eval_other _ 80 77 _ (by decide)).trans ((eval_other _ 83 77 _ (by decide)).trans ((eval_other _ 81 77 _ (by decide)).trans ((eval_other _ 79 77 _ (by decide)).trans ((eval_other _ 78 77 _ (by decide)).trans (eval_same _ _ _ (by simp only [put_size, hsz]; decide))))))))) (by rw [hrw]; exact ((eval_other _ 82 78 _ (by decide)).trans ((eval_other _ 80 78 _ (by decide)).trans ((eval_other _ 83 78 _ (by decide)).trans ((eval_other _ 81 78 _ (by decide)).trans ((eval_other _ 79 78 _ (by decide)).trans (eval_same _ _ _ (by simp only [put_size, hsz]; decide)))))))) (by rw [hrw]; exact ((eval_other _ 82 80 _ (by decide)).trans (eval_same _ _ _ (by simp only [put_size, hsz]; decide)))) (by rw [hrw]; exact (eval_same _ _ _ (by simp only [put_size, hsz]; decide))) (by rw [hrw]; exact ((eval_other _ 82 83 _ (by decide)).trans ((eval_other _ 80 83 _ (by decide)).trans (eval_same _ _ _ (by simp only [put_size, hsz]; decide))))) (by rw [hrw]; show vh.cells = #[vh]; rw [hvh]; rfl) (by rw [hrw]; show vp.cells = #[vp]; rw [hvp]; rfl) (by rw [hrw]; exact hc11) w') ?_
          have hcs : rw'.cells.toArray.size = 47 := by rw [List.size_toArray]; exact RowM.cells_length (by rw [hrw]; exact HKL.out) (by rw [hrw]; exact HNL.out)
          have hones := RowM.ones (r := rw') (by rw [hrw]; show vh.oneCell' = true; rw [hvh]; rfl) (by rw [hrw]; show vp.oneCell' = true; rw [hvp]; rfl) (by rw [hrw]; exact hone11)
          refine mb_value po13 d13 (wanted_of gd13) (refRowT.run_one q13 (eval_same _ _ _ (by simp only [put_size, hsz]; decide)) hcs w6) ?_
          have HB7 : Hid (Below w6.heap.size w6 (w6.alloc (.cells rw'.cells.toArray 66))) := show Below _ _ _ from (Below.refl _ _).alloc (Nat.le_refl _) _
          have HC7 : Hid ((w6.alloc (.cells rw'.cells.toArray 66)).heap[w6.heap.size]? = some (.cells rw'.cells.toArray 66 (0, 0))) := show _ = _ from heap_new_at rfl
          have hz7 : w6.heap.size < (w6.alloc (.cells rw'.cells.toArray 66)).heap.size := by rw [size_alloc]; omega
          generalize w6.alloc (.cells rw'.cells.toArray 66) = w7 at HB7 HC7 hz7 ⊢
          have HK7 : Hid (KeyW w key nonce w7) := show KeyW _ _ _ _ from KeyW.on (F := fun _ => False) HK6.out (Below.stays HB7.out) (fun _ h => h.elim)
          have HBK7 : Hid (BlkW b (.slice ql l.length cl) (.slice pr R.length cr) dM w7) := show BlkW _ _ _ _ _ from BlkW.on (F := fun _ => False) HBK6.out (Below.stays HB7.out) (fun h => h.elim)
          refine ⟨⟨HK7.out, HBK7.out⟩, ?_⟩
          have HS7 : Hid (Stays (fun k => k = b) w w7) := show Stays _ _ _ from ((HSb.out.trans (Below.stays HB5.out) (fun _ h _ => h)).trans (Below.stays HB6.out) (fun _ h _ => h)).trans (F := fun k => k = b) (G := fun k => k = b) (Below.stays HB7.out) (fun _ h _ => h)
          have HR7 := Lib.hid (ownsRow_stays HB.out.rows HS7.out (fun k hk e => HB.out.apart (by rw [hk, e])))
          refine refRowT.mb_append po14 d14 (wanted_of gd14) q14 ((eval_other _ 85 76 _ (by decide)).trans ((eval_other _ 84 76 _ (by decide)).trans ((eval_other _ 82 76 _ (by decide)).trans ((eval_other _ 80 76 _ (by decide)).trans ((eval_other _ 83 76 _ (by decide)).trans ((eval_other _ 81 76 _ (by decide)).trans ((eval_other _ 79 76 _ (by decide)).trans ((eval_other _ 78 76 _ (by decide)).trans ((eval_other _ 77 76 _ (by decide)).trans (eval_same _ _ _ (by simp only [put_size, hsz]; decide))))))))))) HR7.out (eval_same _ _ _ (by simp only [put_size, hsz]; decide)) HC7.out hcs hones (by omega) (Nat.zero_le _) ?_
          intro p8 c8 w8 hrow8 hg8 hat8
          have HG8 : Hid (Stays (fun k => Value.ownBlock (.slice pr R.length cr) = some k) w7 w8) := show Stays _ _ _ from grown_stays hg8 (fun k e => e)
          clear hg8
          have HROW8 := Lib.hid hrow8; clear hrow8
          have HAT8 := Lib.hid hat8; clear hat8
          have HK8 : Hid (KeyW w key nonce w8) := show KeyW _ _ _ _ from KeyW.on HK7.out HG8.out (fun k hk => (World.ownsRow.lt HB.out.rows k hk).2)
          have HBK8 : Hid (BlkW b (.slice ql l.length cl) (.slice pr R.length cr) dM w8) := show BlkW _ _ _ _ _ from BlkW.on HBK7.out HG8.out (fun h => HB.out.apart h)
          refine ⟨⟨HK8.out, HBK8.out⟩, ?_⟩
          refine met_free po15 d15 (wanted_of gd15) (fun w' h' => run_nilCheck q15 ((eval_other _ 86 72 _ (by decide)).trans ((eval_other _ 85 72 _ (by decide)).trans ((eval_other _ 84 72 _ (by decide)).trans ((eval_other _ 82 72 _ (by decide)).trans ((eval_other _ 80 72 _ (by decide)).trans ((eval_other _ 83 72 _ (by decide)).trans ((eval_other _ 81 72 _ (by decide)).trans ((eval_other _ 79 72 _ (by decide)).trans ((eval_other _ 78 72 _ (by decide)).trans ((eval_other _ 77 72 _ (by decide)).trans ((eval_other _ 76 72 _ (by decide)).trans ((eval_other _ 75 72 _ (by decide)).trans ((eval_other _ 74 72 _ (by decide)).trans ((eval_other _ 73 72 _ (by decide)).trans (eval_same _ _ _ (by rw [hsz]; decide)))))))))))))))) w') ?_
          refine met_free po16 d16 (wanted_of gd16) (fun w' h' => run_fieldT (off := 2) q16 (fun _ => by kernel_rfl) (eval_same _ _ _ (by simp only [put_size, hsz]; decide)) w') ?_
          refine met_skip po17 d17 (wanted_of gd17) (run_storeRef q17 (eval_same _ _ _ (by simp only [put_size, hsz]; decide)) ((eval_other _ 88 86 _ (by decide)).trans ((eval_other _ 87 86 _ (by decide)).trans (eval_same _ _ _ (by simp only [put_size, hsz]; decide)))) (by rw [cell_of_row w8 b _ _ _ _ HBK8.out]; rfl) (frozen_of_row _ _ _ _ _ HBK8.out)) (KeyW.on HK8.out (grown_stays (F := fun k => k = b) (grown_setCell _ _ _ _) (fun k e => (Option.some.inj e).symm)) (fun k hk => by omega)) ?_
          show NoPanic _ .normal _ _
          refine NoPanic.normal ?_
          rw [HAA.out]
          go_frame
          clear HAA
          have HBK9 : Hid (BlkW b (.slice ql l.length cl) (.slice p8 (R.length + 1) c8) dM (w8.setCell ⟨b, 2, none⟩ (.slice p8 (R.length + 1) c8))) := show BlkW _ _ _ _ _ from (heap_setCell_same _ _ _ _ _ _ HBK8.out).trans (by rfl)
          have HG9 : Hid (Stays (fun k => k = b) w8 (w8.setCell ⟨b, 2, none⟩ (.slice p8 (R.length + 1) c8))) := show Stays _ _ _ from grown_stays (grown_setCell _ _ _ _) (fun k e => (Option.some.inj e).symm)
          generalize w8.setCell ⟨b, 2, none⟩ (.slice p8 (R.length + 1) c8) = w9 at HBK9 HG9 ⊢
          clear HBK5 HBK6 HBK7 HBK8 HK5 HK6 HK7 HK8
          have hrvlt : ∀ k, Value.ownBlock (.slice pr R.length cr) = some k → k < w.heap.size := fun k hk => (World.ownsRow.lt HB.out.rows k hk).2
          have hmut : ∀ k, Mut b (.slice pr R.length cr) k → k < w.heap.size := fun k hk => hk.elim (fun e => by omega) (hrvlt k)
          have s79 : Stays (Mut b (.slice pr R.length cr)) w7 w9 := (HG8.out.more (fun k hk => Or.inr hk)).trans HG9.out (fun k hk _ => Or.inl hk)
          have s69 : Stays (Mut b (.slice pr R.length cr)) w6 w9 := (Below.stays HB7.out).trans s79 (fun k hk _ => hk)
          have s59 : Stays (Mut b (.slice pr R.length cr)) w5 w9 := (Below.stays HB6.out).trans s69 (fun k hk _ => hk)
          have s19 : Stays (Mut b (.slice pr R.length cr)) wr.drew w9 := (Below.stays HB5.out).trans s59 (fun k hk _ => hk)
          have s09 : Stays (Mut b (.slice pr R.length cr)) w w9 := (HSb.out.more (fun k hk => Or.inl hk)).trans s19 (fun k hk _ => hk)
          have z1 : w0.heap.size ≤ wr.drew.heap.size := HW1.out.keep.size
          have z5 : wr.drew.heap.size ≤ w5.heap.size := HB5.out.size
          have z6 : w5.heap.size ≤ w6.heap.size := HB6.out.size
          have z9 : w7.heap.size ≤ w9.heap.size := s79.size
          have HOU : Hid (Own w0.heap.size w9 (boxOf l d R.length m) u11) := show Own _ _ _ _ from ownsRow_stays HO1.out s19 (fun k hk f => by have h1 := (World.ownsRow.lt HO1.out k hk).1; have h2 := hmut k f; omega)
          have HOH : Hid (Own wr.drew.heap.size w9 head vh) := show Own _ _ _ _ from ownsRow_stays HO5.out s59 (fun k hk f => by have h1 := (World.ownsRow.lt HO5.out k hk).1; have h2 := hmut k f; omega)
          have HOP : Hid (Own w5.heap.size w9 plain vp) := show Own _ _ _ _ from ownsRow_stays HO6.out s69 (fun k hk f => by have h1 := (World.ownsRow.lt HO6.out k hk).1; have h2 := hmut k f; omega)
          have HKU : Hid (∀ k, u11.ownBlock = some k → w0.heap.size ≤ k ∧ k < wr.drew.heap.size) := show ∀ k, _ from fun k hk => World.ownsRow.lt HO1.out k hk
          have HKH : Hid (∀ k, vh.ownBlock = some k → wr.drew.heap.size ≤ k ∧ k < w5.heap.size) := show ∀ k, _ from fun k hk => World.ownsRow.lt HO5.out k hk
          have HKP : Hid (∀ k, vp.ownBlock = some k → w5.heap.size ≤ k ∧ k < w6.heap.size) := show ∀ k, _ from fun k hk => World.ownsRow.lt HO6.out k hk
          have HS9 := Lib.hid s09
          have HLU : Hid (Lies w9 p11 (boxOf l d R.length m)) := show Lies _ _ _ by
            obtain ⟨p', c', e, -, -, hl⟩ := HOU.out.lies
            rw [HV11.out] at e
            cases e
            exact hl
          have z7 : w6.heap.size < w7.heap.size := hz7
          clear s79 s69 s59 s19 s09 HO1 HO5 HO6 HW1 HG8 HB5 HB6 HB7 HSb HS7 hbL
          go_wp2_with fail
          rw [HV11.out]
          refine (copy_big (boxOf l d R.length m) p11 c11 w9 (by rw [HBL.out]; omega) HLU.out).mono ?_
          rintro e w10 ⟨v10, rfl, ho10, hb10⟩
          have HOV := Lib.hid ho10; clear ho10
          have HBV := Lib.hid hb10; clear hb10
          have zw : w.heap.size ≤ w9.heap.size := HS9.out.size
          go_wp2_with fail
          go_ret
          have s010 : Stays (Mut b (.slice pr R.length cr)) w w10 := HS9.out.trans (Below.stays HBV.out) (fun k hk _ => hk)
          have h910 : Stays (fun _ => False) w9 w10 := Below.stays HBV.out
          have hD : ∀ k, Mut b (.slice pr R.length cr) k → ¬ D k := fun k hk => hk.elim (fun e => by rw [e]; exact HB.out.clear.1) (HB.out.clear.2 k)
          have hv8 : ∀ k, Value.ownBlock (.slice p8 (R.length + 1) c8) = some k → Value.ownBlock (.slice pr R.length cr) = some k ∨ k = w7.heap.size := fun k hk => HAT8.out.elim (fun e => Or.inl (e ▸ hk)) (fun e => Or.inr (Option.some.inj (hk.symm.trans e)))
          have hfresh : ∀ k, (u11.ownBlock = some k ∨ vh.ownBlock = some k ∨ vp.ownBlock = some k) → w0.heap.size ≤ k ∧ k < w6.heap.size := fun k hk => by
            rcases hk with h | h | h
            · have := HKU.out k h; omega
            · have := HKH.out k h; omega
            · have := HKP.out k h; omega
          have hz10 : w9.heap.size ≤ w10.heap.size := HBV.out.size
          have hclear : ∀ k, k = b ∨ Value.ownBlock (.slice p8 (R.length + 1) c8) = some k → ¬ (D k ∨ u11.ownBlock = some k ∨ vh.ownBlock = some k ∨ vp.ownBlock = some k) := fun k hk hd => by
            rcases hk with rfl | hk
            · rcases hd with h | h
              · exact HB.out.clear.1 h
              · have := hfresh k h; omega
            · rcases hv8 k hk with h1 | h1
              · rcases hd with h | h
                · exact HB.out.clear.2 k h1 h
                · have := hfresh k h; have := hrvlt k h1; omega
              · rcases hd with h | h
                · have := HB.out.dom k h; omega
                · have := hfresh k h; omega
          refine ⟨v10, rw', fun k => D k ∨ u11.ownBlock = some k ∨ vh.ownBlock = some k ∨ vp.ownBlock = some k, .slice p8 (R.length + 1) c8, rfl, ⟨by rw [hrw], by rw [hrw], by rw [hrw], by rw [hrw], by rw [hrw]⟩, ⟨?_, ?_, ?_, ?_, ?_, ⟨hclear b (Or.inl rfl), fun k hk => hclear k (Or.inr hk)⟩, ?_⟩, ?_, ?_, ?_, ?_, s010⟩
          · have h := HBK9.out.on h910 (fun h => h)
            rw [HDM.out]; exact h
          · exact (HB.out.src.keep s010 hD).more (fun k hk _ => Or.inl hk)
          · have h := ownsRow_stays (ownsRow_stays HROW8.out HG9.out (fun k hk e => by
              rcases hv8 k hk with h1 | h1
              · exact HB.out.apart (e ▸ h1)
              · omega)) h910 (fun _ _ h => h)
            rw [List.length_append, rowsCells_append]
            simpa using h
          · intro r hr
            rcases List.mem_append.1 hr with hr | hr
            · exact ((HB.out.each r hr).keep s010 hD).more (fun k hk _ => Or.inl hk)
            · have hrr := List.mem_singleton.1 hr
              subst hrr
              rw [hrw]
              exact ⟨HKL.out, HNL.out, (HOH.out.sliceIn (fun k hk => Or.inr (Or.inr (Or.inl hk)))).keep h910 (fun _ h => h.elim), (HOP.out.sliceIn (fun k hk => Or.inr (Or.inr (Or.inr hk)))).keep h910 (fun _ h => h.elim), (HOU.out.sliceIn (fun k hk => Or.inr (Or.inl hk))).keep h910 (fun _ h => h.elim)⟩
          · intro e
            rcases hv8 b e with h1 | h1
            · exact HB.out.apart h1
            · omega
          · intro k hk
            rcases hk with h | h
            · have := HB.out.dom k h; omega
            · have := hfresh k h; omega
          · intro k hk
            rcases hk with h | h
            · exact Or.inl h
            · have := hfresh k h; exact Or.inr (by omega)
          · intro k hk
            rcases hv8 k hk with h1 | h1
            · exact Or.inl h1
            · exact Or.inr (by omega)
          · exact ⟨HOV.out.1, HOV.out.2.imp id (fun ⟨g, cap, cur, a, hb, r⟩ => ⟨g, cap, cur, a, Nat.le_trans zw hb, r⟩)⟩
          · intro k hk
            have hk2 := (World.ownsRow.lt HOV.out k hk).1
            refine ⟨fun h => ?_, fun h => ?_⟩
            · rcases h with h | h
              · have := HB.out.dom k h; omega
              · have := hfresh k h; omega
            · rcases h with h | h
              · omega
              · rcases hv8 k h with h1 | h1
                · have := hrvlt k h1; omega
                · have h2 := (World.ownsRow.lt HROW8.out k h).2
                  have h3 := HG9.out.size
                  omega
end Go.Proofs.Ytacgkfngpeieaaa

/-
  The document's answer of layer 6: Open.
-/
namespace Go.Proofs.Ytacgkfngpeieaaa
open Go.RowKit Go.Proofs.ShaWords

/-- Is it the row that is asked for? -/
def RowM.hit (key nonce head sealed : List (BitVec 8)) (r : RowM) : Bool := decide (r.key = key) && decide (r.nonce = nonce) && decide (r.head = head) && decide (r.sealed = sealed)
/-- Does it open? To what? -/
def openRs (R : List RowM) (key nonce head sealed : List (BitVec 8)) : Option RowM := R.find? (RowM.hit key nonce head sealed)
def openPl (R : List RowM) (key nonce head sealed : List (BitVec 8)) : List (BitVec 8) := match openRs R key nonce head sealed with | some r => r.plain | none => []
theorem find_at {R : List RowM} {f : RowM → Bool} {k : Nat} (hk : k < R.length) (h : (R.take k).find? f = none) (hf : f R[k] = true) : R.find? f = some R[k] := by
  conv => lhs; rw [← List.take_append_drop k R]
  rw [List.find?_append, h, Option.none_or, List.drop_eq_getElem_cons hk, List.find?_cons_of_pos hf]
theorem find_next {R : List RowM} {f : RowM → Bool} {k : Nat} (hk : k < R.length) (h : (R.take k).find? f = none) (hf : f R[k] = false) : (R.take (k + 1)).find? f = none := by
  rw [List.take_succ_eq_append_getElem hk, List.find?_append, h]
  simpa using hf
/-- A row by itself in a block. -/
def RowAt (w : World) (T : Nat) (r : RowM) : Prop := w.heap[T]? = some (.cells r.cells.toArray 66 (0, 0))
theorem RowAt.on {w w' : World} {T : Nat} {r : RowM} (h : RowAt w T r) (hb : Below w.heap.size w w') : RowAt w' T r := (hb.block _ (Array.getElem?_eq_some_iff.1 h).1).trans h
theorem RowAt.cell {w : World} {T : Nat} {r : RowM} (h : RowAt w T r) (j : Nat) : w.cell? ⟨T, j, none⟩ = r.cells[j]? := by
  rw [cell_of_row w T j _ _ _ h]; simp
theorem RowAt.keyRange {w : World} {T : Nat} {r : RowM} (h : RowAt w T r) : w.rangeAt T 0 (bytesV r.key) := fun j u hu => by
  rw [Nat.zero_add, h.cell, RowM.cells, List.getElem?_append_left (List.getElem?_eq_some_iff.1 hu).1]; exact hu
theorem RowAt.nonceRange {w : World} {T : Nat} {r : RowM} (h : RowAt w T r) (hk : r.key.length = 32) : w.rangeAt T 32 (bytesV r.nonce) := fun j u hu => by
  rw [h.cell, RowM.cells, List.getElem?_append_right (by rw [bytesV_length, hk]; omega), bytesV_length, hk, Nat.add_sub_cancel_left, List.getElem?_append_left (List.getElem?_eq_some_iff.1 hu).1]; exact hu
theorem RowAt.slices {w : World} {T : Nat} {r : RowM} (h : RowAt w T r) (hk : r.key.length = 32) (hn : r.nonce.length = 12) : w.cell? ⟨T, 44, none⟩ = some r.hv ∧ w.cell? ⟨T, 45, none⟩ = some r.pv ∧ w.cell? ⟨T, 46, none⟩ = some r.sv := by
  refine ⟨?_, ?_, ?_⟩ <;>
    rw [h.cell, RowM.cells, List.getElem?_append_right (by rw [bytesV_length, hk]; omega), bytesV_length, hk, List.getElem?_append_right (by rw [bytesV_length, hn]; omega), bytesV_length, hn] <;> rfl
/-- What the document's Open has in memory. -/
structure OpenB (D : Nat → Prop) (w : World) (key nonce head sealed : List (BitVec 8)) (p q : Option Addr) (b d : Nat) (l : List (BitVec 8)) (R : List RowM) (lv rv : Value) (wr : World) : Prop where
  kn : KnB w key nonce wr
  head : Lies wr p head
  sealed : Lies wr q sealed
  box : BoxR D wr b l d R lv rv
theorem OpenB.on {D : Nat → Prop} {w wr w' : World} {key nonce head sealed : List (BitVec 8)} {p q : Option Addr} {b d : Nat} {l : List (BitVec 8)} {R : List RowM} {lv rv : Value} (h : OpenB D w key nonce head sealed p q b d l R lv rv wr) (hb : Below wr.heap.size wr w') : OpenB D w key nonce head sealed p q b d l R lv rv w' :=
  ⟨h.kn.on hb, h.head.below hb, h.sealed.below hb, h.box.keep (F := fun _ => False) (Below.stays hb) (fun _ h => h.elim)⟩
set_option maxRecDepth 100000 in
set_option maxHeartbeats 4000000 in
theorem refOpenB_any (D : Nat → Prop) (b d : Nat) (l key nonce head sealed : List (BitVec 8)) (R : List RowM) (lv rv : Value) (n m : Nat) (p q : Option Addr) (cp cq : Nat) (w : World) (hk : key.length = 32) (hn : nonce.length = 12) (hhn : head.length = n) (hcm : sealed.length = m) (hH : n ≤ 300000) (hC : m ≤ 900000) (hR : R.length ≤ 100000) (hlen : ∀ r ∈ R, r.head.length ≤ 300000 ∧ r.plain.length ≤ 300000 ∧ r.sealed.length ≤ 900000)
    (hp : Lies w p head) (hc : Lies w q sealed) (hB : BoxR D w b l d R lv rv) :
    Calls Try.prog 18 #[.pointer (some ⟨b, 0, none⟩), .agg (bytesV key).toArray, .agg (bytesV nonce).toArray, .slice p n cp, .slice q m cq] w fun e w' => ∃ v, e = .returned (.tuple #[v, .bool (openRs R key nonce head sealed).isSome]) ∧ Own w.heap.size w' (openPl R key nonce head sealed) v ∧ Below w.heap.size w w' := by
  have HKL := Lib.hid hk; clear hk
  have HNL := Lib.hid hn; clear hn
  have HHN := Lib.hid hhn
  have HCM := Lib.hid hcm
  have HLE := Lib.hid hlen; clear hlen
  have HIK := Lib.hid (infoKey key HKL.out)
  have HIN := Lib.hid (infoNonce nonce HNL.out)
  have HST : Hid (OpenB D w key nonce head sealed p q b d l R lv rv ((w.alloc (.cells (bytesV key).toArray 38)).alloc (.cells (bytesV nonce).toArray 40))) := show OpenB _ _ _ _ _ _ _ _ _ _ _ _ _ _ _ from
    ⟨knb_start w key nonce, hp.below (knb_start w key nonce).below, hc.below (knb_start w key nonce).below, hB.keep (F := fun _ => False) (Below.stays (knb_start w key nonce).below) (fun _ h => h.elim)⟩
  have hrl : ∃ pr cr, rv = .slice pr R.length cr := by
    rcases hB.rows.2 with ⟨h0, h1⟩ | ⟨g, cap, cur, he, _⟩
    · exact ⟨_, _, by rw [h0, h1]⟩
    · exact ⟨_, _, he⟩
  obtain ⟨pr, cr, hrv⟩ := hrl
  subst hrv
  clear hhn hcm hp hc hB
  go_enter Try.func18, Try.ntmps18
  go_upto_region 1 with (fail)
  refine wp_gen (OpenB D w key nonce head sealed p q b d l R lv (.slice pr R.length cr)) HST.out ?_
  intro w1 hw1
  have HW1 := Lib.hid hw1; clear hw1 HST
  go_wp2_with fail
  go_loopw [12] (fun i wr => ∃ k : Nat, k ≤ R.length ∧ i = .int .i64 (k : Int) ∧ (R.take k).find? (RowM.hit key nonce head sealed) = none ∧ OpenB D w key nonce head sealed p q b d l R lv (.slice pr R.length cr) wr) (fun i _ => R.length - (intOf i).toNat)
  case atStart => exact ⟨0, by omega, rfl, rfl, HW1.out⟩
  case round =>
    clear HW1
    obtain ⟨k, hk, rfl, hf, hw⟩ := hrel
    have HW := Lib.hid hw; clear hw
    have HF := Lib.hid hf; clear hf
    have e2 : wr.cell? ⟨b, 2, none⟩ = some (.slice pr R.length cr) := by rw [cell_of_row wr b _ _ _ _ HW.out.box.block]; rfl
    by_cases hlt : k < R.length
    · have q0 : (k : Int) < (R.length : Int) := by omega
      obtain ⟨g, rfl, hg⟩ : ∃ g, pr = some ⟨g, 0, none⟩ ∧ ∀ j u, (rowsCells R)[j]? = some u → wr.cell? ⟨g, j, none⟩ = some u := by
        rcases HW.out.box.rows.2 with ⟨h0, h1⟩ | ⟨g, cap, cur, he, hb, hh, h3, h4, h5, h6⟩
        · omega
        · cases he
          refine ⟨g, rfl, fun j u hu => ?_⟩
          have h := World.ownsRow.cells HW.out.box.rows (g := g) rfl j u hu
          rwa [Addr.add_mid, Nat.zero_add] at h
      obtain ⟨r, hr⟩ : ∃ r, r = R[k] := ⟨_, rfl⟩
      have hrok := HW.out.box.each r (by rw [hr]; exact List.getElem_mem _)
      have hrl := HLE.out r (by rw [hr]; exact List.getElem_mem _)
      have hall : ∀ x ∈ R, x.key.length = 32 ∧ x.nonce.length = 12 := fun x hx => ⟨(HW.out.box.each x hx).key, (HW.out.box.each x hx).nonce⟩
      have HCS : Hid (r.cells.length = 47) := show _ = _ from RowM.cells_length hrok.key hrok.nonce
      have hrange : wr.rangeAt g (k * 47) r.cells := fun j u hu => by
        have hj : j < 47 := by have := (List.getElem?_eq_some_iff.1 hu).1; have := HCS.out; omega
        exact hg (k * 47 + j) u (by rw [rowsCells_at hall k hlt j hj, ← hr]; exact hu)
      have HRG := Lib.hid hrange; clear hrange hg hall
      have HOK := Lib.hid hrok; clear hrok
      have HRR := Lib.hid hr; clear hr
      have HI : Hid ((Try.prog.info? 66).map (·.size) = some r.cells.length) := show _ = _ from (show (Try.prog.info? 66).map (·.size) = some 47 by kernel_rfl).trans (congrArg some HCS.out.symm)
      have HCA : Hid (r.cells.toArray.size = 47) := show _ = _ by rw [List.size_toArray]; exact HCS.out
      have HI2 : Hid ((Try.prog.info? 66).map (·.size) = some r.cells.toArray.size) := show _ = _ by rw [HCA.out]; kernel_rfl
      have HON : Hid (r.cells.toArray.all (·.oneCell') = true) := show _ = _ from by
        rw [Array.all_eq_true_iff_forall_mem]
        intro u hu
        exact RowM.ones (by obtain ⟨_, _, e, _⟩ := HOK.out.head; rw [e]; rfl) (by obtain ⟨_, _, e, _⟩ := HOK.out.plain; rw [e]; rfl) (by obtain ⟨_, _, e, _⟩ := HOK.out.sealed; rw [e]; rfl) u (by simpa using hu)
      go_upto_region 5 with (first
        | (refine wpList_load_mid rfl 66 (.tmp 28) rfl g (k * 47) rfl r.cells _ HRG.out Try.underlying66 rfl HI.out ?_)
        | (refine wpList_store_new rfl 66 (.tmp 13) (.tmp 29) rfl wr.heap.size rfl r.cells.toArray rfl rfl HI2.out (by rw [HCA.out]; rfl) HON.out ?_; intro w4 h4 b4; have HT4 := Lib.hid h4; have HB4 := Lib.hid b4; clear h4 b4))
      have HT : Hid (RowAt w4 wr.heap.size r) := show RowAt _ _ _ from HT4.out
      have HW4 := Lib.hid (HW.out.on HB4.out)
      have HKI : Hid ((Try.prog.info? 38).map (·.size) = some (bytesV r.key).length) := show _ = _ by rw [bytesV_length, HOK.out.key]; kernel_rfl
      have HNI : Hid ((Try.prog.info? 40).map (·.size) = some (bytesV r.nonce).length) := show _ = _ by rw [bytesV_length, HOK.out.nonce]; kernel_rfl
      have HGK : Hid (Try.prog.eqGuardType Try.prog.depth 38 = false) := show _ = _ by kernel_rfl
      have HGN : Hid (Try.prog.eqGuardType Try.prog.depth 40 = false) := show _ = _ by kernel_rfl
      clear e2 HT4 HCS HCA HI HI2 HON HRG
      generalize wr.heap.size = T at HT ⊢
      by_cases h1 : r.key = key
      · have HD1 : Hid (decide (r.key = key) = true) := show _ = _ by simp [h1]
        by_cases h2 : r.nonce = nonce
        · have HD2 : Hid (decide (r.nonce = nonce) = true) := show _ = _ by simp [h2]
          obtain ⟨qh, ch, hvh, -, -, hlh⟩ := HOK.out.head
          obtain ⟨qs, cs, hvs, -, -, hls⟩ := HOK.out.sealed
          have e44 : w4.cell? ⟨T, 44, none⟩ = some (.slice qh r.head.length ch) := by rw [← hvh]; exact (HT.out.slices HOK.out.key HOK.out.nonce).1
          have HLH := Lib.hid ((hlh.keep (F := fun _ => False) (Below.stays HB4.out) (fun _ h => h.elim)).lies)
          have HLS0 := Lib.hid (hls.keep (F := fun _ => False) (Below.stays HB4.out) (fun _ h => h.elim))
          have HVS := Lib.hid hvs
          clear hvh hlh hls hvs
          go_wp2_with (first
        | (refine wpList_run (by rfl) (run_loadArr (x := .tmp 30) rfl rfl Try.underlying38 HKI.out HT.out.keyRange) ?_)
        | (refine wpList_load_g (by rfl) 38 (.tmp 6) rfl w.heap.size rfl 38 (bytesV key).toArray (0, 0) _ HW4.out.kn.key Try.underlying38 rfl HIK.out ?_)
        | (refine wpList_run (by rfl) ((run_eqArr (x := .tmp 31) (y := .tmp 32) (l := r.key) (m := key) rfl Try.underlying38 HGK.out HOK.out.key HKL.out rfl rfl w4).trans (by rw [HD1.out])) ?_)
        | (refine wpList_run (by rfl) (run_loadArr (x := .tmp 35) rfl rfl Try.underlying40 HNI.out (HT.out.nonceRange HOK.out.key)) ?_)
        | (refine wpList_load_g (by rfl) 40 (.tmp 7) rfl (w.heap.size + 1) rfl 40 (bytesV nonce).toArray (0, 0) _ HW4.out.kn.nonce Try.underlying40 rfl HIN.out ?_)
        | (refine wpList_run (by rfl) ((run_eqArr (x := .tmp 36) (y := .tmp 37) (l := r.nonce) (m := nonce) rfl Try.underlying40 HGN.out HOK.out.nonce HNL.out rfl rfl w4).trans (by rw [HD2.out])) ?_))
          clear e44
          refine (sameBytes_any r.head head _ n qh p ch cp w4 rfl HHN.out (by omega) (by omega) HLH.out HW4.out.head).mono ?_
          rintro e w5 ⟨rfl, hb5⟩
          have HT5 := Lib.hid (HT.out.on hb5)
          have HW5 := Lib.hid (HW4.out.on hb5)
          have HLS5 := Lib.hid ((HLS0.out.keep (F := fun _ => False) (Below.stays hb5) (fun _ h => h.elim)).lies)
          clear hb5
          by_cases h3 : r.head = head
          · have e46 : w5.cell? ⟨T, 46, none⟩ = some (.slice qs r.sealed.length cs) := by rw [← HVS.out]; exact (HT5.out.slices HOK.out.key HOK.out.nonce).2.2
            rw [decide_eq_true h3]
            go_wp2_with fail
            clear e46
            refine (sameBytes_any r.sealed sealed _ m qs q cs cq w5 rfl HCM.out (by omega) (by omega) HLS5.out HW5.out.sealed).mono ?_
            rintro e w6 ⟨rfl, hb6⟩
            have HT6 := Lib.hid (HT5.out.on hb6)
            have HW6 := Lib.hid (HW5.out.on hb6)
            clear hb6
            by_cases h4 : r.sealed = sealed
            · rw [decide_eq_true h4]
              have HHIT : Hid (RowM.hit key nonce head sealed R[k] = true) := show _ = _ by rw [← HRR.out]; simp [RowM.hit, h1, h2, h3, h4]
              have HFD : Hid (openRs R key nonce head sealed = some r) := show _ = _ by rw [HRR.out]; exact find_at hlt HF.out HHIT.out
              have HPL : Hid (openPl R key nonce head sealed = r.plain) := show _ = _ by unfold openPl; rw [HFD.out]
              have hrok := HW6.out.box.each r (by rw [HRR.out]; exact List.getElem_mem _)
              obtain ⟨qp, cpp, hvp, -, -, hlp⟩ := hrok.plain
              have e45 : w6.cell? ⟨T, 45, none⟩ = some (.slice qp r.plain.length cpp) := by rw [← hvp]; exact (HT6.out.slices HOK.out.key HOK.out.nonce).2.1
              have HLP := Lib.hid hlp.lies
              clear hvp hlp hrok
              go_wp2_with fail
              clear e45
              refine (copy_any r.plain qp cpp w6 (by omega) HLP.out).mono ?_
              rintro e w7 ⟨v7, rfl, ho7, hb7⟩
              have HO7 := Lib.hid ho7; clear ho7
              have HB7 := Lib.hid hb7; clear hb7
              go_wp2_with fail
              refine bodyPost_ret (v := .tuple #[v7, .bool true]) (by simp [results, Try.results18, go_sem]) rfl ?_
              exact ⟨_, by rw [HFD.out]; rfl, by rw [HPL.out]; exact ⟨HO7.out.1, HO7.out.2.imp id (fun ⟨g, cap, cur, a, hb, r⟩ => ⟨g, cap, cur, a, Nat.le_trans HW6.out.kn.below.size hb, r⟩)⟩, HW6.out.kn.below.trans (HB7.out.mono HW6.out.kn.below.size)⟩
            · rw [decide_eq_false h4]
              go_wp2_with fail
              have HMISS : Hid (RowM.hit key nonce head sealed R[k] = false) := show _ = _ by rw [← HRR.out]; simp [RowM.hit, h4]
              go_roundw
              case rel => exact ⟨k + 1, by omega, by go_num, find_next hlt HF.out HMISS.out, HW6.out⟩
              case measure => simp [intOf]; omega
          · rw [decide_eq_false h3]
            go_wp2_with fail
            have HMISS : Hid (RowM.hit key nonce head sealed R[k] = false) := show _ = _ by rw [← HRR.out]; simp [RowM.hit, h3]
            go_roundw
            case rel => exact ⟨k + 1, by omega, by go_num, find_next hlt HF.out HMISS.out, HW5.out⟩
            case measure => simp [intOf]; omega
        · have HD2 : Hid (decide (r.nonce = nonce) = false) := show _ = _ by simp [h2]
          go_wp2_with (first
        | (refine wpList_run (by rfl) (run_loadArr (x := .tmp 30) rfl rfl Try.underlying38 HKI.out HT.out.keyRange) ?_)
        | (refine wpList_load_g (by rfl) 38 (.tmp 6) rfl w.heap.size rfl 38 (bytesV key).toArray (0, 0) _ HW4.out.kn.key Try.underlying38 rfl HIK.out ?_)
        | (refine wpList_run (by rfl) ((run_eqArr (x := .tmp 31) (y := .tmp 32) (l := r.key) (m := key) rfl Try.underlying38 HGK.out HOK.out.key HKL.out rfl rfl w4).trans (by rw [HD1.out])) ?_)
        | (refine wpList_run (by rfl) (run_loadArr (x := .tmp 35) rfl rfl Try.underlying40 HNI.out (HT.out.nonceRange HOK.out.key)) ?_)
        | (refine wpList_load_g (by rfl) 40 (.tmp 7) rfl (w.heap.size + 1) rfl 40 (bytesV nonce).toArray (0, 0) _ HW4.out.kn.nonce Try.underlying40 rfl HIN.out ?_)
        | (refine wpList_run (by rfl) ((run_eqArr (x := .tmp 36) (y := .tmp 37) (l := r.nonce) (m := nonce) rfl Try.underlying40 HGN.out HOK.out.nonce HNL.out rfl rfl w4).trans (by rw [HD2.out])) ?_))
          have HMISS : Hid (RowM.hit key nonce head sealed R[k] = false) := show _ = _ by rw [← HRR.out]; simp [RowM.hit, h2]
          go_roundw
          case rel => exact ⟨k + 1, by omega, by go_num, find_next hlt HF.out HMISS.out, HW4.out⟩
          case measure => simp [intOf]; omega
      · have HD1 : Hid (decide (r.key = key) = false) := show _ = _ by simp [h1]
        go_wp2_with (first
        | (refine wpList_run (by rfl) (run_loadArr (x := .tmp 30) rfl rfl Try.underlying38 HKI.out HT.out.keyRange) ?_)
        | (refine wpList_load_g (by rfl) 38 (.tmp 6) rfl w.heap.size rfl 38 (bytesV key).toArray (0, 0) _ HW4.out.kn.key Try.underlying38 rfl HIK.out ?_)
        | (refine wpList_run (by rfl) ((run_eqArr (x := .tmp 31) (y := .tmp 32) (l := r.key) (m := key) rfl Try.underlying38 HGK.out HOK.out.key HKL.out rfl rfl w4).trans (by rw [HD1.out])) ?_))
        have HMISS : Hid (RowM.hit key nonce head sealed R[k] = false) := show _ = _ by rw [← HRR.out]; simp [RowM.hit, h1]
        go_roundw
        case rel => exact ⟨k + 1, by omega, by go_num, find_next hlt HF.out HMISS.out, HW4.out⟩
        case measure => simp [intOf]; omega
    · have q0 : ¬ (k : Int) < (R.length : Int) := by omega
      have HNO : Hid (openRs R key nonce head sealed = none) := show _ = _ by
        have h := HF.out
        rw [List.take_of_length_le (by omega)] at h
        exact h
      have HPL : Hid (openPl R key nonce head sealed = []) := show _ = _ by unfold openPl; rw [HNO.out]
      go_wp2_with fail
      refine bodyPost_ret (v := .tuple #[.slice none 0 0, .bool false]) (by simp [results, Try.results18, go_sem]) rfl ?_
      exact ⟨_, by rw [HNO.out]; rfl, by rw [HPL.out]; exact Own.nil _ _, HW.out.kn.below⟩
end Go.Proofs.Ytacgkfngpeieaaa

/-
  The document's answer of layer 6, without its insides: what it answers, which blocks are its own.
-/
namespace Go.Proofs.Ytacgkfngpeieaaa
open Go.RowKit Go.Proofs.ShaWords

/-- A row, as the document tells it. -/
structure RowA where
  key : List (BitVec 8)
  nonce : List (BitVec 8)
  head : List (BitVec 8)
  plain : List (BitVec 8)
  sealed : List (BitVec 8)
def RowM.toA (r : RowM) : RowA := ⟨r.key, r.nonce, r.head, r.plain, r.sealed⟩
def RowA.hit (key nonce head sealed : List (BitVec 8)) (r : RowA) : Bool := decide (r.key = key) && decide (r.nonce = nonce) && decide (r.head = head) && decide (r.sealed = sealed)
def openA (A : List RowA) (key nonce head sealed : List (BitVec 8)) : Option RowA := A.find? (RowA.hit key nonce head sealed)
def openB (A : List RowA) (key nonce head sealed : List (BitVec 8)) : List (BitVec 8) := match openA A key nonce head sealed with | some r => r.plain | none => []
theorem openA_map (R : List RowM) (key nonce head sealed : List (BitVec 8)) : openA (R.map RowM.toA) key nonce head sealed = (openRs R key nonce head sealed).map RowM.toA := by
  unfold openA openRs
  rw [List.find?_map]; rfl
/-- Rows that are small enough. -/
def RowA.Small (r : RowA) : Prop := r.head.length ≤ 300000 ∧ r.plain.length ≤ 300000 ∧ r.sealed.length ≤ 900000
/-- The document's box v: its list, how many were drawn, its rows; S: its blocks. -/
def RefBox (S : Nat → Prop) (w : World) (v : Value) (l : List (BitVec 8)) (d : Nat) (A : List RowA) : Prop :=
  ∃ b D R lv rv, v = .pointer (some ⟨b, 0, none⟩) ∧ BoxR D w b l d R lv rv ∧ A = R.map RowM.toA ∧ (∀ k, S k ↔ D k ∨ Mut b rv k)
theorem RefBox.keep {S F : Nat → Prop} {w w' : World} {v : Value} {l : List (BitVec 8)} {d : Nat} {A : List RowA} (h : RefBox S w v l d A) (hk : Stays F w w') (hF : ∀ k, F k → ¬ S k) : RefBox S w' v l d A := by
  obtain ⟨b, D, R, lv, rv, rfl, hB, rfl, hS⟩ := h
  exact ⟨b, D, R, lv, rv, rfl, hB.keep hk (fun k f => ⟨fun h => hF k f ((hS k).2 (Or.inl h)), fun h => hF k f ((hS k).2 (Or.inr h))⟩), rfl, hS⟩
theorem RefBox.dom {S : Nat → Prop} {w : World} {v : Value} {l : List (BitVec 8)} {d : Nat} {A : List RowA} (h : RefBox S w v l d A) (k : Nat) (hk : S k) : k < w.heap.size := by
  obtain ⟨b, D, R, lv, rv, rfl, hB, rfl, hS⟩ := h
  rcases (hS k).1 hk with h | h | h
  · exact hB.dom k h
  · rw [h]; exact (Array.getElem?_eq_some_iff.1 hB.block).1
  · exact (World.ownsRow.lt hB.rows k h).2
theorem refBoxNew_any (l : List (BitVec 8)) (n : Nat) (p : Option Addr) (c : Nat) (w : World) (hn : l.length = n) (hl : n < 140737488355328) (hp : Lies w p l) :
    Calls Try.prog 9 #[.slice p n c] w fun e w' => ∃ v S, e = .returned v ∧ RefBox S w' v l 0 [] ∧ (∀ k, S k → w.heap.size ≤ k) ∧ Below w.heap.size w w' := by
  refine (refNew_any l n p c w hn hl hp).mono ?_
  rintro e w' ⟨b, lv, rfl, h1, h2, hB, hb⟩
  refine ⟨_, fun k => (w.heap.size ≤ k ∧ k < b) ∨ Mut b (.slice none 0 0) k, rfl, ⟨b, _, [], lv, _, rfl, hB, rfl, fun _ => Iff.rfl⟩, fun k hk => ?_, hb⟩
  rcases hk with h | h | h
  · exact h.1
  · omega
  · simp [Value.ownBlock] at h
theorem refBoxSeal_any (S : Nat → Prop) (v : Value) (d : Nat) (l key nonce head plain : List (BitVec 8)) (A : List RowA) (n m : Nat) (p q : Option Addr) (cp cq : Nat) (w : World) (hk : key.length = 32) (hn : nonce.length = 12) (hhn : head.length = n) (hcm : plain.length = m) (hH : n ≤ 300000) (hC : m ≤ 300000) (hd : d ≤ 1000000000) (hA : A.length ≤ 100000) (hl : l.length < 140737488355328)
    (hp : Lies w p head) (hc : Lies w q plain) (hB : RefBox S w v l d A) :
    Calls Try.prog 14 #[v, .agg (bytesV key).toArray, .agg (bytesV nonce).toArray, .slice p n cp, .slice q m cq] w fun e w' => ∃ u S', e = .returned u ∧ RefBox S' w' v l (d + (8 + m)) (A ++ [⟨key, nonce, head, plain, boxOf l d A.length m⟩]) ∧ (∀ k, S' k → S k ∨ w.heap.size ≤ k) ∧
      Own w.heap.size w' (boxOf l d A.length m) u ∧ (∀ k, u.ownBlock = some k → ¬ S' k) ∧ Stays S w w' := by
  obtain ⟨b, D, R, lv, rv, rfl, hB, rfl, hS⟩ := hB
  rw [List.length_map] at hA ⊢
  refine (refSealB_any D b d l key nonce head plain R lv rv n m p q cp cq w hk hn hhn hcm hH hC hd hA hl hp hc hB).mono ?_
  rintro e w' ⟨u, r, D', rv', rfl, ⟨r1, r2, r3, r4, r5⟩, hB', hD', hrv', hu, hua, hst⟩
  refine ⟨u, fun k => D' k ∨ Mut b rv' k, rfl, ⟨b, D', R ++ [r], lv, rv', rfl, hB', ?_, fun _ => Iff.rfl⟩, fun k hk => ?_, hu, fun k hk => ?_, hst.more (fun k hk => (hS k).2 (Or.inr hk))⟩
  · rw [List.map_append]
    simp [RowM.toA, r1, r2, r3, r4, r5]
  · rcases hk with h | h | h
    · exact (hD' k h).imp (fun h => (hS k).2 (Or.inl h)) id
    · exact Or.inl ((hS k).2 (Or.inr (Or.inl h)))
    · exact (hrv' k h).imp (fun h => (hS k).2 (Or.inr (Or.inr h))) id
  · have := hua k hk
    exact fun h => h.elim this.1 this.2
theorem refBoxOpen_any (S : Nat → Prop) (v : Value) (d : Nat) (l key nonce head sealed : List (BitVec 8)) (A : List RowA) (n m : Nat) (p q : Option Addr) (cp cq : Nat) (w : World) (hk : key.length = 32) (hn : nonce.length = 12) (hhn : head.length = n) (hcm : sealed.length = m) (hH : n ≤ 300000) (hC : m ≤ 900000) (hA : A.length ≤ 100000) (hlen : ∀ r ∈ A, r.Small)
    (hp : Lies w p head) (hc : Lies w q sealed) (hB : RefBox S w v l d A) :
    Calls Try.prog 18 #[v, .agg (bytesV key).toArray, .agg (bytesV nonce).toArray, .slice p n cp, .slice q m cq] w fun e w' => ∃ u, e = .returned (.tuple #[u, .bool (openA A key nonce head sealed).isSome]) ∧ Own w.heap.size w' (openB A key nonce head sealed) u ∧ Below w.heap.size w w' := by
  obtain ⟨b, D, R, lv, rv, rfl, hB, rfl, hS⟩ := hB
  rw [List.length_map] at hA
  refine (refOpenB_any D b d l key nonce head sealed R lv rv n m p q cp cq w hk hn hhn hcm hH hC hA (fun r hr => hlen r.toA (List.mem_map_of_mem hr)) hp hc hB).mono ?_
  rintro e w' ⟨u, rfl, hu, hb⟩
  have e1 := openA_map R key nonce head sealed
  refine ⟨u, by rw [e1]; cases openRs R key nonce head sealed <;> rfl, ?_, hb⟩
  have e2 : openB (R.map RowM.toA) key nonce head sealed = openPl R key nonce head sealed := by
    unfold openB openPl
    rw [e1]
    cases openRs R key nonce head sealed <;> rfl
  rw [e2]; exact hu
end Go.Proofs.Ytacgkfngpeieaaa

/-
  The box's own draw: bytes of what is left of the list, then noughts.
-/
namespace Go.Proofs.Ytacgkfngpeieaaa
open Go.RowKit Go.Proofs.ShaWords
theorem drawn_eq (l : List (BitVec 8)) (d k : Nat) : drawn l d k = (l.drop d).take k ++ noughts (k - (l.drop d).length) := by
  apply List.ext_getElem
  · rw [drawn_length, List.length_append, List.length_take, noughts_length]; omega
  · intro i h1 h2
    rw [drawn_length] at h1
    simp only [drawn, List.getElem_map, List.getElem_range]
    by_cases hi : d + i < l.length
    · rw [List.getElem_append_left (by rw [List.length_take, List.length_drop]; omega), List.getElem_take, List.getElem_drop, List.getD_eq_getElem?_getD, List.getElem?_eq_getElem hi]; rfl
    · rw [List.getElem_append_right (by rw [List.length_take, List.length_drop]; omega), List.getD_eq_getElem?_getD, List.getElem?_eq_none (by omega)]
      simp [noughts]
theorem drop_min (l : List (BitVec 8)) (d k m : Nat) (hm : (l.drop d).length = m) : (l.drop d).drop (min m k) = l.drop (d + k) := by
  rw [← List.drop_drop]
  by_cases h : m ≤ k
  · rw [Nat.min_eq_left h, List.drop_of_length_le (by omega), List.drop_of_length_le (by omega)]
  · rw [Nat.min_eq_right (by omega)]
set_option maxRecDepth 100000 in
/-- A copy into noughts that stand behind other bytes. -/
theorem run_copy_into (w : World) (ty : TypeId) (g o n cap : Nat) (t : TypeId) (pre bs : List (BitVec 8)) (p : Option Addr) (m c : Nat) (hg : BytesAt w g t (pre ++ noughts n)) (hn : pre.length = o) (hL : Lies w p bs) (hm : bs.length = m) :
    ∃ w', (Builtin.copy_ #[22, 22] ty #[.slice (some ⟨g, o, none⟩) n cap, .slice p m c]).run Try.prog w = .ok (goInt ((min m n : Nat) : Int)) w' ∧ BytesAt w' g t (pre ++ (bs.take n ++ noughts (n - m))) ∧ w.grownBy w' (some g) := by
  have i5 : (Try.prog.info? 5).map (·.size) = some 1 := by kernel_rfl
  by_cases h0 : m = 0
  · subst h0
    have hb : bs = [] := List.length_eq_zero_iff.1 hm
    subst hb
    rw [Nat.zero_min]
    refine ⟨w, run_copy_none (P := Try.prog) w 22 22 ty 5 _ p n cap 0 c Try.underlying22 i5 (by simp), ?_, World.grownBy.refl _ _⟩
    simpa using hg
  · rcases hL with hb | ⟨b, off, rfl, hr⟩
    · subst hb; exact absurd hm.symm h0
    · have hl : (bytesV (bs.take n)).length = min m n := by rw [bytesV_length, List.length_take, hm]; omega
      have hrun := run_copy_row (P := Try.prog) w 22 22 ty 5 g o n cap ⟨b, off, none⟩ m c (bytesV (pre ++ noughts n)).toArray t (bytesV (bs.take n)) Try.underlying22 i5 hg hl
        (fun j v hv => by
          rw [Addr.add_mid]
          refine hr j v ?_
          rw [bytesV_take, List.getElem?_take] at hv
          split at hv
          · exact hv
          · cases hv) (by rw [hl, bytesV_size _ _ rfl, List.length_append, noughts_length]; omega) (fun v hv => bytesV_mem hv)
      rw [hl] at hrun
      refine ⟨_, hrun, ?_, grown_setRow _ _ _⟩
      show _ = _
      rw [setRow_heap _ _ _ _ _ _ hg]
      congr 2
      have e1 : List.take o (bytesV (pre ++ noughts n)) = bytesV pre := by
        rw [bytesV_append, List.take_left' (by rw [bytesV_length, hn])]
      have e2 : List.drop (o + min m n) (bytesV (pre ++ noughts n)) = bytesV (noughts (n - m)) := by
        rw [bytesV_append, ← List.drop_drop, List.drop_left' (by rw [bytesV_length, hn]), ← bytesV_drop]
        congr 1
        unfold noughts
        rw [List.drop_replicate]
        congr 1; omega
      have e3 : (bytesV (pre ++ noughts n)).toArray.toList = bytesV (pre ++ noughts n) := rfl
      rw [e3, e1, e2, bytesV_append, bytesV_append, List.append_assoc]
theorem wpList_copy_into {w : World} {ops : Array Oper} {rest : List Oper} {o : Oper} {a : Act} {Q : Exit → Act → World → Prop} (hgd : o.guard = none) (d s : Operand)
    (ho : o.op = .call { callee := .builtin .copy, args := #[d, s], argTypes := #[22, 22] }) (g off n cap : Nat) (t : TypeId) (pre bs : List (BitVec 8)) (p : Option Addr) (m c : Nat)
    (hd : a.eval d = .slice (some ⟨g, off, none⟩) n cap) (hs : a.eval s = .slice p m c) (hg : BytesAt w g t (pre ++ noughts n)) (hn : pre.length = off) (hL : Lies w p bs) (hm : bs.length = m)
    (h : ∀ w', BytesAt w' g t (pre ++ (bs.take n ++ noughts (n - m))) → w.grownBy w' (some g) → wpList Try.prog ops Q rest (a.put o.dst (goInt ((min m n : Nat) : Int))) w') : wpList Try.prog ops Q (o :: rest) a w := by
  refine wpList_plain hgd fun K hK => ?_
  obtain ⟨w', hrun, h1, h2⟩ := run_copy_into w o.type g off n cap t pre bs p m c hg hn hL hm
  unfold Oper.wp
  simp [execOp, ho, resolve, invoke, builtin, hd, hs, hrun, Result.andThen]
  exact hK _ _ (h w' h1 h2)
attribute [local irreducible] drawn
set_option maxRecDepth 100000 in
set_option maxHeartbeats 1000000 in
theorem draw_any (D : Nat → Prop) (b g o c d k : Nat) (l pre : List (BitVec 8)) (t : TypeId) (lv rv : Value) (w : World) (hb : w.heap[b]? = some (.cells #[lv, rv] 57 (0, 0))) (hll : l.length < 140737488355328) (hsrc : SliceIn D w lv (l.drop d)) (hD : ¬ D b ∧ ¬ D g) (hgb : g ≠ b) (hB : BytesAt w g t (pre ++ noughts k)) (ho : pre.length = o) :
    Calls Try.prog 27 #[.pointer (some ⟨b, 0, none⟩), .slice (some ⟨g, o, none⟩) k c] w fun e w' => e = .returned (.tuple #[]) ∧ ∃ lv', w'.heap[b]? = some (.cells #[lv', rv] 57 (0, 0)) ∧ BytesAt w' g t (pre ++ drawn l d k) ∧ SliceIn D w' lv' (l.drop (d + k)) ∧ Stays (fun j => j = b ∨ j = g) w w' := by
  obtain ⟨q, cl, rfl, hcl, hmx, hli⟩ := hsrc
  have hm : (l.drop d).length < 140737488355328 := by rw [List.length_drop]; omega
  have HDE := Lib.hid (drawn_eq l d k)
  have HDM := Lib.hid (drop_min l d k _ rfl)
  generalize l.drop d = bs at *
  obtain ⟨m, hmm⟩ : ∃ m, bs.length = m := ⟨_, rfl⟩
  rw [hmm] at hb hcl hm HDE HDM
  obtain ⟨M, hM⟩ : ∃ M, min m k = M := ⟨_, rfl⟩
  rw [hM] at HDM
  have hGI : goInt (M : Int) = .int .i64 (M : Int) := rfl
  have HMM := Lib.hid hmm; clear hmm
  have HLI := Lib.hid hli; clear hli
  have HB := Lib.hid hB; clear hB
  have HO := Lib.hid ho; clear ho
  have e0 : w.cell? ⟨b, 0, none⟩ = some (.slice q m cl) := by rw [cell_of_row w b _ _ _ _ hb]; rfl
  have HBK := Lib.hid hb; clear hb
  go_enter Try.func27, Try.ntmps27
  go_upto_region 1 with (refine wpList_copy_into rfl (.tmp 5) (.tmp 9) rfl g o k c t pre bs q m cl rfl rfl HB.out HO.out HLI.out.lies HMM.out ?_; intro w1 h1 g1; rw [hM, hGI]; have HB1 := Lib.hid h1; have HG1 := Lib.hid g1; clear h1 g1)
  clear e0
  rename World => w1
  have hb1 : w1.heap[b]? = some (.cells #[.slice q m cl, rv] 57 (0, 0)) := (HG1.out.block b (Array.getElem?_eq_some_iff.1 HBK.out).1 (fun e => hgb (Option.some.inj e).symm)).trans HBK.out
  have e0 : w1.cell? ⟨b, 0, none⟩ = some (.slice q m cl) := by rw [cell_of_row w1 b _ _ _ _ hb1]; rfl
  have f0 : w1.frozen? ⟨b, 0, none⟩ = false := frozen_of_row _ _ _ _ _ hb1
  have HBK1 := Lib.hid hb1; clear hb1
  have hMm : M ≤ m := by omega
  have fin : ∀ (q' : Option Addr) (c' : Nat), m - M ≤ c' → c' ≤ cl → LiesIn D w q' (bs.drop M) → ∃ lv', (w1.setCell ⟨b, 0, none⟩ (.slice q' (m - M) c')).heap[b]? = some (.cells #[lv', rv] 57 (0, 0)) ∧ BytesAt (w1.setCell ⟨b, 0, none⟩ (.slice q' (m - M) c')) g t (pre ++ drawn l d k) ∧ SliceIn D (w1.setCell ⟨b, 0, none⟩ (.slice q' (m - M) c')) lv' (l.drop (d + k)) ∧ Stays (fun j => j = b ∨ j = g) w (w1.setCell ⟨b, 0, none⟩ (.slice q' (m - M) c')) := fun q' c' h1 h2 h3 => by
    have hst : Stays (fun j => j = b ∨ j = g) w (w1.setCell ⟨b, 0, none⟩ (.slice q' (m - M) c')) :=
      (grown_stays (F := fun j => j = b ∨ j = g) HG1.out (fun k e => Or.inr (Option.some.inj e).symm)).trans (G := fun j => j = b) (grown_stays (grown_setCell _ _ _ _) (fun k e => (Option.some.inj e).symm)) (fun _ h _ => Or.inl h)
    refine ⟨.slice q' (m - M) c', (heap_setCell_same _ _ _ _ _ _ HBK1.out).trans (by rfl), ?_, ?_, hst⟩
    · rw [HDE.out]; exact HB1.out.putOther hgb _ _
    · rw [← HDM.out]
      have hl : (bs.drop M).length = m - M := by rw [List.length_drop, HMM.out]
      exact ⟨q', c', by rw [hl], by rw [hl]; omega, by omega, h3.keep hst (fun j hj => hj.elim (fun e => e ▸ hD.1) (fun e => e ▸ hD.2))⟩
  have FIN := Lib.hid fin; clear fin
  have h0 : LiesIn D w (q.map fun x => x.add M) (bs.drop M) := by
    rcases HLI.out with h0 | ⟨b', off, rfl, h1, h2, hr⟩
    · exact Or.inl (by rw [h0]; simp)
    · refine Or.inr ⟨b', off + M, ?_, h1, h2, range_drop hr⟩
      rw [Option.map_some, Addr.add_mid]
  have H0 := Lib.hid h0; clear h0
  have z0 : ¬ ((M : Int) < 0) := by omega
  have z1 : ¬ ((m : Int) < (M : Int)) := by omega
  have z2 : (M : Int) ≤ (m : Int) := by omega
  go_wp2_with fail
  · go_end0
    exact ⟨rfl, FIN.out _ _ (by omega) (by omega) (Or.inl (List.drop_of_length_le (by rw [HMM.out]; omega)))⟩
  · go_end0
    exact ⟨rfl, FIN.out _ _ (by omega) (by omega) H0.out⟩
end Go.Proofs.Ytacgkfngpeieaaa

/-
  A number in eight bytes, the lowest first: written by the box's own putNumber, read by its numberOf.
-/
namespace Go.Proofs.Ytacgkfngpeieaaa
open Go.RowKit Go.Proofs.ShaWords
/-- The number that bytes tell, the lowest first. -/
def numOf : List (BitVec 8) → Nat
  | [] => 0
  | b :: bs => b.toNat + 256 * numOf bs
theorem numOf_snoc (l : List (BitVec 8)) (b : BitVec 8) : numOf (l ++ [b]) = numOf l + b.toNat * 256 ^ l.length := by
  induction l with
  | nil => simp [numOf]
  | cons x l ih =>
    rw [List.cons_append, numOf, ih, numOf, List.length_cons, Nat.pow_succ, Nat.mul_add]
    have : 256 * (b.toNat * 256 ^ l.length) = b.toNat * (256 ^ l.length * 256) := by rw [Nat.mul_comm, Nat.mul_assoc]
    omega
theorem numOf_lt (l : List (BitVec 8)) : numOf l < 256 ^ l.length := by
  induction l with
  | nil => simp [numOf]
  | cons x l ih =>
    rw [numOf, List.length_cons, Nat.pow_succ]
    have := x.isLt
    omega
theorem numOf_lenTo (n k : Nat) : numOf (lenTo n k) = n % 256 ^ k := by
  induction k with
  | zero => simp [lenTo_zero, numOf, Nat.mod_one]
  | succ k ih =>
    rw [lenTo_succ, numOf_snoc, ih, lenTo_length, BitVec.toNat_ofNat, show (256 : Nat) ^ (k + 1) = 256 ^ k * 256 from Nat.pow_succ _ _, Nat.mod_mul, Nat.mul_comm (256 ^ k) (n / 256 ^ k % 256)]
theorem or_num (a b k : Nat) (ha : a < 256 ^ k) : a ||| b * 256 ^ k = a + b * 256 ^ k := by
  have e : (256 : Nat) ^ k = 2 ^ (8 * k) := by rw [Nat.pow_mul]
  rw [e] at ha ⊢
  rw [Nat.or_comm, Nat.mul_comm, ← Nat.two_pow_add_eq_or_of_lt ha, Nat.add_comm]
theorem shl_num (b : BitVec 8) (k : Nat) (hk : k < 8) : IntKind.u64.wrap (n8 b * 2 ^ (8 * k)) = ((b.toNat * 256 ^ k : Nat) : Int) := by
  have e : (256 : Nat) ^ k = 2 ^ (8 * k) := by rw [Nat.pow_mul]
  have h1 : n8 b * 2 ^ (8 * k) = ((b.toNat * 256 ^ k : Nat) : Int) := by
    rw [e]; unfold n8; rw [Int.natCast_mul, Int.natCast_pow]; rfl
  have h2 : b.toNat * 256 ^ k < 18446744073709551616 := by
    have := b.isLt
    have h3 : (256 : Nat) ^ k ≤ 256 ^ 7 := Nat.pow_le_pow_right (by omega) (by omega)
    have h4 : b.toNat * 256 ^ k ≤ 255 * 256 ^ 7 := Nat.mul_le_mul (by omega) h3
    omega
  rw [h1, IntKind.wrap_u64]
  omega
theorem or_u64 (bs : List (BitVec 8)) (b : BitVec 8) (h : bs.length < 8) : bits .or .u64 (numOf bs : Int) ((b.toNat * 256 ^ bs.length : Nat) : Int) = ((numOf (bs ++ [b]) : Nat) : Int) := by
  have h1 := numOf_lt bs
  have h2 := numOf_lt (bs ++ [b])
  have h3 : (256 : Nat) ^ (bs ++ [b]).length ≤ 256 ^ 8 := Nat.pow_le_pow_right (by omega) (by simp; omega)
  have h4 := numOf_snoc bs b
  rw [u64_or_nat _ _ (by omega) (by omega), or_num _ _ _ h1, ← h4]
attribute [local irreducible] numOf lenTo
theorem num_wrap8 (n k : Nat) : IntKind.u8.wrap ((n : Int) / 2 ^ (8 * k)) = n8 (BitVec.ofNat 8 (n / 256 ^ k)) := by
  rw [IntKind.wrap_u8']; exact aeLenByte n k
set_option maxHeartbeats 400000 in
theorem numberOf_any (bs : List (BitVec 8)) (n : Nat) (p : Option Addr) (c : Nat) (w : World) (hn : bs.length = n) (h8 : n ≤ 8) (hL : Lies w p bs) :
    Calls Try.prog 31 #[.slice p n c] w fun e w' => e = .returned (.int .u64 (numOf bs : Int)) ∧ w = w' := by
  have HL := Lib.hid hL; clear hL
  have HN := Lib.hid hn
  have H0 : Hid (numOf (bs.take 0) = 0) := show _ = _ by unfold numOf; rfl
  go_enter Try.func31, Try.ntmps31
  go_wp2_with fail
  go_loopw [3, 8] (fun v i wr => ∃ k : Nat, k ≤ n ∧ v = .int .u64 (numOf (bs.take k) : Int) ∧ i = .int .i64 (k : Int) ∧ wr = w) (fun _ i _ => n - (intOf i).toNat)
  case atStart => exact ⟨0, by omega, by rw [H0.out]; rfl, rfl, rfl⟩
  case round =>
    obtain ⟨k, hk, rfl, rfl, rfl⟩ := hrel
    by_cases hlt : k < n
    · have hkb : k < bs.length := by omega
      rcases HL.out with h0 | ⟨b, off, rfl, hr⟩
      · exfalso; rw [h0] at hkb; simp at hkb
      · have hv : (bytesV bs)[k]? = some (.int .u8 (n8 bs[k])) := by simp [bytesV, hkb]
        have hc := hr k _ hv
        clear hv
        have HTK := Lib.hid (List.take_succ_eq_append_getElem hkb)
        have htl : (bs.take k).length = k := by rw [List.length_take]; omega
        generalize bs[k] = x at hc HTK
        have m0 : IntKind.i64.wrap (8 * (k : Int)) = 8 * (k : Int) := IntWalk.i64_in _ (by omega)
        have m1 := shl_num x k (by omega)
        have m2 := or_u64 (bs.take k) x (by rw [htl]; omega)
        rw [htl] at m2
        rw [← HTK.out] at m2
        generalize x.toNat * 256 ^ k = Y at m1 m2
        have m3 : IntKind.u64.wrap (n8 x) = n8 x := by rw [wrap64_n8]; unfold n64 ext64 n8; rw [BitVec.toNat_setWidth]; have := x.isLt; omega
        have q0 : (k : Int) < (n : Int) := by omega
        go_wp2_with fail
        go_roundw
        case rel => exact ⟨k + 1, by omega, rfl, by go_num, trivial⟩
        case measure => simp [intOf]; omega
    · have q0 : ¬ (k : Int) < (n : Int) := by omega
      have HTK : Hid (bs.take k = bs) := show _ = _ from List.take_of_length_le (by omega)
      go_wp2_with fail
      go_ret
      exact ⟨by rw [HTK.out]; rfl, rfl⟩
set_option maxHeartbeats 400000 in
/-- Its first eight bytes become the number's. -/
theorem putNumber_any (x : Nat) (g c : Nat) (t : TypeId) (blk : List (BitVec 8)) (w : World) (h8 : 8 ≤ blk.length) (hB : BytesAt w g t blk) :
    Calls Try.prog 26 #[.slice (some ⟨g, 0, none⟩) 8 c, .int .u64 (x : Int)] w fun e w' => e = .returned (.tuple #[]) ∧ BytesAt w' g t (lenTo x 8 ++ blk.drop 8) ∧ w.grownBy w' (some g) := by
  have HB := Lib.hid hB; clear hB
  have H0 : Hid (lenTo x 0 ++ blk.drop 0 = blk) := show _ = _ by rw [lenTo_zero]; rfl
  go_enter Try.func26, Try.ntmps26
  go_wp2_with fail
  go_loopw [7] (fun i wr => ∃ k : Nat, k ≤ 8 ∧ i = .int .i64 (k : Int) ∧ BytesAt wr g t (lenTo x k ++ blk.drop k) ∧ w.grownBy wr (some g)) (fun i _ => 8 - (intOf i).toNat)
  case atStart => exact ⟨0, by omega, rfl, by rw [H0.out]; exact HB.out, World.grownBy.refl _ _⟩
  case round =>
    clear HB H0
    obtain ⟨k, hk, rfl, ho, hb⟩ := hrel
    by_cases hlt : k < 8
    · have q0 : (k : Int) < 8 := by omega
      have m0 : IntKind.i64.wrap (8 * (k : Int)) = 8 * (k : Int) := IntWalk.i64_in _ (by omega)
      have m1 := num_wrap8 x k
      have hll : k < (lenTo x k ++ blk.drop k).length := by rw [List.length_append, lenTo_length, List.length_drop]; omega
      have hc := cell_bytesV ho hll
      have hf := frozen_of_row _ _ k _ _ ho
      have HS : Hid ((lenTo x k ++ blk.drop k).set k (BitVec.ofNat 8 (x / 256 ^ k)) = lenTo x (k + 1) ++ blk.drop (k + 1)) := show _ = _ by
        rw [List.set_append_right _ _ (by rw [lenTo_length]; exact Nat.le_refl _), lenTo_length, Nat.sub_self, lenTo_succ, List.append_assoc]
        rw [List.drop_eq_getElem_cons (show k < blk.length by omega)]
        rfl
      have HO := Lib.hid ho; clear ho
      have HG := Lib.hid hb; clear hb
      go_wp2_with fail
      go_roundw
      case rel => exact ⟨k + 1, by omega, by go_num, by have h := setCell_bytes (k := k) HO.out (BitVec.ofNat 8 (x / 256 ^ k)); rw [HS.out] at h; exact h, grown_trans HG.out (grown_setCell _ _ _ _)⟩
      case measure => simp [intOf]; omega
    · have HK8 : Hid (k = 8) := show k = 8 by omega
      have q0 : ¬ (k : Int) < 8 := by omega
      have HO := Lib.hid ho; clear ho
      have HG := Lib.hid hb; clear hb
      go_wp2_with fail
      go_end0
      refine ⟨rfl, ?_, HG.out⟩
      have h := HO.out
      rw [HK8.out] at h
      exact h
end Go.Proofs.Ytacgkfngpeieaaa

/-
  The program's box in memory; New and Len.
-/
namespace Go.Proofs.Ytacgkfngpeieaaa
open Go.RowKit Go.Proofs.ShaWords
theorem codeRowT : RowT 64 55 where
  sl := Try.underlying55
  row := ⟨_, Try.underlying64, by kernel_rfl⟩
  info := by
    obtain ⟨i, h1, h2⟩ : ∃ i, Try.prog.info? 64 = some i ∧ (i.zero.map (·.cells.size) = some 47 ∧ i.size = 47 ∧ i.bytes = 120) := by
      cases hi : Try.prog.info? 64 with
      | none => exact absurd hi (by have : (Try.prog.info? 64).isSome = true := by kernel_rfl
                                    intro h; rw [h] at this; cases this)
      | some i =>
        have e : (Try.prog.info? 64).map (fun i => (i.zero.map (·.cells.size), i.size, i.bytes)) = some (some 47, 47, 120) := by kernel_rfl
        rw [hi] at e
        simp only [Option.map_some, Option.some.injEq, Prod.mk.injEq] at e
        exact ⟨i, rfl, e.1, e.2.1, e.2.2⟩
    cases hz : i.zero with
    | none => rw [hz] at h2; simp at h2
    | some z =>
      rw [hz] at h2
      simp only [Option.map_some, Option.some.injEq] at h2
      exact ⟨i, z, h1, hz, h2.2.1, h2.1, h2.2.2⟩
/-- A row's sealed bytes begin with its number. -/
def NumAt (i : Nat) (s : List (BitVec 8)) : Prop := 8 ≤ s.length ∧ numOf (s.take 8) = i
/-- The program's box: its block, what is left of its list, its rows; the slices of both lie in blocks of D, which none of its changes reaches. -/
structure BoxC (D : Nat → Prop) (w : World) (b : Nat) (l : List (BitVec 8)) (d : Nat) (R : List RowM) (lv rv : Value) : Prop where
  block : w.heap[b]? = some (.cells #[lv, rv] 57 (0, 0))
  src : SliceIn D w lv (l.drop d)
  rows : w.ownsRow 0 64 47 rv R.length (rowsCells R)
  each : ∀ r ∈ R, RowOk D w r
  apart : rv.ownBlock ≠ some b
  clear : ¬ D b ∧ ∀ k, rv.ownBlock = some k → ¬ D k
  dom : ∀ k, D k → k < w.heap.size
  nums : ∀ i (h : i < R.length), NumAt i R[i].sealed
theorem BoxC.keep {D F : Nat → Prop} {w w' : World} {b d : Nat} {l : List (BitVec 8)} {R : List RowM} {lv rv : Value} (h : BoxC D w b l d R lv rv) (hk : Stays F w w') (hF : ∀ k, F k → ¬ D k ∧ ¬ Mut b rv k) : BoxC D w' b l d R lv rv :=
  ⟨(hk.block b (Array.getElem?_eq_some_iff.1 h.block).1 (fun f => (hF b f).2 (Or.inl rfl))).trans h.block, h.src.keep hk (fun k f => (hF k f).1),
    ownsRow_stays h.rows hk (fun k hk' f => (hF k f).2 (Or.inr hk')), fun r hr => (h.each r hr).keep hk (fun k f => (hF k f).1), h.apart, h.clear, fun k d => Nat.lt_of_lt_of_le (h.dom k d) hk.size, h.nums⟩
theorem wpList_make_bytesB {ops : Array Oper} {rest : List Oper} {o : Oper} {a : Act} {w : World} {Q : Exit → Act → World → Prop} (hg : o.guard = none) (l c : Operand) (hop : o.op = Op.makeSlice 22 l c) (n : Nat) (L : Int)
    (hl : a.eval l = .int .i64 L) (hc : a.eval c = .int .i64 L) (hL : L = (n : Int)) (b2 : n ≤ 281474976710656)
    (hK : ∀ w', BytesAt w' w.heap.size 5 (noughts n) → Below w.heap.size w w' → wpList Try.prog ops Q rest (a.put o.dst (.slice (some ⟨w.heap.size, 0, none⟩) n n)) w') : wpList Try.prog ops Q (o :: rest) a w := by
  obtain ⟨i, hi, hz, hsz, hby⟩ := info5'
  exact wpList_make_any hg l c 22 hop 5 i (.int .u8 0) Try.underlying22 hi hz hsz hby .i64 .i64 L L n n hl hc hL hL (Nat.le_refl _) b2 _ (made_noughts n) hK
/-- A whole block of bytes is a slice of one's own. -/
theorem own_block {B g n : Nat} {w : World} {l : List (BitVec 8)} (hB : B ≤ g) (h : BytesAt w g 5 l) (hn : l.length = n) (hm : n ≤ maxLen) : Own B w l (.slice (some ⟨g, 0, none⟩) n n) := by
  subst hn
  exact ⟨by rw [bytesV_length, Nat.mul_one], Or.inr ⟨g, l.length, (bytesV l).toArray, rfl, hB, h, Nat.le_refl _, hm, by rw [bytesV_size _ _ rfl, Nat.mul_one], by rw [Nat.mul_one]; exact List.take_of_length_le (by show (bytesV l).length ≤ _; rw [bytesV_length]; exact Nat.le_refl _)⟩⟩
set_option maxRecDepth 100000 in
theorem codeNewB_any (l : List (BitVec 8)) (n : Nat) (p : Option Addr) (c : Nat) (w : World) (hn : l.length = n) (hl : n < 140737488355328) (hp : Lies w p l) :
    Calls Try.prog 8 #[.slice p n c] w fun e w' => ∃ b lv, e = .returned (.pointer (some ⟨b, 0, none⟩)) ∧ w.heap.size ≤ b ∧ b < w'.heap.size ∧ BoxC (fun k => w.heap.size ≤ k ∧ k < b) w' b l 0 [] lv (.slice none 0 0) ∧ Below w.heap.size w w' := by
  have HP := Lib.hid hp; clear hp
  go_enter Try.func8, Try.ntmps8
  go_wp2_with fail
  refine (clone_any l n p c w hn hl HP.out).mono ?_
  subst hn
  rintro e w1 ⟨v, rfl, ho, hb⟩
  obtain ⟨q, c1, rfl, h1, h2, -⟩ := ho.lies
  have HO := Lib.hid ho; clear ho
  have HB := Lib.hid hb; clear hb
  have sz := HB.out.size
  go_wp2_with fail
  go_ret
  refine ⟨w1.heap.size, .slice q l.length c1, rfl, sz, by rw [size_alloc]; omega, ⟨heap_new_at rfl, ?_, ⟨rfl, Or.inl ⟨rfl, rfl⟩⟩, by simp, by simp [Value.ownBlock], ⟨by omega, by simp [Value.ownBlock]⟩, fun k hk => by rw [size_alloc]; omega, fun i h => absurd h (Nat.not_lt_zero i)⟩, HB.out.alloc sz _⟩
  exact (HO.out.sliceIn (D := fun k => w.heap.size ≤ k ∧ k < w1.heap.size) (fun k hk => World.ownsRow.lt HO.out k hk)).keep (F := fun _ => False) (Below.stays ((Below.refl _ _).alloc (Nat.le_refl _) _)) (fun _ h => h.elim)
/-- The slice of the rows, as the block holds it. -/
theorem BoxC.form {D : Nat → Prop} {w : World} {b d : Nat} {l : List (BitVec 8)} {R : List RowM} {lv rv : Value} (h : BoxC D w b l d R lv rv) : ∃ pr cr, rv = .slice pr R.length cr := by
  rcases h.rows.2 with ⟨h0, h1⟩ | ⟨g, cap, cur, he, _⟩
  · exact ⟨_, _, by rw [h0, h1]⟩
  · exact ⟨_, _, he⟩
theorem codeLenB_any (D : Nat → Prop) (b d : Nat) (l : List (BitVec 8)) (R : List RowM) (lv rv : Value) (w : World) (hB : BoxC D w b l d R lv rv) :
    Calls Try.prog 22 #[.pointer (some ⟨b, 0, none⟩)] w fun e w' => e = .returned (.int .i64 (R.length : Int)) ∧ w = w' := by
  obtain ⟨pr, cr, rfl⟩ := hB.form
  have e1 : w.cell? ⟨b, 1, none⟩ = some (.slice pr R.length cr) := by rw [cell_of_row w b _ _ _ _ hB.block]; rfl
  clear hB
  go_enter Try.func22, Try.ntmps22
  go_wp2_with fail
  go_ret
  exact ⟨rfl, rfl⟩
section
variable {ρ : Operand → Value} {o : Oper} {x : Operand} {w : World}
theorem run_loadRows {a : Addr} {p : Option Addr} {n c : Nat} (ho : o.op = .load 55 x) (hx : ρ x = .pointer (some a)) (hc : w.cell? a = some (.slice p n c)) : (execOp ρ o).run Try.prog w = .ok (.value (.slice p n c)) w := by
  obtain ⟨dst, op, ty', pos, after, guard⟩ := o
  simp only at ho
  subst ho
  go_simp
theorem run_storeRows {y : Operand} {a : Addr} {p : Option Addr} {n c : Nat} {u : Value} (ho : o.op = .store 55 x y) (hx : ρ x = .pointer (some a)) (hy : ρ y = .slice p n c) (hc : w.cell? a = some u) (hf : w.frozen? a = false) :
    (execOp ρ o).run Try.prog w = .ok .skip (w.setCell a (.slice p n c)) := by
  obtain ⟨dst, op, ty', pos, after, guard⟩ := o
  simp only at ho
  subst ho
  go_simp
theorem run_lenRows {q : Option Addr} {n c : Nat} (ho : o.op = .call { callee := .builtin .len, args := #[x], argTypes := #[55] }) (hx : ρ x = .slice q n c) (w : World) :
    (execOp ρ o).run Try.prog w = .ok (.value (.int .i64 (n : Int))) w := by
  obtain ⟨dst, op, ty, pos, after, guard⟩ := o
  simp only at ho
  subst ho
  go_simp
theorem run_toU64 {n : Nat} (ho : o.op = .convert 3 62 x) (hx : ρ x = .int .i64 (n : Int)) (hn : n < 18446744073709551616) (w : World) :
    (execOp ρ o).run Try.prog w = .ok (.value (.int .u64 (n : Int))) w := by
  obtain ⟨dst, op, ty, pos, after, guard⟩ := o
  simp only at ho
  subst ho
  have h : IntKind.u64.wrap (n : Int) = (n : Int) := by rw [IntKind.wrap_u64]; omega
  go_simp
theorem run_to8 {p : Option Addr} {n cp : Nat} (ho : o.op = .slice 22 x none (some (.const (.int .i64 8))) none) (h0 : ρ (.const (.int .i64 8)) = .int .i64 8) (hk : 8 ≤ cp) (hx : ρ x = .slice p n cp) (w : World) :
    (execOp ρ o).run Try.prog w = .ok (.value (.slice p 8 cp)) w := by
  obtain ⟨dst, op, ty, pos, after, guard⟩ := o
  simp only at ho
  subst ho
  have h1 : (8 : Int) ≤ (cp : Int) := by omega
  go_simp
end
end Go.Proofs.Ytacgkfngpeieaaa

/-
  The program's Seal.
-/
namespace Go.Proofs.Ytacgkfngpeieaaa
open Go.RowKit Go.Proofs.ShaWords
def BlkC (b : Nat) (lv rv : Value) (wr : World) : Prop := wr.heap[b]? = some (.cells #[lv, rv] 57 (0, 0))
theorem BlkC.on {wr w' : World} {b : Nat} {lv rv : Value} {F : Nat → Prop} (h : BlkC b lv rv wr) (hk : Stays F wr w') (hF : ¬ F b) : BlkC b lv rv w' := (hk.block b (Array.getElem?_eq_some_iff.1 h).1 hF).trans h
theorem noughts_drop8 (n : Nat) : (noughts n).drop 8 = noughts (n - 8) := by simp [noughts]
theorem numAt_boxOf (l : List (BitVec 8)) (d n m : Nat) (hn : n < 18446744073709551616) : NumAt n (boxOf l d n m) := by
  refine ⟨by rw [boxOf_length]; omega, ?_⟩
  unfold boxOf
  rw [List.take_left' (lenTo_length n 8), numOf_lenTo]
  exact Nat.mod_eq_of_lt hn
attribute [local irreducible] lenTo drawn
set_option maxRecDepth 100000 in
set_option maxHeartbeats 4000000 in
theorem codeSealB_any (D : Nat → Prop) (b d : Nat) (l key nonce head plain : List (BitVec 8)) (R : List RowM) (lv rv : Value) (n m : Nat) (p q : Option Addr) (cp cq : Nat) (w : World) (hk : key.length = 32) (hn : nonce.length = 12) (hhn : head.length = n) (hcm : plain.length = m) (hH : n < 140737488355328) (hC : m ≤ 300000) (hR : R.length ≤ 100000) (hl : l.length < 140737488355328)
    (hp : Lies w p head) (hc : Lies w q plain) (hB : BoxC D w b l d R lv rv) :
    Calls Try.prog 13 #[.pointer (some ⟨b, 0, none⟩), .agg (bytesV key).toArray, .agg (bytesV nonce).toArray, .slice p n cp, .slice q m cq] w fun e w' => ∃ v r D' lv' rv', e = .returned v ∧ (r.key = key ∧ r.nonce = nonce ∧ r.head = head ∧ r.plain = plain ∧ r.sealed = boxOf l d R.length m) ∧ BoxC D' w' b l (d + (8 + m)) (R ++ [r]) lv' rv' ∧ (∀ k, D' k → D k ∨ w.heap.size ≤ k) ∧ (∀ k, rv'.ownBlock = some k → rv.ownBlock = some k ∨ w.heap.size ≤ k) ∧
      Own w.heap.size w' (boxOf l d R.length m) v ∧ (∀ k, v.ownBlock = some k → ¬ D' k ∧ ¬ Mut b rv' k) ∧ Stays (Mut b rv) w w' := by
  have HP := Lib.hid hp; clear hp
  have HC := Lib.hid hc; clear hc
  have HKL := Lib.hid hk; clear hk
  have HNL := Lib.hid hn; clear hn
  have HHN := Lib.hid hhn
  have HCM := Lib.hid hcm
  have HIK := Lib.hid (infoKey key HKL.out)
  have HIN := Lib.hid (infoNonce nonce HNL.out)
  have HB := Lib.hid hB; clear hB
  have HLL := Lib.hid hl; clear hl
  have hbs : b < w.heap.size := (Array.getElem?_eq_some_iff.1 HB.out.block).1
  obtain ⟨pr, cr, hrv⟩ := HB.out.form
  subst hrv
  clear hhn hcm
  go_enter Try.func13, Try.ntmps13
  go_upto_region 1 with (fail)
  refine wp_gen (fun wr => KeyW w key nonce wr ∧ Below w.heap.size w wr ∧ wr.heap.size = w.heap.size + 2) ⟨⟨(knb_start w key nonce).key, (knb_start w key nonce).nonce⟩, (knb_start w key nonce).below, by rw [size_alloc, size_alloc]⟩ ?_
  rintro w0 ⟨hkw0, hb0, sz0⟩
  have HKW0 := Lib.hid hkw0; clear hkw0
  have HB0 := Lib.hid hb0; clear hb0
  obtain ⟨M, hM⟩ : ∃ M, M = 16 + m := ⟨_, rfl⟩
  have t1 : IntKind.i64.wrap (16 + (m : Int)) = (M : Int) := by rw [IntWalk.i64_in _ (by omega)]; omega
  have HMM := Lib.hid hM
  have hM1 : 16 ≤ M := by omega
  have hM2 : M ≤ 300016 := by omega
  clear hM
  go_upto_region 2 with (at_make; refine wpList_make_bytesB rfl _ _ rfl M _ rfl rfl rfl (by omega) ?_; intro w1 h1 b1; have HG1 := Lib.hid h1; have HB1 := Lib.hid b1; clear h1 b1)
  rename World => w1
  rw [sz0] at HG1
  generalize hG : w.heap.size + 2 = G at HG1 ⊢
  have sz1 : w.heap.size + 2 ≤ w1.heap.size := by have := HB1.out.size; omega
  have HSW1 : Hid (Stays (fun _ => False) w w1) := show Stays _ _ _ from (Below.stays HB0.out).trans (Below.stays HB1.out) (fun _ h _ => h)
  have HKW1 : Hid (KeyW w key nonce w1) := show KeyW _ _ _ _ from KeyW.on (F := fun _ => False) HKW0.out (Below.stays HB1.out) (fun _ h => h.elim)
  have HBK1 : Hid (BlkC b lv (.slice pr R.length cr) w1) := show BlkC _ _ _ _ from BlkC.on HB.out.block HSW1.out (fun h => h)
  have HBD1 : Hid (Below w1.heap.size w1 w1.drew) := show Below _ _ _ from (Below.refl _ _).drew
  refine region_phase (BlkC b lv (.slice pr R.length cr)) (fun _ => True) 8 (BlkC.on (F := fun _ => False) HBK1.out (Below.stays HBD1.out) (fun h => h)) trivial [(0, .free), (1, .free), (2, .free), (3, .free), (4, .free), (5, .free), (6, .free), (7, .free), (8, .behind)] (by kernel_rfl) (by kernel_rfl) (by kernel_rfl) (by kernel_rfl) (fun ops hops A hA => ?_)
  have hsz : A.tmps.size = 48 := by rw [hA]; rfl
  have base0 : A.eval (.tmp 0) = .pointer (some ⟨b, 0, none⟩) := by rw [hA]; rfl
  have base11 : A.eval (.tmp 11) = .slice (some ⟨G, 0, none⟩) M M := by rw [hA]; rfl
  have HAA := Lib.hid hA; clear hA
  obtain ⟨o0, po0, q0, d0, gd0⟩ : ∃ o, ops[0]? = some o ∧ o.op = .move (.tmp 11) ∧ o.dst = some 16 ∧ o.guard = none := ⟨_, by rw [hops]; rfl, rfl, rfl, rfl⟩
  obtain ⟨o1, po1, q1, d1, gd1⟩ : ∃ o, ops[1]? = some o ∧ o.op = .slice 22 (.tmp 16) none (some (.const (.int .i64 8))) none ∧ o.dst = some 17 ∧ o.guard = none := ⟨_, by rw [hops]; rfl, rfl, rfl, rfl⟩
  obtain ⟨o2, po2, q2, d2, gd2⟩ : ∃ o, ops[2]? = some o ∧ o.op = .move (.tmp 0) ∧ o.dst = some 18 ∧ o.guard = none := ⟨_, by rw [hops]; rfl, rfl, rfl, rfl⟩
  obtain ⟨o3, po3, q3, d3, gd3⟩ : ∃ o, ops[3]? = some o ∧ o.op = .nilCheck (.tmp 18) ∧ o.dst = some 19 ∧ o.guard = none := ⟨_, by rw [hops]; rfl, rfl, rfl, rfl⟩
  obtain ⟨o4, po4, q4, d4, gd4⟩ : ∃ o, ops[4]? = some o ∧ o.op = .fieldAddr 57 (.tmp 19) 1 ∧ o.dst = some 20 ∧ o.guard = none := ⟨_, by rw [hops]; rfl, rfl, rfl, rfl⟩
  obtain ⟨o5, po5, q5, d5, gd5⟩ : ∃ o, ops[5]? = some o ∧ o.op = .load 55 (.tmp 20) ∧ o.dst = some 21 ∧ o.guard = none := ⟨_, by rw [hops]; rfl, rfl, rfl, rfl⟩
  obtain ⟨o6, po6, q6, d6, gd6⟩ : ∃ o, ops[6]? = some o ∧ o.op = .call { callee := .builtin .len, args := #[.tmp 21], argTypes := #[55] } ∧ o.dst = some 22 ∧ o.guard = none := ⟨_, by rw [hops]; rfl, rfl, rfl, rfl⟩
  obtain ⟨o7, po7, q7, d7, gd7⟩ : ∃ o, ops[7]? = some o ∧ o.op = .convert 3 62 (.tmp 22) ∧ o.dst = some 23 ∧ o.guard = none := ⟨_, by rw [hops]; rfl, rfl, rfl, rfl⟩
  obtain ⟨o8, po8, q8, d8, gd8⟩ : ∃ o, ops[8]? = some o ∧ o.op = .call { callee := .value (.func 26), args := #[.tmp 17, .tmp 23], argTypes := #[22, 62] } ∧ o.dst = some 24 ∧ o.guard = none := ⟨_, by rw [hops]; rfl, rfl, rfl, rfl⟩
  clear hops
  refine met_free po0 d0 (wanted_of gd0) (fun w' h' => run_move q0 base11 w') ?_
  refine met_free po1 d1 (wanted_of gd1) (fun w' h' => run_to8 q1 rfl (by omega) (eval_same _ _ _ (by rw [hsz]; decide)) w') ?_
  refine met_free po2 d2 (wanted_of gd2) (fun w' h' => run_move q2 ((eval_other _ 17 0 _ (by decide)).trans ((eval_other _ 16 0 _ (by decide)).trans base0)) w') ?_
  refine met_free po3 d3 (wanted_of gd3) (fun w' h' => run_nilCheck q3 (eval_same _ _ _ (by simp only [put_size, hsz]; decide)) w') ?_
  refine met_free po4 d4 (wanted_of gd4) (fun w' h' => run_fieldT (off := 1) q4 (fun _ => by kernel_rfl) (eval_same _ _ _ (by simp only [put_size, hsz]; decide)) w') ?_
  refine met_free po5 d5 (wanted_of gd5) (fun w' h' => run_loadRows q5 (eval_same _ _ _ (by simp only [put_size, hsz]; decide)) (by rw [cell_of_row w' b _ _ _ _ h']; rfl)) ?_
  refine met_free po6 d6 (wanted_of gd6) (fun w' h' => run_lenRows q6 (eval_same _ _ _ (by simp only [put_size, hsz]; decide)) w') ?_
  refine met_free po7 d7 (wanted_of gd7) (fun w' h' => run_toU64 q7 (eval_same _ _ _ (by simp only [put_size, hsz]; decide)) (by omega) w') ?_
  refine m_enter po8 d8 (wanted_of gd8) (run_callf2 q8 rfl ((eval_other _ 23 17 _ (by decide)).trans ((eval_other _ 22 17 _ (by decide)).trans ((eval_other _ 21 17 _ (by decide)).trans ((eval_other _ 20 17 _ (by decide)).trans ((eval_other _ 19 17 _ (by decide)).trans ((eval_other _ 18 17 _ (by decide)).trans (eval_same _ _ _ (by simp only [put_size, hsz]; decide)))))))) (eval_same _ _ _ (by simp only [put_size, hsz]; decide)) Try.func26 (by kernel_rfl) _) (putNumber_any R.length G M 5 (noughts M) w1.drew (by rw [noughts_length]; omega) (HG1.out.keep HBD1.out)) ?_
  rintro e w2 ⟨rfl, hg2, hs2⟩
  have HS12 : Hid (Stays (fun k => k = G) w1 w2) := show Stays _ _ _ from (Below.stays HBD1.out).trans (grown_stays (F := fun k => k = G) hs2 (fun k e => (Option.some.inj e).symm)) (fun _ h _ => h)
  have HS2 : Hid (Stays (fun k => k = G) w w2) := show Stays _ _ _ from Stays.trans (F := fun k => k = G) (G := fun k => k = G) (HSW1.out.more (fun _ h => h.elim)) HS12.out (fun _ h _ => h)
  have HG2 : Hid (BytesAt w2 G 5 (lenTo R.length 8 ++ noughts (M - 8))) := show BytesAt _ _ _ _ by rw [← noughts_drop8]; exact hg2
  clear hg2 hs2
  have HBK2 : Hid (BlkC b lv (.slice pr R.length cr) w2) := show BlkC _ _ _ _ from BlkC.on HBK1.out HS12.out (by omega)
  have HKW2 : Hid (KeyW w key nonce w2) := show KeyW _ _ _ _ from ⟨(HS12.out.block _ HKW1.out.1.size (by omega)).trans HKW1.out.1, (HS12.out.block _ HKW1.out.2.size (by omega)).trans HKW1.out.2⟩
  refine ⟨_, rfl, HBK2.out, ?_⟩
  show NoPanic _ .normal _ _
  refine NoPanic.normal ?_
  rw [HAA.out]
  go_frame
  clear HAA
  have HSRC2 : Hid (SliceIn D w2 lv (l.drop d)) := show SliceIn _ _ _ _ from HB.out.src.keep HS2.out (fun k hk hd => by have := HB.out.dom k hd; omega)
  have hGD : ¬ D G := fun hd => by have := HB.out.dom G hd; omega
  have hGb : G ≠ b := by omega
  have q8 : ¬ (M : Int) = 8 := by omega
  have q9 : ¬ M = 8 := by omega
  have q10 : (8 : Int) ≤ (M : Int) := by omega
  go_wp2_with fail
  refine (draw_any D b G 8 (M - 8) d (M - 8) l (lenTo R.length 8) 5 lv (.slice pr R.length cr) w2 HBK2.out HLL.out HSRC2.out ⟨HB.out.clear.1, hGD⟩ hGb HG2.out (lenTo_length R.length 8)).mono ?_
  rintro e w3 ⟨rfl, lv', hbk3, hg3, hsrc3, hs3⟩
  have hMm : M - 8 = 8 + m := by have := HMM.out; omega
  rw [hMm] at hg3 hsrc3
  have hbo : lenTo R.length 8 ++ drawn l d (8 + m) = boxOf l d R.length m := rfl
  rw [hbo] at hg3
  have HBL := Lib.hid (boxOf_length l d R.length m)
  obtain ⟨wr, hwr⟩ : ∃ wr, wr = w3.drew := ⟨_, rfl⟩
  have hbd3 : Below w3.heap.size w3 wr := by rw [hwr]; exact (Below.refl _ _).drew
  have HSb : Hid (Stays (fun k => k = b) w wr) := show Stays _ _ _ from by
    have h1 : Stays (fun k => k = G ∨ k = b) w w3 := Stays.trans (F := fun k => k = G ∨ k = b) (G := fun k => k = b ∨ k = G) (HS2.out.more (fun k hk => Or.inl hk)) hs3 (fun k hk _ => hk.symm)
    have h2 : Stays (fun k => k = G ∨ k = b) w wr := h1.trans (G := fun _ => False) (Below.stays hbd3) (fun _ h _ => h.elim)
    exact ⟨h2.os, h2.tape, h2.output, h2.size, fun k hk hn => h2.block k hk (fun f => f.elim (fun e => by omega) hn)⟩
  have HO1 : Hid (Own w0.heap.size wr (boxOf l d R.length m) (.slice (some ⟨G, 0, none⟩) M M)) := show Own _ _ _ _ from own_block (by omega) (hg3.keep hbd3) (by rw [HBL.out, HMM.out]) (by unfold maxLen; omega)
  have HBK3 : Hid (BlkC b lv' (.slice pr R.length cr) wr) := show BlkC _ _ _ _ from (hbd3.block _ (Array.getElem?_eq_some_iff.1 hbk3).1).trans hbk3
  have HSRC3 : Hid (SliceIn D wr lv' (l.drop (d + (8 + m)))) := show SliceIn _ _ _ _ from hsrc3.keep (F := fun _ => False) (Below.stays hbd3) (fun _ h => h.elim)
  have HKW3 : Hid (KeyW w key nonce wr) := show KeyW _ _ _ _ from by
    have h1 : ∀ k, k < w2.heap.size → k ≠ b → k ≠ G → wr.heap[k]? = w2.heap[k]? := fun k hk h1 h2 => (hbd3.block k (Nat.lt_of_lt_of_le hk hs3.size)).trans (hs3.block k hk (fun h => h.elim h1 h2))
    exact ⟨(h1 _ HKW2.out.1.size (by omega) (by omega)).trans HKW2.out.1, (h1 _ HKW2.out.2.size (by omega) (by omega)).trans HKW2.out.2⟩
  have z1 : w0.heap.size ≤ wr.heap.size := by have h1 := HSW1.out.size; have h2 := HB1.out.size; have h3 := HS12.out.size; have h4 := hs3.size; have h5 := hbd3.size; omega
  clear hbk3 hg3 hsrc3 hs3 hbd3 hbo HS12 HS2 HG2 HG1 HSW1 HBD1 HB1 HKW1 HBK1 HKW2 HBK2 HSRC2 HKW0 hMm
  generalize hu11 : Value.slice (some ⟨G, 0, none⟩) M M = u11 at HO1 ⊢
  have HV11 : Hid (u11 = .slice (some ⟨G, 0, none⟩) (boxOf l d R.length m).length M) := show _ = _ by rw [HBL.out, ← hu11, HMM.out]
  have hc11 : u11.cells = #[u11] := by rw [← hu11]; rfl
  have hone11 : u11.oneCell' = true := by rw [← hu11]; rfl
  have hbL : ∀ (off : Nat) (x : BitVec 8), w.cell? ⟨b, off, none⟩ ≠ some (.int .u8 (n8 x)) := fun off x e => by
    rw [cell_of_row w b off _ _ _ HB.out.block] at e
    obtain ⟨ql, cl, hlv, -⟩ := HB.out.src
    subst hlv
    rcases off with _ | _ | off <;> simp at e
  generalize hdM : d + (8 + m) = dM at HSRC3
  have HDM := Lib.hid hdM
  clear hdM hu11 q8 q9 q10
  go_upto_region 4 with (fail)
  refine region_phase (KeyW w key nonce) (BlkC b lv' (.slice pr R.length cr)) 17 ((by rw [← hwr]; exact HKW3.out)) (by rw [← hwr]; exact HBK3.out) [(0, .free), (1, .free), (2, .free), (3, .free), (4, .early), (5, .free), (6, .free), (7, .free), (9, .free), (11, .free), (8, .before), (10, .before), (12, .free), (13, .before), (14, .before), (15, .free), (16, .free), (17, .behind)] (by kernel_rfl) (by kernel_rfl) (by kernel_rfl) (by kernel_rfl) (fun ops hops A hA => ?_)
  have hsz : A.tmps.size = 48 := by rw [hA]; rfl
  have base0 : A.eval (.tmp 0) = .pointer (some ⟨b, 0, none⟩) := by rw [hA]; rfl
  have base3 : A.eval (.tmp 3) = .slice p n cp := by rw [hA]; rfl
  have base4 : A.eval (.tmp 4) = .slice q m cq := by rw [hA]; rfl
  have base6 : A.eval (.tmp 6) = .pointer (some ⟨w.heap.size, 0, none⟩) := by rw [hA]; rfl
  have base7 : A.eval (.tmp 7) = .pointer (some ⟨w.heap.size + 1, 0, none⟩) := by rw [hA]; rfl
  have base11 : A.eval (.tmp 11) = u11 := by rw [hA]; rfl
  have HAA := Lib.hid hA; clear hA
  obtain ⟨o0, po0, q0, d0, gd0⟩ : ∃ o, ops[0]? = some o ∧ o.op = .move (.tmp 0) ∧ o.dst = some 29 ∧ o.guard = none := ⟨_, by rw [hops]; rfl, rfl, rfl, rfl⟩
  obtain ⟨o1, po1, q1, d1, gd1⟩ : ∃ o, ops[1]? = some o ∧ o.op = .move (.tmp 0) ∧ o.dst = some 30 ∧ o.guard = none := ⟨_, by rw [hops]; rfl, rfl, rfl, rfl⟩
  obtain ⟨o2, po2, q2, d2, gd2⟩ : ∃ o, ops[2]? = some o ∧ o.op = .nilCheck (.tmp 30) ∧ o.dst = some 31 ∧ o.guard = none := ⟨_, by rw [hops]; rfl, rfl, rfl, rfl⟩
  obtain ⟨o3, po3, q3, d3, gd3⟩ : ∃ o, ops[3]? = some o ∧ o.op = .fieldAddr 57 (.tmp 31) 1 ∧ o.dst = some 32 ∧ o.guard = none := ⟨_, by rw [hops]; rfl, rfl, rfl, rfl⟩
  obtain ⟨o4, po4, q4, d4, gd4⟩ : ∃ o, ops[4]? = some o ∧ o.op = .load 55 (.tmp 32) ∧ o.dst = some 33 ∧ o.guard = none := ⟨_, by rw [hops]; rfl, rfl, rfl, rfl⟩
  obtain ⟨o5, po5, q5, d5, gd5⟩ : ∃ o, ops[5]? = some o ∧ o.op = .load 38 (.tmp 6) ∧ o.dst = some 34 ∧ o.guard = none := ⟨_, by rw [hops]; rfl, rfl, rfl, rfl⟩
  obtain ⟨o6, po6, q6, d6, gd6⟩ : ∃ o, ops[6]? = some o ∧ o.op = .load 40 (.tmp 7) ∧ o.dst = some 35 ∧ o.guard = none := ⟨_, by rw [hops]; rfl, rfl, rfl, rfl⟩
  obtain ⟨o7, po7, q7, d7, gd7⟩ : ∃ o, ops[7]? = some o ∧ o.op = .move (.tmp 3) ∧ o.dst = some 36 ∧ o.guard = none := ⟨_, by rw [hops]; rfl, rfl, rfl, rfl⟩
  obtain ⟨o8, po8, q8, d8, gd8⟩ : ∃ o, ops[8]? = some o ∧ o.op = .call { callee := .value (.func 25), args := #[.tmp 36], argTypes := #[22] } ∧ o.dst = some 37 ∧ o.guard = none := ⟨_, by rw [hops]; rfl, rfl, rfl, rfl⟩
  obtain ⟨o9, po9, q9, d9, gd9⟩ : ∃ o, ops[9]? = some o ∧ o.op = .move (.tmp 4) ∧ o.dst = some 38 ∧ o.guard = none := ⟨_, by rw [hops]; rfl, rfl, rfl, rfl⟩
  obtain ⟨o10, po10, q10, d10, gd10⟩ : ∃ o, ops[10]? = some o ∧ o.op = .call { callee := .value (.func 25), args := #[.tmp 38], argTypes := #[22] } ∧ o.dst = some 39 ∧ o.guard = none := ⟨_, by rw [hops]; rfl, rfl, rfl, rfl⟩
  obtain ⟨o11, po11, q11, d11, gd11⟩ : ∃ o, ops[11]? = some o ∧ o.op = .move (.tmp 11) ∧ o.dst = some 40 ∧ o.guard = none := ⟨_, by rw [hops]; rfl, rfl, rfl, rfl⟩
  obtain ⟨o12, po12, q12, d12, gd12⟩ : ∃ o, ops[12]? = some o ∧ o.op = .build 64 #[(0, (.tmp 34)), (1, (.tmp 35)), (2, (.tmp 37)), (3, (.tmp 39)), (4, (.tmp 40))] ∧ o.dst = some 41 ∧ o.guard = none := ⟨_, by rw [hops]; rfl, rfl, rfl, rfl⟩
  obtain ⟨o13, po13, q13, d13, gd13⟩ : ∃ o, ops[13]? = some o ∧ o.op = .buildSlice 55 1 #[(0, (.tmp 41))] ∧ o.dst = some 42 ∧ o.guard = none := ⟨_, by rw [hops]; rfl, rfl, rfl, rfl⟩
  obtain ⟨o14, po14, q14, d14, gd14⟩ : ∃ o, ops[14]? = some o ∧ o.op = .call { callee := .builtin .append, args := #[.tmp 33, .tmp 42], argTypes := #[55, 55] } ∧ o.dst = some 43 ∧ o.guard = none := ⟨_, by rw [hops]; rfl, rfl, rfl, rfl⟩
  obtain ⟨o15, po15, q15, d15, gd15⟩ : ∃ o, ops[15]? = some o ∧ o.op = .nilCheck (.tmp 29) ∧ o.dst = some 44 ∧ o.guard = none := ⟨_, by rw [hops]; rfl, rfl, rfl, rfl⟩
  obtain ⟨o16, po16, q16, d16, gd16⟩ : ∃ o, ops[16]? = some o ∧ o.op = .fieldAddr 57 (.tmp 44) 1 ∧ o.dst = some 45 ∧ o.guard = none := ⟨_, by rw [hops]; rfl, rfl, rfl, rfl⟩
  obtain ⟨o17, po17, q17, d17, gd17⟩ : ∃ o, ops[17]? = some o ∧ o.op = .store 55 (.tmp 45) (.tmp 43) ∧ o.dst = none ∧ o.guard = none := ⟨_, by rw [hops]; rfl, rfl, rfl, rfl⟩
  clear hops
  rw [← hwr]
  refine met_free po0 d0 (wanted_of gd0) (fun w' h' => run_move q0 base0 w') ?_
  refine met_free po1 d1 (wanted_of gd1) (fun w' h' => run_move q1 ((eval_other _ 29 0 _ (by decide)).trans base0) w') ?_
  refine met_free po2 d2 (wanted_of gd2) (fun w' h' => run_nilCheck q2 (eval_same _ _ _ (by simp only [put_size, hsz]; decide)) w') ?_
  refine met_free po3 d3 (wanted_of gd3) (fun w' h' => run_fieldT (off := 1) q3 (fun _ => by kernel_rfl) (eval_same _ _ _ (by simp only [put_size, hsz]; decide)) w') ?_
  refine met_early po4 d4 (wanted_of gd4) (fun w' h' hE' => run_loadRows q4 (eval_same _ _ _ (by simp only [put_size, hsz]; decide)) (by rw [cell_of_row w' b _ _ _ _ hE']; rfl)) ?_
  refine met_free po5 d5 (wanted_of gd5) (fun w' h' => run_loadKeyB q5 ((eval_other _ 33 6 _ (by decide)).trans ((eval_other _ 32 6 _ (by decide)).trans ((eval_other _ 31 6 _ (by decide)).trans ((eval_other _ 30 6 _ (by decide)).trans ((eval_other _ 29 6 _ (by decide)).trans base6))))) HKL.out h'.1) ?_
  refine met_free po6 d6 (wanted_of gd6) (fun w' h' => run_loadNonceB q6 ((eval_other _ 34 7 _ (by decide)).trans ((eval_other _ 33 7 _ (by decide)).trans ((eval_other _ 32 7 _ (by decide)).trans ((eval_other _ 31 7 _ (by decide)).trans ((eval_other _ 30 7 _ (by decide)).trans ((eval_other _ 29 7 _ (by decide)).trans base7)))))) HNL.out h'.2) ?_
  refine met_free po7 d7 (wanted_of gd7) (fun w' h' => run_move q7 ((eval_other _ 35 3 _ (by decide)).trans ((eval_other _ 34 3 _ (by decide)).trans ((eval_other _ 33 3 _ (by decide)).trans ((eval_other _ 32 3 _ (by decide)).trans ((eval_other _ 31 3 _ (by decide)).trans ((eval_other _ 30 3 _ (by decide)).trans ((eval_other _ 29 3 _ (by decide)).trans base3))))))) w') ?_
  refine met_free po9 d9 (wanted_of gd9) (fun w' h' => run_move q9 ((eval_other _ 36 4 _ (by decide)).trans ((eval_other _ 35 4 _ (by decide)).trans ((eval_other _ 34 4 _ (by decide)).trans ((eval_other _ 33 4 _ (by decide)).trans ((eval_other _ 32 4 _ (by decide)).trans ((eval_other _ 31 4 _ (by decide)).trans ((eval_other _ 30 4 _ (by decide)).trans ((eval_other _ 29 4 _ (by decide)).trans base4)))))))) w') ?_
  refine met_free po11 d11 (wanted_of gd11) (fun w' h' => run_move q11 ((eval_other _ 38 11 _ (by decide)).trans ((eval_other _ 36 11 _ (by decide)).trans ((eval_other _ 35 11 _ (by decide)).trans ((eval_other _ 34 11 _ (by decide)).trans ((eval_other _ 33 11 _ (by decide)).trans ((eval_other _ 32 11 _ (by decide)).trans ((eval_other _ 31 11 _ (by decide)).trans ((eval_other _ 30 11 _ (by decide)).trans ((eval_other _ 29 11 _ (by decide)).trans base11))))))))) w') ?_
  refine mb_enter po8 d8 (wanted_of gd8) (run_callf1 q8 rfl ((eval_other _ 40 36 _ (by decide)).trans ((eval_other _ 38 36 _ (by decide)).trans (eval_same _ _ _ (by simp only [put_size, hsz]; decide)))) Try.func25 (by kernel_rfl) _) (clone_any head n p cp _ HHN.out (by omega) (HP.out.stay HSb.out hbL)) ?_
  rintro e w5 ⟨vh, rfl, ho5, hb5⟩
  obtain ⟨ph, ch, hvh, -, -, -⟩ := ho5.lies
  have HO5 := Lib.hid ho5; clear ho5
  have HB5 : Hid (Below wr.heap.size wr w5) := show Below _ _ _ from hb5
  have HK5 : Hid (KeyW w key nonce w5) := show KeyW _ _ _ _ from KeyW.on (F := fun _ => False) HKW3.out (Below.stays hb5) (fun _ h => h.elim)
  have HBK5 : Hid (BlkC b lv' (.slice pr R.length cr) w5) := show BlkC _ _ _ _ from BlkC.on (F := fun _ => False) HBK3.out (Below.stays hb5) (fun h => h.elim)
  clear hb5
  refine ⟨_, rfl, ⟨HK5.out, HBK5.out⟩, ?_⟩
  refine mb_enter po10 d10 (wanted_of gd10) (run_callf1 q10 rfl ((eval_other _ 37 38 _ (by decide)).trans ((eval_other _ 40 38 _ (by decide)).trans (eval_same _ _ _ (by simp only [put_size, hsz]; decide)))) Try.func25 (by kernel_rfl) _) (clone_any plain m q cq w5 HCM.out (by omega) (HC.out.stay (HSb.out.trans (Below.stays HB5.out) (fun _ h _ => h)) hbL)) ?_
  rintro e w6 ⟨vp, rfl, ho6, hb6⟩
  obtain ⟨pp, cpp, hvp, -, -, -⟩ := ho6.lies
  have HO6 := Lib.hid ho6; clear ho6
  have HB6 := Lib.hid hb6
  have HK6 : Hid (KeyW w key nonce w6) := show KeyW _ _ _ _ from KeyW.on (F := fun _ => False) HK5.out (Below.stays hb6) (fun _ h => h.elim)
  have HBK6 : Hid (BlkC b lv' (.slice pr R.length cr) w6) := show BlkC _ _ _ _ from BlkC.on (F := fun _ => False) HBK5.out (Below.stays hb6) (fun h => h.elim)
  clear hb6
  refine ⟨_, rfl, ⟨HK6.out, HBK6.out⟩, ?_⟩
  obtain ⟨rw', hrw⟩ : ∃ r : RowM, r = ⟨key, nonce, head, plain, boxOf l d R.length m, vh, vp, u11⟩ := ⟨_, rfl⟩
  refine met_free po12 d12 (wanted_of gd12) (fun w' h' => codeRowT.run_build rw' q12 (by rw [hrw]; exact HKL.out) (by rw [hrw]; exact HNL.out) (by rw [hrw]; exact ((eval_other _ 39 34 _ (by decide)).trans ((eval_other _ 37 34 _ (by decide)).trans ((eval_other _ 40 34 _ (by decide)).trans ((eval_other _ 38 34 _ (by decide)).trans ((eval_other _ 36 34 _ (by decide)).trans ((eval_other _ 35 34 _ (by decide)).trans (eval_same _ _ _ (by simp only [put_size, hsz]; decide))))))))) (by rw [hrw]; exact ((eval_other _ 39 35 _ (by decide)).trans ((eval_other _ 37 35 _ (by decide)).trans ((eval_other _ 40 35 _ (by decide)).trans ((eval_other _ 38 35 _ (by decide)).trans ((eval_other _ 36 35 _ (by decide)).trans (eval_same _ _ _ (by simp only [put_size, hsz]; decide)))))))) (by rw [hrw]; exact ((eval_other _ 39 37 _ (by decide)).trans (eval_same _ _ _ (by simp only [put_size, hsz]; decide)))) (by rw [hrw]; exact (eval_same _ _ _ (by simp only [put_size, hsz]; decide))) (by rw [hrw]; exact ((eval_other _ 39 40 _ (by decide)).trans ((eval_other _ 37 40 _ (by decide)).trans (eval_same _ _ _ (by simp only [put_size, hsz]; decide))))) (by rw [hrw]; show vh.cells = #[vh]; rw [hvh]; rfl) (by rw [hrw]; show vp.cells = #[vp]; rw [hvp]; rfl) (by rw [hrw]; exact hc11) w') ?_
  have hcs : rw'.cells.toArray.size = 47 := by rw [List.size_toArray]; exact RowM.cells_length (by rw [hrw]; exact HKL.out) (by rw [hrw]; exact HNL.out)
  have hones := RowM.ones (r := rw') (by rw [hrw]; show vh.oneCell' = true; rw [hvh]; rfl) (by rw [hrw]; show vp.oneCell' = true; rw [hvp]; rfl) (by rw [hrw]; exact hone11)
  refine mb_value po13 d13 (wanted_of gd13) (codeRowT.run_one q13 (eval_same _ _ _ (by simp only [put_size, hsz]; decide)) hcs w6) ?_
  have HB7 : Hid (Below w6.heap.size w6 (w6.alloc (.cells rw'.cells.toArray 64))) := show Below _ _ _ from (Below.refl _ _).alloc (Nat.le_refl _) _
  have HC7 : Hid ((w6.alloc (.cells rw'.cells.toArray 64)).heap[w6.heap.size]? = some (.cells rw'.cells.toArray 64 (0, 0))) := show _ = _ from heap_new_at rfl
  have hz7 : w6.heap.size < (w6.alloc (.cells rw'.cells.toArray 64)).heap.size := by rw [size_alloc]; omega
  generalize w6.alloc (.cells rw'.cells.toArray 64) = w7 at HB7 HC7 hz7 ⊢
  have HK7 : Hid (KeyW w key nonce w7) := show KeyW _ _ _ _ from KeyW.on (F := fun _ => False) HK6.out (Below.stays HB7.out) (fun _ h => h.elim)
  have HBK7 : Hid (BlkC b lv' (.slice pr R.length cr) w7) := show BlkC _ _ _ _ from BlkC.on (F := fun _ => False) HBK6.out (Below.stays HB7.out) (fun h => h.elim)
  refine ⟨⟨HK7.out, HBK7.out⟩, ?_⟩
  have HS7 : Hid (Stays (fun k => k = b) w w7) := show Stays _ _ _ from ((HSb.out.trans (Below.stays HB5.out) (fun _ h _ => h)).trans (Below.stays HB6.out) (fun _ h _ => h)).trans (F := fun k => k = b) (G := fun k => k = b) (Below.stays HB7.out) (fun _ h _ => h)
  have HR7 := Lib.hid (ownsRow_stays HB.out.rows HS7.out (fun k hk e => HB.out.apart (by rw [hk, e])))
  refine codeRowT.mb_append po14 d14 (wanted_of gd14) q14 ((eval_other _ 42 33 _ (by decide)).trans ((eval_other _ 41 33 _ (by decide)).trans ((eval_other _ 39 33 _ (by decide)).trans ((eval_other _ 37 33 _ (by decide)).trans ((eval_other _ 40 33 _ (by decide)).trans ((eval_other _ 38 33 _ (by decide)).trans ((eval_other _ 36 33 _ (by decide)).trans ((eval_other _ 35 33 _ (by decide)).trans ((eval_other _ 34 33 _ (by decide)).trans (eval_same _ _ _ (by simp only [put_size, hsz]; decide))))))))))) HR7.out (eval_same _ _ _ (by simp only [put_size, hsz]; decide)) HC7.out hcs hones (by omega) (Nat.zero_le _) ?_
  intro p8 c8 w8 hrow8 hg8 hat8
  have HG8 : Hid (Stays (fun k => Value.ownBlock (.slice pr R.length cr) = some k) w7 w8) := show Stays _ _ _ from grown_stays hg8 (fun k e => e)
  clear hg8
  have HROW8 := Lib.hid hrow8; clear hrow8
  have HAT8 := Lib.hid hat8; clear hat8
  have HK8 : Hid (KeyW w key nonce w8) := show KeyW _ _ _ _ from KeyW.on HK7.out HG8.out (fun k hk => (World.ownsRow.lt HB.out.rows k hk).2)
  have HBK8 : Hid (BlkC b lv' (.slice pr R.length cr) w8) := show BlkC _ _ _ _ from BlkC.on HBK7.out HG8.out (fun h => HB.out.apart h)
  refine ⟨⟨HK8.out, HBK8.out⟩, ?_⟩
  refine met_free po15 d15 (wanted_of gd15) (fun w' h' => run_nilCheck q15 ((eval_other _ 43 29 _ (by decide)).trans ((eval_other _ 42 29 _ (by decide)).trans ((eval_other _ 41 29 _ (by decide)).trans ((eval_other _ 39 29 _ (by decide)).trans ((eval_other _ 37 29 _ (by decide)).trans ((eval_other _ 40 29 _ (by decide)).trans ((eval_other _ 38 29 _ (by decide)).trans ((eval_other _ 36 29 _ (by decide)).trans ((eval_other _ 35 29 _ (by decide)).trans ((eval_other _ 34 29 _ (by decide)).trans ((eval_other _ 33 29 _ (by decide)).trans ((eval_other _ 32 29 _ (by decide)).trans ((eval_other _ 31 29 _ (by decide)).trans ((eval_other _ 30 29 _ (by decide)).trans (eval_same _ _ _ (by rw [hsz]; decide)))))))))))))))) w') ?_
  refine met_free po16 d16 (wanted_of gd16) (fun w' h' => run_fieldT (off := 1) q16 (fun _ => by kernel_rfl) (eval_same _ _ _ (by simp only [put_size, hsz]; decide)) w') ?_
  refine met_skip po17 d17 (wanted_of gd17) (run_storeRows q17 (eval_same _ _ _ (by simp only [put_size, hsz]; decide)) ((eval_other _ 45 43 _ (by decide)).trans ((eval_other _ 44 43 _ (by decide)).trans (eval_same _ _ _ (by simp only [put_size, hsz]; decide)))) (by rw [cell_of_row w8 b _ _ _ _ HBK8.out]; rfl) (frozen_of_row _ _ _ _ _ HBK8.out)) (KeyW.on HK8.out (grown_stays (F := fun k => k = b) (grown_setCell _ _ _ _) (fun k e => (Option.some.inj e).symm)) (fun k hk => by omega)) ?_
  show NoPanic _ .normal _ _
  refine NoPanic.normal ?_
  rw [HAA.out]
  go_frame
  clear HAA
  have HBK9 : Hid (BlkC b lv' (.slice p8 (R.length + 1) c8) (w8.setCell ⟨b, 1, none⟩ (.slice p8 (R.length + 1) c8))) := show BlkC _ _ _ _ from (heap_setCell_same _ _ _ _ _ _ HBK8.out).trans (by rfl)
  have HG9 : Hid (Stays (fun k => k = b) w8 (w8.setCell ⟨b, 1, none⟩ (.slice p8 (R.length + 1) c8))) := show Stays _ _ _ from grown_stays (grown_setCell _ _ _ _) (fun k e => (Option.some.inj e).symm)
  generalize w8.setCell ⟨b, 1, none⟩ (.slice p8 (R.length + 1) c8) = w9 at HBK9 HG9 ⊢
  clear HBK5 HBK6 HBK7 HBK8 HK5 HK6 HK7 HK8
  have hrvlt : ∀ k, Value.ownBlock (.slice pr R.length cr) = some k → k < w.heap.size := fun k hk => (World.ownsRow.lt HB.out.rows k hk).2
  have hmut : ∀ k, Mut b (.slice pr R.length cr) k → k < w.heap.size := fun k hk => hk.elim (fun e => by omega) (hrvlt k)
  have s79 : Stays (Mut b (.slice pr R.length cr)) w7 w9 := (HG8.out.more (fun k hk => Or.inr hk)).trans HG9.out (fun k hk _ => Or.inl hk)
  have s69 : Stays (Mut b (.slice pr R.length cr)) w6 w9 := (Below.stays HB7.out).trans s79 (fun k hk _ => hk)
  have s59 : Stays (Mut b (.slice pr R.length cr)) w5 w9 := (Below.stays HB6.out).trans s69 (fun k hk _ => hk)
  have s19 : Stays (Mut b (.slice pr R.length cr)) wr w9 := (Below.stays HB5.out).trans s59 (fun k hk _ => hk)
  have s09 : Stays (Mut b (.slice pr R.length cr)) w w9 := (HSb.out.more (fun k hk => Or.inl hk)).trans s19 (fun k hk _ => hk)
  have z5 : wr.heap.size ≤ w5.heap.size := HB5.out.size
  have z6 : w5.heap.size ≤ w6.heap.size := HB6.out.size
  have z9 : w7.heap.size ≤ w9.heap.size := s79.size
  have HOU : Hid (Own w0.heap.size w9 (boxOf l d R.length m) u11) := show Own _ _ _ _ from ownsRow_stays HO1.out s19 (fun k hk f => by have h1 := (World.ownsRow.lt HO1.out k hk).1; have h2 := hmut k f; omega)
  have HOH : Hid (Own wr.heap.size w9 head vh) := show Own _ _ _ _ from ownsRow_stays HO5.out s59 (fun k hk f => by have h1 := (World.ownsRow.lt HO5.out k hk).1; have h2 := hmut k f; omega)
  have HOP : Hid (Own w5.heap.size w9 plain vp) := show Own _ _ _ _ from ownsRow_stays HO6.out s69 (fun k hk f => by have h1 := (World.ownsRow.lt HO6.out k hk).1; have h2 := hmut k f; omega)
  have HKU : Hid (∀ k, u11.ownBlock = some k → w0.heap.size ≤ k ∧ k < wr.heap.size) := show ∀ k, _ from fun k hk => World.ownsRow.lt HO1.out k hk
  have HKH : Hid (∀ k, vh.ownBlock = some k → wr.heap.size ≤ k ∧ k < w5.heap.size) := show ∀ k, _ from fun k hk => World.ownsRow.lt HO5.out k hk
  have HKP : Hid (∀ k, vp.ownBlock = some k → w5.heap.size ≤ k ∧ k < w6.heap.size) := show ∀ k, _ from fun k hk => World.ownsRow.lt HO6.out k hk
  have HS9 := Lib.hid s09
  have HS19 := Lib.hid s19
  have HLU : Hid (Lies w9 (some ⟨G, 0, none⟩) (boxOf l d R.length m)) := show Lies _ _ _ by
    have h := HOU.out
    rw [HV11.out] at h
    obtain ⟨p', c', e, -, -, hl⟩ := Own.lies h
    cases e
    exact hl
  have z7 : w6.heap.size < w7.heap.size := hz7
  clear s79 s69 s59 s19 s09 HO1 HO5 HO6 HG8 HB5 HB6 HB7 HSb HS7 hbL
  go_wp2_with fail
  rw [HV11.out]
  refine (clone_any (boxOf l d R.length m) _ (some ⟨G, 0, none⟩) M w9 rfl (by rw [HBL.out]; omega) HLU.out).mono ?_
  rintro e w10 ⟨v10, rfl, ho10, hb10⟩
  have HOV := Lib.hid ho10; clear ho10
  have HBV := Lib.hid hb10; clear hb10
  have zw : w.heap.size ≤ w9.heap.size := HS9.out.size
  go_wp2_with fail
  go_ret
  have s010 : Stays (Mut b (.slice pr R.length cr)) w w10 := HS9.out.trans (Below.stays HBV.out) (fun k hk _ => hk)
  have s310 : Stays (Mut b (.slice pr R.length cr)) wr w10 := HS19.out.trans (Below.stays HBV.out) (fun k hk _ => hk)
  have h910 : Stays (fun _ => False) w9 w10 := Below.stays HBV.out
  have hD : ∀ k, Mut b (.slice pr R.length cr) k → ¬ D k := fun k hk => hk.elim (fun e => by rw [e]; exact HB.out.clear.1) (HB.out.clear.2 k)
  have hv8 : ∀ k, Value.ownBlock (.slice p8 (R.length + 1) c8) = some k → Value.ownBlock (.slice pr R.length cr) = some k ∨ k = w7.heap.size := fun k hk => HAT8.out.elim (fun e => Or.inl (e ▸ hk)) (fun e => Or.inr (Option.some.inj (hk.symm.trans e)))
  have hfresh : ∀ k, (u11.ownBlock = some k ∨ vh.ownBlock = some k ∨ vp.ownBlock = some k) → w0.heap.size ≤ k ∧ k < w6.heap.size := fun k hk => by
    rcases hk with h | h | h
    · have := HKU.out k h; omega
    · have := HKH.out k h; omega
    · have := HKP.out k h; omega
  have hz10 : w9.heap.size ≤ w10.heap.size := HBV.out.size
  have hclear : ∀ k, k = b ∨ Value.ownBlock (.slice p8 (R.length + 1) c8) = some k → ¬ (D k ∨ u11.ownBlock = some k ∨ vh.ownBlock = some k ∨ vp.ownBlock = some k) := fun k hk hd => by
    rcases hk with rfl | hk
    · rcases hd with h | h
      · exact HB.out.clear.1 h
      · have := hfresh k h; omega
    · rcases hv8 k hk with h1 | h1
      · rcases hd with h | h
        · exact HB.out.clear.2 k h1 h
        · have := hfresh k h; have := hrvlt k h1; omega
      · rcases hd with h | h
        · have := HB.out.dom k h; omega
        · have := hfresh k h; omega
  refine ⟨v10, rw', fun k => D k ∨ u11.ownBlock = some k ∨ vh.ownBlock = some k ∨ vp.ownBlock = some k, lv', .slice p8 (R.length + 1) c8, rfl, ⟨by rw [hrw], by rw [hrw], by rw [hrw], by rw [hrw], by rw [hrw]⟩, ⟨?_, ?_, ?_, ?_, ?_, ⟨hclear b (Or.inl rfl), fun k hk => hclear k (Or.inr hk)⟩, ?_, ?_⟩, ?_, ?_, ?_, ?_, s010⟩
  · exact HBK9.out.on h910 (fun h => h)
  · rw [HDM.out]
    exact (HSRC3.out.keep (s310) hD).more (fun k hk _ => Or.inl hk)
  · have h := ownsRow_stays (ownsRow_stays HROW8.out HG9.out (fun k hk e => by
      rcases hv8 k hk with h1 | h1
      · exact HB.out.apart (e ▸ h1)
      · omega)) h910 (fun _ _ h => h)
    rw [List.length_append, rowsCells_append]
    simpa using h
  · intro r hr
    rcases List.mem_append.1 hr with hr | hr
    · exact ((HB.out.each r hr).keep s010 hD).more (fun k hk _ => Or.inl hk)
    · have hrr := List.mem_singleton.1 hr
      subst hrr
      rw [hrw]
      exact ⟨HKL.out, HNL.out, (HOH.out.sliceIn (fun k hk => Or.inr (Or.inr (Or.inl hk)))).keep h910 (fun _ h => h.elim), (HOP.out.sliceIn (fun k hk => Or.inr (Or.inr (Or.inr hk)))).keep h910 (fun _ h => h.elim), (HOU.out.sliceIn (fun k hk => Or.inr (Or.inl hk))).keep h910 (fun _ h => h.elim)⟩
  · intro e
    rcases hv8 b e with h1 | h1
    · exact HB.out.apart h1
    · omega
  · intro k hk
    rcases hk with h | h
    · have := HB.out.dom k h; omega
    · have := hfresh k h; omega
  · intro i hi
    rw [List.length_append, List.length_singleton] at hi
    by_cases h : i < R.length
    · rw [List.getElem_append_left h]; exact HB.out.nums i h
    · obtain rfl : i = R.length := by omega
      rw [List.getElem_append_right (Nat.le_refl _)]
      simp only [Nat.sub_self, List.getElem_singleton]
      rw [hrw]
      exact numAt_boxOf l d R.length m (by omega)
  · intro k hk
    rcases hk with h | h
    · exact Or.inl h
    · have := hfresh k h; exact Or.inr (by omega)
  · intro k hk
    rcases hv8 k hk with h1 | h1
    · exact Or.inl h1
    · exact Or.inr (by omega)
  · exact ⟨HOV.out.1, HOV.out.2.imp id (fun ⟨g, cap, cur, a, hb, r⟩ => ⟨g, cap, cur, a, Nat.le_trans zw hb, r⟩)⟩
  · intro k hk
    have hk2 := (World.ownsRow.lt HOV.out k hk).1
    refine ⟨fun h => ?_, fun h => ?_⟩
    · rcases h with h | h
      · have := HB.out.dom k h; omega
      · have := hfresh k h; omega
    · rcases h with h | h
      · omega
      · rcases hv8 k h with h1 | h1
        · have := hrvlt k h1; omega
        · have h2 := (World.ownsRow.lt HROW8.out k h).2
          have h3 := HG9.out.size
          omega
end Go.Proofs.Ytacgkfngpeieaaa

/-
  The program's rowOf: the row whose number sealed bytes begin with.
-/
namespace Go.Proofs.Ytacgkfngpeieaaa
open Go.RowKit Go.Proofs.ShaWords
/-- The row whose number bytes begin with; are its sealed bytes these? -/
def rowNo (R : List RowM) (sealed : List (BitVec 8)) : Option RowM := if 8 ≤ sealed.length then R[numOf (sealed.take 8)]? else none
def rowHit (R : List RowM) (sealed : List (BitVec 8)) : Bool := match rowNo R sealed with | some r => decide (r.sealed = sealed) | none => false
/-- A row by itself in a block. -/
def RowC (w : World) (T : Nat) (C : Array Value) : Prop := w.heap[T]? = some (.cells C 64 (0, 0))
theorem RowC.on {w w' : World} {T : Nat} {C : Array Value} (h : RowC w T C) (hb : Below w.heap.size w w') : RowC w' T C := (hb.block _ (Array.getElem?_eq_some_iff.1 h).1).trans h
theorem sizeRow : (Try.prog.info? 64).map (·.size) = some 47 := by kernel_rfl
/-- The row that is none. -/
def zeroRow : Array Value := (bytesV (noughts 44) ++ [Value.slice none 0 0, Value.slice none 0 0, Value.slice none 0 0]).toArray
theorem zeroRow_size : zeroRow.size = 47 := by kernel_rfl
theorem zeroRow_ones : zeroRow.all (·.oneCell') = true := by kernel_rfl
theorem zeroRow_built : Try.prog.built 64 [] = some zeroRow := by kernel_rfl
theorem size_of47 {C : Array Value} (h : C.size = 47) : (Try.prog.info? 64).map (·.size) = some C.size := by rw [h]; exact sizeRow
theorem results_row {tmps : Array Value} {w : World} {T : Nat} {C : Array Value} {x : Value} (hp : tmps.getD 4 undef = .pointer (some ⟨T, 0, none⟩)) (hx : tmps.getD 5 undef = x) (hC : RowC w T C) (hs : C.size = 47) :
    (results Try.f29 tmps).run Try.prog w = .ok (.tuple #[.agg C, x]) w := by
  rw [results_cell_tmp Try.results29, hp, hx]
  have h := run_loadVar_row (P := Try.prog) w T 64 64 C (0, 0) _ hC Try.underlying64 rfl (size_of47 hs)
  simp only [asAddr, Sem.run_pure, Result.andThen_ok, h]
theorem rowNo_some {R : List RowM} {sealed : List (BitVec 8)} (h8 : 8 ≤ sealed.length) (h : numOf (sealed.take 8) < R.length) : rowNo R sealed = some R[numOf (sealed.take 8)] := by
  unfold rowNo; rw [if_pos h8, List.getElem?_eq_getElem h]
theorem rowNo_none {R : List RowM} {sealed : List (BitVec 8)} (h : ¬ numOf (sealed.take 8) < R.length) : rowNo R sealed = none := by
  unfold rowNo; rw [List.getElem?_eq_none (by omega)]; split <;> rfl
theorem m_store_row {P : Program} {ops : Array Oper} {Q : Exit → Act → World → Prop} {S E : World → Prop} {r : List (Nat × Met)} {i : Nat} {o : Oper} {d : Option Tmp} {a : Act} {w : World} (ho : ops[i]? = some o) (hd : o.dst = d) (hw : Region.wanted o (yielded ops a.tmps) = true) {ty : TypeId} {x y : Operand} (q : o.op = .store ty x y)
    {g : Nat} {cells : Array Value} (hx : a.eval x = .pointer (some ⟨g, 0, none⟩)) (hy : a.eval y = .agg cells) {t : TypeId} {old : Array Value} (hg : w.heap[g]? = some (.cells old t (0, 0))) (hi : (P.info? ty).map (·.size) = some cells.size)
    (hold : old.size = cells.size) (h1 : cells.all (·.oneCell') = true) (hS : S (w.setRow g cells)) (h : wpE P ops Q S E r (a.put d undef) (w.setRow g cells)) : wpE P ops Q S E ((i, .behind) :: r) a w := by
  refine m_behind ho hw ?_
  exact wp_store_row ty x y q g cells hx hy t old hg hi hold h1 ⟨hS, by rw [hd]; exact h⟩
theorem run_loadRowC {ρ : Operand → Value} {o : Oper} {x : Operand} {w : World} {T : Nat} {C : Array Value} (ho : o.op = .load 64 x) (hx : ρ x = .pointer (some ⟨T, 0, none⟩)) (hC : RowC w T C) (hs : C.size = 47) :
    (execOp ρ o).run Try.prog w = .ok (.value (.agg C)) w := by
  have h := run_loadAt_mid (P := Try.prog) w T 0 64 C.toList _ (fun j v hv => by rw [Nat.zero_add, cell_of_row w T j _ _ _ hC]; simpa using hv) Try.underlying64 rfl (by rw [Array.length_toList]; exact size_of47 hs)
  rw [Array.toArray_toList] at h
  unfold execOp
  simp only [ho, hx, Sem.run_bind, h, Result.andThen_ok, Sem.run_pure]
theorem run_loadSlC {ρ : Operand → Value} {o : Oper} {x : Operand} {w : World} {a : Addr} {p : Option Addr} {n c : Nat} (ho : o.op = .load 22 x) (hx : ρ x = .pointer (some a)) (hc : w.cell? a = some (.slice p n c)) : (execOp ρ o).run Try.prog w = .ok (.value (.slice p n c)) w := by
  obtain ⟨dst, op, ty', pos, after, guard⟩ := o
  simp only at ho
  subst ho
  go_simp
theorem RowC.slices {w : World} {T : Nat} {r : RowM} (h : RowC w T r.cells.toArray) (hk : r.key.length = 32) (hn : r.nonce.length = 12) : w.cell? ⟨T, 44, none⟩ = some r.hv ∧ w.cell? ⟨T, 45, none⟩ = some r.pv ∧ w.cell? ⟨T, 46, none⟩ = some r.sv := by
  have hc : ∀ j, w.cell? ⟨T, j, none⟩ = r.cells[j]? := fun j => by rw [cell_of_row w T j _ _ _ h]; simp
  refine ⟨?_, ?_, ?_⟩ <;>
    rw [hc, RowM.cells, List.getElem?_append_right (by rw [bytesV_length, hk]; omega), bytesV_length, hk, List.getElem?_append_right (by rw [bytesV_length, hn]; omega), bytesV_length, hn] <;> rfl
set_option maxRecDepth 100000 in
set_option maxHeartbeats 4000000 in
theorem rowOf_any (D : Nat → Prop) (b d : Nat) (l sealed : List (BitVec 8)) (R : List RowM) (lv rv : Value) (m : Nat) (q : Option Addr) (cq : Nat) (w : World) (hcm : sealed.length = m) (hmc : m ≤ cq) (hR : R.length ≤ 100000)
    (hc : Lies w q sealed) (hB : BoxC D w b l d R lv rv) :
    Calls Try.prog 29 #[.pointer (some ⟨b, 0, none⟩), .slice q m cq] w fun e w' => ∃ C : Array Value, e = .returned (.tuple #[.agg C, .bool (rowHit R sealed)]) ∧ C.size = 47 ∧ C.all (·.oneCell') = true ∧ (∀ r, rowNo R sealed = some r → C = r.cells.toArray) ∧ Below w.heap.size w w' := by
  have HC := Lib.hid hc; clear hc
  have HCM := Lib.hid hcm
  have HB := Lib.hid hB; clear hB
  have hbs : b < w.heap.size := (Array.getElem?_eq_some_iff.1 HB.out.block).1
  obtain ⟨pr, cr, hrv⟩ := HB.out.form
  subst hrv
  go_enter Try.func29, Try.ntmps29
  go_upto_region 1 with (fail)
  refine wp_gen (fun wr => ∃ Z : Array Value, Z.size = 47 ∧ Z.all (·.oneCell') = true ∧ RowC wr w.heap.size Z ∧ Below w.heap.size w wr) ⟨_, ?_, ?_, heap_new_at rfl, (Below.refl _ _).alloc (Nat.le_refl _) _⟩ ?_
  · rfl
  · kernel_rfl
  rintro w1 ⟨Z, hz, hz1, hz2, hb1⟩
  have HZ := Lib.hid hz2; clear hz2
  have HB1 := Lib.hid hb1; clear hb1
  by_cases h8 : m < 8
  · have q0 : (m : Int) < 8 := by omega
    have HNO : Hid (rowNo R sealed = none) := show _ = _ by unfold rowNo; rw [if_neg (by omega)]
    have HHI : Hid (rowHit R sealed = false) := show _ = _ by unfold rowHit; rw [HNO.out]
    go_wp2_with (first
      | (refine wpList_store_row rfl 64 (.tmp 4) (.tmp 11) rfl w.heap.size zeroRow rfl rfl 64 Z HZ.out (size_of47 zeroRow_size) (hz.trans zeroRow_size.symm) zeroRow_ones ?_))
    have hR2 : RowC (w1.setRow w.heap.size zeroRow) w.heap.size zeroRow := setRow_heap _ _ _ _ _ _ HZ.out
    refine bodyPost_ret (v := .tuple #[.agg zeroRow, .bool false]) (results_row rfl rfl hR2 zeroRow_size) rfl ?_
    exact ⟨zeroRow, by rw [HHI.out], zeroRow_size, zeroRow_ones, (fun r hr => by rw [HNO.out] at hr; cases hr), below_setRow HB1.out (Nat.le_refl _) _⟩
  · have q0 : ¬ (m : Int) < 8 := by omega
    have q1 : (8 : Int) ≤ (cq : Int) := by omega
    go_wp2_with fail
    have hl8 : (sealed.take 8).length = 8 := by rw [List.length_take]; omega
    have hlt8 := numOf_lt (sealed.take 8)
    refine (numberOf_any (sealed.take 8) 8 q cq w1 hl8 (Nat.le_refl _) (lies_takeB (HC.out.below HB1.out) 8)).mono ?_
    rintro e w2 ⟨rfl, rfl⟩
    have hsome := rowNo_some (R := R) (sealed := sealed) (by omega)
    have hnone := rowNo_none (R := R) (sealed := sealed)
    generalize numOf (sealed.take 8) = X at hlt8 hsome hnone ⊢
    rw [hl8] at hlt8
    clear hl8
    have hBX : BoxC D w1 b l d R lv (.slice pr R.length cr) := HB.out.keep (F := fun _ => False) (Below.stays HB1.out) (fun _ h => h.elim)
    have e1 : w1.cell? ⟨b, 1, none⟩ = some (.slice pr R.length cr) := by rw [cell_of_row w1 b _ _ _ _ hBX.block]; rfl
    have HBX := Lib.hid hBX; clear hBX
    have t1 : IntKind.u64.wrap (R.length : Int) = (R.length : Int) := by rw [IntKind.wrap_u64]; omega
    by_cases hX : X < R.length
    · have q2 : ¬ (R.length : Int) ≤ (X : Int) := by omega
      have q3 : (X : Int) < (R.length : Int) := by omega
      have hsome := hsome hX
      go_upto_region 6 with (fail)
      obtain ⟨g, rfl, hg⟩ : ∃ g, pr = some ⟨g, 0, none⟩ ∧ ∀ j u, (rowsCells R)[j]? = some u → w1.cell? ⟨g, j, none⟩ = some u := by
        rcases HBX.out.rows.2 with ⟨h0, h1⟩ | ⟨g, cap, cur, he, hb, hh, h3, h4, h5, h6⟩
        · omega
        · cases he
          refine ⟨g, rfl, fun j u hu => ?_⟩
          have h := World.ownsRow.cells HBX.out.rows (g := g) rfl j u hu
          rwa [Addr.add_mid, Nat.zero_add] at h
      obtain ⟨r, hr⟩ : ∃ r, r = R[X] := ⟨_, rfl⟩
      rw [← hr] at hsome
      have HSM := Lib.hid hsome; clear hsome
      have hrok := HBX.out.each r (by rw [hr]; exact List.getElem_mem _)
      have hall : ∀ x ∈ R, x.key.length = 32 ∧ x.nonce.length = 12 := fun x hx => ⟨(HBX.out.each x hx).key, (HBX.out.each x hx).nonce⟩
      have HCS : Hid (r.cells.length = 47) := show _ = _ from RowM.cells_length hrok.key hrok.nonce
      have hrange : w1.rangeAt g (X * 47) r.cells := fun j u hu => by
        have hj : j < 47 := by have := (List.getElem?_eq_some_iff.1 hu).1; have := HCS.out; omega
        exact hg (X * 47 + j) u (by rw [rowsCells_at hall X hX j hj, ← hr]; exact hu)
      have HRG := Lib.hid hrange; clear hrange hg hall hr hnone
      have HOK := Lib.hid hrok; clear hrok
      have HI : Hid ((Try.prog.info? 64).map (·.size) = some r.cells.length) := show _ = _ from sizeRow.trans (congrArg some HCS.out.symm)
      have HCA : Hid (r.cells.toArray.size = 47) := show _ = _ by rw [List.size_toArray]; exact HCS.out
      have HON : Hid (r.cells.toArray.all (·.oneCell') = true) := show _ = _ from by
        rw [Array.all_eq_true_iff_forall_mem]
        intro u hu
        exact RowM.ones (by obtain ⟨_, _, e, _⟩ := HOK.out.head; rw [e]; rfl) (by obtain ⟨_, _, e, _⟩ := HOK.out.plain; rw [e]; rfl) (by obtain ⟨_, _, e, _⟩ := HOK.out.sealed; rw [e]; rfl) u (by simpa using hu)
      go_upto_region 7 with (first
        | (refine wpList_load_mid rfl 64 (.tmp 29) rfl g (X * 47) rfl r.cells _ HRG.out Try.underlying64 rfl HI.out ?_)
        | (refine wpList_store_new rfl 64 (.tmp 7) (.tmp 30) rfl w1.heap.size rfl r.cells.toArray rfl rfl (size_of47 HCA.out) (by rw [HCA.out]; rfl) HON.out ?_; intro w4 h4 b4; have HT4 := Lib.hid h4; have HB4 := Lib.hid b4; clear h4 b4))
      rename World => w4
      have hbd4 : Below w4.heap.size w4 w4.drew := (Below.refl _ _).drew
      have HB5 : Hid (Below w1.heap.size w1 w4.drew) := show Below _ _ _ from HB4.out.trans (hbd4.mono HB4.out.size)
      have HT5 : Hid (RowC w4.drew w1.heap.size r.cells.toArray) := show RowC _ _ _ from RowC.on HT4.out hbd4
      have HZ5 : Hid (RowC w4.drew w.heap.size Z) := show RowC _ _ _ from RowC.on HZ.out HB5.out
      have hne : w.heap.size < w1.heap.size := (Array.getElem?_eq_some_iff.1 HZ.out).1
      clear e1 HT4 HRG HI
      generalize w1.heap.size = T at HT5 hne ⊢
      obtain ⟨T4, hT4⟩ : ∃ T4, w.heap.size = T4 := ⟨_, rfl⟩
      rw [hT4] at HZ5 hne ⊢
      obtain ⟨qs, cs, hvs, -, -, hls⟩ := HOK.out.sealed
      have HLS := Lib.hid (hls.lies.below HB5.out); clear hls
      have HLC := Lib.hid ((HC.out.below HB1.out).below HB5.out)
      refine region_phase (RowC · T r.cells.toArray) (fun _ => True) 4 (HT5.out) trivial [(0, .free), (1, .free), (2, .free), (3, .free), (4, .behind), (5, .behind), (6, .free)] (by kernel_rfl) (by kernel_rfl) (by kernel_rfl) (by kernel_rfl) (fun ops hops A hA => ?_)
      have hsz : A.tmps.size = 36 := by rw [hA]; rfl
      have base1 : A.eval (.tmp 1) = .slice q m cq := by rw [hA]; rfl
      have base4 : A.eval (.tmp 4) = .pointer (some ⟨T4, 0, none⟩) := by rw [hA]; rfl
      have base7 : A.eval (.tmp 7) = .pointer (some ⟨T, 0, none⟩) := by rw [hA]; rfl
      have HAA := Lib.hid hA; clear hA
      obtain ⟨o0, po0, q0, d0, gd0⟩ : ∃ o, ops[0]? = some o ∧ o.op = .load 64 (.tmp 7) ∧ o.dst = some 31 ∧ o.guard = none := ⟨_, by rw [hops]; rfl, rfl, rfl, rfl⟩
      obtain ⟨o1, po1, q1, d1, gd1⟩ : ∃ o, ops[1]? = some o ∧ o.op = .fieldAddr 64 (.tmp 7) 4 ∧ o.dst = some 32 ∧ o.guard = none := ⟨_, by rw [hops]; rfl, rfl, rfl, rfl⟩
      obtain ⟨o2, po2, q2, d2, gd2⟩ : ∃ o, ops[2]? = some o ∧ o.op = .load 22 (.tmp 32) ∧ o.dst = some 33 ∧ o.guard = none := ⟨_, by rw [hops]; rfl, rfl, rfl, rfl⟩
      obtain ⟨o3, po3, q3, d3, gd3⟩ : ∃ o, ops[3]? = some o ∧ o.op = .move (.tmp 1) ∧ o.dst = some 34 ∧ o.guard = none := ⟨_, by rw [hops]; rfl, rfl, rfl, rfl⟩
      obtain ⟨o4, po4, q4, d4, gd4⟩ : ∃ o, ops[4]? = some o ∧ o.op = .call { callee := .value (.func 30), args := #[.tmp 33, .tmp 34], argTypes := #[22, 22] } ∧ o.dst = some 35 ∧ o.guard = none := ⟨_, by rw [hops]; rfl, rfl, rfl, rfl⟩
      obtain ⟨o5, po5, q5, d5, gd5⟩ : ∃ o, ops[5]? = some o ∧ o.op = .store 64 (.tmp 4) (.tmp 31) ∧ o.dst = none ∧ o.guard = none := ⟨_, by rw [hops]; rfl, rfl, rfl, rfl⟩
      obtain ⟨o6, po6, q6, d6, gd6⟩ : ∃ o, ops[6]? = some o ∧ o.op = .assign (.tmp 35) ∧ o.dst = some 5 ∧ o.guard = none := ⟨_, by rw [hops]; rfl, rfl, rfl, rfl⟩
      clear hops
      refine met_free po0 d0 (wanted_of gd0) (fun w' h' => run_loadRowC q0 base7 h' HCA.out) ?_
      refine met_free po1 d1 (wanted_of gd1) (fun w' h' => run_fieldT (off := 46) q1 (fun _ => by kernel_rfl) ((eval_other _ 31 7 _ (by decide)).trans base7) w') ?_
      refine met_free po2 d2 (wanted_of gd2) (fun w' h' => run_loadSlC q2 (eval_same _ _ _ (by simp only [put_size, hsz]; decide)) (by rw [(RowC.slices h' HOK.out.key HOK.out.nonce).2.2, hvs])) ?_
      refine met_free po3 d3 (wanted_of gd3) (fun w' h' => run_move q3 ((eval_other _ 33 1 _ (by decide)).trans ((eval_other _ 32 1 _ (by decide)).trans ((eval_other _ 31 1 _ (by decide)).trans base1))) w') ?_
      refine m_enter po4 d4 (wanted_of gd4) (run_callf2 q4 rfl ((eval_other _ 34 33 _ (by decide)).trans (eval_same _ _ _ (by simp only [put_size, hsz]; decide))) (eval_same _ _ _ (by simp only [put_size, hsz]; decide)) Try.func30 (by kernel_rfl) _) (equalBytes_any r.sealed sealed _ m qs q cs cq w4.drew rfl HCM.out HLS.out HLC.out) ?_
      rintro e w6 ⟨rfl, rfl⟩
      refine ⟨_, rfl, HT5.out, ?_⟩
      refine m_store_row po5 d5 (wanted_of gd5) q5 ((eval_other _ 35 4 _ (by decide)).trans ((eval_other _ 34 4 _ (by decide)).trans ((eval_other _ 33 4 _ (by decide)).trans ((eval_other _ 32 4 _ (by decide)).trans ((eval_other _ 31 4 _ (by decide)).trans base4))))) ((eval_other _ 35 31 _ (by decide)).trans ((eval_other _ 34 31 _ (by decide)).trans ((eval_other _ 33 31 _ (by decide)).trans ((eval_other _ 32 31 _ (by decide)).trans (eval_same _ _ _ (by rw [hsz]; decide)))))) HZ5.out (size_of47 HCA.out) (hz.trans HCA.out.symm) HON.out (show RowC _ _ _ from (setRow_other _ _ _ _ (by omega)).trans HT5.out) ?_
      refine met_free po6 d6 (wanted_of gd6) (fun w' h' => run_assign q6 ((eval_none _ _ 35).trans (eval_same _ _ _ (by simp only [put_size, hsz]; decide))) w') ?_
      show NoPanic _ .normal _ _
      refine NoPanic.normal ?_
      rw [HAA.out]
      go_frame
      clear HAA
      have hR2 : RowC (w4.drew.setRow T4 r.cells.toArray) T4 r.cells.toArray := setRow_heap _ _ _ _ _ _ HZ5.out
      have HHI : Hid (rowHit R sealed = decide (r.sealed = sealed)) := show _ = _ by unfold rowHit; rw [HSM.out]
      have hbf : Below w.heap.size w (w4.drew.setRow T4 r.cells.toArray) := by
        refine below_setRow ?_ (by omega) _
        exact HB1.out.trans (HB5.out.mono HB1.out.size)
      go_wp2_with fail
      refine bodyPost_ret (v := .tuple #[.agg r.cells.toArray, .bool (decide (r.sealed = sealed))]) (results_row rfl rfl hR2 HCA.out) rfl ?_
      exact ⟨r.cells.toArray, by rw [HHI.out], HCA.out, HON.out, fun r' hr' => by rw [HSM.out] at hr'; cases hr'; rfl, hbf⟩
    · have q2 : (R.length : Int) ≤ (X : Int) := by omega
      have HNO := Lib.hid (hnone hX)
      have HHI : Hid (rowHit R sealed = false) := show _ = _ by unfold rowHit; rw [HNO.out]
      clear hsome hnone
      go_wp2_with (first
        | (refine wpList_store_row rfl 64 (.tmp 4) (.tmp 23) rfl w.heap.size zeroRow rfl rfl 64 Z HZ.out (size_of47 zeroRow_size) (hz.trans zeroRow_size.symm) zeroRow_ones ?_))
      have hR2 : RowC (w1.setRow w.heap.size zeroRow) w.heap.size zeroRow := setRow_heap _ _ _ _ _ _ HZ.out
      refine bodyPost_ret (v := .tuple #[.agg zeroRow, .bool false]) (results_row rfl rfl hR2 zeroRow_size) rfl ?_
      exact ⟨zeroRow, by rw [HHI.out], zeroRow_size, zeroRow_ones, (fun r hr => by rw [HNO.out] at hr; cases hr), below_setRow HB1.out (Nat.le_refl _) _⟩
end Go.Proofs.Ytacgkfngpeieaaa

/-
  The program's Open.
-/
namespace Go.Proofs.Ytacgkfngpeieaaa
open Go.RowKit Go.Proofs.ShaWords
theorem run_neqArr {ρ : Operand → Value} {o : Oper} {x y : Operand} {T ty : TypeId} {N : Nat} {l m : List (BitVec 8)} (ho : o.op = .binOp .neq T x y ty) (hT : Try.prog.underlying T = some (.array N 5)) (hg : Try.prog.eqGuardType Try.prog.depth T = false)
    (hl : l.length = N) (hm : m.length = N) (hx : ρ x = .agg (bytesV l).toArray) (hy : ρ y = .agg (bytesV m).toArray) (w : World) :
    (execOp ρ o).run Try.prog w = .ok (.value (.bool (!decide (l = m)))) w := by
  have h := run_equalIn_bytes (P := Try.prog) w 9998 T 5 N hT Try.underlying5 (fun w => by kernel_rfl) (l.map UInt8.ofBitVec) (m.map UInt8.ofBitVec) (by simpa using hl) (by simpa using hm)
  rw [← bytesV_cell, ← bytesV_cell] at h
  have e : (l.map UInt8.ofBitVec == m.map UInt8.ofBitVec) = decide (l = m) := by
    rw [Bool.eq_iff_iff]
    simp only [beq_iff_eq, decide_eq_true_eq]
    exact List.map_inj_right (fun a b e => by simpa using congrArg UInt8.toBitVec e)
  rw [e] at h
  have h2 : (binOp .neq T (.agg (bytesV l).toArray) (.agg (bytesV m).toArray)).run Try.prog w = .ok (.bool (!decide (l = m))) w := by
    simp only [binOp]
    simp [Op.equal, Op.maxDepth, h]
  unfold execOp
  simp only [ho, hx, hy, Sem.run_bind, run_eqGuard_agg w .neq T x y _ _ hg, Result.andThen_ok, h2, Sem.run_pure]
/-- Only the row whose number the sealed bytes begin with can be the one that is asked for. -/
theorem openRs_rowNo {R : List RowM} {key nonce head sealed : List (BitVec 8)} (hn : ∀ i (h : i < R.length), NumAt i R[i].sealed) : openRs R key nonce head sealed = match rowNo R sealed with | some r => if RowM.hit key nonce head sealed r = true then some r else none | none => none := by
  unfold openRs
  cases hf : R.find? (RowM.hit key nonce head sealed) with
  | none =>
    have hall := List.find?_eq_none.1 hf
    cases hr : rowNo R sealed with
    | none => rfl
    | some r =>
      have hm : r ∈ R := by
        unfold rowNo at hr
        split at hr
        · exact List.mem_of_getElem? hr
        · cases hr
      simp [hall r hm]
  | some r =>
    have hh := List.find?_some hf
    obtain ⟨i, hi, he⟩ := List.getElem_of_mem (List.mem_of_find?_eq_some hf)
    have hs : r.sealed = sealed := by
      simp only [RowM.hit, Bool.and_eq_true, decide_eq_true_eq] at hh
      exact hh.2
    have h1 := hn i hi
    rw [he, hs] at h1
    have hr : rowNo R sealed = some r := by
      unfold rowNo
      rw [if_pos h1.1, h1.2, List.getElem?_eq_getElem hi, he]
    rw [hr]
    simp [hh]
/-- What the program's Open has in memory. -/
structure OpenC (D : Nat → Prop) (w : World) (key nonce head sealed : List (BitVec 8)) (p q : Option Addr) (b d : Nat) (l : List (BitVec 8)) (R : List RowM) (lv rv : Value) (wr : World) : Prop where
  kn : KnB w key nonce wr
  head : Lies wr p head
  sealed : Lies wr q sealed
  box : BoxC D wr b l d R lv rv
theorem OpenC.on {D : Nat → Prop} {w wr w' : World} {key nonce head sealed : List (BitVec 8)} {p q : Option Addr} {b d : Nat} {l : List (BitVec 8)} {R : List RowM} {lv rv : Value} (h : OpenC D w key nonce head sealed p q b d l R lv rv wr) (hb : Below wr.heap.size wr w') : OpenC D w key nonce head sealed p q b d l R lv rv w' :=
  ⟨h.kn.on hb, h.head.below hb, h.sealed.below hb, h.box.keep (F := fun _ => False) (Below.stays hb) (fun _ h => h.elim)⟩
theorem rowNo_mem {R : List RowM} {sealed : List (BitVec 8)} {r : RowM} (h : rowNo R sealed = some r) : r ∈ R := by
  unfold rowNo at h
  split at h
  · exact List.mem_of_getElem? h
  · cases h
theorem rowHit_some {R : List RowM} {sealed : List (BitVec 8)} (h : rowHit R sealed = true) : ∃ r, rowNo R sealed = some r ∧ r.sealed = sealed := by
  unfold rowHit at h
  cases hr : rowNo R sealed with
  | none => rw [hr] at h; cases h
  | some r => rw [hr] at h; exact ⟨r, rfl, by simpa using h⟩
theorem rowHit_none {R : List RowM} {key nonce head sealed : List (BitVec 8)} {r : RowM} (h : rowHit R sealed = false) (hr : rowNo R sealed = some r) : RowM.hit key nonce head sealed r = false := by
  unfold rowHit at h
  rw [hr] at h
  have h2 : ¬ r.sealed = sealed := by simpa using h
  simp [RowM.hit, h2]
theorem RowC.keyRange {w : World} {T : Nat} {r : RowM} (h : RowC w T r.cells.toArray) : w.rangeAt T 0 (bytesV r.key) := fun j u hu => by
  rw [Nat.zero_add, cell_of_row w T j _ _ _ h]
  show r.cells.toArray[j]? = some u
  rw [List.getElem?_toArray, RowM.cells, List.getElem?_append_left (List.getElem?_eq_some_iff.1 hu).1]; exact hu
theorem RowC.nonceRange {w : World} {T : Nat} {r : RowM} (h : RowC w T r.cells.toArray) (hk : r.key.length = 32) : w.rangeAt T 32 (bytesV r.nonce) := fun j u hu => by
  rw [cell_of_row w T _ _ _ _ h]
  show r.cells.toArray[32 + j]? = some u
  rw [List.getElem?_toArray, RowM.cells, List.getElem?_append_right (by rw [bytesV_length, hk]; omega), bytesV_length, hk, Nat.add_sub_cancel_left, List.getElem?_append_left (List.getElem?_eq_some_iff.1 hu).1]; exact hu
set_option maxRecDepth 100000 in
set_option maxHeartbeats 4000000 in
theorem codeOpenB_any (D : Nat → Prop) (b d : Nat) (l key nonce head sealed : List (BitVec 8)) (R : List RowM) (lv rv : Value) (n m : Nat) (p q : Option Addr) (cp cq : Nat) (w : World) (hk : key.length = 32) (hn : nonce.length = 12) (hhn : head.length = n) (hcm : sealed.length = m) (hmc : m ≤ cq) (hR : R.length ≤ 100000) (hlen : ∀ r ∈ R, r.plain.length ≤ 300000)
    (hp : Lies w p head) (hc : Lies w q sealed) (hB : BoxC D w b l d R lv rv) :
    Calls Try.prog 17 #[.pointer (some ⟨b, 0, none⟩), .agg (bytesV key).toArray, .agg (bytesV nonce).toArray, .slice p n cp, .slice q m cq] w fun e w' => ∃ v, e = .returned (.tuple #[v, .bool (openRs R key nonce head sealed).isSome]) ∧ Own w.heap.size w' (openPl R key nonce head sealed) v ∧ Below w.heap.size w w' := by
  have HKL := Lib.hid hk; clear hk
  have HNL := Lib.hid hn; clear hn
  have HHN := Lib.hid hhn
  have HCM := Lib.hid hcm
  have HLE := Lib.hid hlen; clear hlen
  have HIK := Lib.hid (infoKey key HKL.out)
  have HIN := Lib.hid (infoNonce nonce HNL.out)
  have HOR := Lib.hid (openRs_rowNo (key := key) (nonce := nonce) (head := head) (sealed := sealed) hB.nums)
  have HST : Hid (OpenC D w key nonce head sealed p q b d l R lv rv ((w.alloc (.cells (bytesV key).toArray 38)).alloc (.cells (bytesV nonce).toArray 40))) := show OpenC _ _ _ _ _ _ _ _ _ _ _ _ _ _ _ from
    ⟨knb_start w key nonce, hp.below (knb_start w key nonce).below, hc.below (knb_start w key nonce).below, hB.keep (F := fun _ => False) (Below.stays (knb_start w key nonce).below) (fun _ h => h.elim)⟩
  clear hhn hcm hp hc hB
  go_enter Try.func17, Try.ntmps17
  go_upto_region 1 with (fail)
  refine wp_gen (OpenC D w key nonce head sealed p q b d l R lv rv) HST.out ?_
  intro w1 hw1
  have HW1 := Lib.hid hw1; clear hw1 HST
  have h1 := rowOf_any D b d l sealed R lv rv m q cq w1 HCM.out hmc hR HW1.out.sealed HW1.out.box
  have HRO := Lib.hid h1; clear h1
  go_upto_region 2 with (first
    | (go_at_call 29; refine HRO.out.mono ?_; rintro e w2 ⟨C, rfl, hC1, hC2, hC3, hb2⟩; have HC1 := Lib.hid hC1; have HC2 := Lib.hid hC2; have HC3 := Lib.hid hC3; have HB2 := Lib.hid hb2; clear hC1 hC2 hC3 hb2)
    | (refine wpList_store_new rfl 64 (.tmp 12) (.tmp 18) rfl _ rfl C rfl rfl (size_of47 HC1.out) (by rw [HC1.out]; rfl) HC2.out ?_; intro w4 h4 b4; have HT4 := Lib.hid h4; have HB4 := Lib.hid b4; clear h4 b4))
  rename World => w4
  rename Array Value => C
  have HB5 : Hid (Below w1.heap.size w1 w4) := show Below _ _ _ from HB2.out.trans (HB4.out.mono HB2.out.size)
  have HW4 := Lib.hid (HW1.out.on HB5.out)
  have hTl : w1.heap.size ≤ w2.heap.size := HB2.out.size
  have HR4 : Hid (RowC w4 w2.heap.size C) := show RowC _ _ _ from HT4.out
  clear HT4 HB2 HB4 HRO
  cases hrh : rowHit R sealed with
  | false =>
    have HNO : Hid (openRs R key nonce head sealed = none) := show _ = _ by
      rw [HOR.out]
      cases hr : rowNo R sealed with
      | none => rfl
      | some r => simp [rowHit_none (key := key) (nonce := nonce) (head := head) hrh hr]
    have HPL : Hid (openPl R key nonce head sealed = []) := show _ = _ by unfold openPl; rw [HNO.out]
    go_wp2_with fail
    refine bodyPost_ret (v := .tuple #[.slice none 0 0, .bool false]) (by simp [results, Try.results17, go_sem]) rfl ?_
    exact ⟨_, by rw [HNO.out]; rfl, by rw [HPL.out]; exact Own.nil _ _, HW4.out.kn.below⟩
  | true =>
    obtain ⟨r, hrn, hrs⟩ := rowHit_some hrh
    have hC := HC3.out r hrn
    subst hC
    have HRN := Lib.hid hrn
    have hrok := HW4.out.box.each r (rowNo_mem hrn)
    have HPN := Lib.hid (HLE.out r (rowNo_mem hrn))
    clear hrn
    have HOK := Lib.hid hrok; clear hrok
    have HT : Hid (RowC w4 w2.heap.size r.cells.toArray) := show RowC _ _ _ from HR4.out
    have HKI : Hid ((Try.prog.info? 38).map (·.size) = some (bytesV r.key).length) := show _ = _ by rw [bytesV_length, HOK.out.key]; kernel_rfl
    have HNI : Hid ((Try.prog.info? 40).map (·.size) = some (bytesV r.nonce).length) := show _ = _ by rw [bytesV_length, HOK.out.nonce]; kernel_rfl
    have HGK : Hid (Try.prog.eqGuardType Try.prog.depth 38 = false) := show _ = _ by kernel_rfl
    have HGN : Hid (Try.prog.eqGuardType Try.prog.depth 40 = false) := show _ = _ by kernel_rfl
    clear HC1 HC2 HC3 hrh HR4
    generalize w2.heap.size = T at HT hTl ⊢
    by_cases h1 : r.key = key
    · have HD1 : Hid (decide (r.key = key) = true) := show _ = _ by simp [h1]
      by_cases h2 : r.nonce = nonce
      · have HD2 : Hid (decide (r.nonce = nonce) = true) := show _ = _ by simp [h2]
        obtain ⟨qh, ch, hvh, -, -, hlh⟩ := HOK.out.head
        have e44 : w4.cell? ⟨T, 44, none⟩ = some (.slice qh r.head.length ch) := by rw [← hvh]; exact (HT.out.slices HOK.out.key HOK.out.nonce).1
        have HLH := Lib.hid hlh.lies
        clear hvh hlh
        go_wp2_with (first
        | (refine wpList_run (by rfl) (run_loadArr (x := .tmp 23) rfl rfl Try.underlying38 HKI.out HT.out.keyRange) ?_)
        | (refine wpList_load_g (by rfl) 38 (.tmp 6) rfl w.heap.size rfl 38 (bytesV key).toArray (0, 0) _ HW4.out.kn.key Try.underlying38 rfl HIK.out ?_)
        | (refine wpList_run (by rfl) ((run_neqArr (x := .tmp 24) (y := .tmp 25) (l := r.key) (m := key) rfl Try.underlying38 HGK.out HOK.out.key HKL.out rfl rfl w4).trans (by rw [HD1.out])) ?_)
        | (refine wpList_run (by rfl) (run_loadArr (x := .tmp 29) rfl rfl Try.underlying40 HNI.out (HT.out.nonceRange HOK.out.key)) ?_)
        | (refine wpList_load_g (by rfl) 40 (.tmp 7) rfl (w.heap.size + 1) rfl 40 (bytesV nonce).toArray (0, 0) _ HW4.out.kn.nonce Try.underlying40 rfl HIN.out ?_)
        | (refine wpList_run (by rfl) ((run_neqArr (x := .tmp 30) (y := .tmp 31) (l := r.nonce) (m := nonce) rfl Try.underlying40 HGN.out HOK.out.nonce HNL.out rfl rfl w4).trans (by rw [HD2.out])) ?_))
        clear e44
        refine (equalBytes_any r.head head _ n qh p ch cp w4 rfl HHN.out HLH.out HW4.out.head).mono ?_
        rintro e w5 ⟨rfl, rfl⟩
        by_cases h3 : r.head = head
        · rw [decide_eq_true h3]
          have HHIT : Hid (RowM.hit key nonce head sealed r = true) := show _ = _ by simp [RowM.hit, h1, h2, h3, hrs]
          have HFD : Hid (openRs R key nonce head sealed = some r) := show _ = _ by rw [HOR.out, HRN.out]; simp [HHIT.out]
          have HPL : Hid (openPl R key nonce head sealed = r.plain) := show _ = _ by unfold openPl; rw [HFD.out]
          obtain ⟨qp, cpp, hvp, -, -, hlp⟩ := HOK.out.plain
          have e45 : w5.cell? ⟨T, 45, none⟩ = some (.slice qp r.plain.length cpp) := by rw [← hvp]; exact (HT.out.slices HOK.out.key HOK.out.nonce).2.1
          have HLP := Lib.hid hlp.lies
          clear hvp hlp
          go_wp2_with fail
          clear e45
          refine (clone_any r.plain _ qp cpp w5 rfl (by have := HPN.out; omega) HLP.out).mono ?_
          rintro e w7 ⟨v7, rfl, ho7, hb7⟩
          have HO7 := Lib.hid ho7; clear ho7
          have HB7 := Lib.hid hb7; clear hb7
          go_wp2_with fail
          refine bodyPost_ret (v := .tuple #[v7, .bool true]) (by simp [results, Try.results17, go_sem]) rfl ?_
          exact ⟨_, by rw [HFD.out]; rfl, by rw [HPL.out]; exact ⟨HO7.out.1, HO7.out.2.imp id (fun ⟨g, cap, cur, a, hb, r⟩ => ⟨g, cap, cur, a, Nat.le_trans HW4.out.kn.below.size hb, r⟩)⟩, HW4.out.kn.below.trans (HB7.out.mono HW4.out.kn.below.size)⟩
        · rw [decide_eq_false h3]
          go_wp2_with fail
          have HNO : Hid (openRs R key nonce head sealed = none) := show _ = _ by rw [HOR.out, HRN.out]; simp [RowM.hit, h3]
          have HPL : Hid (openPl R key nonce head sealed = []) := show _ = _ by unfold openPl; rw [HNO.out]
          refine bodyPost_ret (v := .tuple #[.slice none 0 0, .bool false]) (by simp [results, Try.results17, go_sem]) rfl ?_
          exact ⟨_, by rw [HNO.out]; rfl, by rw [HPL.out]; exact Own.nil _ _, HW4.out.kn.below⟩
      · have HD2 : Hid (decide (r.nonce = nonce) = false) := show _ = _ by simp [h2]
        go_wp2_with (first
        | (refine wpList_run (by rfl) (run_loadArr (x := .tmp 23) rfl rfl Try.underlying38 HKI.out HT.out.keyRange) ?_)
        | (refine wpList_load_g (by rfl) 38 (.tmp 6) rfl w.heap.size rfl 38 (bytesV key).toArray (0, 0) _ HW4.out.kn.key Try.underlying38 rfl HIK.out ?_)
        | (refine wpList_run (by rfl) ((run_neqArr (x := .tmp 24) (y := .tmp 25) (l := r.key) (m := key) rfl Try.underlying38 HGK.out HOK.out.key HKL.out rfl rfl w4).trans (by rw [HD1.out])) ?_)
        | (refine wpList_run (by rfl) (run_loadArr (x := .tmp 29) rfl rfl Try.underlying40 HNI.out (HT.out.nonceRange HOK.out.key)) ?_)
        | (refine wpList_load_g (by rfl) 40 (.tmp 7) rfl (w.heap.size + 1) rfl 40 (bytesV nonce).toArray (0, 0) _ HW4.out.kn.nonce Try.underlying40 rfl HIN.out ?_)
        | (refine wpList_run (by rfl) ((run_neqArr (x := .tmp 30) (y := .tmp 31) (l := r.nonce) (m := nonce) rfl Try.underlying40 HGN.out HOK.out.nonce HNL.out rfl rfl w4).trans (by rw [HD2.out])) ?_))
        have HNO : Hid (openRs R key nonce head sealed = none) := show _ = _ by rw [HOR.out, HRN.out]; simp [RowM.hit, h2]
        have HPL : Hid (openPl R key nonce head sealed = []) := show _ = _ by unfold openPl; rw [HNO.out]
        refine bodyPost_ret (v := .tuple #[.slice none 0 0, .bool false]) (by simp [results, Try.results17, go_sem]) rfl ?_
        exact ⟨_, by rw [HNO.out]; rfl, by rw [HPL.out]; exact Own.nil _ _, HW4.out.kn.below⟩
    · have HD1 : Hid (decide (r.key = key) = false) := show _ = _ by simp [h1]
      go_wp2_with (first
        | (refine wpList_run (by rfl) (run_loadArr (x := .tmp 23) rfl rfl Try.underlying38 HKI.out HT.out.keyRange) ?_)
        | (refine wpList_load_g (by rfl) 38 (.tmp 6) rfl w.heap.size rfl 38 (bytesV key).toArray (0, 0) _ HW4.out.kn.key Try.underlying38 rfl HIK.out ?_)
        | (refine wpList_run (by rfl) ((run_neqArr (x := .tmp 24) (y := .tmp 25) (l := r.key) (m := key) rfl Try.underlying38 HGK.out HOK.out.key HKL.out rfl rfl w4).trans (by rw [HD1.out])) ?_))
      have HNO : Hid (openRs R key nonce head sealed = none) := show _ = _ by rw [HOR.out, HRN.out]; simp [RowM.hit, h1]
      have HPL : Hid (openPl R key nonce head sealed = []) := show _ = _ by unfold openPl; rw [HNO.out]
      refine bodyPost_ret (v := .tuple #[.slice none 0 0, .bool false]) (by simp [results, Try.results17, go_sem]) rfl ?_
      exact ⟨_, by rw [HNO.out]; rfl, by rw [HPL.out]; exact Own.nil _ _, HW4.out.kn.below⟩
end Go.Proofs.Ytacgkfngpeieaaa

/-
  The program's box, without its insides: what it answers, which blocks are its own.
-/
namespace Go.Proofs.Ytacgkfngpeieaaa
open Go.RowKit Go.Proofs.ShaWords
/-- The program's box v: its list, how many were drawn, its rows; S: its blocks. -/
def CodeBox (S : Nat → Prop) (w : World) (v : Value) (l : List (BitVec 8)) (d : Nat) (A : List RowA) : Prop :=
  ∃ b D R lv rv, v = .pointer (some ⟨b, 0, none⟩) ∧ BoxC D w b l d R lv rv ∧ A = R.map RowM.toA ∧ (∀ k, S k ↔ D k ∨ Mut b rv k)
theorem CodeBox.keep {S F : Nat → Prop} {w w' : World} {v : Value} {l : List (BitVec 8)} {d : Nat} {A : List RowA} (h : CodeBox S w v l d A) (hk : Stays F w w') (hF : ∀ k, F k → ¬ S k) : CodeBox S w' v l d A := by
  obtain ⟨b, D, R, lv, rv, rfl, hB, rfl, hS⟩ := h
  exact ⟨b, D, R, lv, rv, rfl, hB.keep hk (fun k f => ⟨fun h => hF k f ((hS k).2 (Or.inl h)), fun h => hF k f ((hS k).2 (Or.inr h))⟩), rfl, hS⟩
theorem CodeBox.dom {S : Nat → Prop} {w : World} {v : Value} {l : List (BitVec 8)} {d : Nat} {A : List RowA} (h : CodeBox S w v l d A) (k : Nat) (hk : S k) : k < w.heap.size := by
  obtain ⟨b, D, R, lv, rv, rfl, hB, rfl, hS⟩ := h
  rcases (hS k).1 hk with h | h | h
  · exact hB.dom k h
  · rw [h]; exact (Array.getElem?_eq_some_iff.1 hB.block).1
  · exact (World.ownsRow.lt hB.rows k h).2
/-- It is a pointer, and not nil. -/
theorem CodeBox.pointer {S : Nat → Prop} {w : World} {v : Value} {l : List (BitVec 8)} {d : Nat} {A : List RowA} (h : CodeBox S w v l d A) : ∃ b, v = .pointer (some ⟨b, 0, none⟩) := by
  obtain ⟨b, D, R, lv, rv, rfl, _⟩ := h
  exact ⟨b, rfl⟩
theorem codeNew_any (l : List (BitVec 8)) (n : Nat) (p : Option Addr) (c : Nat) (w : World) (hn : l.length = n) (hl : n < 140737488355328) (hp : Lies w p l) :
    Calls Try.prog 8 #[.slice p n c] w fun e w' => ∃ v S, e = .returned v ∧ CodeBox S w' v l 0 [] ∧ (∀ k, S k → w.heap.size ≤ k) ∧ Below w.heap.size w w' := by
  refine (codeNewB_any l n p c w hn hl hp).mono ?_
  rintro e w' ⟨b, lv, rfl, h1, h2, hB, hb⟩
  refine ⟨_, fun k => (w.heap.size ≤ k ∧ k < b) ∨ Mut b (.slice none 0 0) k, rfl, ⟨b, _, [], lv, _, rfl, hB, rfl, fun _ => Iff.rfl⟩, fun k hk => ?_, hb⟩
  rcases hk with h | h | h
  · exact h.1
  · omega
  · simp [Value.ownBlock] at h
theorem codeSeal_any (S : Nat → Prop) (v : Value) (d : Nat) (l key nonce head plain : List (BitVec 8)) (A : List RowA) (n m : Nat) (p q : Option Addr) (cp cq : Nat) (w : World) (hk : key.length = 32) (hn : nonce.length = 12) (hhn : head.length = n) (hcm : plain.length = m) (hH : n < 140737488355328) (hC : m ≤ 300000) (hA : A.length ≤ 100000) (hl : l.length < 140737488355328)
    (hp : Lies w p head) (hc : Lies w q plain) (hB : CodeBox S w v l d A) :
    Calls Try.prog 13 #[v, .agg (bytesV key).toArray, .agg (bytesV nonce).toArray, .slice p n cp, .slice q m cq] w fun e w' => ∃ u S', e = .returned u ∧ CodeBox S' w' v l (d + (8 + m)) (A ++ [⟨key, nonce, head, plain, boxOf l d A.length m⟩]) ∧ (∀ k, S' k → S k ∨ w.heap.size ≤ k) ∧
      Own w.heap.size w' (boxOf l d A.length m) u ∧ (∀ k, u.ownBlock = some k → ¬ S' k) ∧ Stays S w w' := by
  obtain ⟨b, D, R, lv, rv, rfl, hB, rfl, hS⟩ := hB
  rw [List.length_map] at hA ⊢
  refine (codeSealB_any D b d l key nonce head plain R lv rv n m p q cp cq w hk hn hhn hcm hH hC hA hl hp hc hB).mono ?_
  rintro e w' ⟨u, r, D', lv', rv', rfl, ⟨r1, r2, r3, r4, r5⟩, hB', hD', hrv', hu, hua, hst⟩
  refine ⟨u, fun k => D' k ∨ Mut b rv' k, rfl, ⟨b, D', R ++ [r], lv', rv', rfl, hB', ?_, fun _ => Iff.rfl⟩, fun k hk => ?_, hu, fun k hk => ?_, hst.more (fun k hk => (hS k).2 (Or.inr hk))⟩
  · rw [List.map_append]
    simp [RowM.toA, r1, r2, r3, r4, r5]
  · rcases hk with h | h | h
    · exact (hD' k h).imp (fun h => (hS k).2 (Or.inl h)) id
    · exact Or.inl ((hS k).2 (Or.inr (Or.inl h)))
    · exact (hrv' k h).imp (fun h => (hS k).2 (Or.inr (Or.inr h))) id
  · have := hua k hk
    exact fun h => h.elim this.1 this.2
theorem codeOpen_any (S : Nat → Prop) (v : Value) (d : Nat) (l key nonce head sealed : List (BitVec 8)) (A : List RowA) (n m : Nat) (p q : Option Addr) (cp cq : Nat) (w : World) (hk : key.length = 32) (hn : nonce.length = 12) (hhn : head.length = n) (hcm : sealed.length = m) (hmc : m ≤ cq) (hA : A.length ≤ 100000) (hlen : ∀ r ∈ A, r.Small)
    (hp : Lies w p head) (hc : Lies w q sealed) (hB : CodeBox S w v l d A) :
    Calls Try.prog 17 #[v, .agg (bytesV key).toArray, .agg (bytesV nonce).toArray, .slice p n cp, .slice q m cq] w fun e w' => ∃ u, e = .returned (.tuple #[u, .bool (openA A key nonce head sealed).isSome]) ∧ Own w.heap.size w' (openB A key nonce head sealed) u ∧ Below w.heap.size w w' := by
  obtain ⟨b, D, R, lv, rv, rfl, hB, rfl, hS⟩ := hB
  rw [List.length_map] at hA
  refine (codeOpenB_any D b d l key nonce head sealed R lv rv n m p q cp cq w hk hn hhn hcm hmc hA (fun r hr => (hlen r.toA (List.mem_map_of_mem hr)).2.1) hp hc hB).mono ?_
  rintro e w' ⟨u, rfl, hu, hb⟩
  have e1 := openA_map R key nonce head sealed
  refine ⟨u, by rw [e1]; cases openRs R key nonce head sealed <;> rfl, ?_, hb⟩
  have e2 : openB (R.map RowM.toA) key nonce head sealed = openPl R key nonce head sealed := by
    unfold openB openPl
    rw [e1]
    cases openRs R key nonce head sealed <;> rfl
  rw [e2]; exact hu
theorem codeLen_any (S : Nat → Prop) (v : Value) (d : Nat) (l : List (BitVec 8)) (A : List RowA) (w : World) (hB : CodeBox S w v l d A) :
    Calls Try.prog 22 #[v] w fun e w' => e = .returned (.int .i64 (A.length : Int)) ∧ w = w' := by
  obtain ⟨b, D, R, lv, rv, rfl, hB, rfl, hS⟩ := hB
  rw [List.length_map]
  exact codeLenB_any D b d l R lv rv w hB
end Go.Proofs.Ytacgkfngpeieaaa

/-
  What the statements of layer 6 ask once more (known): it returns true.
-/
namespace Go.Proofs.Ytacgkfngpeieaaa
open Go.RowKit Go.Proofs.ShaWords
theorem Own.lies0 {B : Nat} {w : World} {l : List (BitVec 8)} {p : Option Addr} {n c : Nat} (h : Own B w l (.slice p n c)) : Lies w p l ∧ n ≤ c := by
  obtain ⟨q, cap, he, h1, _, h3⟩ := h.lies
  cases he
  exact ⟨h3, h1⟩
def known6S : List (BitVec 8) := [0#8, 0#8, 0#8, 0#8, 0#8, 0#8, 0#8, 0#8, 5#8, 6#8, 7#8, 0#8, 0#8, 0#8, 0#8, 0#8, 0#8, 0#8]
def known6A : List RowA := [⟨1#8 :: noughts 31, 2#8 :: noughts 11, [3#8], [8#8, 9#8], known6S⟩]
theorem known6_yes : openA known6A (1#8 :: noughts 31) (2#8 :: noughts 11) [3#8] known6S = some ⟨1#8 :: noughts 31, 2#8 :: noughts 11, [3#8], [8#8, 9#8], known6S⟩ := by
  unfold openA known6A
  rw [List.find?_cons_of_pos (by decide +kernel)]
theorem known6_no : openA known6A (1#8 :: noughts 31) (2#8 :: noughts 11) [] known6S = none := by
  unfold openA known6A
  rw [List.find?_cons_of_neg (by decide +kernel)]; rfl
theorem known6_small : ∀ r ∈ known6A, r.Small := by
  intro r hr
  rw [List.mem_singleton.1 hr]
  exact ⟨by decide, by decide, by decide⟩
attribute [local irreducible] boxOf openA openB
set_option maxRecDepth 100000 in
set_option maxHeartbeats 4000000 in
theorem known6_any (w : World) : Calls Try.prog 12 #[] w fun e w' => e = .returned (.bool true) ∧ Below w.heap.size w w' := by
  go_enter Try.func12, Try.ntmps12
  go_wp2_with fail
  have HL : Hid (Lies (w.alloc (.cells #[.int .u8 5, .int .u8 6, .int .u8 7] 5)) (some ⟨w.heap.size, 0, none⟩) [5#8, 6#8, 7#8]) := show Lies _ _ _ from lies_new rfl
  have HB0 : Hid (Below w.heap.size w (w.alloc (.cells #[.int .u8 5, .int .u8 6, .int .u8 7] 5))) := show Below _ _ _ from (Below.refl _ _).alloc (Nat.le_refl _) _
  generalize w.alloc (.cells #[.int .u8 5, .int .u8 6, .int .u8 7] 5) = w0 at HL HB0 ⊢
  refine (codeNew_any [5#8, 6#8, 7#8] 3 _ 3 w0 rfl (by omega) HL.out).mono ?_
  rintro e w1 ⟨v, S, rfl, hbx, hS, hb1⟩
  obtain ⟨b, rfl⟩ := hbx.pointer
  have HB1 : Hid (Below w.heap.size w w1) := show Below _ _ _ from HB0.out.trans (hb1.mono HB0.out.size)
  have HBX := Lib.hid hbx; clear hbx
  have HS : Hid (∀ k, S k → w.heap.size ≤ k) := show ∀ k, _ from fun k hk => Nat.le_trans HB0.out.size (hS k hk)
  clear hb1 hS
  go_wp2_with fail
  have HLH : Hid (Lies (w1.alloc (.cells #[.int .u8 3] 5)) (some ⟨w1.heap.size, 0, none⟩) [3#8]) := show Lies _ _ _ from lies_new rfl
  have hb2 : Below w1.heap.size w1 (w1.alloc (.cells #[.int .u8 3] 5)) := (Below.refl _ _).alloc (Nat.le_refl _) _
  have sz2 : (w1.alloc (.cells #[.int .u8 3] 5)).heap.size = w1.heap.size + 1 := size_alloc _ _
  generalize w1.alloc (.cells #[.int .u8 3] 5) = w2 at HLH hb2 sz2 ⊢
  have HLP : Hid (Lies (w2.alloc (.cells #[.int .u8 8, .int .u8 9] 5)) (some ⟨w1.heap.size + 1, 0, none⟩) [8#8, 9#8]) := show Lies _ _ _ by rw [← sz2]; exact lies_new rfl
  have hb3 : Below w2.heap.size w2 (w2.alloc (.cells #[.int .u8 8, .int .u8 9] 5)) := (Below.refl _ _).alloc (Nat.le_refl _) _
  generalize w2.alloc (.cells #[.int .u8 8, .int .u8 9] 5) = w3 at HLP hb3 ⊢
  have HLH3 : Hid (Lies w3 (some ⟨w1.heap.size, 0, none⟩) [3#8]) := show Lies _ _ _ from HLH.out.below hb3
  have hb13 : Below w1.heap.size w1 w3 := hb2.trans (hb3.mono hb2.size)
  have HB3 : Hid (Below w.heap.size w w3) := show Below _ _ _ from HB1.out.trans (hb13.mono HB1.out.size)
  refine (codeSeal_any S _ 0 [5#8, 6#8, 7#8] (1#8 :: noughts 31) (2#8 :: noughts 11) [3#8] [8#8, 9#8] [] 1 2 _ _ 1 2 w3 rfl rfl rfl rfl (by omega) (by omega) (by simp) (by simp) HLH3.out HLP.out (HBX.out.keep (F := fun _ => False) (Below.stays hb13) (fun _ h => h.elim))).mono ?_
  rintro e w4 ⟨u, S4, rfl, hbx4, hS4, ho4, -, hs4⟩
  have hbo : boxOf [5#8, 6#8, 7#8] 0 ([] : List RowA).length 2 = known6S := by decide +kernel
  rw [hbo] at ho4 hbx4
  have hA : ([] : List RowA) ++ [⟨1#8 :: noughts 31, 2#8 :: noughts 11, [3#8], [8#8, 9#8], known6S⟩] = known6A := rfl
  rw [hA] at hbx4
  have HB4 : Hid (Below w.heap.size w w4) := show Below _ _ _ from HB3.out.trans (hs4.below (fun k hk => HS.out k hk) HB3.out.size)
  obtain ⟨g4, c4, hu4, -⟩ := ho4.form8 (by decide)
  subst hu4
  have HO4 := Lib.hid ho4; clear ho4
  have HX4 := Lib.hid hbx4; clear hbx4
  clear HBX HLH HLP HLH3 HL HB0 HS hb2 hb3 hb13 hS4 hs4 sz2 hbo hA
  go_wp2_with fail
  have HLH : Hid (Lies (w4.alloc (.cells #[.int .u8 3] 5)) (some ⟨w4.heap.size, 0, none⟩) [3#8]) := show Lies _ _ _ from lies_new rfl
  have hb5 : Below w4.heap.size w4 (w4.alloc (.cells #[.int .u8 3] 5)) := (Below.refl _ _).alloc (Nat.le_refl _) _
  generalize w4.alloc (.cells #[.int .u8 3] 5) = w5 at HLH hb5 ⊢
  refine (codeOpen_any S4 _ _ [5#8, 6#8, 7#8] (1#8 :: noughts 31) (2#8 :: noughts 11) [3#8] known6S known6A 1 known6S.length _ _ 1 c4 w5 rfl rfl rfl rfl HO4.out.lies0.2 (by decide) known6_small HLH.out (HO4.out.below hb5).lies0.1 (HX4.out.keep (F := fun _ => False) (Below.stays hb5) (fun _ h => h.elim))).mono ?_
  rintro e w6 ⟨u6, rfl, ho6, hb6⟩
  rw [known6_yes]
  have hob : openB known6A (1#8 :: noughts 31) (2#8 :: noughts 11) [3#8] known6S = [8#8, 9#8] := by unfold openB; rw [known6_yes]
  rw [hob] at ho6
  obtain ⟨g6, c6, hu6, -⟩ := ho6.form8 (by decide)
  subst hu6
  have HO6 := Lib.hid ho6; clear ho6
  have HB46 : Hid (Below w4.heap.size w4 w6) := show Below _ _ _ from hb5.trans (hb6.mono hb5.size)
  clear hb5 hb6 hob HLH
  go_wp2_with fail
  refine (codeOpen_any S4 _ _ [5#8, 6#8, 7#8] (1#8 :: noughts 31) (2#8 :: noughts 11) [] known6S known6A 0 known6S.length _ _ 0 c4 w6 rfl rfl rfl rfl HO4.out.lies0.2 (by decide) known6_small (Or.inl rfl) (HO4.out.below HB46.out).lies0.1 (HX4.out.keep (F := fun _ => False) (Below.stays HB46.out) (fun _ h => h.elim))).mono ?_
  rintro e w7 ⟨u7, rfl, -, hb7⟩
  rw [known6_no]
  have HB47 : Hid (Below w4.heap.size w4 w7) := show Below _ _ _ from HB46.out.trans (hb7.mono HB46.out.size)
  have HO7 := Lib.hid (HO6.out.below hb7)
  have e8 : w7.cell? ⟨g4, 8, none⟩ = some (.int .u8 5) := (World.ownsRow.cellAt (HO4.out.below HB47.out) 8 (by decide)).trans (by rfl)
  have e10 : w7.cell? ⟨g4, 10, none⟩ = some (.int .u8 7) := (World.ownsRow.cellAt (HO4.out.below HB47.out) 10 (by decide)).trans (by rfl)
  have e11 : w7.cell? ⟨g4, 11, none⟩ = some (.int .u8 0) := (World.ownsRow.cellAt (HO4.out.below HB47.out) 11 (by decide)).trans (by rfl)
  have hkl : known6S.length = 18 := rfl
  rw [hkl]
  clear hb7 HO6 HB46
  go_wp2_with fail
  have HL8 : Hid (Lies (w7.alloc (.cells #[.int .u8 8, .int .u8 9] 5)) (some ⟨w7.heap.size, 0, none⟩) [8#8, 9#8]) := show Lies _ _ _ from lies_new rfl
  have hb8 : Below w7.heap.size w7 (w7.alloc (.cells #[.int .u8 8, .int .u8 9] 5)) := (Below.refl _ _).alloc (Nat.le_refl _) _
  generalize w7.alloc (.cells #[.int .u8 8, .int .u8 9] 5) = w8 at HL8 hb8 ⊢
  refine (sameBytes_any [8#8, 9#8] [8#8, 9#8] 2 2 _ _ c6 2 w8 rfl rfl (by omega) (by omega) (HO7.out.below hb8).lies0.1 HL8.out).mono ?_
  rintro e w9 ⟨rfl, hb9⟩
  rw [decide_eq_true rfl]
  have hb49 : Below w4.heap.size w4 w9 := HB47.out.trans ((hb8.trans (hb9.mono hb8.size)).mono HB47.out.size)
  have HBF : Hid (Below w.heap.size w w9) := show Below _ _ _ from HB4.out.trans (hb49.mono HB4.out.size)
  have HX9 := Lib.hid (HX4.out.keep (F := fun _ => False) (Below.stays hb49) (fun _ h => h.elim))
  clear hb8 hb9 hb49 e8 e10 e11 HO7 HO4 HX4 HL8
  go_wp2_with fail
  refine (codeLen_any S4 _ _ _ known6A w9 HX9.out).mono ?_
  rintro e w10 ⟨rfl, rfl⟩
  have hkA : known6A.length = 1 := rfl
  rw [hkA]
  go_wp2_with fail
  go_ret
  exact ⟨rfl, HBF.out⟩
end Go.Proofs.Ytacgkfngpeieaaa

/-
  What came in, opened: a slice of what is to be done with a box.
-/
namespace Go.Proofs.Ytacgkfngpeieaaa
open Go.ChangeShapes Go.WideShapes Go.ChangeAt Go.RowKit Go.Proofs.ShaWords Go.Deep

theorem slice_shape {H : Type} {enc : TypeId × Value → H} {W : World} {fuel : Nat} {v : Value} {x : DataW H × List MemPlace} (h : DataW.trod enc Try.prog W 0 (fun _ => true) true fuel 22 [v] = some x) : ∃ a len cap, v = .slice a len cap := by
  rcases open_ints Try.underlying22 Try.underlying5 (by kernel_rfl) h with ⟨hcs, _⟩ | ⟨y, l, c, zs, hcs, _⟩
  · exact ⟨_, _, _, by simpa using hcs⟩
  · exact ⟨_, _, _, by simpa using hcs⟩
/-- Bytes of a field. -/
theorem open_bytes1 {H : Type} {enc : TypeId × Value → H} {W : World} {fuel : Nat} {v : Value} {x : DataW H × List MemPlace} (h : DataW.trod enc Try.prog W 0 (fun _ => true) true fuel 22 [v] = some x) :
    ∃ (a : Option Addr) (cap : Nat) (bs : List (BitVec 8)), v = .slice a bs.length cap ∧ bs.length ≤ cap ∧ Lies W a bs := by
  obtain ⟨a, len, cap, rfl⟩ := slice_shape h
  obtain ⟨bs, hl, h1, h2, -⟩ := open_bytes (a := a) (len := len) (cap := cap) h
  exact ⟨a, cap, bs, by rw [hl], by omega, h2⟩
/-- One of the things to be done. -/
structure OpM where
  doSeal : Bool
  k : BitVec 8
  n : BitVec 8
  hp : Option Addr
  hc : Nat
  head : List (BitVec 8)
  tp : Option Addr
  tc : Nat
  text : List (BitVec 8)
  at' : Int
  turn : Int
instance : Inhabited OpM := ⟨⟨false, 0#8, 0#8, none, 0, [], none, 0, [], 0, 0⟩⟩
def OpM.cells (o : OpM) : List Value := [.bool o.doSeal, .int .u8 (n8 o.k), .int .u8 (n8 o.n), .slice o.hp o.head.length o.hc, .slice o.tp o.text.length o.tc, .int .i64 o.at', .int .i64 o.turn]
structure OpM.Ok (W : World) (o : OpM) : Prop where
  head : Lies W o.hp o.head
  text : Lies W o.tp o.text
  hcap : o.head.length ≤ o.hc
  tcap : o.text.length ≤ o.tc
  atw : (Lit.int .i64 o.at').wf = true
  turnw : (Lit.int .i64 o.turn).wf = true
theorem open_op {H : Type} {enc : TypeId × Value → H} {W : World} {fuel : Nat} {cs : List Value} {x : DataW H × List MemPlace} (h : DataW.trod enc Try.prog W 0 (fun _ => true) true fuel 35 cs = some x) :
    ∃ o : OpM, cs = o.cells ∧ o.Ok W := by
  obtain ⟨xs, n, _, rfl, hl, hlen, hf⟩ := DataW.trod_struct Try.underlying35 h
  have c7 : Try.prog.cellsOf 35 = 7 := by kernel_rfl
  rw [c7] at hl
  obtain ⟨v0, v1, v2, v3, v4, v5, v6, rfl⟩ : ∃ v0 v1 v2 v3 v4 v5 v6, cs = [v0, v1, v2, v3, v4, v5, v6] := by
    match cs, hl with
    | [a, b, c, d, e, f, g], _ => exact ⟨a, b, c, d, e, f, g, rfl⟩
  obtain ⟨y0, y1, y2, y3, y4, y5, y6, rfl⟩ : ∃ y0 y1 y2 y3 y4 y5 y6, xs = [y0, y1, y2, y3, y4, y5, y6] := by
    match xs, hlen with
    | [a, b, c, d, e, f, g], _ => exact ⟨a, b, c, d, e, f, g, rfl⟩
  have h0 := hf 0 _ rfl
  have h1 := hf 1 _ rfl
  have h2 := hf 2 _ rfl
  have h3 := hf 3 _ rfl
  have h4 := hf 4 _ rfl
  have h5 := hf 5 _ rfl
  have h6 := hf 6 _ rfl
  obtain ⟨b0, e0, -⟩ := DataW.trod_bool Try.underlying4 h0
  obtain ⟨z1, e1, -, w1⟩ := DataW.trod_int Try.underlying5 h1
  obtain ⟨z2, e2, -, w2⟩ := DataW.trod_int Try.underlying5 h2
  obtain ⟨a3, c3', bs3, rfl, l3, L3⟩ := open_bytes1 h3
  obtain ⟨a4, c4', bs4, rfl, l4, L4⟩ := open_bytes1 h4
  obtain ⟨z5, e5, -, w5⟩ := DataW.trod_int Try.underlying3 h5
  obtain ⟨z6, e6, -, w6⟩ := DataW.trod_int Try.underlying3 h6
  cases e0; cases e1; cases e2; cases e5; cases e6
  exact ⟨⟨b0, BitVec.ofInt 8 z1, BitVec.ofInt 8 z2, a3, c3', bs3, a4, c4', bs4, z5, z6⟩, by simp [OpM.cells, n8_ofInt _ w1, n8_ofInt _ w2], ⟨L3, L4, l3, l4, w5, w6⟩⟩
/-- The things to be done. -/
theorem open_ops {H : Type} {enc : TypeId × Value → H} {W : World} {fuel : Nat} {a : Option Addr} {len cap : Nat} {x : DataW H × List MemPlace}
    (h : DataW.trod enc Try.prog W 0 (fun _ => true) true fuel 23 (Value.cells (.slice a len cap)).toList = some x) :
    ∃ os : List OpM, os.length = len ∧ len ≤ cap ∧ (os = [] ∨ ∃ b off, a = some ⟨b, off, none⟩ ∧ ∀ k (h : k < os.length), W.rangeAt b (off + k * 7) os[k].cells) ∧ ∀ o ∈ os, o.Ok W := by
  have c7 : Try.prog.cellsOf 35 = 7 := by kernel_rfl
  rcases open_slice Try.underlying23 h with ⟨hcs, _⟩ | ⟨y, l, c, m, n, D, Pl, hcs, _, hl, hm, hmm, _, hx⟩
  · simp [Value.cells] at hcs
    obtain ⟨rfl, rfl, rfl⟩ := hcs
    exact ⟨[], rfl, Nat.le_refl _, .inl rfl, by simp⟩
  · simp [Value.cells] at hcs
    obtain ⟨rfl, rfl, rfl⟩ := hcs
    simp only [if_true] at hmm
    rw [c7] at hx
    obtain ⟨O, hO⟩ := choose_lt (α := OpM) (n := len) (p := fun i o => W.cells? 0 (y.add (i * 7)) 7 = some o.cells ∧ o.Ok W) (fun i hi => by
      obtain ⟨cs', h1, h2⟩ := hx i (by omega)
      obtain ⟨o, rfl, ho⟩ := open_op h2
      exact ⟨o, h1, ho⟩)
    refine ⟨(List.range len).map O, by simp, hl, ?_, fun o ho => ?_⟩
    · by_cases h0 : len = 0
      · left; subst h0; rfl
      · right
        obtain ⟨b, off, hb⟩ : ∃ b off, y = ⟨b, off, none⟩ := by
          obtain ⟨_, hlen7, hc7⟩ := World.cells?_some (hO 0 (by omega)).1
          have h1 := hc7 0 (by omega)
          obtain ⟨b, off, s⟩ := y
          have h2 : W.cell? (⟨b, off, s⟩ : Addr) = some (.bool (O 0).doSeal) := by simpa [Addr.add, OpM.cells] using h1
          have hspot : s = none := World.cell?_spot h2
          exact ⟨b, off, by rw [hspot]⟩
        subst hb
        refine ⟨b, off, rfl, fun k hk j v hv => ?_⟩
        simp at hk
        obtain ⟨_, hlen7, hc7⟩ := World.cells?_some (hO k hk).1
        have hv' : (O k).cells[j]? = some v := by simpa using hv
        have hj : j < 7 := by have := (List.getElem?_eq_some_iff.1 hv').1; simp [OpM.cells] at this; omega
        have h1 := hc7 j hj
        rw [Addr.add_mid, Addr.add_mid, hv'] at h1
        exact h1
    · obtain ⟨i, hi, rfl⟩ := List.mem_map.1 ho
      exact (hO i (List.mem_range.1 hi)).2
/-- One of the things to be sealed. -/
structure ThingM where
  key : List (BitVec 8)
  nonce : List (BitVec 8)
  hp : Option Addr
  hc : Nat
  head : List (BitVec 8)
  tp : Option Addr
  tc : Nat
  plain : List (BitVec 8)
instance : Inhabited ThingM := ⟨⟨[], [], none, 0, [], none, 0, []⟩⟩
def ThingM.cells (t : ThingM) : List Value := bytesV t.key ++ (bytesV t.nonce ++ [.slice t.hp t.head.length t.hc, .slice t.tp t.plain.length t.tc])
structure ThingM.Ok (W : World) (t : ThingM) : Prop where
  key : t.key.length = 32
  nonce : t.nonce.length = 12
  head : Lies W t.hp t.head
  plain : Lies W t.tp t.plain
  hcap : t.head.length ≤ t.hc
  tcap : t.plain.length ≤ t.tc
theorem ThingM.cells_length {t : ThingM} (h1 : t.key.length = 32) (h2 : t.nonce.length = 12) : t.cells.length = 46 := by simp [ThingM.cells, bytesV_length, h1, h2]
theorem open_thing {H : Type} {enc : TypeId × Value → H} {W : World} {fuel : Nat} {cs : List Value} {x : DataW H × List MemPlace} (h : DataW.trod enc Try.prog W 0 (fun _ => true) true fuel 50 cs = some x) :
    ∃ t : ThingM, cs = t.cells ∧ t.Ok W := by
  obtain ⟨xs, n, _, rfl, hl, hlen, hf⟩ := DataW.trod_struct Try.underlying50 h
  have c46 : Try.prog.cellsOf 50 = 46 := by kernel_rfl
  have ck : Try.prog.cellsOf 38 = 32 := by kernel_rfl
  have cn : Try.prog.cellsOf 40 = 12 := by kernel_rfl
  have cb : Try.prog.cellsOf 22 = 1 := by kernel_rfl
  rw [c46] at hl
  obtain ⟨y0, y1, y2, y3, rfl⟩ : ∃ y0 y1 y2 y3, xs = [y0, y1, y2, y3] := by
    match xs, hlen with
    | [a, b, c, d], _ => exact ⟨a, b, c, d, rfl⟩
  have h0 : DataW.trod enc Try.prog W 0 (fun _ => true) true n 38 ((cs.drop 0).take (Try.prog.cellsOf 38)) = some y0 := hf 0 _ rfl
  have h1 : DataW.trod enc Try.prog W 0 (fun _ => true) true n 40 ((cs.drop 32).take (Try.prog.cellsOf 40)) = some y1 := hf 1 _ rfl
  have h2 : DataW.trod enc Try.prog W 0 (fun _ => true) true n 22 ((cs.drop 44).take (Try.prog.cellsOf 22)) = some y2 := hf 2 _ rfl
  have h3 : DataW.trod enc Try.prog W 0 (fun _ => true) true n 22 ((cs.drop 45).take (Try.prog.cellsOf 22)) = some y3 := hf 3 _ rfl
  rw [ck] at h0
  rw [cn] at h1
  rw [cb] at h2 h3
  obtain ⟨key, k1, k2⟩ := open_key h0
  obtain ⟨nonce, n1, n2⟩ := open_nonce h1
  obtain ⟨v2, e2⟩ : ∃ v, (cs.drop 44).take 1 = [v] := ⟨cs[44]'(by omega), by rw [List.drop_eq_getElem_cons (by omega)]; rfl⟩
  obtain ⟨v3, e3⟩ : ∃ v, (cs.drop 45).take 1 = [v] := ⟨cs[45]'(by omega), by rw [List.drop_eq_getElem_cons (by omega)]; rfl⟩
  have hcs : cs = (cs.drop 0).take 32 ++ ((cs.drop 32).take 12 ++ ((cs.drop 44).take 1 ++ (cs.drop 45).take 1)) := by
    have a3 : (cs.drop 45).take 1 = cs.drop 45 := List.take_of_length_le (by rw [List.length_drop]; omega)
    have a2 : (cs.drop 44).take 1 ++ cs.drop 45 = cs.drop 44 := by have := List.take_append_drop 1 (cs.drop 44); rwa [List.drop_drop] at this
    have a1 : (cs.drop 32).take 12 ++ cs.drop 44 = cs.drop 32 := by have := List.take_append_drop 12 (cs.drop 32); rwa [List.drop_drop] at this
    rw [a3, a2, a1, List.drop_zero, List.take_append_drop]
  have g2 : DataW.trod enc Try.prog W 0 (fun _ => true) true n 22 [v2] = some y2 := by rw [← e2]; exact h2
  have g3 : DataW.trod enc Try.prog W 0 (fun _ => true) true n 22 [v3] = some y3 := by rw [← e3]; exact h3
  obtain ⟨a3, c3', bs3, rfl, l3, L3⟩ := open_bytes1 g2
  obtain ⟨a4, c4', bs4, rfl, l4, L4⟩ := open_bytes1 g3
  refine ⟨⟨key, nonce, a3, c3', bs3, a4, c4', bs4⟩, ?_, ⟨k1, n1, L3, L4, l3, l4⟩⟩
  have k2' : (cs.drop 0).take 32 = bytesV key := k2
  have n2' : (cs.drop 32).take 12 = bytesV nonce := n2
  rw [hcs, k2', n2', e2, e3]
  rfl
/-- The things to be sealed. -/
theorem open_things {H : Type} {enc : TypeId × Value → H} {W : World} {fuel : Nat} {a : Option Addr} {len cap : Nat} {x : DataW H × List MemPlace}
    (h : DataW.trod enc Try.prog W 0 (fun _ => true) true fuel 46 (Value.cells (.slice a len cap)).toList = some x) :
    ∃ ts : List ThingM, ts.length = len ∧ len ≤ cap ∧ (ts = [] ∨ ∃ b off, a = some ⟨b, off, none⟩ ∧ ∀ k (h : k < ts.length), W.rangeAt b (off + k * 46) ts[k].cells) ∧ ∀ t ∈ ts, t.Ok W := by
  have c46 : Try.prog.cellsOf 50 = 46 := by kernel_rfl
  rcases open_slice Try.underlying46 h with ⟨hcs, _⟩ | ⟨y, l, c, m, n, D, Pl, hcs, _, hl, hm, hmm, _, hx⟩
  · simp [Value.cells] at hcs
    obtain ⟨rfl, rfl, rfl⟩ := hcs
    exact ⟨[], rfl, Nat.le_refl _, .inl rfl, by simp⟩
  · simp [Value.cells] at hcs
    obtain ⟨rfl, rfl, rfl⟩ := hcs
    simp only [if_true] at hmm
    rw [c46] at hx
    obtain ⟨O, hO⟩ := choose_lt (α := ThingM) (n := len) (p := fun i o => W.cells? 0 (y.add (i * 46)) 46 = some o.cells ∧ o.Ok W) (fun i hi => by
      obtain ⟨cs', h1, h2⟩ := hx i (by omega)
      obtain ⟨o, rfl, ho⟩ := open_thing h2
      exact ⟨o, h1, ho⟩)
    refine ⟨(List.range len).map O, by simp, hl, ?_, fun o ho => ?_⟩
    · by_cases h0 : len = 0
      · left; subst h0; rfl
      · right
        obtain ⟨b, off, hb⟩ : ∃ b off, y = ⟨b, off, none⟩ := by
          obtain ⟨_, hlen7, hc7⟩ := World.cells?_some (hO 0 (by omega)).1
          have h1 := hc7 0 (by omega)
          obtain ⟨b, off, s⟩ := y
          obtain ⟨v, hv⟩ : ∃ v, (O 0).cells[0]? = some v := ⟨(O 0).cells[0]'(by omega), List.getElem?_eq_getElem (by omega)⟩
          rw [hv] at h1
          have h2 : W.cell? (⟨b, off, s⟩ : Addr) = some v := by simpa [Addr.add] using h1
          have hspot : s = none := World.cell?_spot h2
          exact ⟨b, off, by rw [hspot]⟩
        subst hb
        refine ⟨b, off, rfl, fun k hk j v hv => ?_⟩
        simp at hk
        obtain ⟨_, hlen7, hc7⟩ := World.cells?_some (hO k hk).1
        have hv' : (O k).cells[j]? = some v := by simpa using hv
        have hj : j < 46 := by have := (List.getElem?_eq_some_iff.1 hv').1; omega
        have h1 := hc7 j hj
        rw [Addr.add_mid, Addr.add_mid, hv'] at h1
        exact h1
    · obtain ⟨i, hi, rfl⟩ := List.mem_map.1 ho
      exact (hO i (List.mem_range.1 hi)).2
end Go.Proofs.Ytacgkfngpeieaaa

/-
  The things that are to be sealed, as they lie in memory; the statements' great.
-/
namespace Go.Proofs.Ytacgkfngpeieaaa
open Go.RowKit Go.Proofs.ShaWords
/-- The things lie there. -/
def ThingsAt (w : World) (a : Option Addr) (ts : List ThingM) : Prop := ts = [] ∨ ∃ b off, a = some ⟨b, off, none⟩ ∧ ∀ k (h : k < ts.length), w.rangeAt b (off + k * 46) ts[k].cells
theorem range_below {w w' : World} {b off : Nat} {l : List Value} (h : w.rangeAt b off l) (hb : Below w.heap.size w w') : w'.rangeAt b off l := range_keep h hb
theorem ThingsAt.below {w w' : World} {a : Option Addr} {ts : List ThingM} (h : ThingsAt w a ts) (hb : Below w.heap.size w w') : ThingsAt w' a ts := by
  rcases h with h0 | ⟨b, off, e, h⟩
  · exact Or.inl h0
  · exact Or.inr ⟨b, off, e, fun k hk => range_below (h k hk) hb⟩
theorem ThingM.Ok.below {w w' : World} {t : ThingM} (h : t.Ok w) (hb : Below w.heap.size w w') : t.Ok w' := ⟨h.key, h.nonce, h.head.below hb, h.plain.below hb, h.hcap, h.tcap⟩
/-- The parts of one. -/
theorem ThingM.parts {w : World} {t : ThingM} {b o : Nat} (hr : w.rangeAt b o t.cells) (hk : t.key.length = 32) (hn : t.nonce.length = 12) :
    w.rangeAt b (o + 0) (bytesV t.key) ∧ w.rangeAt b (o + 32) (bytesV t.nonce) ∧ w.cell? ⟨b, o + 44, none⟩ = some (.slice t.hp t.head.length t.hc) ∧ w.cell? ⟨b, o + 45, none⟩ = some (.slice t.tp t.plain.length t.tc) := by
  refine ⟨fun j u hu => ?_, fun j u hu => ?_, ?_, ?_⟩
  · rw [Nat.add_zero]
    refine hr j u ?_
    rw [ThingM.cells, List.getElem?_append_left (List.getElem?_eq_some_iff.1 hu).1]; exact hu
  · rw [Nat.add_assoc]
    refine hr (32 + j) u ?_
    rw [ThingM.cells, List.getElem?_append_right (by rw [bytesV_length, hk]; omega), bytesV_length, hk, Nat.add_sub_cancel_left, List.getElem?_append_left (List.getElem?_eq_some_iff.1 hu).1]; exact hu
  · refine hr 44 _ ?_
    rw [ThingM.cells, List.getElem?_append_right (by rw [bytesV_length, hk]; omega), bytesV_length, hk, List.getElem?_append_right (by rw [bytesV_length, hn]; omega), bytesV_length, hn]; rfl
  · refine hr 45 _ ?_
    rw [ThingM.cells, List.getElem?_append_right (by rw [bytesV_length, hk]; omega), bytesV_length, hk, List.getElem?_append_right (by rw [bytesV_length, hn]; omega), bytesV_length, hn]; rfl
/-- Few enough, and short enough. -/
def Slight (ts : List ThingM) : Prop := ts.length ≤ 40 ∧ ∀ t ∈ ts, t.head.length ≤ 1024 ∧ t.plain.length ≤ 1024
/-- What great says. -/
def Greats (ts : List ThingM) (e : Ending) : Prop := ∃ g, e = .returned (.bool g) ∧ (g = false → Slight ts)
set_option maxRecDepth 100000 in
set_option maxHeartbeats 1000000 in
theorem great_any (ts : List ThingM) (n : Nat) (a : Option Addr) (c : Nat) (w : World) (hn : ts.length = n) (ha : ThingsAt w a ts) (hok : ∀ t ∈ ts, t.Ok w) :
    Calls Try.prog 19 #[.slice a n c] w fun e w' => Greats ts e ∧ w = w' := by
  have HA := Lib.hid ha; clear ha
  have HOK := Lib.hid hok; clear hok
  have HN := Lib.hid hn
  by_cases h40 : 40 < n
  · have q0 : (40 : Int) < (n : Int) := by omega
    go_enter Try.func19, Try.ntmps19
    go_wp2_with fail
    go_ret
    exact ⟨⟨_, rfl, fun h => by cases h⟩, rfl⟩
  · have q0 : ¬ (40 : Int) < (n : Int) := by omega
    go_enter Try.func19, Try.ntmps19
    go_wp2_with fail
    go_loopw [3] (fun i wr => ∃ k : Nat, k ≤ n ∧ i = .int .i64 (k : Int) ∧ (∀ t ∈ ts.take k, t.head.length ≤ 1024 ∧ t.plain.length ≤ 1024) ∧ wr = w) (fun i _ => n - (intOf i).toNat)
    case atStart => exact ⟨0, by omega, rfl, by simp, rfl⟩
    case round =>
      obtain ⟨k, hk, rfl, hs, rfl⟩ := hrel
      have HS := Lib.hid hs; clear hs
      by_cases hlt : k < n
      · have q1 : (k : Int) < (n : Int) := by omega
        have hkt : k < ts.length := by omega
        rcases HA.out with h0 | ⟨b, off, rfl, hr⟩
        · exfalso; rw [h0] at hkt; simp at hkt
        · obtain ⟨t, ht⟩ : ∃ t, t = ts[k] := ⟨_, rfl⟩
          have hok := HOK.out ts[k] (List.getElem_mem _)
          have hp := ThingM.parts (hr k hkt) hok.key hok.nonce
          rw [← ht] at hp
          have e44 := hp.2.2.1
          have e45 := hp.2.2.2
          have HTK : Hid (ts.take (k + 1) = ts.take k ++ [t]) := show _ = _ by rw [ht]; exact List.take_succ_eq_append_getElem hkt
          clear hok hp hr ht HOK
          generalize hhl : t.head.length = hl at e44
          generalize hpl : t.plain.length = pl at e45
          by_cases h1 : 1024 < hl
          · have q2 : (1024 : Int) < (hl : Int) := by omega
            go_wp2_with fail
            go_ret
            exact ⟨⟨_, rfl, fun h => by cases h⟩, rfl⟩
          · have q2 : ¬ (1024 : Int) < (hl : Int) := by omega
            by_cases h2 : 1024 < pl
            · have q3 : (1024 : Int) < (pl : Int) := by omega
              go_wp2_with fail
              go_ret
              exact ⟨⟨_, rfl, fun h => by cases h⟩, rfl⟩
            · have q3 : ¬ (1024 : Int) < (pl : Int) := by omega
              go_wp2_with fail
              go_roundw
              case rel =>
                refine ⟨k + 1, by omega, by go_num, fun x hx => ?_, trivial⟩
                rw [HTK.out] at hx
                rcases List.mem_append.1 hx with hx | hx
                · exact HS.out x hx
                · rw [List.mem_singleton.1 hx]; omega
              case measure => simp [intOf]; omega
      · have q1 : ¬ (k : Int) < (n : Int) := by omega
        have HTK : Hid (ts.take k = ts) := show _ = _ from List.take_of_length_le (by omega)
        go_wp2_with fail
        go_ret
        refine ⟨⟨_, rfl, fun _ => ⟨by omega, fun t ht => HS.out t (by rw [HTK.out]; exact ht)⟩⟩, rfl⟩
end Go.Proofs.Ytacgkfngpeieaaa

/-
  The statements' all: each of the things, sealed by the program's box.
-/
namespace Go.Proofs.Ytacgkfngpeieaaa
open Go.RowKit Go.Proofs.ShaWords
section
variable {ρ : Operand → Value} {o : Oper} {x y : Operand}
theorem run_ixThing {b off n c i : Nat} (ho : o.op = .indexAddr 46 x y) (hx : ρ x = .slice (some ⟨b, off, none⟩) n c) (hy : ρ y = .int .i64 (i : Int)) (hi : i < n) (w : World) :
    (execOp ρ o).run Try.prog w = .ok (.value (.pointer (some ⟨b, off + i * 46, none⟩))) w := by
  obtain ⟨dst, op, ty', pos, after, guard⟩ := o
  simp only at ho
  subst ho
  have q : (i : Int) < (n : Int) := by omega
  go_simp
theorem run_fieldThing0 {b off : Nat} (ho : o.op = .fieldAddr 50 x 0) (hx : ρ x = .pointer (some ⟨b, off, none⟩)) (w : World) : (execOp ρ o).run Try.prog w = .ok (.value (.pointer (some ⟨b, off + 0, none⟩))) w := by
  obtain ⟨dst, op, ty', pos, after, guard⟩ := o
  simp only at ho
  subst ho
  go_simp
theorem run_fieldThing1 {b off : Nat} (ho : o.op = .fieldAddr 50 x 1) (hx : ρ x = .pointer (some ⟨b, off, none⟩)) (w : World) : (execOp ρ o).run Try.prog w = .ok (.value (.pointer (some ⟨b, off + 32, none⟩))) w := by
  obtain ⟨dst, op, ty', pos, after, guard⟩ := o
  simp only at ho
  subst ho
  go_simp
theorem run_fieldThing2 {b off : Nat} (ho : o.op = .fieldAddr 50 x 2) (hx : ρ x = .pointer (some ⟨b, off, none⟩)) (w : World) : (execOp ρ o).run Try.prog w = .ok (.value (.pointer (some ⟨b, off + 44, none⟩))) w := by
  obtain ⟨dst, op, ty', pos, after, guard⟩ := o
  simp only at ho
  subst ho
  go_simp
theorem run_fieldThing3 {b off : Nat} (ho : o.op = .fieldAddr 50 x 3) (hx : ρ x = .pointer (some ⟨b, off, none⟩)) (w : World) : (execOp ρ o).run Try.prog w = .ok (.value (.pointer (some ⟨b, off + 45, none⟩))) w := by
  obtain ⟨dst, op, ty', pos, after, guard⟩ := o
  simp only at ho
  subst ho
  go_simp
theorem run_loadKeyT {w : World} {l : List (BitVec 8)} {b off : Nat} (ho : o.op = .load 38 x) (hx : ρ x = .pointer (some ⟨b, off, none⟩)) (hl : l.length = 32) (hr : w.rangeAt b off (bytesV l)) : (execOp ρ o).run Try.prog w = .ok (.value (.agg (bytesV l).toArray)) w :=
  run_loadArr ho hx Try.underlying38 (by rw [bytesV_length, hl]; kernel_rfl) hr
theorem run_loadNonceT {w : World} {l : List (BitVec 8)} {b off : Nat} (ho : o.op = .load 40 x) (hx : ρ x = .pointer (some ⟨b, off, none⟩)) (hl : l.length = 12) (hr : w.rangeAt b off (bytesV l)) : (execOp ρ o).run Try.prog w = .ok (.value (.agg (bytesV l).toArray)) w :=
  run_loadArr ho hx Try.underlying40 (by rw [bytesV_length, hl]; kernel_rfl) hr
theorem run_loadSlT {w : World} {a : Addr} {p : Option Addr} {n c : Nat} (ho : o.op = .load 22 x) (hx : ρ x = .pointer (some a)) (hc : w.cell? a = some (.slice p n c)) : (execOp ρ o).run Try.prog w = .ok (.value (.slice p n c)) w := by
  obtain ⟨dst, op, ty', pos, after, guard⟩ := o
  simp only at ho
  subst ho
  go_simp
end
/-- What things are sealed as, of their lengths alone: from the d-th byte of the list and the n-th row on. -/
def allOf (l : List (BitVec 8)) : Nat → Nat → List Nat → List (List (BitVec 8))
  | _, _, [] => []
  | d, n, m :: ms => boxOf l d n m :: allOf l (d + (8 + m)) (n + 1) ms
/-- How many bytes are drawn behind them; their rows. -/
def allD : Nat → List Nat → Nat
  | d, [] => d
  | d, m :: ms => allD (d + (8 + m)) ms
def allA (l : List (BitVec 8)) : Nat → Nat → List ThingM → List RowA
  | _, _, [] => []
  | d, n, t :: ts => ⟨t.key, t.nonce, t.head, t.plain, boxOf l d n t.plain.length⟩ :: allA l (d + (8 + t.plain.length)) (n + 1) ts
def lens (ts : List ThingM) : List Nat := ts.map (·.plain.length)
theorem lens_length (ts : List ThingM) : (lens ts).length = ts.length := by simp [lens]
theorem lens_snoc (ts : List ThingM) (t : ThingM) : lens (ts ++ [t]) = lens ts ++ [t.plain.length] := by simp [lens]
theorem allOf_snoc (l : List (BitVec 8)) : ∀ (ms : List Nat) (d n m : Nat), allOf l d n (ms ++ [m]) = allOf l d n ms ++ [boxOf l (allD d ms) (n + ms.length) m]
  | [], d, n, m => rfl
  | x :: ms, d, n, m => by
    rw [List.cons_append, allOf, allOf_snoc l ms, allOf, allD, List.cons_append, List.length_cons]
    rw [show n + 1 + ms.length = n + (ms.length + 1) by omega]
theorem allD_snoc : ∀ (ms : List Nat) (d m : Nat), allD d (ms ++ [m]) = allD d ms + (8 + m)
  | [], _, _ => rfl
  | x :: ms, d, m => by rw [List.cons_append, allD, allD_snoc ms, allD]
theorem allA_snoc (l : List (BitVec 8)) : ∀ (ts : List ThingM) (d n : Nat) (t : ThingM), allA l d n (ts ++ [t]) = allA l d n ts ++ [⟨t.key, t.nonce, t.head, t.plain, boxOf l (allD d (lens ts)) (n + ts.length) t.plain.length⟩]
  | [], d, n, t => rfl
  | x :: ts, d, n, t => by
    rw [List.cons_append, allA, allA_snoc l ts, allA, List.cons_append, List.length_cons]
    rw [show n + 1 + ts.length = n + (ts.length + 1) by omega]
    rfl
theorem allOf_length (l : List (BitVec 8)) : ∀ (ms : List Nat) (d n : Nat), (allOf l d n ms).length = ms.length
  | [], _, _ => rfl
  | m :: ms, d, n => by rw [allOf, List.length_cons, allOf_length l ms, List.length_cons]
theorem allA_length (l : List (BitVec 8)) : ∀ (ts : List ThingM) (d n : Nat), (allA l d n ts).length = ts.length
  | [], _, _ => rfl
  | t :: ts, d, n => by rw [allA, List.length_cons, allA_length l ts, List.length_cons]
/-- Few enough, and what is sealed is short enough. -/
def Modest (ts : List ThingM) : Prop := ts.length ≤ 40 ∧ ∀ t ∈ ts, t.head.length < 140737488355328 ∧ t.plain.length ≤ 1024
theorem Slight.modest {ts : List ThingM} (h : Slight ts) : Modest ts := ⟨h.1, fun t ht => by have := h.2 t ht; omega⟩
/-- What all answers. -/
def AllPost (S : Nat → Prop) (v : Value) (d : Nat) (l : List (BitVec 8)) (A : List RowA) (ts : List ThingM) (w : World) (e : Ending) (w' : World) : Prop := ∃ u vs S' D, e = .returned u ∧ CodeBox S' w' v l (allD d (lens ts)) (A ++ allA l d A.length ts) ∧ (∀ k, S' k → S k ∨ w.heap.size ≤ k) ∧ NestL D w' u vs (allOf l d A.length (lens ts)) ∧ (∀ k, D k ∨ u.ownBlock = some k → w.heap.size ≤ k ∧ ¬ S' k) ∧ Stays S w w'
attribute [local irreducible] boxOf allOf allD allA lens
set_option maxRecDepth 100000 in
set_option maxHeartbeats 4000000 in
theorem all_any (S : Nat → Prop) (v : Value) (d : Nat) (l : List (BitVec 8)) (A : List RowA) (ts : List ThingM) (n : Nat) (a : Option Addr) (c : Nat) (w : World) (hn : ts.length = n) (hs : Modest ts) (hl : l.length < 140737488355328) (hA : A.length ≤ 100)
    (hkeep : ∀ w', Stays S w w' → ThingsAt w' a ts ∧ ∀ t ∈ ts, t.Ok w') (hB : CodeBox S w v l d A) :
    Calls Try.prog 20 #[v, .slice a n c] w (AllPost S v d l A ts w) := by
  have HN := Lib.hid hn
  have HKP := Lib.hid hkeep; clear hkeep
  have HS := Lib.hid hs; clear hs
  have HLL := Lib.hid hl; clear hl
  have h40 : n ≤ 40 := by have := HS.out.1; omega
  have HB := Lib.hid hB; clear hB
  have H0 : Hid (ts.take 0 = []) := show _ = _ from rfl
  go_enter Try.func20, Try.ntmps20
  go_wp2_with fail
  go_loopw [5, 6] (fun u i wr => ∃ (k : Nat) (vs : List Value) (S' D : Nat → Prop), k ≤ n ∧ i = .int .i64 (k : Int) ∧ CodeBox S' wr v l (allD d (lens (ts.take k))) (A ++ allA l d A.length (ts.take k)) ∧ (∀ k, S' k → S k ∨ w.heap.size ≤ k) ∧ NestL D wr u vs (allOf l d A.length (lens (ts.take k))) ∧ (∀ k, D k ∨ u.ownBlock = some k → w.heap.size ≤ k ∧ ¬ S' k) ∧ Stays S w wr) (fun _ i _ => n - (intOf i).toNat)
  case atStart =>
    refine ⟨0, [], S, fun _ => False, by omega, rfl, ?_, fun k h => Or.inl h, ?_, ?_, Stays.refl _ _⟩
    · have e1 : allD d (lens (ts.take 0)) = d := by rw [H0.out]; unfold lens allD; rfl
      have e2 : A ++ allA l d A.length (ts.take 0) = A := by rw [H0.out]; unfold allA; exact List.append_nil _
      rw [e1, e2]; exact HB.out
    · have e1 : allOf l d A.length (lens (ts.take 0)) = [] := by rw [H0.out]; unfold lens allOf; rfl
      rw [e1]; exact NestL.nil _
    · simp [Value.ownBlock]
  case round =>
    clear HB
    obtain ⟨k, vs, S1, D1, hk, rfl, hcb, hS1, hnl, hD1, hst⟩ := hrel
    have HX := Lib.hid hcb; clear hcb
    have HS1 := Lib.hid hS1; clear hS1
    have HNL := Lib.hid hnl; clear hnl
    have HD1 := Lib.hid hD1; clear hD1
    have HST := Lib.hid hst; clear hst
    by_cases hlt : k < n
    · have q1 : (k : Int) < (n : Int) := by omega
      have hkt : k < ts.length := by omega
      obtain ⟨t, ht⟩ : ∃ t, t = ts[k] := ⟨_, rfl⟩
      have HTK : Hid (ts.take (k + 1) = ts.take k ++ [t]) := show _ = _ by rw [ht]; exact List.take_succ_eq_append_getElem hkt
      have HTL : Hid ((ts.take k).length = k) := show _ = _ by rw [List.length_take]; omega
      have htm : t ∈ ts := by rw [ht]; exact List.getElem_mem _
      have HTS := Lib.hid (HS.out.2 t htm)
      have hdst : Stays S w wr.drew := HST.out.trans (Below.stays ((Below.refl _ _).drew)) (fun _ h _ => h)
      have hkp := HKP.out wr.drew hdst
      have HOK := Lib.hid (hkp.2 t htm)
      rcases hkp.1 with h0 | ⟨b, off, rfl, hr⟩
      · exfalso; rw [h0] at hkt; simp at hkt
      have hp := ThingM.parts (hr k hkt) (hkp.2 ts[k] (List.getElem_mem _)).key (hkp.2 ts[k] (List.getElem_mem _)).nonce
      rw [← ht] at hp
      have HPT := Lib.hid hp
      have HDST := Lib.hid hdst
      clear hp hr ht hkp htm hdst
      go_upto_region 5 with (fail)
      refine region_phase (fun _ => True) (fun wr' => wr'.rangeAt b (off + k * 46 + 0) (bytesV t.key) ∧ wr'.rangeAt b (off + k * 46 + 32) (bytesV t.nonce) ∧ wr'.cell? ⟨b, off + k * 46 + 44, none⟩ = some (.slice t.hp t.head.length t.hc) ∧ wr'.cell? ⟨b, off + k * 46 + 45, none⟩ = some (.slice t.tp t.plain.length t.tc)) 22 (trivial) HPT.out [(0, .free), (1, .free), (2, .free), (3, .free), (4, .free), (5, .free), (6, .early), (7, .free), (8, .free), (9, .free), (10, .free), (11, .early), (12, .free), (13, .free), (14, .free), (15, .free), (16, .early), (17, .free), (18, .free), (19, .free), (20, .free), (21, .early), (22, .behind), (23, .behind), (24, .behind), (25, .free)] (by kernel_rfl) (by kernel_rfl) (by kernel_rfl) (by kernel_rfl) (fun ops hops A2 hA => ?_)
      have hsz : A2.tmps.size = 39 := by rw [hA]; rfl
      have base0 : A2.eval (.tmp 0) = v := by rw [hA]; rfl
      have base1 : A2.eval (.tmp 1) = .slice (some ⟨b, off, none⟩) n c := by rw [hA]; rfl
      have base5 : A2.eval (.tmp 5) = u5 := by rw [hA]; rfl
      have base6 : A2.eval (.tmp 6) = .int .i64 (k : Int) := by rw [hA]; rfl
      have HAA := Lib.hid hA; clear hA
      obtain ⟨o0, po0, q0, d0, gd0⟩ : ∃ o, ops[0]? = some o ∧ o.op = .move (.tmp 5) ∧ o.dst = some 13 ∧ o.guard = none := ⟨_, by rw [hops]; rfl, rfl, rfl, rfl⟩
      obtain ⟨o1, po1, q1, d1, gd1⟩ : ∃ o, ops[1]? = some o ∧ o.op = .move (.tmp 0) ∧ o.dst = some 14 ∧ o.guard = none := ⟨_, by rw [hops]; rfl, rfl, rfl, rfl⟩
      obtain ⟨o2, po2, q2, d2, gd2⟩ : ∃ o, ops[2]? = some o ∧ o.op = .move (.tmp 1) ∧ o.dst = some 15 ∧ o.guard = none := ⟨_, by rw [hops]; rfl, rfl, rfl, rfl⟩
      obtain ⟨o3, po3, q3, d3, gd3⟩ : ∃ o, ops[3]? = some o ∧ o.op = .move (.tmp 6) ∧ o.dst = some 16 ∧ o.guard = none := ⟨_, by rw [hops]; rfl, rfl, rfl, rfl⟩
      obtain ⟨o4, po4, q4, d4, gd4⟩ : ∃ o, ops[4]? = some o ∧ o.op = .indexAddr 46 (.tmp 15) (.tmp 16) ∧ o.dst = some 17 ∧ o.guard = none := ⟨_, by rw [hops]; rfl, rfl, rfl, rfl⟩
      obtain ⟨o5, po5, q5, d5, gd5⟩ : ∃ o, ops[5]? = some o ∧ o.op = .fieldAddr 50 (.tmp 17) 0 ∧ o.dst = some 18 ∧ o.guard = none := ⟨_, by rw [hops]; rfl, rfl, rfl, rfl⟩
      obtain ⟨o6, po6, q6, d6, gd6⟩ : ∃ o, ops[6]? = some o ∧ o.op = .load 38 (.tmp 18) ∧ o.dst = some 19 ∧ o.guard = none := ⟨_, by rw [hops]; rfl, rfl, rfl, rfl⟩
      obtain ⟨o7, po7, q7, d7, gd7⟩ : ∃ o, ops[7]? = some o ∧ o.op = .move (.tmp 1) ∧ o.dst = some 20 ∧ o.guard = none := ⟨_, by rw [hops]; rfl, rfl, rfl, rfl⟩
      obtain ⟨o8, po8, q8, d8, gd8⟩ : ∃ o, ops[8]? = some o ∧ o.op = .move (.tmp 6) ∧ o.dst = some 21 ∧ o.guard = none := ⟨_, by rw [hops]; rfl, rfl, rfl, rfl⟩
      obtain ⟨o9, po9, q9, d9, gd9⟩ : ∃ o, ops[9]? = some o ∧ o.op = .indexAddr 46 (.tmp 20) (.tmp 21) ∧ o.dst = some 22 ∧ o.guard = none := ⟨_, by rw [hops]; rfl, rfl, rfl, rfl⟩
      obtain ⟨o10, po10, q10, d10, gd10⟩ : ∃ o, ops[10]? = some o ∧ o.op = .fieldAddr 50 (.tmp 22) 1 ∧ o.dst = some 23 ∧ o.guard = none := ⟨_, by rw [hops]; rfl, rfl, rfl, rfl⟩
      obtain ⟨o11, po11, q11, d11, gd11⟩ : ∃ o, ops[11]? = some o ∧ o.op = .load 40 (.tmp 23) ∧ o.dst = some 24 ∧ o.guard = none := ⟨_, by rw [hops]; rfl, rfl, rfl, rfl⟩
      obtain ⟨o12, po12, q12, d12, gd12⟩ : ∃ o, ops[12]? = some o ∧ o.op = .move (.tmp 1) ∧ o.dst = some 25 ∧ o.guard = none := ⟨_, by rw [hops]; rfl, rfl, rfl, rfl⟩
      obtain ⟨o13, po13, q13, d13, gd13⟩ : ∃ o, ops[13]? = some o ∧ o.op = .move (.tmp 6) ∧ o.dst = some 26 ∧ o.guard = none := ⟨_, by rw [hops]; rfl, rfl, rfl, rfl⟩
      obtain ⟨o14, po14, q14, d14, gd14⟩ : ∃ o, ops[14]? = some o ∧ o.op = .indexAddr 46 (.tmp 25) (.tmp 26) ∧ o.dst = some 27 ∧ o.guard = none := ⟨_, by rw [hops]; rfl, rfl, rfl, rfl⟩
      obtain ⟨o15, po15, q15, d15, gd15⟩ : ∃ o, ops[15]? = some o ∧ o.op = .fieldAddr 50 (.tmp 27) 2 ∧ o.dst = some 28 ∧ o.guard = none := ⟨_, by rw [hops]; rfl, rfl, rfl, rfl⟩
      obtain ⟨o16, po16, q16, d16, gd16⟩ : ∃ o, ops[16]? = some o ∧ o.op = .load 22 (.tmp 28) ∧ o.dst = some 29 ∧ o.guard = none := ⟨_, by rw [hops]; rfl, rfl, rfl, rfl⟩
      obtain ⟨o17, po17, q17, d17, gd17⟩ : ∃ o, ops[17]? = some o ∧ o.op = .move (.tmp 1) ∧ o.dst = some 30 ∧ o.guard = none := ⟨_, by rw [hops]; rfl, rfl, rfl, rfl⟩
      obtain ⟨o18, po18, q18, d18, gd18⟩ : ∃ o, ops[18]? = some o ∧ o.op = .move (.tmp 6) ∧ o.dst = some 31 ∧ o.guard = none := ⟨_, by rw [hops]; rfl, rfl, rfl, rfl⟩
      obtain ⟨o19, po19, q19, d19, gd19⟩ : ∃ o, ops[19]? = some o ∧ o.op = .indexAddr 46 (.tmp 30) (.tmp 31) ∧ o.dst = some 32 ∧ o.guard = none := ⟨_, by rw [hops]; rfl, rfl, rfl, rfl⟩
      obtain ⟨o20, po20, q20, d20, gd20⟩ : ∃ o, ops[20]? = some o ∧ o.op = .fieldAddr 50 (.tmp 32) 3 ∧ o.dst = some 33 ∧ o.guard = none := ⟨_, by rw [hops]; rfl, rfl, rfl, rfl⟩
      obtain ⟨o21, po21, q21, d21, gd21⟩ : ∃ o, ops[21]? = some o ∧ o.op = .load 22 (.tmp 33) ∧ o.dst = some 34 ∧ o.guard = none := ⟨_, by rw [hops]; rfl, rfl, rfl, rfl⟩
      obtain ⟨o22, po22, q22, d22, gd22⟩ : ∃ o, ops[22]? = some o ∧ o.op = .call { callee := .value (.func 13), args := #[.tmp 14, .tmp 19, .tmp 24, .tmp 29, .tmp 34], argTypes := #[25, 38, 40, 22, 22] } ∧ o.dst = some 35 ∧ o.guard = none := ⟨_, by rw [hops]; rfl, rfl, rfl, rfl⟩
      obtain ⟨o23, po23, q23, d23, gd23⟩ : ∃ o, ops[23]? = some o ∧ o.op = .buildSlice 33 1 #[(0, (.tmp 35))] ∧ o.dst = some 36 ∧ o.guard = none := ⟨_, by rw [hops]; rfl, rfl, rfl, rfl⟩
      obtain ⟨o24, po24, q24, d24, gd24⟩ : ∃ o, ops[24]? = some o ∧ o.op = .call { callee := .builtin .append, args := #[.tmp 13, .tmp 36], argTypes := #[33, 33] } ∧ o.dst = some 37 ∧ o.guard = none := ⟨_, by rw [hops]; rfl, rfl, rfl, rfl⟩
      obtain ⟨o25, po25, q25, d25, gd25⟩ : ∃ o, ops[25]? = some o ∧ o.op = .assign (.tmp 37) ∧ o.dst = some 5 ∧ o.guard = none := ⟨_, by rw [hops]; rfl, rfl, rfl, rfl⟩
      clear hops
      refine met_free po0 d0 (wanted_of gd0) (fun w' h' => run_move q0 base5 w') ?_
      refine met_free po1 d1 (wanted_of gd1) (fun w' h' => run_move q1 ((eval_other _ 13 0 _ (by decide)).trans base0) w') ?_
      refine met_free po2 d2 (wanted_of gd2) (fun w' h' => run_move q2 ((eval_other _ 14 1 _ (by decide)).trans ((eval_other _ 13 1 _ (by decide)).trans base1)) w') ?_
      refine met_free po3 d3 (wanted_of gd3) (fun w' h' => run_move q3 ((eval_other _ 15 6 _ (by decide)).trans ((eval_other _ 14 6 _ (by decide)).trans ((eval_other _ 13 6 _ (by decide)).trans base6))) w') ?_
      refine met_free po4 d4 (wanted_of gd4) (fun w' h' => run_ixThing q4 ((eval_other _ 16 15 _ (by decide)).trans (eval_same _ _ _ (by simp only [put_size, hsz]; decide))) (eval_same _ _ _ (by simp only [put_size, hsz]; decide)) hlt w') ?_
      refine met_free po5 d5 (wanted_of gd5) (fun w' h' => run_fieldThing0 q5 (eval_same _ _ _ (by simp only [put_size, hsz]; decide)) w') ?_
      refine met_early po6 d6 (wanted_of gd6) (fun w' h' hE' => run_loadKeyT q6 (eval_same _ _ _ (by simp only [put_size, hsz]; decide)) HOK.out.key hE'.1) ?_
      refine met_free po7 d7 (wanted_of gd7) (fun w' h' => run_move q7 ((eval_other _ 19 1 _ (by decide)).trans ((eval_other _ 18 1 _ (by decide)).trans ((eval_other _ 17 1 _ (by decide)).trans ((eval_other _ 16 1 _ (by decide)).trans ((eval_other _ 15 1 _ (by decide)).trans ((eval_other _ 14 1 _ (by decide)).trans ((eval_other _ 13 1 _ (by decide)).trans base1))))))) w') ?_
      refine met_free po8 d8 (wanted_of gd8) (fun w' h' => run_move q8 ((eval_other _ 20 6 _ (by decide)).trans ((eval_other _ 19 6 _ (by decide)).trans ((eval_other _ 18 6 _ (by decide)).trans ((eval_other _ 17 6 _ (by decide)).trans ((eval_other _ 16 6 _ (by decide)).trans ((eval_other _ 15 6 _ (by decide)).trans ((eval_other _ 14 6 _ (by decide)).trans ((eval_other _ 13 6 _ (by decide)).trans base6)))))))) w') ?_
      refine met_free po9 d9 (wanted_of gd9) (fun w' h' => run_ixThing q9 ((eval_other _ 21 20 _ (by decide)).trans (eval_same _ _ _ (by simp only [put_size, hsz]; decide))) (eval_same _ _ _ (by simp only [put_size, hsz]; decide)) hlt w') ?_
      refine met_free po10 d10 (wanted_of gd10) (fun w' h' => run_fieldThing1 q10 (eval_same _ _ _ (by simp only [put_size, hsz]; decide)) w') ?_
      refine met_early po11 d11 (wanted_of gd11) (fun w' h' hE' => run_loadNonceT q11 (eval_same _ _ _ (by simp only [put_size, hsz]; decide)) HOK.out.nonce hE'.2.1) ?_
      refine met_free po12 d12 (wanted_of gd12) (fun w' h' => run_move q12 ((eval_other _ 24 1 _ (by decide)).trans ((eval_other _ 23 1 _ (by decide)).trans ((eval_other _ 22 1 _ (by decide)).trans ((eval_other _ 21 1 _ (by decide)).trans ((eval_other _ 20 1 _ (by decide)).trans ((eval_other _ 19 1 _ (by decide)).trans ((eval_other _ 18 1 _ (by decide)).trans ((eval_other _ 17 1 _ (by decide)).trans ((eval_other _ 16 1 _ (by decide)).trans ((eval_other _ 15 1 _ (by decide)).trans ((eval_other _ 14 1 _ (by decide)).trans ((eval_other _ 13 1 _ (by decide)).trans base1)))))))))))) w') ?_
      refine met_free po13 d13 (wanted_of gd13) (fun w' h' => run_move q13 ((eval_other _ 25 6 _ (by decide)).trans ((eval_other _ 24 6 _ (by decide)).trans ((eval_other _ 23 6 _ (by decide)).trans ((eval_other _ 22 6 _ (by decide)).trans ((eval_other _ 21 6 _ (by decide)).trans ((eval_other _ 20 6 _ (by decide)).trans ((eval_other _ 19 6 _ (by decide)).trans ((eval_other _ 18 6 _ (by decide)).trans ((eval_other _ 17 6 _ (by decide)).trans ((eval_other _ 16 6 _ (by decide)).trans ((eval_other _ 15 6 _ (by decide)).trans ((eval_other _ 14 6 _ (by decide)).trans ((eval_other _ 13 6 _ (by decide)).trans base6))))))))))))) w') ?_
      refine met_free po14 d14 (wanted_of gd14) (fun w' h' => run_ixThing q14 ((eval_other _ 26 25 _ (by decide)).trans (eval_same _ _ _ (by simp only [put_size, hsz]; decide))) (eval_same _ _ _ (by simp only [put_size, hsz]; decide)) hlt w') ?_
      refine met_free po15 d15 (wanted_of gd15) (fun w' h' => run_fieldThing2 q15 (eval_same _ _ _ (by simp only [put_size, hsz]; decide)) w') ?_
      refine met_early po16 d16 (wanted_of gd16) (fun w' h' hE' => run_loadSlT q16 (eval_same _ _ _ (by simp only [put_size, hsz]; decide)) hE'.2.2.1) ?_
      refine met_free po17 d17 (wanted_of gd17) (fun w' h' => run_move q17 ((eval_other _ 29 1 _ (by decide)).trans ((eval_other _ 28 1 _ (by decide)).trans ((eval_other _ 27 1 _ (by decide)).trans ((eval_other _ 26 1 _ (by decide)).trans ((eval_other _ 25 1 _ (by decide)).trans ((eval_other _ 24 1 _ (by decide)).trans ((eval_other _ 23 1 _ (by decide)).trans ((eval_other _ 22 1 _ (by decide)).trans ((eval_other _ 21 1 _ (by decide)).trans ((eval_other _ 20 1 _ (by decide)).trans ((eval_other _ 19 1 _ (by decide)).trans ((eval_other _ 18 1 _ (by decide)).trans ((eval_other _ 17 1 _ (by decide)).trans ((eval_other _ 16 1 _ (by decide)).trans ((eval_other _ 15 1 _ (by decide)).trans ((eval_other _ 14 1 _ (by decide)).trans ((eval_other _ 13 1 _ (by decide)).trans base1))))))))))))))))) w') ?_
      refine met_free po18 d18 (wanted_of gd18) (fun w' h' => run_move q18 ((eval_other _ 30 6 _ (by decide)).trans ((eval_other _ 29 6 _ (by decide)).trans ((eval_other _ 28 6 _ (by decide)).trans ((eval_other _ 27 6 _ (by decide)).trans ((eval_other _ 26 6 _ (by decide)).trans ((eval_other _ 25 6 _ (by decide)).trans ((eval_other _ 24 6 _ (by decide)).trans ((eval_other _ 23 6 _ (by decide)).trans ((eval_other _ 22 6 _ (by decide)).trans ((eval_other _ 21 6 _ (by decide)).trans ((eval_other _ 20 6 _ (by decide)).trans ((eval_other _ 19 6 _ (by decide)).trans ((eval_other _ 18 6 _ (by decide)).trans ((eval_other _ 17 6 _ (by decide)).trans ((eval_other _ 16 6 _ (by decide)).trans ((eval_other _ 15 6 _ (by decide)).trans ((eval_other _ 14 6 _ (by decide)).trans ((eval_other _ 13 6 _ (by decide)).trans base6)))))))))))))))))) w') ?_
      refine met_free po19 d19 (wanted_of gd19) (fun w' h' => run_ixThing q19 ((eval_other _ 31 30 _ (by decide)).trans (eval_same _ _ _ (by simp only [put_size, hsz]; decide))) (eval_same _ _ _ (by simp only [put_size, hsz]; decide)) hlt w') ?_
      refine met_free po20 d20 (wanted_of gd20) (fun w' h' => run_fieldThing3 q20 (eval_same _ _ _ (by simp only [put_size, hsz]; decide)) w') ?_
      refine met_early po21 d21 (wanted_of gd21) (fun w' h' hE' => run_loadSlT q21 (eval_same _ _ _ (by simp only [put_size, hsz]; decide)) hE'.2.2.2) ?_
      refine m_enter po22 d22 (wanted_of gd22) (run_callf5 q22 rfl ((eval_other _ 34 14 _ (by decide)).trans ((eval_other _ 33 14 _ (by decide)).trans ((eval_other _ 32 14 _ (by decide)).trans ((eval_other _ 31 14 _ (by decide)).trans ((eval_other _ 30 14 _ (by decide)).trans ((eval_other _ 29 14 _ (by decide)).trans ((eval_other _ 28 14 _ (by decide)).trans ((eval_other _ 27 14 _ (by decide)).trans ((eval_other _ 26 14 _ (by decide)).trans ((eval_other _ 25 14 _ (by decide)).trans ((eval_other _ 24 14 _ (by decide)).trans ((eval_other _ 23 14 _ (by decide)).trans ((eval_other _ 22 14 _ (by decide)).trans ((eval_other _ 21 14 _ (by decide)).trans ((eval_other _ 20 14 _ (by decide)).trans ((eval_other _ 19 14 _ (by decide)).trans ((eval_other _ 18 14 _ (by decide)).trans ((eval_other _ 17 14 _ (by decide)).trans ((eval_other _ 16 14 _ (by decide)).trans ((eval_other _ 15 14 _ (by decide)).trans (eval_same _ _ _ (by simp only [put_size, hsz]; decide)))))))))))))))))))))) ((eval_other _ 34 19 _ (by decide)).trans ((eval_other _ 33 19 _ (by decide)).trans ((eval_other _ 32 19 _ (by decide)).trans ((eval_other _ 31 19 _ (by decide)).trans ((eval_other _ 30 19 _ (by decide)).trans ((eval_other _ 29 19 _ (by decide)).trans ((eval_other _ 28 19 _ (by decide)).trans ((eval_other _ 27 19 _ (by decide)).trans ((eval_other _ 26 19 _ (by decide)).trans ((eval_other _ 25 19 _ (by decide)).trans ((eval_other _ 24 19 _ (by decide)).trans ((eval_other _ 23 19 _ (by decide)).trans ((eval_other _ 22 19 _ (by decide)).trans ((eval_other _ 21 19 _ (by decide)).trans ((eval_other _ 20 19 _ (by decide)).trans (eval_same _ _ _ (by simp only [put_size, hsz]; decide))))))))))))))))) ((eval_other _ 34 24 _ (by decide)).trans ((eval_other _ 33 24 _ (by decide)).trans ((eval_other _ 32 24 _ (by decide)).trans ((eval_other _ 31 24 _ (by decide)).trans ((eval_other _ 30 24 _ (by decide)).trans ((eval_other _ 29 24 _ (by decide)).trans ((eval_other _ 28 24 _ (by decide)).trans ((eval_other _ 27 24 _ (by decide)).trans ((eval_other _ 26 24 _ (by decide)).trans ((eval_other _ 25 24 _ (by decide)).trans (eval_same _ _ _ (by simp only [put_size, hsz]; decide)))))))))))) ((eval_other _ 34 29 _ (by decide)).trans ((eval_other _ 33 29 _ (by decide)).trans ((eval_other _ 32 29 _ (by decide)).trans ((eval_other _ 31 29 _ (by decide)).trans ((eval_other _ 30 29 _ (by decide)).trans (eval_same _ _ _ (by simp only [put_size, hsz]; decide))))))) (eval_same _ _ _ (by simp only [put_size, hsz]; decide)) Try.func13 (by kernel_rfl) _) (codeSeal_any S1 v _ l t.key t.nonce t.head t.plain _ _ _ t.hp t.tp t.hc t.tc wr.drew HOK.out.key HOK.out.nonce rfl rfl (by have := HTS.out; omega) (by have := HTS.out; omega) (by rw [List.length_append, allA_length, HTL.out]; omega) HLL.out HOK.out.head HOK.out.plain (HX.out.keep (F := fun _ => False) (Below.stays ((Below.refl _ _).drew)) (fun _ h => h.elim))) ?_
      rintro e w6 ⟨u6, S6, rfl, hc6, hS6, ho6, ha6, hs6⟩
      have HC6 := Lib.hid hc6
      have HS6 := Lib.hid hS6
      have HO6 := Lib.hid ho6
      have HA6 := Lib.hid ha6
      have HT6 := Lib.hid hs6
      have hcell6 : u6.cells = #[u6] ∧ u6.oneCell' = true := by obtain ⟨p', c', e, -⟩ := ho6.lies; rw [e]; exact ⟨rfl, rfl⟩
      clear hc6 hS6 ho6 ha6 hs6
      refine ⟨_, rfl, trivial, ?_⟩
      refine m_value po23 d23 (wanted_of gd23) (run_oneSlice q23 (eval_same _ _ _ (by simp only [put_size, hsz]; decide)) hcell6.1 w6) ⟨trivial, ?_⟩
      have HB7 : Hid (Below w6.heap.size w6 (w6.alloc (.cells #[u6] 22))) := show Below _ _ _ from (Below.refl _ _).alloc (Nat.le_refl _) _
      have hc7 : (w6.alloc (.cells #[u6] 22)).heap[w6.heap.size]? = some (.cells #[u6] 22 (0, 0)) := heap_new_at rfl
      generalize w6.alloc (.cells #[u6] 22) = w7 at HB7 hc7 ⊢
      have HNL7 : Hid (NestL D1 w7 u5 vs (allOf l d A.length (lens (ts.take k)))) := show NestL _ _ _ _ _ from by
        have h1 : Stays S1 wr w7 := ((Below.stays ((Below.refl _ _).drew) : Stays S1 wr wr.drew).trans HT6.out (fun _ h _ => h)).trans (F := S1) (G := S1) (Below.stays HB7.out) (fun _ h _ => h)
        exact HNL.out.keep h1 (fun j hj => ⟨fun h => (HD1.out j (Or.inl h)).2 hj, fun h => (HD1.out j (Or.inr h)).2 hj⟩)
      obtain ⟨hv8, w8, hrun8, hrow8, hg8, hat8⟩ := run_appendSlice q24 ((eval_other _ 36 13 _ (by decide)).trans ((eval_other _ 35 13 _ (by decide)).trans ((eval_other _ 34 13 _ (by decide)).trans ((eval_other _ 33 13 _ (by decide)).trans ((eval_other _ 32 13 _ (by decide)).trans ((eval_other _ 31 13 _ (by decide)).trans ((eval_other _ 30 13 _ (by decide)).trans ((eval_other _ 29 13 _ (by decide)).trans ((eval_other _ 28 13 _ (by decide)).trans ((eval_other _ 27 13 _ (by decide)).trans ((eval_other _ 26 13 _ (by decide)).trans ((eval_other _ 25 13 _ (by decide)).trans ((eval_other _ 24 13 _ (by decide)).trans ((eval_other _ 23 13 _ (by decide)).trans ((eval_other _ 22 13 _ (by decide)).trans ((eval_other _ 21 13 _ (by decide)).trans ((eval_other _ 20 13 _ (by decide)).trans ((eval_other _ 19 13 _ (by decide)).trans ((eval_other _ 18 13 _ (by decide)).trans ((eval_other _ 17 13 _ (by decide)).trans ((eval_other _ 16 13 _ (by decide)).trans ((eval_other _ 15 13 _ (by decide)).trans ((eval_other _ 14 13 _ (by decide)).trans (eval_same _ _ _ (by rw [hsz]; decide))))))))))))))))))))))))) HNL7.out.rows (eval_same _ _ _ (by simp only [put_size, hsz]; decide)) hc7 hcell6.2 (by rw [HNL7.out.len, allOf_length, lens_length, HTL.out]; omega)
      refine m_value po24 d24 (wanted_of gd24) hrun8 ⟨trivial, ?_⟩
      refine met_free po25 d25 (wanted_of gd25) (fun w' h' => run_assign q25 (eval_same _ _ _ (by simp only [put_size, hsz]; decide)) w') ?_
      show NoPanic _ .normal _ _
      refine NoPanic.normal ?_
      rw [HAA.out]
      go_frame
      clear HAA
      clear hc7 hcell6 hrun8
      have HR8 := Lib.hid hrow8; clear hrow8
      have HG8 := Lib.hid hg8; clear hg8
      have HAT8 := Lib.hid hat8; clear hat8
      go_wp2_with fail
      go_roundw
      case rel =>
        have zr : wr.heap.size ≤ wr.drew.heap.size := ((Below.refl wr.heap.size wr).drew).size
        have z6 : wr.drew.heap.size ≤ w6.heap.size := HT6.out.size
        have z7 : w6.heap.size ≤ w7.heap.size := HB7.out.size
        have zw : w.heap.size ≤ wr.heap.size := HST.out.size
        have hu5 : ∀ j, D1 j ∨ u5.ownBlock = some j → j < wr.heap.size := fun j hj => hj.elim (HNL.out.dom j) (fun h => (World.ownsRow.lt HNL.out.rows j h).2)
        have hnS : ∀ j, D1 j ∨ u5.ownBlock = some j → ¬ S6 j := fun j hj h => by
          rcases HS6.out j h with h1 | h1
          · exact (HD1.out j hj).2 h1
          · have := hu5 j hj; omega
        have hs78 : Stays (fun j => u5.ownBlock = some j) w7 w8 := grown_stays HG8.out (fun j e => e)
        have hou : ∀ j, u6.ownBlock = some j → wr.drew.heap.size ≤ j ∧ j < w6.heap.size := fun j hj => World.ownsRow.lt HO6.out j hj
        have hv8 : ∀ j, hv8.ownBlock = some j → u5.ownBlock = some j ∨ w7.heap.size ≤ j := fun j hj => by
          rcases HAT8.out with e | e
          · exact Or.inl (e ▸ hj)
          · rw [e] at hj; have := Option.some.inj hj; exact Or.inr (by omega)
        have eA : (A ++ allA l d A.length (ts.take k)).length = A.length + (ts.take k).length := by rw [List.length_append, allA_length]
        have eL : lens (ts.take (k + 1)) = lens (ts.take k) ++ [t.plain.length] := by rw [HTK.out, lens_snoc]
        refine ⟨k + 1, vs ++ [u6], S6, fun j => D1 j ∨ u6.ownBlock = some j, by omega, by go_num, ?_, ?_, ?_, ?_, ?_⟩
        · have h := (HC6.out.keep (F := fun _ => False) (Below.stays HB7.out) (fun _ h => h.elim)).keep hs78 (fun j hj => hnS j (Or.inr hj))
          rw [eA, List.append_assoc] at h
          rw [eL, allD_snoc, HTK.out, allA_snoc]
          exact h
        · intro j hj
          rcases HS6.out j hj with h1 | h1
          · exact HS1.out j h1
          · exact Or.inr (by omega)
        · have h := HNL7.out.snoc (HO6.out.below HB7.out) (fun j hj => Nat.lt_of_lt_of_le (hu5 j hj) zr) HR8.out hs78 (fun j hj => Or.inl hj) hv8
          rw [eA] at h
          rw [eL, allOf_snoc, lens_length]
          exact h
        · intro j hj
          rcases hj with (h | h) | h
          · exact ⟨(HD1.out j (Or.inl h)).1, hnS j (Or.inl h)⟩
          · have h1 := hou j h
            exact ⟨by omega, HA6.out j h⟩
          · rcases hv8 j h with h1 | h1
            · exact ⟨(HD1.out j (Or.inr h1)).1, hnS j (Or.inr h1)⟩
            · exact ⟨by omega, fun hs => by have := HC6.out.dom j hs; omega⟩
        · have h1 : Stays S w w6 := HDST.out.trans HT6.out (fun j hj hlt => (HS1.out j hj).elim id (fun h => by omega))
          have h2 : Stays S w w7 := h1.trans (Below.stays HB7.out) (fun j hj _ => hj)
          exact h2.trans hs78 (fun j hj hlt => by have := (HD1.out j (Or.inr hj)).1; omega)
      case measure => simp [intOf]; omega
    · have q1 : ¬ (k : Int) < (n : Int) := by omega
      have HTK : Hid (ts.take k = ts) := show _ = _ from List.take_of_length_le (by omega)
      go_wp2_with fail
      go_ret
      refine ⟨_, vs, S1, D1, rfl, by rw [← HTK.out]; exact HX.out, HS1.out, by rw [← HTK.out]; exact HNL.out, HD1.out, HST.out⟩
end Go.Proofs.Ytacgkfngpeieaaa
