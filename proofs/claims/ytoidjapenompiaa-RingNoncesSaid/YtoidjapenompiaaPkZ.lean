/-
  What other texts lean on: DkCalls2, DkCrash, OpenS, OpenSW, KrOpen.
-/
import Derived.Test.YtoidjapenompiaaPkA
import Derived.Test.YtoidjapenompiaaPkY
import Derived.BigQuiet
import Derived.SizedLaws
/-
  The program's disk: Sync, Cut, Over.
-/
namespace Go.Proofs.Ytoidjapenompiaa
open Go.RowKit Go.Proofs.ShaWords
section
variable {ρ : Operand → Value} {o : Oper} {x y : Operand}
end
end Go.Proofs.Ytoidjapenompiaa

/-
  The program's disk: Crash, New, Arm. Slices of any whole numbers.
-/
namespace Go.Proofs.Ytoidjapenompiaa
open Go.RowKit Go.Proofs.ShaWords
def intsV (l : List Int) : List Value := l.map fun n => .int .i64 n
theorem intsV_length (l : List Int) : (intsV l).length = l.length := by simp [intsV]
/-- Numbers that a slice's address leads to. -/
def LiesZ (w : World) (p : Option Addr) (l : List Int) : Prop := l = [] ∨ ∃ b off, p = some ⟨b, off, none⟩ ∧ w.rangeAt b off (intsV l)
theorem LiesZ.below {w w' : World} {p : Option Addr} {l : List Int} (h : LiesZ w p l) (hb : Below w.heap.size w w') : LiesZ w' p l := by
  rcases h with h | ⟨b, off, hp, hr⟩
  · exact Or.inl h
  · exact Or.inr ⟨b, off, hp, range_keep hr hb⟩
/-- Numbers that lie in no block of S. -/
def LiesZO (S : Nat → Prop) (w : World) (p : Option Addr) (l : List Int) : Prop := l = [] ∨ ∃ b off, p = some ⟨b, off, none⟩ ∧ ¬ S b ∧ b < w.heap.size ∧ w.rangeAt b off (intsV l)
theorem LiesZO.stay {S S' : Nat → Prop} {w w' : World} {p : Option Addr} {l : List Int} (h : LiesZO S w p l) (hs : Stays S w w') (hS : ∀ k, S' k → S k ∨ w.heap.size ≤ k) : LiesZO S' w' p l := by
  rcases h with h | ⟨b, off, hp, h1, h2, hr⟩
  · exact Or.inl h
  · exact Or.inr ⟨b, off, hp, fun s => (hS b s).elim h1 (fun h => by omega), Nat.lt_of_lt_of_le h2 hs.size, range_of_block hr (hs.block b h2 h1)⟩
section
variable {ρ : Operand → Value} {o : Oper} {x y : Operand}
end
end Go.Proofs.Ytoidjapenompiaa

/-
  What came in, opened: slices of structs of any kind; slices of bytes and of whole numbers as fields.
-/
namespace Go.Proofs.Ytoidjapenompiaa
open Go.ChangeShapes Go.WideShapes Go.ChangeAt Go.RowKit Go.Proofs.ShaWords Go.Deep
/-- Things of N cells each, one behind the other. -/
structure RowOf {α : Type} (N : Nat) (cells : α → List Value) (W : World) (a : Option Addr) (os : List α) : Prop where
  at' : os = [] ∨ ∃ b off, a = some ⟨b, off, none⟩ ∧ ∀ k (h : k < os.length), W.rangeAt b (off + k * N) (cells os[k])
theorem RowOf.below {α : Type} {N : Nat} {cells : α → List Value} {w w' : World} {a : Option Addr} {os : List α} (h : RowOf N cells w a os) (hb : Below w.heap.size w w') : RowOf N cells w' a os := by
  refine ⟨?_⟩
  rcases h.at' with h0 | ⟨b, off, h1, h2⟩
  · exact Or.inl h0
  · exact Or.inr ⟨b, off, h1, fun k hk => range_keep (h2 k hk) hb⟩
set_option maxRecDepth 100000 in
/-- A field that is a slice of whole numbers. -/
theorem open_intsF {H : Type} {enc : TypeId × Value → H} {W : World} {fuel : Nat} {cs : List Value} {x : DataW H × List MemPlace} (h : DataW.trod enc Try.prog W 0 (fun _ => true) true fuel 37 cs = some x) :
    ∃ (a : Option Addr) (cap : Nat) (zs : List Int), cs = [.slice a zs.length cap] ∧ zs.length ≤ cap ∧ LiesZ W a zs ∧ ∀ n ∈ zs, (Lit.int .i64 n).wf = true := by
  rcases open_ints Try.underlying37 Try.underlying3 (by kernel_rfl) h with ⟨hcs, _⟩ | ⟨y, l, c, zs, hcs, _, hl, hm, hz, hx, hcell, hwz⟩
  · exact ⟨none, 0, [], hcs, Nat.le_refl _, Or.inl rfl, by simp⟩
  · simp only [if_true] at hz
    refine ⟨some y, c, zs.take l, by rw [hcs, List.length_take, Nat.min_eq_left (by omega)], by rw [List.length_take]; omega, ?_, fun n hn => hwz n (List.mem_of_mem_take hn)⟩
    by_cases h0 : l = 0
    · subst h0; exact Or.inl (by simp)
    · obtain ⟨b, off, s⟩ := y
      have h1 := hcell 0 (by omega)
      have hspot : s = none := by simpa [Addr.add] using World.cell?_spot h1
      subst hspot
      refine Or.inr ⟨b, off, rfl, fun j v hv => ?_⟩
      have hj : j < l := by have := (List.getElem?_eq_some_iff.1 hv).1; rw [intsV_length, List.length_take] at this; omega
      have h2 := hcell j (by omega)
      rw [Addr.add_mid] at h2
      rw [h2, ← hv]
      unfold intsV
      rw [List.getElem?_map, List.getElem?_take, if_pos hj, List.getD_eq_getElem?_getD, List.getElem?_eq_getElem (by omega)]
      rfl
end Go.Proofs.Ytoidjapenompiaa

/-
  What came in, opened, with its sizes: slices of structs of any kind; a field that is a slice of bytes.
-/
namespace Go.Proofs.Ytoidjapenompiaa
open Go.ChangeShapes Go.WideShapes Go.ChangeAt Go.RowKit Go.Proofs.ShaWords Go.Deep
end Go.Proofs.Ytoidjapenompiaa

/-
  What comes in at layer 12, opened: calls on subjects, pairs of subjects.
-/
namespace Go.Proofs.Ytoidjapenompiaa
open Go.ChangeShapes Go.WideShapes Go.ChangeAt Go.RowKit Go.Proofs.ShaWords Go.Deep
theorem wrap_wfK {n : Int} (h : (Lit.int .i64 n).wf = true) : wrap64 n = n := by
  have h1 := bounds_i64 h
  unfold wrap64
  omega
/-- A field that is a string, with its size. -/
theorem open_strF {H : Type} {enc : TypeId × Value → H} {W : World} {fuel : Nat} {cs : List Value} {x : DataW H × List MemPlace} (h : DataW.trod enc Try.prog W 0 (fun _ => true) true fuel 9 cs = some x)
    (hsz : ∀ n ∈ x.1.weights Try.prog 9, n ≤ reachBytes) : ∃ s : ByteArray, cs = [.string s] ∧ s.size ≤ 140737488351232 := by
  obtain ⟨s, hs, hx, -⟩ := DataW.trod_string Try.underlying9 h
  refine ⟨s, hs, ?_⟩
  have h1 := hsz s.data.toList.length (by
    rw [hx]
    have e : (DataW.lit (H := H) (.string s.data.toList)).weights Try.prog 9 = [s.data.toList.length] := by unfold DataW.weights; rfl
    rw [e]
    exact List.mem_singleton.2 rfl)
  unfold reachBytes at h1
  have h2 : s.size = s.data.toList.length := Array.length_toList.symm
  have h3 : (140737488351232 : Nat) = 0x7ffffffff000 := rfl
  rw [h2, h3]
  exact h1
/-- A call on a ring that came in. -/
structure Op12 where
  kind : Int
  n : Int
  t : ByteArray
  s : ByteArray
instance : Inhabited Op12 := ⟨⟨0, 0, ⟨#[]⟩, ⟨#[]⟩⟩⟩
def Op12.cells (x : Op12) : List Value := [.int .i64 x.kind, .int .i64 x.n, .string x.t, .string x.s]
structure Op12.Ok (x : Op12) : Prop where
  kw : wrap64 x.kind = x.kind
  nw : wrap64 x.n = x.n
  ts : x.t.size ≤ 140737488351232
  ss : x.s.size ≤ 140737488351232
/-- RingApart's argument. -/
structure Pair12 where
  t : ByteArray
  s : ByteArray
  o : ByteArray
  z : Int
  n : Int
def Pair12.cells (x : Pair12) : List Value := [.string x.t, .string x.s, .string x.o, .int .i64 x.z, .int .i64 x.n]
structure Pair12.Ok (x : Pair12) : Prop where
  ts : x.t.size ≤ 140737488351232
  ss : x.s.size ≤ 140737488351232
  os : x.o.size ≤ 140737488351232
  zw : wrap64 x.z = x.z
  nw : wrap64 x.n = x.n
set_option maxRecDepth 100000 in
theorem open_pair12 {H : Type} {enc : TypeId × Value → H} {W : World} {fuel : Nat} {cs : List Value} {x : DataW H × List MemPlace} (h : DataW.trod enc Try.prog W 0 (fun _ => true) true fuel 48 cs = some x)
    (hsz : ∀ k ∈ x.1.weights Try.prog 48, k ≤ reachBytes) :
    ∃ o : Pair12, cs = o.cells ∧ o.Ok := by
  obtain ⟨xs, n, _, hxx, hl, hlen, hf⟩ := DataW.trod_struct Try.underlying48 h
  have c5 : Try.prog.cellsOf 48 = 5 := by kernel_rfl
  have cs1 : Try.prog.cellsOf 9 = 1 := by kernel_rfl
  have ci : Try.prog.cellsOf 3 = 1 := by kernel_rfl
  rw [c5] at hl
  obtain ⟨y0, y1, y2, y3, y4, rfl⟩ : ∃ y0 y1 y2 y3 y4, xs = [y0, y1, y2, y3, y4] := by
    match xs, hlen with
    | [a, b, c, d, e], _ => exact ⟨a, b, c, d, e, rfl⟩
  match cs, hl with
  | [v0, v1, v2, v3, v4], _ =>
    have h0 : DataW.trod enc Try.prog W 0 (fun _ => true) true n 9 (([v0, v1, v2, v3, v4].drop 0).take (Try.prog.cellsOf 9)) = some y0 := hf 0 _ rfl
    have h1 : DataW.trod enc Try.prog W 0 (fun _ => true) true n 9 (([v0, v1, v2, v3, v4].drop 1).take (Try.prog.cellsOf 9)) = some y1 := hf 1 _ rfl
    have h2 : DataW.trod enc Try.prog W 0 (fun _ => true) true n 9 (([v0, v1, v2, v3, v4].drop 2).take (Try.prog.cellsOf 9)) = some y2 := hf 2 _ rfl
    have h3 : DataW.trod enc Try.prog W 0 (fun _ => true) true n 3 (([v0, v1, v2, v3, v4].drop 3).take (Try.prog.cellsOf 3)) = some y3 := hf 3 _ rfl
    have h4 : DataW.trod enc Try.prog W 0 (fun _ => true) true n 3 (([v0, v1, v2, v3, v4].drop 4).take (Try.prog.cellsOf 3)) = some y4 := hf 4 _ rfl
    rw [ci] at h3 h4
    rw [cs1] at h0 h1 h2
    have hw : ∀ k, (k ∈ y0.1.weights Try.prog 9 ∨ k ∈ y1.1.weights Try.prog 9 ∨ k ∈ y2.1.weights Try.prog 9) → k ≤ reachBytes := fun k hk => hsz k (by
      rw [hxx]
      simp only [DataW.weights, Try.underlying48, List.map_cons, List.map_nil, DataW.weightsEach, List.mem_append]
      exact hk.elim .inl (fun h => .inr (h.elim .inl (fun h => .inr (.inl h)))))
    obtain ⟨s0, e0, l0⟩ := open_strF h0 (fun k hk => hw k (.inl hk))
    obtain ⟨s1, e1, l1⟩ := open_strF h1 (fun k hk => hw k (.inr (.inl hk)))
    obtain ⟨s2, e2, l2⟩ := open_strF h2 (fun k hk => hw k (.inr (.inr hk)))
    obtain ⟨z3, e3, -, w3⟩ := DataW.trod_int Try.underlying3 h3
    obtain ⟨z4, e4, -, w4⟩ := DataW.trod_int Try.underlying3 h4
    simp at e0 e1 e2 e3 e4
    subst e0 e1 e2 e3 e4
    exact ⟨⟨s0, s1, s2, z3, z4⟩, rfl, ⟨l0, l1, l2, wrap_wfK w3, wrap_wfK w4⟩⟩
theorem okWide_pair12 {W : World} {base : Nat} {v : Value} (h : Value.okWide Try.prog W .any base 48 v) : ∃ cs : Array Value, v = .agg cs := by
  simp only [Value.okWide, Try.underlying48] at h
  obtain ⟨cs, h, _⟩ := h
  exact ⟨cs, h⟩
/-- A slice of whole numbers that came in. -/
theorem open_zs12 {H : Type} {enc : TypeId × Value → H} {W : World} {fuel : Nat} {a : Option Addr} {len cap : Nat} {x : DataW H × List MemPlace} (h : DataW.trod enc Try.prog W 0 (fun _ => true) true fuel 37 (Value.cells (.slice a len cap)).toList = some x) :
    ∃ zs : List Int, zs.length = len ∧ len ≤ cap ∧ LiesZ W a zs ∧ ∀ n ∈ zs, wrap64 n = n := by
  obtain ⟨a', k, z, e, l, L, w⟩ := open_intsF h
  simp [Value.cells] at e
  obtain ⟨rfl, rfl, rfl⟩ := e
  exact ⟨z, rfl, l, L, fun n hn => wrap_wfK (w n hn)⟩
end Go.Proofs.Ytoidjapenompiaa
