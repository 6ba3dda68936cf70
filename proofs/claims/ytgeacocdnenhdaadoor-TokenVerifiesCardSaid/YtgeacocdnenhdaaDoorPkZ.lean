/-
  What other texts lean on: DkCalls2, DkCrash, OpenS, OpenSW, KrOpen.
-/
import Derived.Test.YtgeacocdnenhdaaDoorPkA
import Derived.Test.YtgeacocdnenhdaaDoorPkY
import Derived.BigQuiet
import Derived.SizedLaws
/-
  The program's disk: Sync, Cut, Over.
-/
namespace Go.Proofs.YtgeacocdnenhdaaDoor
open Go.RowKit Go.Proofs.ShaWords
section
variable {ρ : Operand → Value} {o : Oper} {x y : Operand}
end
end Go.Proofs.YtgeacocdnenhdaaDoor

/-
  The program's disk: Crash, New, Arm. Slices of any whole numbers.
-/
namespace Go.Proofs.YtgeacocdnenhdaaDoor
open Go.RowKit Go.Proofs.ShaWords
def intsV (l : List Int) : List Value := l.map fun n => .int .i64 n
/-- Numbers that a slice's address leads to. -/
def LiesZ (w : World) (p : Option Addr) (l : List Int) : Prop := l = [] ∨ ∃ b off, p = some ⟨b, off, none⟩ ∧ w.rangeAt b off (intsV l)
theorem LiesZ.below {w w' : World} {p : Option Addr} {l : List Int} (h : LiesZ w p l) (hb : Below w.heap.size w w') : LiesZ w' p l := by
  rcases h with h | ⟨b, off, hp, hr⟩
  · exact Or.inl h
  · exact Or.inr ⟨b, off, hp, range_keep hr hb⟩
/-- Numbers that lie in no block of S. -/
def LiesZO (S : Nat → Prop) (w : World) (p : Option Addr) (l : List Int) : Prop := l = [] ∨ ∃ b off, p = some ⟨b, off, none⟩ ∧ ¬ S b ∧ b < w.heap.size ∧ w.rangeAt b off (intsV l)
theorem LiesZO.stay {S S' : Nat → Prop} {w w' : World} {p : Option Addr} {l : List Int} (h : LiesZO S w p l) (hs : Stays S w w') (hS : ∀ k, S' k → S k ∨ w.heap.size ≤ k) : LiesZO S' w' p l := by
  rcases h with h | ⟨b, off, hp, h1, h2, hr⟩
  · exact Or.inl h
  · exact Or.inr ⟨b, off, hp, fun s => (hS b s).elim h1 (fun h => by omega), Nat.lt_of_lt_of_le h2 hs.size, range_of_block hr (hs.block b h2 h1)⟩
section
variable {ρ : Operand → Value} {o : Oper} {x y : Operand}
end
end Go.Proofs.YtgeacocdnenhdaaDoor

/-
  What came in, opened: slices of structs of any kind; slices of bytes and of whole numbers as fields.
-/
namespace Go.Proofs.YtgeacocdnenhdaaDoor
open Go.ChangeShapes Go.WideShapes Go.ChangeAt Go.RowKit Go.Proofs.ShaWords Go.Deep
/-- Things of N cells each, one behind the other. -/
structure RowOf {α : Type} (N : Nat) (cells : α → List Value) (W : World) (a : Option Addr) (os : List α) : Prop where
  at' : os = [] ∨ ∃ b off, a = some ⟨b, off, none⟩ ∧ ∀ k (h : k < os.length), W.rangeAt b (off + k * N) (cells os[k])
theorem RowOf.below {α : Type} {N : Nat} {cells : α → List Value} {w w' : World} {a : Option Addr} {os : List α} (h : RowOf N cells w a os) (hb : Below w.heap.size w w') : RowOf N cells w' a os := by
  refine ⟨?_⟩
  rcases h.at' with h0 | ⟨b, off, h1, h2⟩
  · exact Or.inl h0
  · exact Or.inr ⟨b, off, h1, fun k hk => range_keep (h2 k hk) hb⟩
end Go.Proofs.YtgeacocdnenhdaaDoor

/-
  What came in, opened, with its sizes: slices of structs of any kind; a field that is a slice of bytes.
-/
namespace Go.Proofs.YtgeacocdnenhdaaDoor
open Go.ChangeShapes Go.WideShapes Go.ChangeAt Go.RowKit Go.Proofs.ShaWords Go.Deep
theorem weights_in_all {H : Type} {P : Program} {e : TypeId} : ∀ {l : List (DataW H)} {d : DataW H}, d ∈ l → ∀ n ∈ d.weights P e, n ∈ DataW.weightsAll P e l
  | x :: l, d, hd, n, hn => by
    simp only [DataW.weightsAll, List.mem_append]
    rcases List.mem_cons.1 hd with rfl | hd
    · exact Or.inl hn
    · exact Or.inr (weights_in_all hd n hn)
set_option maxRecDepth 100000 in
theorem open_structsW {H : Type} {enc : TypeId × Value → H} {W : World} {fuel : Nat} {a : Option Addr} {len cap : Nat} {x : DataW H × List MemPlace} {ts te : TypeId} {N : Nat} {α : Type} [Inhabited α] (cells : α → List Value) (Ok : α → Prop)
    (hts : Tryd.prog.underlying ts = some (.slice te)) (hN : Tryd.prog.cellsOf te = N) (h0N : 0 < N) (hbt : 1 ≤ Tryd.prog.bytesOf te) (hc : ∀ o, Ok o → (cells o).length = N)
    (hopen : ∀ n cs y, DataW.trod enc Tryd.prog W 0 (fun _ => true) true n te cs = some y → (∀ k ∈ y.1.weights Tryd.prog te, k ≤ reachBytes) → ∃ o, cs = cells o ∧ Ok o)
    (hsz : ∀ n ∈ x.1.weights Tryd.prog ts, n ≤ reachBytes)
    (h : DataW.trod enc Tryd.prog W 0 (fun _ => true) true fuel ts (Value.cells (.slice a len cap)).toList = some x) :
    ∃ os : List α, os.length = len ∧ len ≤ cap ∧ len ≤ 140737488351232 ∧ RowOf N cells W a os ∧ ∀ o ∈ os, Ok o := by
  rcases open_slice hts h with ⟨hcs, _⟩ | ⟨y, l, c, m, n, D, Pl, hcs, _, hl, hm, hmm, hxx, hx⟩
  · simp [Value.cells] at hcs
    obtain ⟨rfl, rfl, rfl⟩ := hcs
    exact ⟨[], rfl, Nat.le_refl _, by omega, ⟨.inl rfl⟩, by simp⟩
  · simp [Value.cells] at hcs
    obtain ⟨rfl, rfl, rfl⟩ := hcs
    simp only [if_true] at hmm
    rw [hN] at hx
    have hx1 := congrArg Prod.fst hxx
    dsimp only at hx1
    rw [hx1] at hsz
    have hlen : len ≤ 140737488351232 := by
      have h1 := hsz ((len + (m - len)) * Tryd.prog.bytesOf te) (by simp [DataW.weights, hts])
      have h2 : len * 1 ≤ (len + (m - len)) * Tryd.prog.bytesOf te := Nat.mul_le_mul (by omega) hbt
      unfold reachBytes at h1
      omega
    obtain ⟨O, hO⟩ := choose_lt (α := α) (n := len) (p := fun i o => W.cells? 0 (y.add (i * N)) N = some (cells o) ∧ Ok o) (fun i hi => by
      obtain ⟨cs', h1, h2⟩ := hx i (by omega)
      obtain ⟨o, rfl, ho⟩ := hopen _ _ _ h2 (fun k hk => hsz k (by
        simp only [DataW.weights, hts, List.mem_cons, List.mem_append]
        exact .inr (.inl (weights_in_all (List.mem_map.2 ⟨i, List.mem_range.2 hi, rfl⟩) k hk))))
      exact ⟨o, h1, ho⟩)
    refine ⟨(List.range len).map O, by simp, hl, hlen, ⟨?_⟩, fun o ho => ?_⟩
    · by_cases h0 : len = 0
      · left; subst h0; rfl
      · right
        have hl0 := hc _ (hO 0 (by omega)).2
        obtain ⟨b, off, hb⟩ : ∃ b off, y = ⟨b, off, none⟩ := by
          obtain ⟨_, hlen7, hc7⟩ := World.cells?_some (hO 0 (by omega)).1
          have h1 := hc7 0 (by omega)
          obtain ⟨b, off, s⟩ := y
          obtain ⟨v, hv⟩ : ∃ v, (cells (O 0))[0]? = some v := ⟨(cells (O 0))[0]'(by omega), List.getElem?_eq_getElem (by omega)⟩
          rw [hv] at h1
          have h2 : W.cell? (⟨b, off, s⟩ : Addr) = some v := by simpa [Addr.add] using h1
          have hspot : s = none := World.cell?_spot h2
          exact ⟨b, off, by rw [hspot]⟩
        subst hb
        refine ⟨b, off, rfl, fun k hk j v hv => ?_⟩
        simp at hk
        obtain ⟨_, hlen7, hc7⟩ := World.cells?_some (hO k hk).1
        have hv' : (cells (O k))[j]? = some v := by simpa using hv
        have hj : j < N := by have := (List.getElem?_eq_some_iff.1 hv').1; have := hc _ (hO k hk).2; omega
        have h1 := hc7 j hj
        rw [Addr.add_mid, Addr.add_mid, hv'] at h1
        exact h1
    · obtain ⟨i, hi, rfl⟩ := List.mem_map.1 ho
      exact (hO i (List.mem_range.1 hi)).2
end Go.Proofs.YtgeacocdnenhdaaDoor

/-
  What comes in at layer 12, opened: calls on subjects, pairs of subjects.
-/
namespace Go.Proofs.YtgeacocdnenhdaaDoor
open Go.ChangeShapes Go.WideShapes Go.ChangeAt Go.RowKit Go.Proofs.ShaWords Go.Deep
theorem wrap_wfK {n : Int} (h : (Lit.int .i64 n).wf = true) : wrap64 n = n := by
  have h1 := bounds_i64 h
  unfold wrap64
  omega
/-- A field that is a string, with its size. -/
theorem open_strF {H : Type} {enc : TypeId × Value → H} {W : World} {fuel : Nat} {cs : List Value} {x : DataW H × List MemPlace} (h : DataW.trod enc Tryd.prog W 0 (fun _ => true) true fuel 9 cs = some x)
    (hsz : ∀ n ∈ x.1.weights Tryd.prog 9, n ≤ reachBytes) : ∃ s : ByteArray, cs = [.string s] ∧ s.size ≤ 140737488351232 := by
  obtain ⟨s, hs, hx, -⟩ := DataW.trod_string Tryd.underlying9 h
  refine ⟨s, hs, ?_⟩
  have h1 := hsz s.data.toList.length (by
    rw [hx]
    have e : (DataW.lit (H := H) (.string s.data.toList)).weights Tryd.prog 9 = [s.data.toList.length] := by unfold DataW.weights; rfl
    rw [e]
    exact List.mem_singleton.2 rfl)
  unfold reachBytes at h1
  have h2 : s.size = s.data.toList.length := Array.length_toList.symm
  have h3 : (140737488351232 : Nat) = 0x7ffffffff000 := rfl
  rw [h2, h3]
  exact h1
/-- A call on a ring that came in. -/
structure Op12 where
  kind : Int
  n : Int
  t : ByteArray
  s : ByteArray
instance : Inhabited Op12 := ⟨⟨0, 0, ⟨#[]⟩, ⟨#[]⟩⟩⟩
def Op12.cells (x : Op12) : List Value := [.int .i64 x.kind, .int .i64 x.n, .string x.t, .string x.s]
structure Op12.Ok (x : Op12) : Prop where
  kw : wrap64 x.kind = x.kind
  nw : wrap64 x.n = x.n
  ts : x.t.size ≤ 140737488351232
  ss : x.s.size ≤ 140737488351232
/-- RingApart's argument. -/
structure Pair12 where
  t : ByteArray
  s : ByteArray
  o : ByteArray
  z : Int
  n : Int
def Pair12.cells (x : Pair12) : List Value := [.string x.t, .string x.s, .string x.o, .int .i64 x.z, .int .i64 x.n]
structure Pair12.Ok (x : Pair12) : Prop where
  ts : x.t.size ≤ 140737488351232
  ss : x.s.size ≤ 140737488351232
  os : x.o.size ≤ 140737488351232
  zw : wrap64 x.z = x.z
  nw : wrap64 x.n = x.n
end Go.Proofs.YtgeacocdnenhdaaDoor
