/-
  A range over a function whose iterator keeps state of its own in cells: a law for the caller, and the two words that the caller and the iterator give one another. (A loop that runs to its end: no break, no return out of a round.)
-/
import Derived.Test.YtagkkihnfipfeaaDoorGen
import Derived.RangeFuncNested
import Derived.RangeFuncLeaves
import Derived.RangeFuncBound
import Derived.RangeFuncCalls
import Derived.OwnWalkIn
import Derived.TacticsInMore
import Derived.LoopNIn
import Derived.LoopIn
namespace Go.Proofs.YtagkkihnfipfeaaDoor
open Go.RowKit Go.Proofs.ShaWords

/-- Whatever lay, but for the blocks T, lies as it lay. -/
structure Spares (T : Nat → Prop) (w w' : World) : Prop where
  os : w'.os = w.os
  tape : w'.tape = w.tape
  output : w'.output = w.output
  size : w.heap.size ≤ w'.heap.size
  block : ∀ k, k < w.heap.size → ¬ T k → w'.heap[k]? = w.heap[k]?
theorem Spares.refl (T : Nat → Prop) (w : World) : Spares T w w := ⟨rfl, rfl, rfl, Nat.le_refl _, fun _ _ _ => rfl⟩
theorem Spares.trans {T : Nat → Prop} {a b c : World} (h : Spares T a b) (k : Spares T b c) : Spares T a c :=
  ⟨k.os.trans h.os, k.tape.trans h.tape, k.output.trans h.output, Nat.le_trans h.size k.size, fun i hi hn => (k.block i (Nat.lt_of_lt_of_le hi h.size) hn).trans (h.block i hi hn)⟩
theorem Spares.mono {T T' : Nat → Prop} {a b : World} (h : Spares T a b) (ht : ∀ k, k < a.heap.size → T k → T' k) : Spares T' a b :=
  ⟨h.os, h.tape, h.output, h.size, fun i hi hn => h.block i hi (fun t => hn (ht i hi t))⟩
theorem Spares.of_below {T : Nat → Prop} {a b : World} {B : Nat} (h : Below B a b) (hB : ∀ k, B ≤ k → k < a.heap.size → T k) : Spares T a b :=
  ⟨h.os, h.tape, h.output, h.size, fun i hi hn => h.block i (Nat.lt_of_not_le fun hl => hn (hB i hl hi))⟩
theorem Spares.all {T : Nat → Prop} {a b : World} (h : Below a.heap.size a b) : Spares T a b := Spares.of_below h (fun k h1 h2 => by omega)
theorem Spares.grown {T : Nat → Prop} {a b : World} {r : Nat} (h : a.grownBy b (some r)) (hr : T r) : Spares T a b :=
  ⟨h.os, h.tape, h.output, h.size, fun i hi hn => h.block i hi (fun e => hn (by rw [Option.some.inj e]; exact hr))⟩
theorem Spares.below {T : Nat → Prop} {a b : World} {B : Nat} (h : Spares T a b) (hB : B ≤ a.heap.size) (hT : ∀ k, k < B → ¬ T k) : Below B a b :=
  ⟨h.os, h.tape, h.output, h.size, fun i hi => h.block i (by omega) (hT i hi)⟩
theorem below_putObj (W : World) (l : Nat) (o : Obj) {B : Nat} (hB : B ≤ l) : Below B W (W.putObj l o) :=
  ⟨rfl, rfl, rfl, by simp, fun _ hk => World.putObj_heap_other (by omega)⟩

/-- The iterator's word: to any caller whose invariant speaks of what lay when it was called, and whose rounds touch the blocks T alone. -/
def Gives (P : Program) (gf : Nat) (lb : Array Value) (encs : Nat → Array Value) (N : Nat) (T : Nat → Prop) (m : Nat) (w : World) : Prop :=
  ∀ (l : Nat) (J : Nat → World → Prop) (W : World), Below w.heap.size w W → w.heap.size ≤ l → l < W.heap.size → (∀ k A A', J k A → Below W.heap.size A A' → J k A') →
    (∀ k A, k < N → J k A → YieldAt Fence.wide m P l (encs k) A fun e A' => e = .returned (.bool true) ∧ J (k + 1) A' ∧ Spares (fun b => T b ∨ b = l) A A') → J 0 W →
    Calls P gf (#[.func (.yield l) #[] #[]] ++ lb) W fun e W' => (∃ v, e = .returned v) ∧ J N W' ∧ Spares (fun b => T b ∨ b = l) W W'

theorem wpIn_rangeCells {P : Program} {m : Nat} {g : Operand} {ps : Array Tmp} {assign body : Code} {Q : Exit → Act → World → Prop} {a : Act} {w : World}
    {gf : Nat} {lb : Array Value} (hg : a.eval g = .func (.func gf) #[] lb) (eg : ∀ args w, (callFunc gf args).run P w = .ok (.enter gf args) w)
    {encs : Nat → Array Value} {N : Nat} {T : Nat → Prop} (hT : ∀ b, T b → b < w.heap.size) (hit : Gives P gf lb encs N T m w) (hps : ∀ k, (encs k).size = ps.size)
    (I : Nat → World → Prop) (hI : ∀ k A A', I k A → Below w.heap.size A A' → I k A') (h0 : I 0 w) (a₁ : Nat → Act)
    (hassign : ∀ (l k : Nat) (W : World) (K : Act → World → Prop), K (a₁ k) W →
      assign.wpIn (Fence.wide.inRound l) m P (Exit.then K (fun _ _ _ => False)) { tmps := (ps.zip (encs k)).foldl (fun t (p, v) => t.setIfInBounds p v) a.tmps, defers := [] } W)
    (hbody : ∀ (l k : Nat) (W : World), I k W → k < N → body.wpIn (Fence.wide.inRound l) m P (fun e _ W' => e = .normal ∧ I (k + 1) W' ∧ Spares T W W') (a₁ k) W)
    (hdone : ∀ (D : Nat) (W : World), w.heap.size ≤ D → I N W → Spares T w W → W.heap[D]? = some (.deferred (some [])) → Q .normal { a with defers := { target := .collected D, args := #[] } :: a.defers } W) :
    (Code.rangeFunc g ps assign body).wpIn Fence.wide m P Q a w := by
  refine wpIn_rangeFunc ?_
  intro fn hfn
  obtain ⟨rec, hrec⟩ : ∃ rec : LoopState → Option Code → Loop, rec = fun st pe => { state := st, pending := pe, fn, tmps := a.tmps, params := ps, assign, body, defers := w.heap.size } := ⟨_, rfl⟩
  obtain ⟨W1, hW1⟩ : ∃ W1, (w.alloc (.deferred (some []))).alloc (.loop (rec .ready none)) = W1 := ⟨_, rfl⟩
  have hs1 : W1.heap.size = w.heap.size + 2 := by rw [← hW1, size_alloc, size_alloc]
  have hl1 : W1.heap[w.heap.size + 1]? = some (.loop (rec .ready none)) := by rw [← hW1]; exact heap_new_at (size_alloc _ _)
  have hd1 : W1.heap[w.heap.size]? = some (.deferred (some [])) := by rw [← hW1, Below.heap_alloc _ _ _ (by rw [size_alloc]; omega)]; exact heap_new_at rfl
  have hb1 : Below w.heap.size w W1 := by rw [← hW1]; exact ((Below.refl _ w).alloc (Nat.le_refl _) _).alloc (by rw [size_alloc]; omega) _
  refine ⟨w.heap.size + 1, [{ target := .collected w.heap.size, args := #[] }], W1, { target := .fn (.func gf) lb, args := #[.func (.yield (w.heap.size + 1)) #[] #[]] }, W1, gf,
    #[.func (.yield (w.heap.size + 1)) #[] #[]] ++ lb, W1, ?_, ?_, fun _ _ => trivial, ?_, fun h => by simp [Fence.wide] at h, ?_⟩
  · rw [← hW1, hrec]; exact run_enterLoop_outer _ _ _ _ _
  · simp only [resolve, hg]
    simp [go_sem]
  · simp [invoke, go_sem, eg]
  refine callsIn_wide.2 ((hit (w.heap.size + 1)
    (fun k W => I k W ∧ W.heap[w.heap.size + 1]? = some (.loop (rec .ready none)) ∧ W.heap[w.heap.size]? = some (.deferred (some [])))
    W1 hb1 (by omega) (by omega) (fun k A A' hA hAA => ⟨hI k A A' hA.1 (hAA.mono (by omega)), (hAA.block _ (by omega)).trans hA.2.1, (hAA.block _ (by omega)).trans hA.2.2⟩) ?_
    ⟨hI 0 w W1 h0 hb1, hl1, hd1⟩).mono ?_)
  · rintro k W hk ⟨hi, hl, hd⟩
    have hlt : w.heap.size + 1 < W.heap.size := (Array.getElem?_eq_some_iff.1 hl).1
    have hy := run_yield (P := P) (args := encs k) hl (by rw [hrec]; exact hps k)
    rw [hrec] at hy
    refine ⟨fn, _, assign, body, hy, roundIn_of_wpIn hfn (hassign _ k W _ ⟨_, run_beginRound hl (by rw [hrec]), ?_⟩)⟩
    have hl2 : (W.putObj (w.heap.size + 1) (.loop { rec .ready none with state := .busy })).heap[w.heap.size + 1]? = some (.loop { rec .ready none with state := .busy }) := World.putObj_heap_same hlt
    refine wpIn_mono (hbody _ k _ (hI k _ _ hi (below_putObj W _ _ (by omega))) hk) ?_
    rintro e a3 W3 ⟨rfl, hi3, hsp⟩
    have hl3 : W3.heap[w.heap.size + 1]? = some (.loop { rec .ready none with state := .busy }) := (hsp.block _ (by simpa using hlt) (fun h => by have := hT _ h; omega)).trans hl2
    have hd3 : W3.heap[w.heap.size]? = some (.deferred (some [])) := (hsp.block _ (by simp; omega) (fun h => by have := hT _ h; omega)).trans ((World.putObj_heap_other (by omega)).trans hd)
    have hr := run_endRound (P := P) none hl3
    rw [hrec] at hr
    have hp : ∀ (X : World) (o : Obj), Spares (fun b => T b ∨ b = w.heap.size + 1) X (X.putObj (w.heap.size + 1) o) := fun X o =>
      ⟨rfl, rfl, rfl, by simp, fun i hi hn => World.putObj_heap_other (fun e => hn (.inr e))⟩
    refine ⟨_, _, hr, rfl, ⟨hI _ _ _ hi3 (below_putObj W3 _ _ (by omega)), ?_, (World.putObj_heap_other (by omega)).trans hd3⟩, ((hp W _).trans (hsp.mono fun _ _ h => .inl h)).trans (hp W3 _)⟩
    rw [World.putObj_heap_same (Array.getElem?_eq_some_iff.1 hl3).1, hrec]
    rfl
  · rintro e W2 ⟨⟨v, rfl⟩, ⟨hi, hl, hd⟩, hsp⟩
    have hr := run_endLoop (P := P) hl (by rw [hrec]; simp)
    rw [hrec] at hr
    refine ⟨none, _, hr, hdone _ _ (Nat.le_refl _) (hI _ _ _ hi (below_putObj W2 _ _ (by omega))) ?_ ((World.putObj_heap_other (by omega)).trans hd)⟩
    exact ⟨hsp.os.trans hb1.os, hsp.tape.trans hb1.tape, hsp.output.trans hb1.output, by have := hsp.size; simp; omega, fun i hi hn =>
      (World.putObj_heap_other (by omega)).trans ((hsp.block i (by omega) (fun h => h.elim hn (fun e => by omega))).trans (hb1.block i hi))⟩
end Go.Proofs.YtagkkihnfipfeaaDoor
