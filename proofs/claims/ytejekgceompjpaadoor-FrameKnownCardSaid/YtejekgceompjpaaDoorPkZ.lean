/-
  What other texts lean on: DkCalls2, DkCrash, OpenS.
-/
import Derived.Test.YtejekgceompjpaaDoorPkA
import Derived.Test.YtejekgceompjpaaDoorPkY
import Derived.BigQuiet
/-
  The program's disk: Sync, Cut, Over.
-/
namespace Go.Proofs.YtejekgceompjpaaDoor
open Go.RowKit Go.Proofs.ShaWords
theorem w_notF {ops : Array Oper} {a : Act} {o : Oper} {j : Nat} {dj : Tmp} {oj : Oper} (hg : o.guard = some (j, false)) (hj : ops[j]? = some oj) (hd : oj.dst = some dj) (he : a.eval (.tmp dj) = .bool true) : Region.wanted o (yielded ops a.tmps) = false := by
  have h2 := tmp_at he
  unfold Region.wanted
  rw [hg]
  simp only [yielded, hj, Option.bind_some, hd, h2]
  rfl
section
variable {ρ : Operand → Value} {o : Oper} {x y : Operand}
theorem run_lssT {a b : Int} {ty : TypeId} (ho : o.op = .binOp .lss 3 x y ty) (hx : ρ x = .int .i64 a) (hy : ρ y = .int .i64 b) (h : a < b) (w : World) : (execOp ρ o).run Tryd.prog w = .ok (.value (.bool true)) w := by
  obtain ⟨dst, op, ty', pos, after, guard⟩ := o
  simp only at ho
  subst ho
  go_simp
theorem run_lssF {a b : Int} {ty : TypeId} (ho : o.op = .binOp .lss 3 x y ty) (hx : ρ x = .int .i64 a) (hy : ρ y = .int .i64 b) (h : ¬ a < b) (w : World) : (execOp ρ o).run Tryd.prog w = .ok (.value (.bool false)) w := by
  obtain ⟨dst, op, ty', pos, after, guard⟩ := o
  simp only at ho
  subst ho
  go_simp
end
end Go.Proofs.YtejekgceompjpaaDoor

/-
  The program's disk: Crash, New, Arm. Slices of any whole numbers.
-/
namespace Go.Proofs.YtejekgceompjpaaDoor
open Go.RowKit Go.Proofs.ShaWords
def intsV (l : List Int) : List Value := l.map fun n => .int .i64 n
theorem intsV_length (l : List Int) : (intsV l).length = l.length := by simp [intsV]
theorem intsV_append (a b : List Int) : intsV (a ++ b) = intsV a ++ intsV b := List.map_append
theorem intsV_mem {l : List Int} {v : Value} (h : v ∈ intsV l) : v.oneCell' = true := by
  simp only [intsV, List.mem_map] at h; obtain ⟨x, _, rfl⟩ := h; rfl
/-- Numbers that a slice's address leads to. -/
def LiesZ (w : World) (p : Option Addr) (l : List Int) : Prop := l = [] ∨ ∃ b off, p = some ⟨b, off, none⟩ ∧ w.rangeAt b off (intsV l)
theorem LiesZ.below {w w' : World} {p : Option Addr} {l : List Int} (h : LiesZ w p l) (hb : Below w.heap.size w w') : LiesZ w' p l := by
  rcases h with h | ⟨b, off, hp, hr⟩
  · exact Or.inl h
  · exact Or.inr ⟨b, off, hp, range_keep hr hb⟩
/-- Numbers that lie in no block of S. -/
def LiesZO (S : Nat → Prop) (w : World) (p : Option Addr) (l : List Int) : Prop := l = [] ∨ ∃ b off, p = some ⟨b, off, none⟩ ∧ ¬ S b ∧ b < w.heap.size ∧ w.rangeAt b off (intsV l)
theorem LiesZO.stay {S S' : Nat → Prop} {w w' : World} {p : Option Addr} {l : List Int} (h : LiesZO S w p l) (hs : Stays S w w') (hS : ∀ k, S' k → S k ∨ w.heap.size ≤ k) : LiesZO S' w' p l := by
  rcases h with h | ⟨b, off, hp, h1, h2, hr⟩
  · exact Or.inl h
  · exact Or.inr ⟨b, off, hp, fun s => (hS b s).elim h1 (fun h => by omega), Nat.lt_of_lt_of_le h2 hs.size, range_of_block hr (hs.block b h2 h1)⟩
theorem LiesZO.tail {S : Nat → Prop} {w : World} {b off : Nat} {x : Int} {l : List Int} (h : LiesZO S w (some ⟨b, off, none⟩) (x :: l)) : LiesZO S w (some ⟨b, off + 1, none⟩) l := by
  rcases h with h | ⟨b', off', hp, h1, h2, hr⟩
  · cases h
  · cases hp
    exact Or.inr ⟨b, off + 1, rfl, h1, h2, fun j v hv => by rw [Nat.add_assoc, Nat.add_comm 1 j]; exact hr (j + 1) v (by simpa [intsV] using hv)⟩
section
variable {ρ : Operand → Value} {o : Oper} {x y : Operand}
theorem run_maxI {a b c : Int} (ho : o.op = .call { callee := .builtin .max, args := #[x, y], argTypes := #[3, 3] }) (hx : ρ x = .int .i64 a) (hy : ρ y = .int .i64 b) (hc : c = max a b) (w : World) : (execOp ρ o).run Tryd.prog w = .ok (.value (.int .i64 c)) w := by
  obtain ⟨dst, op, ty', pos, after, guard⟩ := o
  simp only at ho
  subst ho
  by_cases h : a < b
  · have q2 : ¬ b < a := by omega
    have q3 : a ≤ b := by omega
    obtain rfl : c = b := by omega
    clear hc
    go_simp
  · by_cases h2 : b < a
    · have q3 : b ≤ a := by omega
      obtain rfl : c = a := by omega
      clear hc
      go_simp
    · obtain rfl : a = b := by omega
      obtain rfl : c = a := by omega
      clear hc
      go_simp
theorem run_minI {a b c : Int} (ho : o.op = .call { callee := .builtin .min, args := #[x, y], argTypes := #[3, 3] }) (hx : ρ x = .int .i64 a) (hy : ρ y = .int .i64 b) (hc : c = min a b) (w : World) : (execOp ρ o).run Tryd.prog w = .ok (.value (.int .i64 c)) w := by
  obtain ⟨dst, op, ty', pos, after, guard⟩ := o
  simp only at ho
  subst ho
  by_cases h : a < b
  · have q2 : ¬ b < a := by omega
    have q3 : a ≤ b := by omega
    obtain rfl : c = a := by omega
    clear hc
    go_simp
  · by_cases h2 : b < a
    · have q3 : b ≤ a := by omega
      obtain rfl : c = b := by omega
      clear hc
      go_simp
    · obtain rfl : a = b := by omega
      obtain rfl : c = a := by omega
      clear hc
      go_simp
theorem run_addI {a b : Int} {ty : TypeId} (ho : o.op = .binOp .add 3 x y ty) (hx : ρ x = .int .i64 a) (hy : ρ y = .int .i64 b) (h1 : -9223372036854775808 ≤ a + b ∧ a + b ≤ 9223372036854775807) (w : World) : (execOp ρ o).run Tryd.prog w = .ok (.value (.int .i64 (a + b))) w := by
  have h2 : IntKind.i64.wrap (a + b) = a + b := IntWalk.i64_in _ h1
  obtain ⟨dst, op, ty', pos, after, guard⟩ := o
  simp only at ho
  subst ho
  go_simp
end
/-- A disk that was just made. -/
def dkNewCells (room : Int) : List Value := (List.replicate 33 [Value.slice none 0 0, Value.int .i64 0]).flatten ++ [.int .i64 room, .int .i64 0, .bool false, .int .i64 (-1)]
def dkNewCell (room : Int) (j : Nat) : Value := if j < 66 then (if j % 2 = 0 then .slice none 0 0 else .int .i64 0) else if j = 66 then .int .i64 room else if j = 67 then .int .i64 0 else if j = 68 then .bool false else .int .i64 (-1)
set_option maxRecDepth 100000 in
theorem dkNew_list (room : Int) : dkNewCells room = (List.range 70).map (dkNewCell room) := by kernel_rfl
/-- A crash on the way: the first n files are cut. -/
def crashD (d : DiskM) (keep : List Int) (n : Nat) : DiskM := { d with files := (crashTo d.files keep n).1 }
def CrW (S : Nat → Prop) (g : Nat) (d : DiskM) (keep : List Int) (n : Nat) (q : Option Addr) (W w : World) : Prop :=
  ∃ S1 vs1, DkV S1 w g vs1 (crashD d keep n) ∧ (∀ k, S1 k → S k ∨ (W.heap.size ≤ k ∧ k < w.heap.size)) ∧ Stays S W w ∧ LiesZO S1 w q (crashTo d.files keep n).2
theorem crash_same (d : DiskM) (keep : List Int) (k : Nat) (h : (d.files k).all.length = (d.files k).dur) : crashTo d.files keep (k + 1) = crashTo d.files keep k := by
  conv => lhs; unfold crashTo
  dsimp only
  rw [if_pos h]
theorem crash_cut (d : DiskM) (keep : List Int) (k : Nat) (h : ¬ (d.files k).all.length = (d.files k).dur) : crashTo d.files keep (k + 1) = (setF (crashTo d.files keep k).1 k (cutTo (d.files k) ((crashTo d.files keep k).2.headD 0)), (crashTo d.files keep k).2.tail) := by
  conv => lhs; unfold crashTo
  dsimp only
  rw [if_neg h]
theorem crashD_at (d : DiskM) (keep : List Int) (k : Nat) : (crashD d keep k).files k = d.files k := crashTo_at d.files keep k k (Nat.le_refl _)
/-- A file is cut: one step on. -/
theorem CrW.cut {S S1 : Nat → Prop} {g k m : Nat} {d : DiskM} {keep : List Int} {q2 : Option Addr} {a : Int} {W w w' : World} (h2 : ∀ k, S1 k → S k ∨ (W.heap.size ≤ k ∧ k < w.heap.size)) (h3 : Stays S W w) (h4 : LiesZO S1 w q2 (crashTo d.files keep k).2.tail)
    (hne : ¬ (d.files k).all.length = (d.files k).dur) (ha : a = (crashTo d.files keep k).2.headD 0) (hm : m = (min (max a 0) (((d.files k).all.length - (d.files k).dur : Nat) : Int)).toNat)
    (hgo : DkGoV S1 g { crashD d keep k with files := cutF k ((d.files k).dur + m) (crashD d keep k).files } w w') : CrW S g d keep (k + 1) q2 W w' := by
  obtain ⟨S2, vs2, g1, g2, g3⟩ := hgo
  refine ⟨S2, vs2, ?_, fun j s => ?_, ?_, ?_⟩
  · have e : crashD d keep (k + 1) = { crashD d keep k with files := cutF k ((d.files k).dur + m) (crashD d keep k).files } := by
      unfold crashD
      rw [crash_cut d keep k hne]
      dsimp only
      congr 1
      unfold cutF cutTo
      rw [crashTo_at d.files keep k k (Nat.le_refl _), ← ha, ← hm]
    rw [e]; exact g1
  · rcases g2 j s with s | s
    · rcases h2 j s with s | s
      · exact Or.inl s
      · exact Or.inr ⟨s.1, Nat.lt_of_lt_of_le s.2 g3.size⟩
    · exact Or.inr ⟨Nat.le_trans h3.size s.1, s.2⟩
  · exact h3.trans g3 (fun j s hj => (h2 j s).elim id (fun h => absurd h.1 (by omega)))
  · rw [crash_cut d keep k hne]
    exact h4.stay g3 (fun j s => (g2 j s).imp id (fun h => h.1))
theorem run_addNN {ρ : Operand → Value} {o : Oper} {x y : Operand} {n m : Nat} {ty : TypeId} (ho : o.op = .binOp .add 3 x y ty) (hx : ρ x = .int .i64 (n : Int)) (hy : ρ y = .int .i64 (m : Int)) (hb : n + m < 9223372036854775808) (w : World) : (execOp ρ o).run Tryd.prog w = .ok (.value (.int .i64 ((n + m : Nat) : Int))) w := by
  have h := run_addI ho hx hy (by omega) w
  rw [h, Int.natCast_add]
end Go.Proofs.YtejekgceompjpaaDoor

/-
  What came in, opened: slices of structs of any kind; slices of bytes and of whole numbers as fields.
-/
namespace Go.Proofs.YtejekgceompjpaaDoor
open Go.ChangeShapes Go.WideShapes Go.ChangeAt Go.RowKit Go.Proofs.ShaWords Go.Deep
/-- Things of N cells each, one behind the other. -/
structure RowOf {α : Type} (N : Nat) (cells : α → List Value) (W : World) (a : Option Addr) (os : List α) : Prop where
  at' : os = [] ∨ ∃ b off, a = some ⟨b, off, none⟩ ∧ ∀ k (h : k < os.length), W.rangeAt b (off + k * N) (cells os[k])
theorem RowOf.below {α : Type} {N : Nat} {cells : α → List Value} {w w' : World} {a : Option Addr} {os : List α} (h : RowOf N cells w a os) (hb : Below w.heap.size w w') : RowOf N cells w' a os := by
  refine ⟨?_⟩
  rcases h.at' with h0 | ⟨b, off, h1, h2⟩
  · exact Or.inl h0
  · exact Or.inr ⟨b, off, h1, fun k hk => range_keep (h2 k hk) hb⟩
set_option maxRecDepth 100000 in
theorem open_structs {H : Type} {enc : TypeId × Value → H} {W : World} {fuel : Nat} {a : Option Addr} {len cap : Nat} {x : DataW H × List MemPlace} {ts te : TypeId} {N : Nat} {α : Type} [Inhabited α] (cells : α → List Value) (Ok : α → Prop)
    (hts : Tryd.prog.underlying ts = some (.slice te)) (hN : Tryd.prog.cellsOf te = N) (h0N : 0 < N) (hc : ∀ o, Ok o → (cells o).length = N) (hopen : ∀ n cs y, DataW.trod enc Tryd.prog W 0 (fun _ => true) true n te cs = some y → ∃ o, cs = cells o ∧ Ok o)
    (h : DataW.trod enc Tryd.prog W 0 (fun _ => true) true fuel ts (Value.cells (.slice a len cap)).toList = some x) :
    ∃ os : List α, os.length = len ∧ len ≤ cap ∧ RowOf N cells W a os ∧ ∀ o ∈ os, Ok o := by
  rcases open_slice hts h with ⟨hcs, _⟩ | ⟨y, l, c, m, n, D, Pl, hcs, _, hl, hm, hmm, _, hx⟩
  · simp [Value.cells] at hcs
    obtain ⟨rfl, rfl, rfl⟩ := hcs
    exact ⟨[], rfl, Nat.le_refl _, ⟨.inl rfl⟩, by simp⟩
  · simp [Value.cells] at hcs
    obtain ⟨rfl, rfl, rfl⟩ := hcs
    simp only [if_true] at hmm
    rw [hN] at hx
    obtain ⟨O, hO⟩ := choose_lt (α := α) (n := len) (p := fun i o => W.cells? 0 (y.add (i * N)) N = some (cells o) ∧ Ok o) (fun i hi => by
      obtain ⟨cs', h1, h2⟩ := hx i (by omega)
      obtain ⟨o, rfl, ho⟩ := hopen _ _ _ h2
      exact ⟨o, h1, ho⟩)
    refine ⟨(List.range len).map O, by simp, hl, ⟨?_⟩, fun o ho => ?_⟩
    · by_cases h0 : len = 0
      · left; subst h0; rfl
      · right
        have hl0 := hc _ (hO 0 (by omega)).2
        obtain ⟨b, off, hb⟩ : ∃ b off, y = ⟨b, off, none⟩ := by
          obtain ⟨_, hlen7, hc7⟩ := World.cells?_some (hO 0 (by omega)).1
          have h1 := hc7 0 (by omega)
          obtain ⟨b, off, s⟩ := y
          obtain ⟨v, hv⟩ : ∃ v, (cells (O 0))[0]? = some v := ⟨(cells (O 0))[0]'(by omega), List.getElem?_eq_getElem (by omega)⟩
          rw [hv] at h1
          have h2 : W.cell? (⟨b, off, s⟩ : Addr) = some v := by simpa [Addr.add] using h1
          have hspot : s = none := World.cell?_spot h2
          exact ⟨b, off, by rw [hspot]⟩
        subst hb
        refine ⟨b, off, rfl, fun k hk j v hv => ?_⟩
        simp at hk
        obtain ⟨_, hlen7, hc7⟩ := World.cells?_some (hO k hk).1
        have hv' : (cells (O k))[j]? = some v := by simpa using hv
        have hj : j < N := by have := (List.getElem?_eq_some_iff.1 hv').1; have := hc _ (hO k hk).2; omega
        have h1 := hc7 j hj
        rw [Addr.add_mid, Addr.add_mid, hv'] at h1
        exact h1
    · obtain ⟨i, hi, rfl⟩ := List.mem_map.1 ho
      exact (hO i (List.mem_range.1 hi)).2
set_option maxRecDepth 100000 in
/-- A field that is a slice of bytes. -/
theorem open_bytesF {H : Type} {enc : TypeId × Value → H} {W : World} {fuel : Nat} {cs : List Value} {x : DataW H × List MemPlace} (h : DataW.trod enc Tryd.prog W 0 (fun _ => true) true fuel 22 cs = some x) :
    ∃ (a : Option Addr) (cap : Nat) (bs : List (BitVec 8)), cs = [.slice a bs.length cap] ∧ bs.length ≤ cap ∧ Lies W a bs := by
  obtain ⟨a, len, cap, rfl⟩ : ∃ a len cap, cs = [.slice a len cap] := by
    rcases open_ints Tryd.underlying22 Tryd.underlying5 (by kernel_rfl) h with ⟨hcs, _⟩ | ⟨y, l, c, zs, hcs, _⟩
    · exact ⟨_, _, _, hcs⟩
    · exact ⟨_, _, _, hcs⟩
  obtain ⟨bs, hl, h1, h2, -⟩ := open_bytes (a := a) (len := len) (cap := cap) h
  exact ⟨a, cap, bs, by rw [hl], by omega, h2⟩
set_option maxRecDepth 100000 in
/-- A field that is a slice of whole numbers. -/
theorem open_intsF {H : Type} {enc : TypeId × Value → H} {W : World} {fuel : Nat} {cs : List Value} {x : DataW H × List MemPlace} (h : DataW.trod enc Tryd.prog W 0 (fun _ => true) true fuel 47 cs = some x) :
    ∃ (a : Option Addr) (cap : Nat) (zs : List Int), cs = [.slice a zs.length cap] ∧ zs.length ≤ cap ∧ LiesZ W a zs ∧ ∀ n ∈ zs, (Lit.int .i64 n).wf = true := by
  rcases open_ints Tryd.underlying47 Tryd.underlying3 (by kernel_rfl) h with ⟨hcs, _⟩ | ⟨y, l, c, zs, hcs, _, hl, hm, hz, hx, hcell, hwz⟩
  · exact ⟨none, 0, [], hcs, Nat.le_refl _, Or.inl rfl, by simp⟩
  · simp only [if_true] at hz
    refine ⟨some y, c, zs.take l, by rw [hcs, List.length_take, Nat.min_eq_left (by omega)], by rw [List.length_take]; omega, ?_, fun n hn => hwz n (List.mem_of_mem_take hn)⟩
    by_cases h0 : l = 0
    · subst h0; exact Or.inl (by simp)
    · obtain ⟨b, off, s⟩ := y
      have h1 := hcell 0 (by omega)
      have hspot : s = none := by simpa [Addr.add] using World.cell?_spot h1
      subst hspot
      refine Or.inr ⟨b, off, rfl, fun j v hv => ?_⟩
      have hj : j < l := by have := (List.getElem?_eq_some_iff.1 hv).1; rw [intsV_length, List.length_take] at this; omega
      have h2 := hcell j (by omega)
      rw [Addr.add_mid] at h2
      rw [h2, ← hv]
      unfold intsV
      rw [List.getElem?_map, List.getElem?_take, if_pos hj, List.getD_eq_getElem?_getD, List.getElem?_eq_getElem (by omega)]
      rfl
end Go.Proofs.YtejekgceompjpaaDoor
