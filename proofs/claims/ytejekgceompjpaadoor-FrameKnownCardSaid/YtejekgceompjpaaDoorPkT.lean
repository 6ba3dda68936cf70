/-
  What other texts lean on: Ints.
-/
import Derived.Test.YtejekgceompjpaaDoorPkA
/-
  Slices of whole numbers (never below nought): of the call's own, read, appended to, written.
-/
namespace Go.Proofs.YtejekgceompjpaaDoor
open Go.RowKit Go.Proofs.ShaWords
def numsV (l : List Nat) : List Value := l.map fun (n : Nat) => Value.int .i64 (n : Int)
theorem numsV_length (l : List Nat) : (numsV l).length = l.length := by simp [numsV]
theorem numsV_append (a b : List Nat) : numsV (a ++ b) = numsV a ++ numsV b := List.map_append
theorem numsV_mem {l : List Nat} {v : Value} (h : v ∈ numsV l) : v.oneCell' = true := by
  simp only [numsV, List.mem_map] at h; obtain ⟨x, _, rfl⟩ := h; rfl
/-- A slice of numbers of the call's own. -/
def OwnI (B : Nat) (w : World) (l : List Nat) (v : Value) : Prop := w.ownsRow B 3 1 v l.length (numsV l)
def LiesI (w : World) (p : Option Addr) (l : List Nat) : Prop := l = [] ∨ ∃ b off, p = some ⟨b, off, none⟩ ∧ w.rangeAt b off (numsV l)
theorem OwnI.nil (B : Nat) (w : World) : OwnI B w [] (.slice none 0 0) := World.ownsRow_nil w B 3 1
theorem OwnI.below {B : Nat} {w w' : World} {l : List Nat} {v : Value} (h : OwnI B w l v) (hb : Below w.heap.size w w') : OwnI B w' l v :=
  World.ownsRow.kept h (grown_below hb (Nat.le_refl _) none) (by cases v.ownBlock <;> simp)
theorem LiesI.below {w w' : World} {p : Option Addr} {l : List Nat} (h : LiesI w p l) (hb : Below w.heap.size w w') : LiesI w' p l := by
  rcases h with h | ⟨b, off, hp, hr⟩
  · exact Or.inl h
  · exact Or.inr ⟨b, off, hp, range_keep hr hb⟩
theorem info3 : (Tryd.prog.info? 3).map (fun i => (i.zero, i.size, i.bytes)) = some (some (.int .i64 0), 1, 8) := by kernel_rfl
theorem OwnI.lies {B : Nat} {w : World} {l : List Nat} {v : Value} (h : OwnI B w l v) : ∃ p cap, v = .slice p l.length cap ∧ l.length ≤ cap ∧ LiesI w p l := by
  rcases h.2 with ⟨rfl, h0⟩ | ⟨g, cap, cur, rfl, hg, hh, hc, hm, hs, ht⟩
  · have : l = [] := List.length_eq_zero_iff.1 h0
    subst this
    exact ⟨none, 0, rfl, Nat.le_refl _, Or.inl rfl⟩
  · refine ⟨some ⟨g, 0, none⟩, cap, rfl, hc, Or.inr ⟨g, 0, rfl, fun j v hv => ?_⟩⟩
    rw [Nat.zero_add, cell_of_row w g j cur 3 (0, 0) hh]
    rw [← ht, Nat.mul_one, List.getElem?_take] at hv
    split at hv
    · rw [← hv]; simp
    · cases hv
theorem rangeI_cell {w : World} {b off : Nat} {l : List Nat} (h : w.rangeAt b off (numsV l)) (k : Nat) (hk : k < l.length) : w.cell? ⟨b, off + k, none⟩ = some (.int .i64 (l.getD k 0 : Nat)) := by
  refine h k _ ?_
  simp [numsV, List.getD, hk]
theorem wpList_append_num {ops : Array Oper} {rest : List Oper} {o : Oper} {a : Act} {w : World} {Q : Exit → Act → World → Prop} (hgd : o.guard = none) (s x : Operand)
    (ho : o.op = .call { callee := .builtin .append, args := #[s, x], argTypes := #[47, 47] }) (B : Nat) (v : Value) (l : List Nat) (b : Nat) (hs : a.eval s = v) (hown : OwnI B w l v) (hx : a.eval x = .slice (some ⟨w.heap.size, 0, none⟩) 1 1)
    (hl : l.length < 1099511627776) (hB : B ≤ w.heap.size)
    (h : ∀ v' w', OwnI B w' (l ++ [b]) v' → Below B w w' → wpList Tryd.prog ops Q rest (a.put o.dst v') w') : wpList Tryd.prog ops Q (o :: rest) a (w.alloc (.cells #[.int .i64 (b : Int)] 3)) := by
  obtain ⟨i, hi, hz, hsz, hby⟩ := info_parts info3
  refine wpList_append_own (w := w.alloc (.cells #[.int .i64 (b : Int)] 3)) hgd s x 47 ho B 3 i (.int .i64 0) 1 8 Tryd.underlying47 hi hz hsz hby rfl (by decide) v l.length (numsV l) hs (World.ownsRow.alloc hown _) ⟨w.heap.size, 0, none⟩ 1 1 [.int .i64 (b : Int)] hx rfl ?_ ?_ (by unfold maxLen; omega) (by omega) (by rw [size_alloc]; omega) ?_
  · intro j u hu
    have hj : j = 0 := by have := (List.getElem?_eq_some_iff.1 hu).1; simp at this; exact this
    subst hj
    rw [Addr.add_mid, cell_of_row _ _ _ _ _ _ (heap_new_at rfl)]
    simpa using hu
  · intro u hu
    rw [List.mem_singleton.1 hu]; rfl
  · intro v' w' ho' hg _
    refine h v' w' ?_ ?_
    · unfold OwnI
      rw [List.length_append, numsV_append]; exact ho'
    · refine ((Below.refl B w).alloc hB _).grown hg (by rw [size_alloc]; omega) (fun k hk => ?_)
      exact (World.ownsRow.lt hown k hk).1
/-- The value of digits to the base 4. -/
def d4 : List Nat → Nat
  | [] => 0
  | x :: r => x + 4 * d4 r
theorem d4_append (a b : List Nat) : d4 (a ++ b) = d4 a + 4 ^ a.length * d4 b := by
  induction a with
  | nil => simp [d4]
  | cons x r ih => rw [List.cons_append, d4, d4, ih, List.length_cons, Nat.pow_succ, Nat.mul_comm (4 ^ r.length) 4, Nat.mul_add, Nat.mul_assoc]; omega
theorem d4_take_succ (l : List Nat) (k : Nat) : d4 (l.take (k + 1)) = d4 (l.take k) + 4 ^ k * l.getD k 0 := by
  by_cases h : k < l.length
  · rw [List.take_succ_eq_append_getElem h, d4_append, List.length_take, Nat.min_eq_left (by omega)]
    simp [d4, List.getD, h]
  · rw [List.take_of_length_le (by omega), List.take_of_length_le (by omega)]
    simp [List.getD, List.getElem?_eq_none (by omega : l.length ≤ k)]
theorem d4_lt (l : List Nat) (h : ∀ i, l.getD i 0 < 4) : d4 l < 4 ^ l.length := by
  induction l with
  | nil => simp [d4]
  | cons x r ih =>
    have h0 := h 0
    have ih := ih (fun i => by have := h (i + 1); rwa [List.getD_cons_succ] at this)
    rw [List.getD_cons_zero] at h0
    rw [d4, List.length_cons, Nat.pow_succ]; omega
theorem getD_snoc (l : List Nat) (x i : Nat) : (l ++ [x]).getD i 0 = if i = l.length then x else l.getD i 0 := by
  by_cases h : i < l.length
  · rw [if_neg (by omega)]; simp [List.getD, List.getElem?_append_left h]
  · by_cases h2 : i = l.length
    · subst h2; rw [if_pos rfl]; simp [List.getD]
    · rw [if_neg h2]; simp [List.getD, List.getElem?_eq_none (by omega : l.length ≤ i), List.getElem?_eq_none (by simp; omega : (l ++ [x]).length ≤ i)]

end Go.Proofs.YtejekgceompjpaaDoor
