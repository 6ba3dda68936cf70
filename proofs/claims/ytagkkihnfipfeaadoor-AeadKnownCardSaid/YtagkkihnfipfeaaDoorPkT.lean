/-
  What other texts lean on: Ints, PoRef1, PoRef2, PoMath, PoRef3, PoMath2, PoMath3, PoMath4, PoClear, PoRef6, PoRef4, PoRef5, PoRef7, PoRef8, PoTags, PoRef9.
-/
import Derived.Test.YtagkkihnfipfeaaDoorPkA
import Derived.Test.YtagkkihnfipfeaaDoorPkP
/-
  Slices of whole numbers (never below nought): of the call's own, read, appended to, written.
-/
namespace Go.Proofs.YtagkkihnfipfeaaDoor
open Go.RowKit Go.Proofs.ShaWords
def numsV (l : List Nat) : List Value := l.map fun (n : Nat) => Value.int .i64 (n : Int)
theorem numsV_length (l : List Nat) : (numsV l).length = l.length := by simp [numsV]
theorem numsV_append (a b : List Nat) : numsV (a ++ b) = numsV a ++ numsV b := List.map_append
theorem numsV_mem {l : List Nat} {v : Value} (h : v ∈ numsV l) : v.oneCell' = true := by
  simp only [numsV, List.mem_map] at h; obtain ⟨x, _, rfl⟩ := h; rfl
/-- A slice of numbers of the call's own. -/
def OwnI (B : Nat) (w : World) (l : List Nat) (v : Value) : Prop := w.ownsRow B 3 1 v l.length (numsV l)
def LiesI (w : World) (p : Option Addr) (l : List Nat) : Prop := l = [] ∨ ∃ b off, p = some ⟨b, off, none⟩ ∧ w.rangeAt b off (numsV l)
theorem OwnI.nil (B : Nat) (w : World) : OwnI B w [] (.slice none 0 0) := World.ownsRow_nil w B 3 1
theorem OwnI.below {B : Nat} {w w' : World} {l : List Nat} {v : Value} (h : OwnI B w l v) (hb : Below w.heap.size w w') : OwnI B w' l v :=
  World.ownsRow.kept h (grown_below hb (Nat.le_refl _) none) (by cases v.ownBlock <;> simp)
theorem LiesI.below {w w' : World} {p : Option Addr} {l : List Nat} (h : LiesI w p l) (hb : Below w.heap.size w w') : LiesI w' p l := by
  rcases h with h | ⟨b, off, hp, hr⟩
  · exact Or.inl h
  · exact Or.inr ⟨b, off, hp, range_keep hr hb⟩
theorem info3 : (Tryd.prog.info? 3).map (fun i => (i.zero, i.size, i.bytes)) = some (some (.int .i64 0), 1, 8) := by kernel_rfl
theorem OwnI.lies {B : Nat} {w : World} {l : List Nat} {v : Value} (h : OwnI B w l v) : ∃ p cap, v = .slice p l.length cap ∧ l.length ≤ cap ∧ LiesI w p l := by
  rcases h.2 with ⟨rfl, h0⟩ | ⟨g, cap, cur, rfl, hg, hh, hc, hm, hs, ht⟩
  · have : l = [] := List.length_eq_zero_iff.1 h0
    subst this
    exact ⟨none, 0, rfl, Nat.le_refl _, Or.inl rfl⟩
  · refine ⟨some ⟨g, 0, none⟩, cap, rfl, hc, Or.inr ⟨g, 0, rfl, fun j v hv => ?_⟩⟩
    rw [Nat.zero_add, cell_of_row w g j cur 3 (0, 0) hh]
    rw [← ht, Nat.mul_one, List.getElem?_take] at hv
    split at hv
    · rw [← hv]; simp
    · cases hv
theorem rangeI_cell {w : World} {b off : Nat} {l : List Nat} (h : w.rangeAt b off (numsV l)) (k : Nat) (hk : k < l.length) : w.cell? ⟨b, off + k, none⟩ = some (.int .i64 (l.getD k 0 : Nat)) := by
  refine h k _ ?_
  simp [numsV, List.getD, hk]
theorem wpList_append_num {ops : Array Oper} {rest : List Oper} {o : Oper} {a : Act} {w : World} {Q : Exit → Act → World → Prop} (hgd : o.guard = none) (s x : Operand)
    (ho : o.op = .call { callee := .builtin .append, args := #[s, x], argTypes := #[82, 82] }) (B : Nat) (v : Value) (l : List Nat) (b : Nat) (hs : a.eval s = v) (hown : OwnI B w l v) (hx : a.eval x = .slice (some ⟨w.heap.size, 0, none⟩) 1 1)
    (hl : l.length < 1099511627776) (hB : B ≤ w.heap.size)
    (h : ∀ v' w', OwnI B w' (l ++ [b]) v' → Below B w w' → wpList Tryd.prog ops Q rest (a.put o.dst v') w') : wpList Tryd.prog ops Q (o :: rest) a (w.alloc (.cells #[.int .i64 (b : Int)] 3)) := by
  obtain ⟨i, hi, hz, hsz, hby⟩ := info_parts info3
  refine wpList_append_own (w := w.alloc (.cells #[.int .i64 (b : Int)] 3)) hgd s x 82 ho B 3 i (.int .i64 0) 1 8 Tryd.underlying82 hi hz hsz hby rfl (by decide) v l.length (numsV l) hs (World.ownsRow.alloc hown _) ⟨w.heap.size, 0, none⟩ 1 1 [.int .i64 (b : Int)] hx rfl ?_ ?_ (by unfold maxLen; omega) (by omega) (by rw [size_alloc]; omega) ?_
  · intro j u hu
    have hj : j = 0 := by have := (List.getElem?_eq_some_iff.1 hu).1; simp at this; exact this
    subst hj
    rw [Addr.add_mid, cell_of_row _ _ _ _ _ _ (heap_new_at rfl)]
    simpa using hu
  · intro u hu
    rw [List.mem_singleton.1 hu]; rfl
  · intro v' w' ho' hg _
    refine h v' w' ?_ ?_
    · unfold OwnI
      rw [List.length_append, numsV_append]; exact ho'
    · refine ((Below.refl B w).alloc hB _).grown hg (by rw [size_alloc]; omega) (fun k hk => ?_)
      exact (World.ownsRow.lt hown k hk).1
/-- The value of digits to the base 4. -/
def d4 : List Nat → Nat
  | [] => 0
  | x :: r => x + 4 * d4 r
theorem d4_append (a b : List Nat) : d4 (a ++ b) = d4 a + 4 ^ a.length * d4 b := by
  induction a with
  | nil => simp [d4]
  | cons x r ih => rw [List.cons_append, d4, d4, ih, List.length_cons, Nat.pow_succ, Nat.mul_comm (4 ^ r.length) 4, Nat.mul_add, Nat.mul_assoc]; omega
theorem d4_take_succ (l : List Nat) (k : Nat) : d4 (l.take (k + 1)) = d4 (l.take k) + 4 ^ k * l.getD k 0 := by
  by_cases h : k < l.length
  · rw [List.take_succ_eq_append_getElem h, d4_append, List.length_take, Nat.min_eq_left (by omega)]
    simp [d4, List.getD, h]
  · rw [List.take_of_length_le (by omega), List.take_of_length_le (by omega)]
    simp [List.getD, List.getElem?_eq_none (by omega : l.length ≤ k)]
theorem d4_lt (l : List Nat) (h : ∀ i, l.getD i 0 < 4) : d4 l < 4 ^ l.length := by
  induction l with
  | nil => simp [d4]
  | cons x r ih =>
    have h0 := h 0
    have ih := ih (fun i => by have := h (i + 1); rwa [List.getD_cons_succ] at this)
    rw [List.getD_cons_zero] at h0
    rw [d4, List.length_cons, Nat.pow_succ]; omega
theorem getD_snoc (l : List Nat) (x i : Nat) : (l ++ [x]).getD i 0 = if i = l.length then x else l.getD i 0 := by
  by_cases h : i < l.length
  · rw [if_neg (by omega)]; simp [List.getD, List.getElem?_append_left h]
  · by_cases h2 : i = l.length
    · subst h2; rw [if_pos rfl]; simp [List.getD]
    · rw [if_neg h2]; simp [List.getD, List.getElem?_eq_none (by omega : l.length ≤ i), List.getElem?_eq_none (by simp; omega : (l ++ [x]).length ≤ i)]

set_option maxHeartbeats 400000 in
theorem digit_any (l : List Nat) (m i : Nat) (p : Option Addr) (cap : Nat) (w : World) (hm : l.length = m) (hi : i < 1000000) (_hl : m < 1000000) (hL : LiesI w p l) :
    Calls Tryd.prog 54 #[.slice p m cap, .int .i64 (i : Int)] w fun e w' => e = .returned (.int .i64 (l.getD i 0 : Nat)) ∧ w = w' := by
  by_cases hlt : i < m
  · obtain ⟨b, off, rfl, hr⟩ : ∃ b off, p = some ⟨b, off, none⟩ ∧ w.rangeAt b off (numsV l) := by
      rcases hL with h | h
      · subst h; simp at hm; omega
      · exact h
    have c0 := rangeI_cell hr i (by omega)
    have HR := Lib.hid hr
    clear hr hL
    generalize l.getD i 0 = x at c0 ⊢
    have q0 : (i : Int) < (m : Int) := by omega
    have q1 : 0 ≤ (i : Int) := by omega
    have q2 : (i : Int).toNat = i := by omega
    go_enter Tryd.func54, Tryd.ntmps54
    go_wp2_with fail
    go_ret
    exact ⟨rfl, rfl⟩
  · have e : l.getD i 0 = 0 := by simp [List.getD, List.getElem?_eq_none (by omega : l.length ≤ i)]
    have q0 : ¬ (i : Int) < (m : Int) := by omega
    rw [e]
    clear hL e
    go_enter Tryd.func54, Tryd.ntmps54
    go_wp2_with fail
    go_ret
    exact ⟨rfl, rfl⟩
end Go.Proofs.YtagkkihnfipfeaaDoor

/-
  The reference's Digits and carried.
-/
namespace Go.Proofs.YtagkkihnfipfeaaDoor
open Go.RowKit Go.Proofs.ShaWords
/-- Digits that a slice of the call's own holds: each below 4, of this value, so many at most. -/
structure DigW (B : Nat) (N M : Nat) (L : List Nat) (v : Value) (w : World) : Prop where
  own : OwnI B w L v
  dig : ∀ i, L.getD i 0 < 4
  val : d4 L = N
  len : L.length ≤ M
theorem getD_le {l : List Nat} {E : Nat} (h : ∀ x ∈ l, x ≤ E) (i : Nat) : l.getD i 0 ≤ E := by
  by_cases hi : i < l.length
  · simp only [List.getD, List.getElem?_eq_getElem hi, Option.getD_some]; exact h _ (List.getElem_mem hi)
  · simp [List.getD, List.getElem?_eq_none (by omega : l.length ≤ i)]
/-- What carried has, at the place k with c carried into it. -/
structure CarR (B m E : Nat) (l : List Nat) (k c : Nat) (L : List Nat) (v : Value) (w : World) : Prop where
  own : OwnI B w L v
  len : L.length = k
  dig : ∀ i, L.getD i 0 < 4
  val : d4 L + 4 ^ k * c = d4 (l.take k)
  car : c ≤ E
  far : k ≤ m ∨ (k ≤ m + 26 ∧ c * 4 ^ (k - m) < 4 ^ 26)
theorem CarR.next {B m E : Nat} {l : List Nat} {k c : Nat} {L : List Nat} {v v' : Value} {w w' : World} (h : CarR B m E l k c L v w) (hm : l.length = m) (hE : ∀ i, l.getD i 0 ≤ E) (hE2 : E < 4 ^ 26) (hgo : k < m ∨ 0 < c)
    (ho : OwnI B w' (L ++ [(l.getD k 0 + c) % 4]) v') : CarR B m E l (k + 1) ((l.getD k 0 + c) / 4) (L ++ [(l.getD k 0 + c) % 4]) v' w' := by
  have hk := hE k
  have hc := h.car
  refine ⟨ho, by rw [List.length_append, h.len]; rfl, fun i => ?_, ?_, by omega, ?_⟩
  · rw [getD_snoc]
    split
    · omega
    · exact h.dig i
  · rw [d4_append, h.len, d4_take_succ, ← h.val]
    show d4 L + 4 ^ k * (_ + 4 * 0) + _ = _
    have e := Nat.div_add_mod (l.getD k 0 + c) 4
    have m1 : 4 ^ k * (4 * ((l.getD k 0 + c) / 4) + (l.getD k 0 + c) % 4) = 4 ^ k * (l.getD k 0 + c) := by rw [e]
    rw [Nat.mul_add, Nat.mul_add] at m1
    rw [Nat.pow_succ, Nat.mul_assoc, Nat.mul_zero, Nat.add_zero]
    omega
  · rcases h.far with hf | ⟨h1, h2⟩
    · by_cases hkm : k < m
      · exact Or.inl (by omega)
      · have hz : l.getD k 0 = 0 := by simp [List.getD, List.getElem?_eq_none (by omega : l.length ≤ k)]
        rw [hz]
        refine Or.inr ⟨by omega, ?_⟩
        rw [show k + 1 - m = 1 by omega]
        omega
    · by_cases hkm : k < m
      · exact Or.inl (by omega)
      · have hz : l.getD k 0 = 0 := by simp [List.getD, List.getElem?_eq_none (by omega : l.length ≤ k)]
        have hc0 : 0 < c := by omega
        have hlt : k - m < 26 := by
          apply Nat.lt_of_not_le
          intro hge
          have h3 : 4 ^ 26 ≤ 4 ^ (k - m) := Nat.pow_le_pow_right (by omega) hge
          have h4 : 1 * 4 ^ (k - m) ≤ c * 4 ^ (k - m) := Nat.mul_le_mul_right _ hc0
          omega
        rw [hz, Nat.zero_add]
        refine Or.inr ⟨by omega, Nat.lt_of_le_of_lt ?_ h2⟩
        rw [show k + 1 - m = (k - m) + 1 by omega, Nat.pow_succ, Nat.mul_comm (4 ^ (k - m)) 4, ← Nat.mul_assoc]
        exact Nat.mul_le_mul_right _ (Nat.div_mul_le_self c 4)
set_option maxRecDepth 100000 in
set_option maxHeartbeats 4000000 in
theorem carried_any (l : List Nat) (m E : Nat) (p : Option Addr) (cap : Nat) (w : World) (hm : l.length = m) (hl : m ≤ 1000) (hE : ∀ i, l.getD i 0 ≤ E) (hE2 : E < 4 ^ 26) (hL : LiesI w p l) :
    Calls Tryd.prog 62 #[.slice p m cap] w fun e w' => ∃ L v, e = .returned v ∧ DigW w.heap.size (d4 l) (m + 26) L v w' ∧ Below w.heap.size w w' := by
  have HM := Lib.hid hm; clear hm
  have HL := Lib.hid hL; clear hL
  have HE := Lib.hid hE; clear hE
  have HE2 := Lib.hid hE2; clear hE2
  go_enter Tryd.func62, Tryd.ntmps62
  go_wp2_with fail
  go_loopw [3, 4, 5, 6] (fun v c i _ wr => ∃ (k cc : Nat) (L : List Nat), i = .int .i64 (k : Int) ∧ c = .int .i64 (cc : Int) ∧ CarR w.heap.size m E l k cc L v wr ∧ Below w.heap.size w wr) (fun _ c i _ _ => (m - (intOf i).toNat) * (E + 1) + (intOf c).toNat)
  case atStart => exact ⟨0, 0, [], rfl, rfl, ⟨OwnI.nil _ _, rfl, fun i => by simp, by simp [d4], by omega, Or.inl (Nat.zero_le _)⟩, Below.refl _ _⟩
  case round =>
    obtain ⟨k, c, L, rfl, rfl, hr, hb⟩ := hrel
    have hcE : c ≤ 4503599627370496 := by have := hr.car; have := HE2.out; omega
    have hkm : k ≤ m + 26 := by rcases hr.far with h | ⟨h, _⟩ <;> omega
    by_cases hgo : k < m ∨ 0 < c
    · have hdl := HE.out k
      have HD := Lib.hid (digit_any l m k p cap wr HM.out (by omega) (by omega) (HL.out.below hb))
      have HR := Lib.hid hr
      have HB := Lib.hid hb
      have HLN := Lib.hid hr.len
      have HO := Lib.hid hr.own
      have hEE : E ≤ 4503599627370496 := by have := HE2.out; omega
      have HX := Lib.hid (fun (v' : Value) (w' : World) => hr.next (v' := v') (w' := w') HM.out HE.out HE2.out hgo)
      have hcar := hr.car
      have hx0 : ¬ k < m → l.getD k 0 = 0 := fun h => by simp [List.getD, List.getElem?_eq_none (by have := HM.out; omega : l.length ≤ k)]
      clear hr hb
      generalize l.getD k 0 = x at HD HX hdl hx0
      obtain ⟨s, hs⟩ : ∃ s, s = x + c := ⟨_, rfl⟩
      have m0 : IntKind.i64.wrap ((x : Int) + (c : Int)) = (s : Int) := by rw [IntWalk.i64_in _ (by omega)]; omega
      rw [← hs] at HX
      have r0 : (s : Int).tmod 4 = ((s % 4 : Nat) : Int) := by rw [Int.tmod_eq_emod_of_nonneg (by omega)]; omega
      have d0 : (s : Int).tdiv 4 = ((s / 4 : Nat) : Int) := by rw [Int.tdiv_eq_ediv_of_nonneg (by omega)]; omega
      have d1 : IntKind.i64.wrap ((s / 4 : Nat) : Int) = ((s / 4 : Nat) : Int) := IntWalk.i64_in _ (by omega)
      have d2 : IntKind.i64.wrap ((s % 4 : Nat) : Int) = ((s % 4 : Nat) : Int) := IntWalk.i64_in _ (by omega)
      have hmeas : (k < m → s / 4 ≤ E) ∧ (¬ k < m → s / 4 < c) := ⟨fun _ => by omega, fun h => by
        have := hx0 h
        omega⟩
      have r1 : ((x : Int) + (c : Int)) % 4 = ((s % 4 : Nat) : Int) := by omega
      have d3 : ((x : Int) + (c : Int)) / 4 = ((s / 4 : Nat) : Int) := by omega
      clear m0 r0 d0
      generalize s / 4 = sd at d1 d3 HX hmeas
      generalize s % 4 = sm at d2 r1 HX
      clear hx0
      by_cases hkl : k < m
      · have q0 : (k : Int) < (m : Int) := by omega
        go_wp2_with fail
        refine HD.out.mono ?_
        rintro e w' ⟨rfl, rfl⟩
        go_wp2_with (at_builtin; refine wpList_append_num rfl (.tmp 22) (.tmp 25) rfl w.heap.size _ L sm rfl HO.out rfl (by rw [HLN.out]; omega) HB.out.size ?_; intro v' w' ho' hb'; have HX2 := Lib.hid (HX.out v' w' ho'); have HB2 := Lib.hid (HB.out.trans hb'); clear ho' hb')
        go_roundw
        case rel => exact ⟨k + 1, sd, L ++ [sm], by go_num, by rw [d3], HX2.out, HB2.out⟩
        case measure =>
          have h1 := hmeas.1 hkl
          obtain ⟨t, ht⟩ : ∃ t, m - k = t + 1 := ⟨m - k - 1, by omega⟩
          have h2 : (t + 1) * (E + 1) = t * (E + 1) + (E + 1) := Nat.succ_mul _ _
          have h3 : m - (k + 1) = t := by omega
          simp [intOf, d3, ht, h3, h2]
          omega
      · have q0 : ¬ (k : Int) < (m : Int) := by omega
        have q1 : 0 < (c : Int) := by omega
        have q2 : 0 < c := by omega
        go_wp2_with fail
        refine HD.out.mono ?_
        rintro e w' ⟨rfl, rfl⟩
        go_wp2_with (at_builtin; refine wpList_append_num rfl (.tmp 22) (.tmp 25) rfl w.heap.size _ L sm rfl HO.out rfl (by rw [HLN.out]; omega) HB.out.size ?_; intro v' w' ho' hb'; have HX2 := Lib.hid (HX.out v' w' ho'); have HB2 := Lib.hid (HB.out.trans hb'); clear ho' hb')
        go_roundw
        case rel => exact ⟨k + 1, sd, L ++ [sm], by go_num, by rw [d3], HX2.out, HB2.out⟩
        case measure =>
          have h1 := hmeas.2 hkl
          have h3 : m - (k + 1) = 0 := by omega
          have h4 : m - k = 0 := by omega
          simp [intOf, d3, h3, h4]
          omega
    · have hk : ¬ (k : Int) < (m : Int) := by omega
      have hc0 : c = 0 := by omega
      subst hc0
      have HV : Hid (d4 L = d4 l) := show _ = _ by
        have h1 := hr.val
        rw [Nat.mul_zero, Nat.add_zero, List.take_of_length_le (by rw [HM.out]; omega)] at h1
        exact h1
      have HDW : Hid (DigW w.heap.size (d4 l) (m + 26) L u3 wr) := ⟨hr.own, hr.dig, HV.out, by rw [hr.len]; exact hkm⟩
      have HB := Lib.hid hb
      clear hr hb HV
      go_wp2_with fail
      go_ret
      exact ⟨L, u3, rfl, HDW.out, HB.out⟩
end Go.Proofs.YtagkkihnfipfeaaDoor

/-
  The reference's plus and trimmed.
-/
namespace Go.Proofs.YtagkkihnfipfeaaDoor
open Go.RowKit Go.Proofs.ShaWords
theorem run_max {ρ : Operand → Value} {o : Oper} {x y : Operand} {n m k : Nat} (ho : o.op = .call { callee := .builtin .max, args := #[x, y], argTypes := #[3, 3] }) (hx : ρ x = .int .i64 (n : Int)) (hy : ρ y = .int .i64 (m : Int)) (hk : k = max n m) (w : World) :
    (execOp ρ o).run Tryd.prog w = .ok (.value (.int .i64 (k : Int))) w := by
  obtain ⟨dst, op, ty', pos, after, guard⟩ := o
  simp only at ho
  subst ho
  by_cases h : n < m
  · have q : (n : Int) < (m : Int) := by omega
    have q2 : ¬ (m : Int) < (n : Int) := by omega
    have q3 : (n : Int) ≤ (m : Int) := by omega
    obtain rfl : k = m := by omega
    clear hk h
    go_simp
  · by_cases h2 : m < n
    · have q : ¬ (n : Int) < (m : Int) := by omega
      have q2 : (m : Int) < (n : Int) := by omega
      have q3 : (m : Int) ≤ (n : Int) := by omega
      obtain rfl : k = n := by omega
      clear hk h h2
      go_simp
    · obtain rfl : n = m := by omega
      obtain rfl : k = n := by omega
      clear hk h h2
      go_simp
theorem wpList_max {ops : Array Oper} {rest : List Oper} {o : Oper} {a : Act} {w : World} {Q : Exit → Act → World → Prop} (hg : o.guard = none) (x y : Operand) (ho : o.op = .call { callee := .builtin .max, args := #[x, y], argTypes := #[3, 3] }) (n m k : Nat)
    (hx : a.eval x = .int .i64 (n : Int)) (hy : a.eval y = .int .i64 (m : Int)) (hk : k = max n m) (h : wpList Tryd.prog ops Q rest (a.put o.dst (.int .i64 (k : Int))) w) : wpList Tryd.prog ops Q (o :: rest) a w := by
  refine wpList_plain hg fun K hK => ?_
  unfold Oper.wp
  rw [run_max ho hx hy hk w, Oper.upon_value]
  exact hK _ _ h
theorem OwnI.base {B B' : Nat} {w : World} {l : List Nat} {v : Value} (h : OwnI B w l v) (hb : B' ≤ B) : OwnI B' w l v := by
  rcases h.2 with h0 | ⟨g, cap, cur, he, hg, hr⟩
  · exact ⟨h.1, .inl h0⟩
  · exact ⟨h.1, .inr ⟨g, cap, cur, he, Nat.le_trans hb hg, hr⟩⟩
/-- Two rows of digits, added place by place. -/
structure AddR (B E : Nat) (a b : List Nat) (k : Nat) (L : List Nat) (v : Value) (w : World) : Prop where
  own : OwnI B w L v
  len : L.length = k
  ent : ∀ i, L.getD i 0 ≤ E
  val : d4 L = d4 (a.take k) + d4 (b.take k)
theorem AddR.next {B E : Nat} {a b : List Nat} {k : Nat} {L : List Nat} {v v' : Value} {w w' : World} (h : AddR B E a b k L v w) (hE : a.getD k 0 + b.getD k 0 ≤ E) (ho : OwnI B w' (L ++ [a.getD k 0 + b.getD k 0]) v') : AddR B E a b (k + 1) (L ++ [a.getD k 0 + b.getD k 0]) v' w' := by
  refine ⟨ho, by rw [List.length_append, h.len]; rfl, fun i => ?_, ?_⟩
  · rw [getD_snoc]
    split
    · exact hE
    · exact h.ent i
  · rw [d4_append, h.len, h.val, d4_take_succ, d4_take_succ]
    show _ + 4 ^ k * (_ + 4 * 0) = _
    rw [Nat.mul_zero, Nat.add_zero, Nat.mul_add]; omega
set_option maxRecDepth 100000 in
set_option maxHeartbeats 4000000 in
theorem rplus_any (a b : List Nat) (la lb : Nat) (pa pb : Option Addr) (ca cb : Nat) (w : World) (hla : a.length = la) (hlb : b.length = lb) (hsa : la ≤ 400) (hsb : lb ≤ 400) (ha : ∀ i, a.getD i 0 < 4) (hb : ∀ i, b.getD i 0 < 4) (hLa : LiesI w pa a) (hLb : LiesI w pb b) :
    Calls Tryd.prog 53 #[.slice pa la ca, .slice pb lb cb] w fun e w' => ∃ L v, e = .returned v ∧ DigW w.heap.size (d4 a + d4 b) (max la lb + 26) L v w' ∧ Below w.heap.size w w' := by
  have HLA := Lib.hid hla; clear hla
  have HLB := Lib.hid hlb; clear hlb
  have HA := Lib.hid ha; clear ha
  have HB := Lib.hid hb; clear hb
  have HPA := Lib.hid hLa; clear hLa
  have HPB := Lib.hid hLb; clear hLb
  obtain ⟨M, hM⟩ : ∃ M, M = max la lb := ⟨_, rfl⟩
  have HM := Lib.hid hM
  rw [← hM]
  have hM4 : M ≤ 400 := by omega
  clear hM
  go_enter Tryd.func53, Tryd.ntmps53
  go_wp2_with fail
  go_loopw [5, 6] (fun v i wr => ∃ (k : Nat) (L : List Nat), k ≤ M ∧ i = .int .i64 (k : Int) ∧ AddR w.heap.size 6 a b k L v wr ∧ Below w.heap.size w wr) (fun _ i _ => M - (intOf i).toNat)
  case atStart => exact ⟨0, [], Nat.zero_le _, rfl, ⟨OwnI.nil _ _, rfl, fun i => by simp, by simp [d4]⟩, Below.refl _ _⟩
  case round =>
    obtain ⟨k, L, hk, rfl, hr, hb⟩ := hrel
    by_cases hlt : k < M
    · have HD1 := Lib.hid (digit_any a la k pa ca wr HLA.out (by omega) (by omega) (HPA.out.below hb))
      have HD2 := Lib.hid (digit_any b lb k pb cb wr HLB.out (by omega) (by omega) (HPB.out.below hb))
      have ha4 := HA.out k
      have hb4 := HB.out k
      have HX := Lib.hid (fun (v' : Value) (w' : World) => hr.next (v' := v') (w' := w') (by omega))
      have HLN := Lib.hid hr.len
      have HO := Lib.hid hr.own
      have HBE := Lib.hid hb
      clear hr hb
      generalize a.getD k 0 = x at HD1 HX ha4
      generalize b.getD k 0 = y at HD2 HX hb4
      obtain ⟨s, hs⟩ : ∃ s, s = x + y := ⟨_, rfl⟩
      rw [← hs] at HX
      have m0 : IntKind.i64.wrap ((x : Int) + (y : Int)) = (s : Int) := by rw [IntWalk.i64_in _ (by omega)]; omega
      have m1 : (x : Int) + (y : Int) = (s : Int) := by omega
      clear hs
      have q0 : (k : Int) < (M : Int) := by omega
      go_wp2_with (refine wpList_max rfl (.tmp 9) (.tmp 11) rfl la lb M rfl rfl HM.out ?_)
      refine HD1.out.mono ?_
      rintro e w' ⟨rfl, rfl⟩
      go_wp2_with fail
      refine HD2.out.mono ?_
      rintro e w' ⟨rfl, rfl⟩
      go_wp2_with (at_builtin; refine wpList_append_num rfl (.tmp 16) (.tmp 24) rfl w.heap.size _ L s rfl HO.out rfl (by rw [HLN.out]; omega) HBE.out.size ?_; intro v' w' ho' hb'; have HX2 := Lib.hid (HX.out v' w' ho'); have HB2 := Lib.hid (HBE.out.trans hb'); clear ho' hb')
      go_roundw
      case rel => exact ⟨k + 1, L ++ [s], by omega, by go_num, HX2.out, HB2.out⟩
      case measure => simp [intOf]; omega
    · obtain rfl : k = M := by omega
      have HBE := Lib.hid hb
      obtain ⟨p5, c5, hv5, hc5, hl5⟩ := hr.own.lies
      rw [hr.len] at hv5 hc5
      subst hv5
      have HR := Lib.hid hr
      have HL5 := Lib.hid hl5
      have HV : Hid (d4 L = d4 a + d4 b) := show _ = _ by rw [hr.val, List.take_of_length_le (by rw [HLA.out, HM.out]; omega), List.take_of_length_le (by rw [HLB.out, HM.out]; omega)]
      clear hb hr hl5
      go_wp2_with (refine wpList_max rfl (.tmp 9) (.tmp 11) rfl la lb k rfl rfl HM.out ?_)
      refine (carried_any L k 6 p5 c5 wr HR.out.len (by omega) HR.out.ent (by omega) HL5.out).mono ?_
      rintro e w2 ⟨L2, v2, rfl, hd, hb2⟩
      have HD := Lib.hid hd
      have HB2 := Lib.hid (HBE.out.trans (hb2.mono HBE.out.size))
      have hsz := HBE.out.size
      clear hd hb2
      go_wp2_with fail
      go_ret
      refine ⟨L2, v2, rfl, ⟨HD.out.own.base hsz, HD.out.dig, HD.out.val.trans HV.out, HD.out.len⟩, HB2.out⟩
end Go.Proofs.YtagkkihnfipfeaaDoor

/-
  What poly's limbs come to, as numbers: sums, products, what is left modulo 2^130 - 5.
-/
namespace Go.Proofs.YtagkkihnfipfeaaDoor
open Go.Proofs.ShaWords

/-- The number of bytes, the lowest first. -/
def leN : List (BitVec 8) → Nat
  | [] => 0
  | b :: r => b.toNat + 256 * leN r
abbrev P130 : Nat := 1361129467683753853853498429727072845819
/-- The value of limbs. -/
def val5 (l : List (BitVec 64)) : Nat :=
  (l.getD 0 0#64).toNat + 67108864 * (l.getD 1 0#64).toNat + 4503599627370496 * (l.getD 2 0#64).toNat + 302231454903657293676544 * (l.getD 3 0#64).toNat + 20282409603651670423947251286016 * (l.getD 4 0#64).toNat
theorem val5_five (a b c d e : BitVec 64) : val5 [a, b, c, d, e] = a.toNat + 67108864 * b.toNat + 4503599627370496 * c.toNat + 302231454903657293676544 * d.toNat + 20282409603651670423947251286016 * e.toNat := rfl
/-- The limbs of a number. -/
def limbsOf (v : Nat) : List (BitVec 64) :=
  [BitVec.ofNat 64 (v % 67108864), BitVec.ofNat 64 (v / 67108864 % 67108864), BitVec.ofNat 64 (v / 4503599627370496 % 67108864), BitVec.ofNat 64 (v / 302231454903657293676544 % 67108864), BitVec.ofNat 64 (v / 20282409603651670423947251286016 % 67108864)]
theorem limbsOf_length (v : Nat) : (limbsOf v).length = 5 := rfl
theorem toNat_small (v : Nat) : (BitVec.ofNat 64 (v % 67108864)).toNat = v % 67108864 := by rw [BitVec.toNat_ofNat]; omega
theorem val5_limbsOf (v : Nat) (h : v < 1361129467683753853853498429727072845824) : val5 (limbsOf v) = v := by
  unfold limbsOf
  rw [val5_five]
  simp only [toNat_small]
  omega
theorem mask_eq (x : BitVec 64) : x &&& 67108863#64 = BitVec.ofNat 64 (x.toNat % 67108864) := by
  apply BitVec.eq_of_toNat_eq
  rw [toNat_small, BitVec.toNat_and]
  exact Nat.and_two_pow_sub_one_eq_mod x.toNat 26
theorem shr_eq (x : BitVec 64) : (x >>> 26).toNat = x.toNat / 67108864 := by rw [BitVec.toNat_ushiftRight, Nat.shiftRight_eq_div_pow]
theorem add_small (x y : BitVec 64) (h : x.toNat + y.toNat < 18446744073709551616) : (x + y).toNat = x.toNat + y.toNat := by rw [BitVec.toNat_add]; omega
theorem normal_num (l : List (BitVec 64)) (h5 : l.length = 5) (h : ∀ i, (l.getD i 0#64).toNat < 1152921504606846976) :
    normL l 5 = limbsOf (val5 l % 1361129467683753853853498429727072845824) ∧ (normO l 5).toNat = val5 l / 1361129467683753853853498429727072845824 := by
  obtain ⟨a, b, c, d, e, rfl⟩ := five l h5
  have ha := h 0; have hb := h 1; have hc := h 2; have hd := h 3; have he := h 4
  simp only [List.getD_cons_zero, List.getD_cons_succ] at ha hb hc hd he
  obtain ⟨s0, hs0⟩ : ∃ s, s = a + 0#64 := ⟨_, rfl⟩
  obtain ⟨s1, hs1⟩ : ∃ s, s = b + s0 >>> 26 := ⟨_, rfl⟩
  obtain ⟨s2, hs2⟩ : ∃ s, s = c + s1 >>> 26 := ⟨_, rfl⟩
  obtain ⟨s3, hs3⟩ : ∃ s, s = d + s2 >>> 26 := ⟨_, rfl⟩
  obtain ⟨s4, hs4⟩ : ∃ s, s = e + s3 >>> 26 := ⟨_, rfl⟩
  have e1 : normL [a, b, c, d, e] 5 = [s0 &&& 67108863#64, s1 &&& 67108863#64, s2 &&& 67108863#64, s3 &&& 67108863#64, s4 &&& 67108863#64] := by
    subst hs4 hs3 hs2 hs1 hs0; rfl
  have e2 : normO [a, b, c, d, e] 5 = s4 >>> 26 := by subst hs4 hs3 hs2 hs1 hs0; rfl
  have t0 : s0.toNat = a.toNat := by rw [hs0, BitVec.add_zero]
  have u0 := shr_eq s0
  have t1 : s1.toNat = b.toNat + a.toNat / 67108864 := by rw [hs1, add_small _ _ (by omega)]; omega
  have u1 := shr_eq s1
  have t2 : s2.toNat = c.toNat + s1.toNat / 67108864 := by rw [hs2, add_small _ _ (by omega)]; omega
  have u2 := shr_eq s2
  have t3 : s3.toNat = d.toNat + s2.toNat / 67108864 := by rw [hs3, add_small _ _ (by omega)]; omega
  have u3 := shr_eq s3
  have t4 : s4.toNat = e.toNat + s3.toNat / 67108864 := by rw [hs4, add_small _ _ (by omega)]; omega
  have u4 := shr_eq s4
  rw [e1, e2, u4, val5_five]
  clear e1 e2 hs0 hs1 hs2 hs3 hs4 u0 u1 u2 u3 u4 ha hb hc hd he h h5
  simp only [mask_eq]
  generalize s0.toNat = n0 at *
  generalize s1.toNat = n1 at *
  generalize s2.toNat = n2 at *
  generalize s3.toNat = n3 at *
  generalize s4.toNat = n4 at *
  generalize a.toNat = a at *
  generalize b.toNat = b at *
  generalize c.toNat = c at *
  generalize d.toNat = d at *
  generalize e.toNat = e at *
  obtain ⟨V, hV⟩ : ∃ V, V = a + 67108864 * b + 4503599627370496 * c + 302231454903657293676544 * d + 20282409603651670423947251286016 * e := ⟨_, rfl⟩
  rw [← hV]
  have v1 : V / 67108864 = n1 + 67108864 * (c + 67108864 * (d + 67108864 * e)) := by omega
  have v2 : V / 4503599627370496 = n2 + 67108864 * (d + 67108864 * e) := by omega
  have v3 : V / 302231454903657293676544 = n3 + 67108864 * e := by omega
  have v4 : V / 20282409603651670423947251286016 = n4 := by omega
  have v5 : V / 1361129467683753853853498429727072845824 = n4 / 67108864 := by omega
  refine ⟨?_, v5.symm⟩
  unfold limbsOf
  have w0 : V % 1361129467683753853853498429727072845824 % 67108864 = n0 % 67108864 := by omega
  have w1 : V % 1361129467683753853853498429727072845824 / 67108864 % 67108864 = n1 % 67108864 := by omega
  have w2 : V % 1361129467683753853853498429727072845824 / 4503599627370496 % 67108864 = n2 % 67108864 := by omega
  have w3 : V % 1361129467683753853853498429727072845824 / 302231454903657293676544 % 67108864 = n3 % 67108864 := by omega
  have w4 : V % 1361129467683753853853498429727072845824 / 20282409603651670423947251286016 % 67108864 = n4 % 67108864 := by omega
  rw [w0, w1, w2, w3, w4]
/-- Limb by limb. -/
theorem addL_five (a b c d e a' b' c' d' e' : BitVec 64) : addL [a, b, c, d, e] [a', b', c', d', e'] 5 = [a + a', b + b', c + c', d + d', e + e'] := rfl
theorem addL_num (x y : List (BitVec 64)) (hx : x.length = 5) (hy : y.length = 5) (B C : Nat) (hB : ∀ i, (x.getD i 0#64).toNat < B) (hC : ∀ i, (y.getD i 0#64).toNat < C) (h : B + C ≤ 18446744073709551616) :
    val5 (addL x y 5) = val5 x + val5 y ∧ ∀ i, ((addL x y 5).getD i 0#64).toNat < B + C := by
  obtain ⟨a, b, c, d, e, rfl⟩ := five x hx
  obtain ⟨a', b', c', d', e', rfl⟩ := five y hy
  have ha := hB 0; have hb := hB 1; have hc := hB 2; have hd := hB 3; have he := hB 4
  have ha' := hC 0; have hb' := hC 1; have hc' := hC 2; have hd' := hC 3; have he' := hC 4
  simp only [List.getD_cons_zero, List.getD_cons_succ] at ha hb hc hd he ha' hb' hc' hd' he'
  rw [addL_five]
  have s0 := add_small a a' (by omega)
  have s1 := add_small b b' (by omega)
  have s2 := add_small c c' (by omega)
  have s3 := add_small d d' (by omega)
  have s4 := add_small e e' (by omega)
  refine ⟨by simp only [val5_five, s0, s1, s2, s3, s4]; omega, fun i => ?_⟩
  match i with
  | 0 => simp only [List.getD_cons_zero]; omega
  | 1 => simp only [List.getD_cons_zero, List.getD_cons_succ]; omega
  | 2 => simp only [List.getD_cons_zero, List.getD_cons_succ]; omega
  | 3 => simp only [List.getD_cons_zero, List.getD_cons_succ]; omega
  | 4 => simp only [List.getD_cons_zero, List.getD_cons_succ]; omega
  | i + 5 => simp; omega
theorem limbsOf_small (v i : Nat) : ((limbsOf v).getD i 0#64).toNat < 67108864 := by
  unfold limbsOf
  match i with
  | 0 => simp only [List.getD_cons_zero, toNat_small]; omega
  | 1 => simp only [List.getD_cons_zero, List.getD_cons_succ, toNat_small]; omega
  | 2 => simp only [List.getD_cons_zero, List.getD_cons_succ, toNat_small]; omega
  | 3 => simp only [List.getD_cons_zero, List.getD_cons_succ, toNat_small]; omega
  | 4 => simp only [List.getD_cons_zero, List.getD_cons_succ, toNat_small]; omega
  | i + 5 => simp
end Go.Proofs.YtagkkihnfipfeaaDoor

/-
  The reference's trimmed and p.
-/
namespace Go.Proofs.YtagkkihnfipfeaaDoor
open Go.RowKit Go.Proofs.ShaWords
theorem d4_cut (l : List Nat) (n : Nat) (h : l.getD n 0 = 0) (hv : d4 (l.take (n + 1)) = d4 l) : d4 (l.take n) = d4 l := by
  rw [← hv, d4_take_succ, h, Nat.mul_zero, Nat.add_zero]
set_option maxRecDepth 100000 in
set_option maxHeartbeats 2000000 in
theorem trimmed_any (l : List Nat) (m : Nat) (p : Option Addr) (cap : Nat) (w : World) (hm : l.length = m) (hl : m ≤ 1000) (hcap : m ≤ cap) (hL : LiesI w p l) :
    Calls Tryd.prog 60 #[.slice p m cap] w fun e w' => ∃ n, e = .returned (.slice p n cap) ∧ n ≤ m ∧ (n = 0 ∨ l.getD (n - 1) 0 ≠ 0) ∧ d4 (l.take n) = d4 l ∧ w = w' := by
  have HM := Lib.hid hm; clear hm
  have HL := Lib.hid hL; clear hL
  go_enter Tryd.func60, Tryd.ntmps60
  go_wp2_with fail
  go_loopw [3] (fun i wr => ∃ n : Nat, n ≤ m ∧ i = .int .i64 (n : Int) ∧ d4 (l.take n) = d4 l ∧ wr = w) (fun i _ => (intOf i).toNat)
  case atStart => exact ⟨m, Nat.le_refl _, rfl, by rw [List.take_of_length_le (by rw [HM.out]; omega)], rfl⟩
  case round =>
    obtain ⟨n, hn, rfl, hv, rfl⟩ := hrel
    by_cases h0 : n = 0
    · subst h0
      have HV := Lib.hid hv; clear hv
      have q1 : 0 ≤ (cap : Int) := by omega
      go_wp2_with fail
      go_ret
      exact ⟨0, rfl, Nat.zero_le _, Or.inl rfl, HV.out, rfl⟩
    · obtain ⟨b, off, hp, hr⟩ : ∃ b off, p = some ⟨b, off, none⟩ ∧ wr.rangeAt b off (numsV l) := by
        rcases HL.out with h | h
        · have := HM.out; rw [h] at this; simp at this; omega
        · exact h
      subst hp
      obtain ⟨k, rfl⟩ : ∃ k, n = k + 1 := ⟨n - 1, by omega⟩
      have c0 := rangeI_cell hr k (by rw [HM.out]; omega)
      have HV := Lib.hid hv
      have HR := Lib.hid hr
      clear hv hr
      have HC := Lib.hid (d4_cut l k)
      have q0 : 0 < ((k + 1 : Nat) : Int) := by omega
      have s0 : IntKind.i64.wrap (((k + 1 : Nat) : Int) - 1) = (k : Int) := by rw [IntWalk.i64_in _ (by omega)]; omega
      have q1 : 0 ≤ (k : Int) := by omega
      have q2 : (k : Int) < (m : Int) := by omega
      have q3 : (k : Int).toNat = k := by omega
      have HX : Hid (l.getD (k + 1 - 1) 0 = l.getD k 0) := show _ = _ by rw [Nat.add_sub_cancel]
      generalize l.getD k 0 = x at c0 HC HX
      obtain ⟨n, hnk⟩ : ∃ n, n = k + 1 := ⟨_, rfl⟩
      rw [← hnk] at q0 s0 HV HX hn ⊢
      have n1 : (n : Int) ≤ (cap : Int) := by omega
      have n2 : 0 ≤ (n : Int) := by omega
      have n3 : 0 < n := by omega
      have n4 : (n : Int).toNat = n := by omega
      by_cases hx : x = 0
      · subst hx
        have s1 : (n : Int) - 1 = (k : Int) := by omega
        go_wp2_with fail
        go_roundw
        case rel => exact ⟨k, by omega, by first | rfl | rw [s1], HC.out rfl (by rw [← hnk]; exact HV.out), by trivial⟩
        case measure => simp [intOf]; omega
      · have x0 : ¬ (x : Int) = 0 := by omega
        have s1 : (n : Int) - 1 = (k : Int) := by omega
        go_wp2_with fail
        go_ret
        exact ⟨n, by rw [hnk]; rfl, hn, Or.inr (by rw [HX.out]; exact hx), HV.out, rfl⟩
/-- The digits of 2^130 - 5. -/
def threes (k : Nat) : List Nat := List.replicate k 3
theorem threes_succ (k : Nat) : threes k ++ [3] = threes (k + 1) := by unfold threes; rw [List.replicate_succ']
def pL : List Nat := (threes 65).set 1 2
theorem pL_val : d4 pL = P130 := by decide +kernel
theorem pL_length : pL.length = 65 := by decide
theorem pL_dig (i : Nat) : pL.getD i 0 < 4 := by
  by_cases h : i < 65
  · have H : ∀ i : Fin 65, pL.getD i.val 0 < 4 := by decide +kernel
    exact H ⟨i, h⟩
  · simp [List.getD, List.getElem?_eq_none (show pL.length ≤ i by rw [pL_length]; omega)]
theorem OwnI.form {B : Nat} {w : World} {l : List Nat} {v : Value} (h : OwnI B w l v) (hne : 0 < l.length) : ∃ g cap, v = .slice (some ⟨g, 0, none⟩) l.length cap ∧ B ≤ g ∧ g < w.heap.size ∧ l.length ≤ cap ∧
    (∀ j, j < l.length → w.cell? ⟨g, j, none⟩ = some (.int .i64 (l.getD j 0 : Nat))) ∧ ∀ j, w.frozen? ⟨g, j, none⟩ = false := by
  rcases h.2 with ⟨rfl, h0⟩ | ⟨g, cap, cur, rfl, hg, hh, hc, hm, hs, ht⟩
  · omega
  · refine ⟨g, cap, rfl, hg, (Array.getElem?_eq_some_iff.1 hh).1, hc, fun j hj => ?_, fun j => frozen_of_row _ _ _ _ _ hh⟩
    rw [cell_of_row w g j cur 3 (0, 0) hh]
    have hv : (numsV l)[j]? = some (.int .i64 (l.getD j 0 : Nat)) := by simp [numsV, List.getD, hj]
    rw [← ht, Nat.mul_one, List.getElem?_take, if_pos hj] at hv
    simpa using hv
theorem OwnI.put {B g n cap : Nat} {w : World} {l : List Nat} (h : OwnI B w l (.slice (some ⟨g, 0, none⟩) n cap)) (k : Nat) (x : Nat) : OwnI B (w.setCell ⟨g, k, none⟩ (.int .i64 (x : Int))) (l.set k x) (.slice (some ⟨g, 0, none⟩) n cap) := by
  rcases h.2 with ⟨h0, _⟩ | ⟨g', cap', cur, he, hg, hh, hc, hm, hs, ht⟩
  · cases h0
  · cases he
    refine ⟨by rw [numsV_length, Nat.mul_one], .inr ⟨g, cap, cur.setIfInBounds k (.int .i64 (x : Int)), by rw [List.length_set], hg, heap_setCell_same _ _ _ _ _ _ hh, by rw [List.length_set]; exact hc, hm, by rw [Array.size_setIfInBounds]; exact hs, ?_⟩⟩
    rw [Nat.mul_one] at ht
    rw [List.length_set, Array.toList_setIfInBounds, Nat.mul_one, List.take_set, ht]
    simp [numsV, List.map_set]
attribute [local irreducible] threes
set_option maxRecDepth 100000 in
set_option maxHeartbeats 2000000 in
theorem p_any (w : World) : Calls Tryd.prog 65 #[] w fun e w' => ∃ v, e = .returned v ∧ OwnI w.heap.size w' pL v ∧ Below w.heap.size w w' := by
  have HT0 : Hid (threes 0 = []) := show _ = _ by unfold threes; rfl
  have HTL : Hid (∀ k, (threes k).length = k) := show ∀ k, _ = _ from fun k => by unfold threes; simp
  go_enter Tryd.func65, Tryd.ntmps65
  go_wp2_with fail
  go_loopw [1, 2] (fun v i wr => ∃ k : Nat, k ≤ 65 ∧ i = .int .i64 (k : Int) ∧ OwnI w.heap.size wr (threes k) v ∧ Below w.heap.size w wr) (fun _ i _ => 65 - (intOf i).toNat)
  case atStart => exact ⟨0, by omega, rfl, by rw [HT0.out]; exact OwnI.nil _ _, Below.refl _ _⟩
  case round =>
    obtain ⟨k, hk, rfl, ho, hb⟩ := hrel
    have HO := Lib.hid ho
    have HB := Lib.hid hb
    clear ho hb
    by_cases hlt : k < 65
    · have q0 : (k : Int) < 65 := by omega
      go_wp2_with (at_builtin; refine wpList_append_num rfl (.tmp 7) (.tmp 8) rfl w.heap.size _ (threes k) 3 rfl HO.out rfl (by rw [HTL.out]; omega) HB.out.size ?_; intro v' w' ho' hb'; have HX2 := Lib.hid ho'; have HB2 := Lib.hid (HB.out.trans hb'); clear ho' hb')
      go_roundw
      case rel => exact ⟨k + 1, by omega, by go_num, by rw [← threes_succ]; exact HX2.out, HB2.out⟩
      case measure => simp [intOf]; omega
    · obtain rfl : k = 65 := by omega
      obtain ⟨g, cp, hv, hg, hgs, hcp, hcell, hfz⟩ := HO.out.form (by rw [HTL.out]; omega)
      subst hv
      have c1 := hcell 1 (by rw [HTL.out]; omega)
      have f1 := hfz 1
      rw [HTL.out] at HO hcp ⊢
      clear hcell hfz
      generalize (threes 65).getD 1 0 = u at c1
      go_wp2_with fail
      go_ret
      refine ⟨_, rfl, ?_, HB.out.setCell hg _⟩
      unfold pL
      exact HO.out.put 1 2
end Go.Proofs.YtagkkihnfipfeaaDoor

/-
  poly's numbers: reduced, multiplied.
-/
namespace Go.Proofs.YtagkkihnfipfeaaDoor
open Go.Proofs.ShaWords

theorem oneLimb_small (x : BitVec 64) (B : Nat) (h : x.toNat < B) (i : Nat) : ((oneLimb x).getD i 0#64).toNat < B := by
  unfold oneLimb
  match i with
  | 0 => simpa using h
  | 1 => simp; omega
  | 2 => simp; omega
  | 3 => simp; omega
  | 4 => simp; omega
  | i + 5 => simp; omega
theorem val5_oneLimb (x : BitVec 64) : val5 (oneLimb x) = x.toNat := by
  unfold oneLimb
  rw [val5_five]; simp
theorem mul_small (x y : BitVec 64) (h : x.toNat * y.toNat < 18446744073709551616) : (x * y).toNat = x.toNat * y.toNat := by rw [BitVec.toNat_mul, Nat.mod_eq_of_lt h]
set_option maxHeartbeats 2000000 in
theorem reduced_num (l : List (BitVec 64)) (h5 : l.length = 5) (h : ∀ i, (l.getD i 0#64).toNat < 288230376151711744) : redOf l = limbsOf (val5 l % P130) := by
  obtain ⟨n1, o1⟩ := normal_num l h5 (fun i => by have := h i; omega)
  have hv : val5 l < 288230376151711744 * 20282410000000000000000000000000 := by
    have h0 := h 0; have h1 := h 1; have h2 := h 2; have h3 := h 3; have h4 := h 4
    unfold val5; omega
  generalize val5 l = V at n1 o1 hv
  have ho : (normO l 5).toNat < 4300000000 := by rw [o1]; omega
  obtain ⟨L, hL⟩ : ∃ L, L = limbsOf (V % 1361129467683753853853498429727072845824) := ⟨_, rfl⟩
  have ha : redA l = L.set 0 (L.getD 0 0#64 + 5#64 * normO l 5) := by rw [redA_eq, n1, hL]
  have hm : (5#64 * normO l 5).toNat = 5 * (normO l 5).toNat := by rw [mul_small _ _ (by simp; omega)]; rfl
  have hLv : val5 L = V % 1361129467683753853853498429727072845824 := by rw [hL]; exact val5_limbsOf _ (by omega)
  have hLs : ∀ i, (L.getD i 0#64).toNat < 67108864 := by rw [hL]; exact limbsOf_small _
  have hL5 : L.length = 5 := by rw [hL]; rfl
  have hav : val5 (redA l) = V % 1361129467683753853853498429727072845824 + 5 * (V / 1361129467683753853853498429727072845824) ∧ (redA l).length = 5 ∧ ∀ i, ((redA l).getD i 0#64).toNat < 34359738368 := by
    rw [ha]
    clear hL ha n1
    obtain ⟨a, b, c, d, e, rfl⟩ := five L hL5
    have ta := hLs 0; have tb := hLs 1; have tc := hLs 2; have td := hLs 3; have te := hLs 4
    simp only [List.getD_cons_zero, List.getD_cons_succ] at ta tb tc td te
    have hs : (a + 5#64 * normO l 5).toNat = a.toNat + 5 * (normO l 5).toNat := by rw [add_small _ _ (by rw [hm]; omega), hm]
    rw [List.set_cons_zero, List.getD_cons_zero]
    rw [val5_five] at hLv
    refine ⟨?_, rfl, fun i => ?_⟩
    · rw [val5_five, hs]; omega
    · match i with
      | 0 => simp only [List.getD_cons_zero]; omega
      | 1 => simp only [List.getD_cons_zero, List.getD_cons_succ]; omega
      | 2 => simp only [List.getD_cons_zero, List.getD_cons_succ]; omega
      | 3 => simp only [List.getD_cons_zero, List.getD_cons_succ]; omega
      | 4 => simp only [List.getD_cons_zero, List.getD_cons_succ]; omega
      | i + 5 => simp
  obtain ⟨hv1, hl1, hs1⟩ := hav
  obtain ⟨W, hW⟩ : ∃ W, W = V % 1361129467683753853853498429727072845824 + 5 * (V / 1361129467683753853853498429727072845824) := ⟨_, rfl⟩
  rw [← hW] at hv1
  have hWb : W < 1361129467683753853853498429727072845824 + 21500000000 := by omega
  have hWp : W % P130 = V % P130 := by unfold P130; omega
  obtain ⟨a1, a2⟩ := addL_num (redA l) (oneLimb 5#64) hl1 rfl 34359738368 6 hs1 (oneLimb_small _ _ (by decide)) (by omega)
  obtain ⟨-, o2⟩ := normal_num (addL (redA l) (oneLimb 5#64) 5) (by rw [addL_length, hl1]) (fun i => by have := a2 i; omega)
  rw [a1, hv1, val5_oneLimb] at o2
  rw [← redO_eq] at o2
  have o3 : (redO l).toNat = (W + 5) / 1361129467683753853853498429727072845824 := o2
  have ho3 : (redO l).toNat ≤ 1 := by rw [o3]; omega
  have hm2 : (5#64 * redO l).toNat = 5 * (redO l).toNat := by rw [mul_small _ _ (by simp; omega)]; rfl
  obtain ⟨b1, b2⟩ := addL_num (redA l) (oneLimb (5#64 * redO l)) hl1 rfl 34359738368 6 hs1 (oneLimb_small _ _ (by rw [hm2]; omega)) (by omega)
  obtain ⟨n3, -⟩ := normal_num (addL (redA l) (oneLimb (5#64 * redO l)) 5) (by rw [addL_length, hl1]) (fun i => by have := b2 i; omega)
  rw [redOf_eq, n3, b1, hv1, val5_oneLimb, hm2, o3, ← hWp]
  congr 1
  clear n1 o1 n3 b1 b2 a1 a2 o2 o3 ho3 hm2 hv1 hs1 hLs hLv hWp
  have hP : P130 = 1361129467683753853853498429727072845819 := rfl
  rw [hP]
  by_cases hc : W < 1361129467683753853853498429727072845819
  · have e1 : (W + 5) / 1361129467683753853853498429727072845824 = 0 := by omega
    rw [e1, Nat.mul_zero, Nat.add_zero, Nat.mod_eq_of_lt hc, Nat.mod_eq_of_lt (by omega)]
  · have e1 : (W + 5) / 1361129467683753853853498429727072845824 = 1 := by omega
    have e2 : W % 1361129467683753853853498429727072845819 = W - 1361129467683753853853498429727072845819 := by rw [Nat.mod_eq_sub_mod (by omega), Nat.mod_eq_of_lt (by omega)]
    rw [e1, e2, Nat.mul_one]
    omega
theorem prod_five (x0 x1 x2 x3 x4 y0 y1 y2 y3 y4 : BitVec 64) : mulL [x0, x1, x2, x3, x4] [y0, y1, y2, y3, y4] 5 =
    [0#64 + x0 * y0 + 5#64 * x1 * y4 + 5#64 * x2 * y3 + 5#64 * x3 * y2 + 5#64 * x4 * y1, 0#64 + x0 * y1 + x1 * y0 + 5#64 * x2 * y4 + 5#64 * x3 * y3 + 5#64 * x4 * y2,
     0#64 + x0 * y2 + x1 * y1 + x2 * y0 + 5#64 * x3 * y4 + 5#64 * x4 * y3, 0#64 + x0 * y3 + x1 * y2 + x2 * y1 + x3 * y0 + 5#64 * x4 * y4, 0#64 + x0 * y4 + x1 * y3 + x2 * y2 + x3 * y1 + x4 * y0] := by kernel_rfl
theorem term_low (x y : BitVec 64) (hx : x.toNat < 134217728) (hy : y.toNat < 67108864) : (x * y).toNat = x.toNat * y.toNat ∧ x.toNat * y.toNat < 9007199254740992 := by
  have h : x.toNat * y.toNat < 134217728 * 67108864 := Nat.mul_lt_mul'' hx hy
  exact ⟨mul_small _ _ (by omega), by omega⟩
theorem term_high (x y : BitVec 64) (hx : x.toNat < 134217728) (hy : y.toNat < 67108864) : (5#64 * x * y).toNat = 5 * (x.toNat * y.toNat) := by
  have h : x.toNat * y.toNat < 134217728 * 67108864 := Nat.mul_lt_mul'' hx hy
  have h5 : (5#64 * x).toNat = 5 * x.toNat := by rw [mul_small _ _ (by simp; omega)]; rfl
  rw [mul_small _ _ (by rw [h5, Nat.mul_assoc]; omega), h5, Nat.mul_assoc]
theorem prod_expand (x0 x1 x2 x3 x4 y0 y1 y2 y3 y4 A B C D : Nat) :
    (x0 + A * x1 + B * x2 + C * x3 + D * x4) * (y0 + A * y1 + B * y2 + C * y3 + D * y4) =
      x0 * y0 + A * (x0 * y1) + B * (x0 * y2) + C * (x0 * y3) + D * (x0 * y4) +
      (A * (x1 * y0) + A * A * (x1 * y1) + A * B * (x1 * y2) + A * C * (x1 * y3) + A * D * (x1 * y4)) +
      (B * (x2 * y0) + B * A * (x2 * y1) + B * B * (x2 * y2) + B * C * (x2 * y3) + B * D * (x2 * y4)) +
      (C * (x3 * y0) + C * A * (x3 * y1) + C * B * (x3 * y2) + C * C * (x3 * y3) + C * D * (x3 * y4)) +
      (D * (x4 * y0) + D * A * (x4 * y1) + D * B * (x4 * y2) + D * C * (x4 * y3) + D * D * (x4 * y4)) := by
  grind
set_option maxHeartbeats 4000000 in
theorem prod_num (x y : List (BitVec 64)) (hx : x.length = 5) (hy : y.length = 5) (hX : ∀ i, (x.getD i 0#64).toNat < 134217728) (hY : ∀ i, (y.getD i 0#64).toNat < 67108864) :
    (∃ q, val5 x * val5 y = val5 (mulL x y 5) + P130 * q) ∧ ∀ i, ((mulL x y 5).getD i 0#64).toNat < 288230376151711744 := by
  obtain ⟨x0, x1, x2, x3, x4, rfl⟩ := five x hx
  obtain ⟨y0, y1, y2, y3, y4, rfl⟩ := five y hy
  have hx0 := hX 0; have hx1 := hX 1; have hx2 := hX 2; have hx3 := hX 3; have hx4 := hX 4
  have hy0 := hY 0; have hy1 := hY 1; have hy2 := hY 2; have hy3 := hY 3; have hy4 := hY 4
  simp only [List.getD_cons_zero, List.getD_cons_succ] at hx0 hx1 hx2 hx3 hx4 hy0 hy1 hy2 hy3 hy4
  clear hX hY hx hy
  rw [prod_five, val5_five, val5_five, val5_five, prod_expand]
  have l00 := term_low x0 y0 hx0 hy0; have l01 := term_low x0 y1 hx0 hy1; have l02 := term_low x0 y2 hx0 hy2; have l03 := term_low x0 y3 hx0 hy3; have l04 := term_low x0 y4 hx0 hy4
  have l10 := term_low x1 y0 hx1 hy0; have l11 := term_low x1 y1 hx1 hy1; have l12 := term_low x1 y2 hx1 hy2; have l13 := term_low x1 y3 hx1 hy3; have l14 := term_low x1 y4 hx1 hy4
  have l20 := term_low x2 y0 hx2 hy0; have l21 := term_low x2 y1 hx2 hy1; have l22 := term_low x2 y2 hx2 hy2; have l23 := term_low x2 y3 hx2 hy3; have l24 := term_low x2 y4 hx2 hy4
  have l30 := term_low x3 y0 hx3 hy0; have l31 := term_low x3 y1 hx3 hy1; have l32 := term_low x3 y2 hx3 hy2; have l33 := term_low x3 y3 hx3 hy3; have l34 := term_low x3 y4 hx3 hy4
  have l40 := term_low x4 y0 hx4 hy0; have l41 := term_low x4 y1 hx4 hy1; have l42 := term_low x4 y2 hx4 hy2; have l43 := term_low x4 y3 hx4 hy3; have l44 := term_low x4 y4 hx4 hy4
  have t14 := term_high x1 y4 hx1 hy4; have t23 := term_high x2 y3 hx2 hy3; have t24 := term_high x2 y4 hx2 hy4
  have t32 := term_high x3 y2 hx3 hy2; have t33 := term_high x3 y3 hx3 hy3; have t34 := term_high x3 y4 hx3 hy4
  have t41 := term_high x4 y1 hx4 hy1; have t42 := term_high x4 y2 hx4 hy2; have t43 := term_high x4 y3 hx4 hy3; have t44 := term_high x4 y4 hx4 hy4
  clear hx0 hx1 hx2 hx3 hx4 hy0 hy1 hy2 hy3 hy4
  obtain ⟨q00, b00⟩ := l00; obtain ⟨q01, b01⟩ := l01; obtain ⟨q02, b02⟩ := l02; obtain ⟨q03, b03⟩ := l03; obtain ⟨q04, b04⟩ := l04
  obtain ⟨q10, b10⟩ := l10; obtain ⟨q11, b11⟩ := l11; obtain ⟨q12, b12⟩ := l12; obtain ⟨q13, b13⟩ := l13; obtain ⟨-, b14⟩ := l14
  obtain ⟨q20, b20⟩ := l20; obtain ⟨q21, b21⟩ := l21; obtain ⟨q22, b22⟩ := l22; obtain ⟨-, b23⟩ := l23; obtain ⟨-, b24⟩ := l24
  obtain ⟨q30, b30⟩ := l30; obtain ⟨q31, b31⟩ := l31; obtain ⟨-, b32⟩ := l32; obtain ⟨-, b33⟩ := l33; obtain ⟨-, b34⟩ := l34
  obtain ⟨q40, b40⟩ := l40; obtain ⟨-, b41⟩ := l41; obtain ⟨-, b42⟩ := l42; obtain ⟨-, b43⟩ := l43; obtain ⟨-, b44⟩ := l44
  generalize x0.toNat * y0.toNat = p00 at *; generalize x0.toNat * y1.toNat = p01 at *; generalize x0.toNat * y2.toNat = p02 at *; generalize x0.toNat * y3.toNat = p03 at *; generalize x0.toNat * y4.toNat = p04 at *
  generalize x1.toNat * y0.toNat = p10 at *; generalize x1.toNat * y1.toNat = p11 at *; generalize x1.toNat * y2.toNat = p12 at *; generalize x1.toNat * y3.toNat = p13 at *; generalize x1.toNat * y4.toNat = p14 at *
  generalize x2.toNat * y0.toNat = p20 at *; generalize x2.toNat * y1.toNat = p21 at *; generalize x2.toNat * y2.toNat = p22 at *; generalize x2.toNat * y3.toNat = p23 at *; generalize x2.toNat * y4.toNat = p24 at *
  generalize x3.toNat * y0.toNat = p30 at *; generalize x3.toNat * y1.toNat = p31 at *; generalize x3.toNat * y2.toNat = p32 at *; generalize x3.toNat * y3.toNat = p33 at *; generalize x3.toNat * y4.toNat = p34 at *
  generalize x4.toNat * y0.toNat = p40 at *; generalize x4.toNat * y1.toNat = p41 at *; generalize x4.toNat * y2.toNat = p42 at *; generalize x4.toNat * y3.toNat = p43 at *; generalize x4.toNat * y4.toNat = p44 at *
  have z : (0#64).toNat = 0 := rfl
  have n0 : (0#64 + x0 * y0 + 5#64 * x1 * y4 + 5#64 * x2 * y3 + 5#64 * x3 * y2 + 5#64 * x4 * y1).toNat = p00 + 5 * p14 + 5 * p23 + 5 * p32 + 5 * p41 := by
    simp only [BitVec.toNat_add, q00, t14, t23, t32, t41, z]; omega
  have n1 : (0#64 + x0 * y1 + x1 * y0 + 5#64 * x2 * y4 + 5#64 * x3 * y3 + 5#64 * x4 * y2).toNat = p01 + p10 + 5 * p24 + 5 * p33 + 5 * p42 := by
    simp only [BitVec.toNat_add, q01, q10, t24, t33, t42, z]; omega
  have n2 : (0#64 + x0 * y2 + x1 * y1 + x2 * y0 + 5#64 * x3 * y4 + 5#64 * x4 * y3).toNat = p02 + p11 + p20 + 5 * p34 + 5 * p43 := by
    simp only [BitVec.toNat_add, q02, q11, q20, t34, t43, z]; omega
  have n3 : (0#64 + x0 * y3 + x1 * y2 + x2 * y1 + x3 * y0 + 5#64 * x4 * y4).toNat = p03 + p12 + p21 + p30 + 5 * p44 := by
    simp only [BitVec.toNat_add, q03, q12, q21, q30, t44, z]; omega
  have n4 : (0#64 + x0 * y4 + x1 * y3 + x2 * y2 + x3 * y1 + x4 * y0).toNat = p04 + p13 + p22 + p31 + p40 := by
    simp only [BitVec.toNat_add, q04, q13, q22, q31, q40, z]; omega
  refine ⟨⟨(p14 + p23 + p32 + p41) + 67108864 * (p24 + p33 + p42) + 4503599627370496 * (p34 + p43) + 302231454903657293676544 * p44, ?_⟩, fun i => ?_⟩
  · rw [n0, n1, n2, n3, n4]
    clear n0 n1 n2 n3 n4 b00 b01 b02 b03 b04 b10 b11 b12 b13 b14 b20 b21 b22 b23 b24 b30 b31 b32 b33 b34 b40 b41 b42 b43 b44
    clear q00 q01 q02 q03 q04 q10 q11 q12 q13 q20 q21 q22 q30 q31 q40 t14 t23 t24 t32 t33 t34 t41 t42 t43 t44 z
    simp only [Nat.reduceMul]
    unfold P130
    omega
  · match i with
    | 0 => simp only [List.getD_cons_zero, n0]; omega
    | 1 => simp only [List.getD_cons_zero, List.getD_cons_succ, n1]; omega
    | 2 => simp only [List.getD_cons_zero, List.getD_cons_succ, n2]; omega
    | 3 => simp only [List.getD_cons_zero, List.getD_cons_succ, n3]; omega
    | 4 => simp only [List.getD_cons_zero, List.getD_cons_succ, n4]; omega
    | i + 5 => simp
end Go.Proofs.YtagkkihnfipfeaaDoor

/-
  poly's numbers: of bytes, to bytes; the tag as the document has it.
-/
namespace Go.Proofs.YtagkkihnfipfeaaDoor
open Go.Proofs.ShaWords

theorem leN_nil : leN [] = 0 := rfl
theorem leN_cons (b : BitVec 8) (r : List (BitVec 8)) : leN (b :: r) = b.toNat + 256 * leN r := rfl
theorem leN_append (a b : List (BitVec 8)) : leN (a ++ b) = leN a + 256 ^ a.length * leN b := by
  induction a with
  | nil => simp [leN]
  | cons x r ih => rw [List.cons_append, leN_cons, leN_cons, ih, List.length_cons, Nat.pow_succ, Nat.mul_comm (256 ^ r.length) 256, Nat.mul_add, Nat.mul_assoc]; omega
theorem leN_lt (a : List (BitVec 8)) : leN a < 256 ^ a.length := by
  induction a with
  | nil => simp [leN]
  | cons x r ih => rw [leN_cons, List.length_cons, Nat.pow_succ]; have := x.isLt; omega
theorem leN_take_succ (bs : List (BitVec 8)) (k : Nat) (h : k < bs.length) : leN (bs.take (k + 1)) = leN (bs.take k) + 256 ^ k * (bs.getD k 0#8).toNat := by
  rw [List.take_succ_eq_append_getElem h, leN_append, List.length_take, Nat.min_eq_left (by omega), leN_cons, leN_nil]
  simp [List.getD, h]
theorem place17 (k : Nat) (h : k ≤ 16) : 67108864 ^ (8 * k / 26) * 2 ^ (8 * k % 26) = 256 ^ k ∧ 8 * k / 26 ≤ 4 ∧ 2 ^ (8 * k % 26) ≤ 33554432 := by
  have H : ∀ k : Fin 17, 67108864 ^ (8 * k.val / 26) * 2 ^ (8 * k.val % 26) = 256 ^ k.val ∧ 8 * k.val / 26 ≤ 4 ∧ 2 ^ (8 * k.val % 26) ≤ 33554432 := by decide +kernel
  exact H ⟨k, by omega⟩
theorem val5_set (L : List (BitVec 64)) (hL : L.length = 5) (j : Nat) (hj : j ≤ 4) (x : BitVec 64) : val5 (L.set j x) + 67108864 ^ j * (L.getD j 0#64).toNat = val5 L + 67108864 ^ j * x.toNat := by
  obtain ⟨a, b, c, d, e, rfl⟩ := five L hL
  match j, hj with
  | 0, _ => simp only [List.set_cons_zero, List.getD_cons_zero, val5_five, Nat.pow_zero]; omega
  | 1, _ => simp only [List.set_cons_zero, List.set_cons_succ, List.getD_cons_zero, List.getD_cons_succ, val5_five]; omega
  | 2, _ => simp only [List.set_cons_zero, List.set_cons_succ, List.getD_cons_zero, List.getD_cons_succ, val5_five]; omega
  | 3, _ => simp only [List.set_cons_zero, List.set_cons_succ, List.getD_cons_zero, List.getD_cons_succ, val5_five]; omega
  | 4, _ => simp only [List.set_cons_zero, List.set_cons_succ, List.getD_cons_zero, List.getD_cons_succ, val5_five]; omega
theorem getD_set_le (L : List (BitVec 64)) (j i B : Nat) (x : BitVec 64) (h : ∀ i, (L.getD i 0#64).toNat ≤ B) (hx : x.toNat ≤ B) : ((L.set j x).getD i 0#64).toNat ≤ B := by
  have h1 := h i
  simp only [List.getD, List.getElem?_set] at h1 ⊢
  split
  · split
    · simpa using hx
    · simp
  · exact h1
theorem numK_num (bs : List (BitVec 8)) (k : Nat) (hk : k ≤ bs.length) (h17 : k ≤ 17) : val5 (numK bs k) = leN (bs.take k) ∧ ∀ i, ((numK bs k).getD i 0#64).toNat ≤ k * 8589934592 := by
  induction k with
  | zero =>
    refine ⟨rfl, fun i => ?_⟩
    rw [numK_zero]
    unfold nought5
    match i with
    | 0 => simp
    | 1 => simp
    | 2 => simp
    | 3 => simp
    | 4 => simp
    | i + 5 => simp
  | succ k ih =>
    obtain ⟨hv, hs⟩ := ih (by omega) (by omega)
    obtain ⟨p1, p2, p3⟩ := place17 k (by omega)
    have hx : (ext64 (bs.getD k 0#8) <<< (8 * k % 26)).toNat = (bs.getD k 0#8).toNat * 2 ^ (8 * k % 26) := by
      have hb := (bs.getD k 0#8).isLt
      have hm : (bs.getD k 0#8).toNat * 2 ^ (8 * k % 26) ≤ 255 * 33554432 := Nat.mul_le_mul (by omega) p3
      rw [BitVec.toNat_shiftLeft, Nat.shiftLeft_eq]
      unfold ext64
      rw [BitVec.toNat_setWidth, Nat.mod_eq_of_lt (by omega : (bs.getD k 0#8).toNat < 2 ^ 64), Nat.mod_eq_of_lt (by omega)]
    have hm : (bs.getD k 0#8).toNat * 2 ^ (8 * k % 26) ≤ 255 * 33554432 := Nat.mul_le_mul (by have := (bs.getD k 0#8).isLt; omega) p3
    have hL := numK_length bs k
    have h1 := hs (8 * k / 26)
    have ha := add_small ((numK bs k).getD (8 * k / 26) 0#64) (ext64 (bs.getD k 0#8) <<< (8 * k % 26)) (by rw [hx]; omega)
    rw [hx] at ha
    rw [numK_succ]
    refine ⟨?_, fun i => ?_⟩
    · have e := val5_set (numK bs k) hL (8 * k / 26) p2 ((numK bs k).getD (8 * k / 26) 0#64 + ext64 (bs.getD k 0#8) <<< (8 * k % 26))
      rw [ha, Nat.mul_add, Nat.mul_left_comm, p1, hv] at e
      rw [leN_take_succ bs k (by omega), Nat.mul_comm (256 ^ k)]
      omega
    · exact getD_set_le _ _ _ _ _ (fun i => Nat.le_trans (hs i) (Nat.mul_le_mul_right _ (Nat.le_succ k))) (by rw [ha]; clear hx ha p1 p3; generalize (bs.getD k 0#8).toNat * 2 ^ (8 * k % 26) = t at hm ⊢; omega)
theorem numOf_num (bs : List (BitVec 8)) (h17 : bs.length ≤ 17) (hv : leN bs < 1361129467683753853853498429727072845824) : numOf bs = limbsOf (leN bs) := by
  obtain ⟨h1, h2⟩ := numK_num bs bs.length (Nat.le_refl _) h17
  obtain ⟨h3, -⟩ := normal_num (numK bs bs.length) (numK_length _ _) (fun i => by have := h2 i; omega)
  unfold numOf
  rw [h3, h1, List.take_length, Nat.mod_eq_of_lt hv]
/-- The sixteen lowest bytes of a number. -/
def leB (v : Nat) : List (BitVec 8) := (List.range 16).map fun i => BitVec.ofNat 8 (v / 256 ^ i)
theorem leB_length (v : Nat) : (leB v).length = 16 := by simp [leB]
theorem low8_eq (x : BitVec 64) (s : Nat) (v : Nat) (h : x.toNat / 2 ^ s % 256 = v % 256) : low8 (x >>> s) = BitVec.ofNat 8 v := by
  apply BitVec.eq_of_toNat_eq
  unfold low8
  rw [BitVec.toNat_setWidth, BitVec.toNat_ushiftRight, Nat.shiftRight_eq_div_pow, BitVec.toNat_ofNat]
  exact h
theorem leB_eq (v : Nat) : leB v = [BitVec.ofNat 8 v, BitVec.ofNat 8 (v / 256), BitVec.ofNat 8 (v / 65536), BitVec.ofNat 8 (v / 16777216), BitVec.ofNat 8 (v / 4294967296), BitVec.ofNat 8 (v / 1099511627776), BitVec.ofNat 8 (v / 281474976710656), BitVec.ofNat 8 (v / 72057594037927936),
    BitVec.ofNat 8 (v / 18446744073709551616), BitVec.ofNat 8 (v / 4722366482869645213696), BitVec.ofNat 8 (v / 1208925819614629174706176), BitVec.ofNat 8 (v / 309485009821345068724781056), BitVec.ofNat 8 (v / 79228162514264337593543950336), BitVec.ofNat 8 (v / 20282409603651670423947251286016), BitVec.ofNat 8 (v / 5192296858534827628530496329220096), BitVec.ofNat 8 (v / 1329227995784915872903807060280344576)] := by
  simp [leB, List.range_succ]
theorem lay_num (lo hi : BitVec 64) : layK lo hi 8 = leB (lo.toNat + 18446744073709551616 * hi.toNat) := by
  have e : layK lo hi 8 = [low8 (lo >>> 0), low8 (lo >>> 8), low8 (lo >>> 16), low8 (lo >>> 24), low8 (lo >>> 32), low8 (lo >>> 40), low8 (lo >>> 48), low8 (lo >>> 56), low8 (hi >>> 0), low8 (hi >>> 8), low8 (hi >>> 16), low8 (hi >>> 24), low8 (hi >>> 32), low8 (hi >>> 40), low8 (hi >>> 48), low8 (hi >>> 56)] := by kernel_rfl
  have h1 := lo.isLt
  have h2 := hi.isLt
  rw [e, leB_eq]
  generalize hl : lo.toNat = l at h1
  generalize hh : hi.toNat = h at h2
  rw [low8_eq lo 0 (l + 18446744073709551616 * h) (by rw [hl]; omega), low8_eq lo 8 ((l + 18446744073709551616 * h) / 256) (by rw [hl]; omega), low8_eq lo 16 ((l + 18446744073709551616 * h) / 65536) (by rw [hl]; omega), low8_eq lo 24 ((l + 18446744073709551616 * h) / 16777216) (by rw [hl]; omega),
    low8_eq lo 32 ((l + 18446744073709551616 * h) / 4294967296) (by rw [hl]; omega), low8_eq lo 40 ((l + 18446744073709551616 * h) / 1099511627776) (by rw [hl]; omega), low8_eq lo 48 ((l + 18446744073709551616 * h) / 281474976710656) (by rw [hl]; omega), low8_eq lo 56 ((l + 18446744073709551616 * h) / 72057594037927936) (by rw [hl]; omega),
    low8_eq hi 0 ((l + 18446744073709551616 * h) / 18446744073709551616) (by rw [hh]; omega), low8_eq hi 8 ((l + 18446744073709551616 * h) / 4722366482869645213696) (by rw [hh]; omega), low8_eq hi 16 ((l + 18446744073709551616 * h) / 1208925819614629174706176) (by rw [hh]; omega), low8_eq hi 24 ((l + 18446744073709551616 * h) / 309485009821345068724781056) (by rw [hh]; omega),
    low8_eq hi 32 ((l + 18446744073709551616 * h) / 79228162514264337593543950336) (by rw [hh]; omega), low8_eq hi 40 ((l + 18446744073709551616 * h) / 20282409603651670423947251286016) (by rw [hh]; omega), low8_eq hi 48 ((l + 18446744073709551616 * h) / 5192296858534827628530496329220096) (by rw [hh]; omega), low8_eq hi 56 ((l + 18446744073709551616 * h) / 1329227995784915872903807060280344576) (by rw [hh]; omega)]
theorem leB_mod (v : Nat) : leB (v % 340282366920938463463374607431768211456) = leB v := by
  have h : ∀ k : Nat, k ∣ 1329227995784915872903807060280344576 → BitVec.ofNat 8 (v % 340282366920938463463374607431768211456 / k) = BitVec.ofNat 8 (v / k) := by
    rintro k ⟨q, hq⟩
    apply BitVec.eq_of_toNat_eq
    rw [BitVec.toNat_ofNat, BitVec.toNat_ofNat]
    have e : 340282366920938463463374607431768211456 = k * (256 * q) := by rw [Nat.mul_left_comm, ← hq]
    rw [e, Nat.mod_mul_right_div_self, Nat.mod_mul_right_mod]
  unfold leB
  apply List.map_congr_left
  intro i hi
  have hi' : i < 16 := List.mem_range.1 hi
  have hd : ∀ i : Fin 16, 256 ^ i.val ∣ 1329227995784915872903807060280344576 := by decide +kernel
  exact h _ (hd ⟨i, hi'⟩)
end Go.Proofs.YtagkkihnfipfeaaDoor

/-
  The tag of poly.Sum as the document has it: a number modulo 2^130 - 5, s beside it, the sixteen lowest bytes.
-/
namespace Go.Proofs.YtagkkihnfipfeaaDoor
open Go.Proofs.ShaWords

theorem or_shift (a b k : Nat) (h : a < 2 ^ k) : a ||| b * 2 ^ k = a + b * 2 ^ k := by
  rw [Nat.or_comm, ← Nat.shiftLeft_eq, ← Nat.shiftLeft_add_eq_or_of_lt h, Nat.add_comm]
theorem shl_num (x : BitVec 64) (k : Nat) (hk : k ≤ 64) : (x <<< k).toNat = x.toNat % 2 ^ (64 - k) * 2 ^ k := by
  rw [BitVec.toNat_shiftLeft, Nat.shiftLeft_eq]
  have e : 2 ^ 64 = 2 ^ (64 - k) * 2 ^ k := by rw [← Nat.pow_add, show 64 - k + k = 64 by omega]
  rw [e, Nat.mul_mod_mul_right]
theorem low_num (a b c d e : BitVec 64) (ha : a.toNat < 67108864) (hb : b.toNat < 67108864) : (lowOf [a, b, c, d, e]).toNat = a.toNat + b.toNat * 67108864 + c.toNat % 4096 * 4503599627370496 := by
  show (a ||| b <<< 26 ||| c <<< 52).toNat = _
  rw [BitVec.toNat_or, BitVec.toNat_or, shl_num b 26 (by omega), shl_num c 52 (by omega), or_shift _ _ 26 (by omega), or_shift _ _ 52 (by have : b.toNat % 2 ^ (64 - 26) = b.toNat := Nat.mod_eq_of_lt (by omega); rw [this]; omega)]
  omega
theorem high_num (a b c d e : BitVec 64) (hc : c.toNat < 67108864) (hd : d.toNat < 67108864) : (highOf [a, b, c, d, e]).toNat = c.toNat / 4096 + d.toNat * 16384 + e.toNat % 16777216 * 1099511627776 := by
  show (c >>> 12 ||| d <<< 14 ||| e <<< 40).toNat = _
  have hs : (c >>> 12).toNat = c.toNat / 4096 := by rw [BitVec.toNat_ushiftRight, Nat.shiftRight_eq_div_pow]
  rw [BitVec.toNat_or, BitVec.toNat_or, shl_num d 14 (by omega), shl_num e 40 (by omega), hs, or_shift _ _ 14 (by omega), or_shift _ _ 40 (by have : d.toNat % 2 ^ (64 - 14) = d.toNat := Nat.mod_eq_of_lt (by omega); rw [this]; omega)]
  omega
theorem tag_num (x : List (BitVec 64)) (h5 : x.length = 5) (h : ∀ i, (x.getD i 0#64).toNat < 1152921504606846976) : tagOf x = leB (val5 x) := by
  obtain ⟨n1, -⟩ := normal_num x h5 h
  unfold tagOf
  rw [n1]
  generalize val5 x = V
  have hs := limbsOf_small (V % 1361129467683753853853498429727072845824)
  have hv := val5_limbsOf (V % 1361129467683753853853498429727072845824) (by omega)
  generalize hL : limbsOf (V % 1361129467683753853853498429727072845824) = L at hs hv
  obtain ⟨a, b, c, d, e, rfl⟩ := five L (by rw [← hL]; rfl)
  clear hL n1
  have ha := hs 0; have hb := hs 1; have hc := hs 2; have hd := hs 3; have he := hs 4
  simp only [List.getD_cons_zero, List.getD_cons_succ] at ha hb hc hd he
  rw [val5_five] at hv
  rw [lay_num, low_num a b c d e ha hb, high_num a b c d e hc hd, ← leB_mod (a.toNat + _ + _ + _), ← leB_mod V]
  congr 1
  omega
/-- The number a block is. -/
def blkN (blk : List (BitVec 8)) : Nat := leN blk + 256 ^ blk.length
/-- a behind the first j blocks. -/
def accN (r : Nat) (bs : List (BitVec 8)) : Nat → Nat
  | 0 => 0
  | j + 1 => (accN r bs j + blkN ((bs.drop (16 * j)).take 16)) * r % P130
theorem accN_succ (r : Nat) (bs : List (BitVec 8)) (j : Nat) : accN r bs (j + 1) = (accN r bs j + blkN ((bs.drop (16 * j)).take 16)) * r % P130 := rfl
theorem accN_lt (r : Nat) (bs : List (BitVec 8)) (j : Nat) : accN r bs j < P130 := by
  cases j with
  | zero => show 0 < P130; decide
  | succ j => exact Nat.mod_lt _ (by decide)
theorem blk_one (blk : List (BitVec 8)) : leN (blk ++ [1#8]) = blkN blk := by rw [leN_append]; simp [leN, blkN]
theorem blkN_lt (blk : List (BitVec 8)) (h : blk.length ≤ 16) : blkN blk < 680564733841876926926749214863536422912 := by
  have h1 := leN_lt blk
  have h2 : 256 ^ blk.length ≤ 256 ^ 16 := Nat.pow_le_pow_right (by omega) h
  unfold blkN
  omega
theorem mod_shift {a b q : Nat} (h : a = b + P130 * q) : b % P130 = a % P130 := by rw [h, Nat.add_mul_mod_self_left]
theorem acc_num (r : Nat) (hr : r < 1361129467683753853853498429727072845824) (bs : List (BitVec 8)) (j : Nat) : accK (limbsOf r) bs j = limbsOf (accN r bs j) := by
  induction j with
  | zero => show nought5 = limbsOf 0; decide
  | succ j ih =>
    rw [accK_succ, ih, accN_succ]
    have hal := accN_lt r bs j
    generalize accN r bs j = a at hal
    have hbl : ((bs.drop (16 * j)).take 16).length ≤ 16 := by rw [List.length_take]; omega
    generalize (bs.drop (16 * j)).take 16 = blk at hbl
    have hb := blkN_lt blk hbl
    have hn : numOf (blk ++ [1#8]) = limbsOf (blkN blk) := by
      rw [← blk_one]; exact numOf_num _ (by rw [List.length_append]; simp; omega) (by rw [blk_one]; omega)
    have hP : P130 = 1361129467683753853853498429727072845819 := rfl
    unfold accStep
    rw [hn]
    obtain ⟨s1, s2⟩ := addL_num (limbsOf a) (limbsOf (blkN blk)) rfl rfl _ _ (limbsOf_small a) (limbsOf_small _) (by omega)
    obtain ⟨⟨q, m1⟩, m2⟩ := prod_num (addL (limbsOf a) (limbsOf (blkN blk)) 5) (limbsOf r) (addL_length _ _ _) rfl s2 (limbsOf_small r)
    rw [s1, val5_limbsOf a (by omega), val5_limbsOf _ (by omega), val5_limbsOf r hr] at m1
    rw [reduced_num _ (mulL_length _ _ _) m2, mod_shift m1]
theorem polyTag_num (key bs : List (BitVec 8)) (hk : key.length = 32) : polyTag key bs = leB (accN (leN (clrOf key)) bs ((bs.length + 15) / 16) + leN (key.drop 16)) := by
  have hc : (clrOf key).length = 16 := clrOf_length key hk
  have h1 := leN_lt (clrOf key)
  rw [hc] at h1
  have hd : (key.drop 16).length = 16 := by rw [List.length_drop, hk]
  have h2 := leN_lt (key.drop 16)
  rw [hd] at h2
  have hr : leN (clrOf key) < 1361129467683753853853498429727072845824 := by omega
  unfold polyTag
  rw [numOf_num (clrOf key) (by omega) hr, acc_num _ hr, numOf_num (key.drop 16) (by omega) (by omega)]
  have ha := accN_lt (leN (clrOf key)) bs ((bs.length + 15) / 16)
  have hP : P130 = 1361129467683753853853498429727072845819 := rfl
  generalize accN (leN (clrOf key)) bs ((bs.length + 15) / 16) = a at ha
  obtain ⟨s1, s2⟩ := addL_num (limbsOf a) (limbsOf (leN (key.drop 16))) rfl rfl _ _ (limbsOf_small a) (limbsOf_small _) (by omega)
  rw [tag_num _ (addL_length _ _ _) (fun i => by have := s2 i; omega), s1, val5_limbsOf a (by omega), val5_limbsOf _ (by omega)]
end Go.Proofs.YtagkkihnfipfeaaDoor

/-
  A key's bytes whose bits are let go: what is left of them hangs on no such bit.
-/
namespace Go.Proofs.YtagkkihnfipfeaaDoor
open Go.Proofs.ShaWords

theorem getD_set (l : List (BitVec 8)) (j i : Nat) (x : BitVec 8) (hj : j < l.length) : (l.set j x).getD i 0#8 = if i = j then x else l.getD i 0#8 := by
  by_cases h : i = j
  · subst h; rw [if_pos rfl]; simp [List.getD, hj]
  · rw [if_neg h]; simp [List.getD, List.getElem?_set_ne (fun e => h e.symm)]
theorem ext_getD (a b : List (BitVec 8)) (h : a.length = b.length) (hg : ∀ i, i < a.length → a.getD i 0#8 = b.getD i 0#8) : a = b := by
  apply List.ext_getElem h
  intro i h1 h2
  have := hg i h1
  simp only [List.getD, List.getElem?_eq_getElem h1, List.getElem?_eq_getElem h2, Option.getD_some] at this
  exact this
def clr (i : Nat) (x : BitVec 8) : BitVec 8 := if i % 4 = 3 then x &&& 15#8 else if i % 4 = 0 ∧ 0 < i then x &&& 252#8 else x
theorem clrA_get (key : List (BitVec 8)) (hk : 16 ≤ key.length) (k : Nat) (h4 : k ≤ 4) (i : Nat) : (clrA key k).getD i 0#8 = if i % 4 = 3 ∧ i < 4 * k then key.getD i 0#8 &&& 15#8 else key.getD i 0#8 := by
  induction k with
  | zero => rw [clrA_zero, if_neg (by omega)]
  | succ k ih =>
    rw [clrA_succ, getD_set _ _ _ _ (by rw [clrA_length]; omega)]
    have ih := ih (by omega)
    by_cases h : i = 4 * k + 3
    · subst h
      rw [if_pos rfl, if_pos (by omega), ih, if_neg (by omega)]
    · rw [if_neg h, ih]
      by_cases h2 : i % 4 = 3 ∧ i < 4 * k
      · rw [if_pos h2, if_pos (by omega)]
      · rw [if_neg h2, if_neg (by omega)]
theorem clrB_get (key : List (BitVec 8)) (hk : 16 ≤ key.length) (k : Nat) (h4 : k ≤ 3) (i : Nat) : (clrB key k).getD i 0#8 = if i % 4 = 0 ∧ 0 < i ∧ i < 4 * k + 4 then (clrA key 4).getD i 0#8 &&& 252#8 else (clrA key 4).getD i 0#8 := by
  induction k with
  | zero => rw [clrB_zero, if_neg (by omega)]
  | succ k ih =>
    rw [clrB_succ, getD_set _ _ _ _ (by rw [clrB_length]; omega)]
    have ih := ih (by omega)
    by_cases h : i = 4 * k + 4
    · subst h
      rw [if_pos rfl, if_pos (by omega), ih, if_neg (by omega)]
    · rw [if_neg h, ih]
      by_cases h2 : i % 4 = 0 ∧ 0 < i ∧ i < 4 * k + 4
      · rw [if_pos h2, if_pos (by omega)]
      · rw [if_neg h2, if_neg (by omega)]
theorem getD_take (l : List (BitVec 8)) (n i : Nat) (h : i < n) : (l.take n).getD i 0#8 = l.getD i 0#8 := by
  simp [List.getD, h]
theorem getD_drop (l : List (BitVec 8)) (n i : Nat) : (l.drop n).getD i 0#8 = l.getD (n + i) 0#8 := by
  simp [List.getD, List.getElem?_drop]
theorem clrOf_get (key : List (BitVec 8)) (hk : key.length = 32) (i : Nat) (hi : i < 16) : (clrOf key).getD i 0#8 = clr i (key.getD i 0#8) := by
  unfold clrOf clr
  rw [getD_take _ _ _ hi, clrB_get key (by omega) 3 (by omega) i, clrA_get key (by omega) 4 (by omega) i]
  by_cases h3 : i % 4 = 3
  · rw [if_neg (by omega), if_pos (by omega), if_pos h3]
  · by_cases h0 : i % 4 = 0 ∧ 0 < i
    · rw [if_pos (by omega), if_neg (by omega), if_neg h3, if_pos h0]
    · rw [if_neg (by omega), if_neg (by omega), if_neg h3, if_neg h0]
/-- With the same bits where it matters, the same r. -/
theorem clrOf_same (a b : List (BitVec 8)) (ha : a.length = 32) (hb : b.length = 32) (h : ∀ i, i < 16 → clr i (a.getD i 0#8) = clr i (b.getD i 0#8)) : clrOf a = clrOf b := by
  apply ext_getD _ _ (by rw [clrOf_length _ ha, clrOf_length _ hb])
  intro i hi
  rw [clrOf_length _ ha] at hi
  rw [clrOf_get a ha i hi, clrOf_get b hb i hi, h i hi]
/-- Bits that are let go, turned. -/
def tw (i : Nat) (x t : BitVec 8) : BitVec 8 := if i % 4 = 3 then x ^^^ t >>> 4 <<< 4 else if i % 4 = 0 ∧ 0 < i then x ^^^ (t &&& 3#8) else x
theorem high_gone (t : BitVec 8) : t >>> 4 <<< 4 &&& 15#8 = 0#8 := by
  have H : ∀ v : Fin 256, (BitVec.ofFin v : BitVec 8) >>> 4 <<< 4 &&& 15#8 = 0#8 := by decide +kernel
  exact H t.toFin
theorem low_gone (t : BitVec 8) : t &&& 3#8 &&& 252#8 = 0#8 := by
  have H : ∀ v : Fin 256, (BitVec.ofFin v : BitVec 8) &&& 3#8 &&& 252#8 = 0#8 := by decide +kernel
  exact H t.toFin
theorem xor_and (x h m : BitVec 8) (e : h &&& m = 0#8) : (x ^^^ h) &&& m = x &&& m := by
  have d : (x ^^^ h) &&& m = (x &&& m) ^^^ (h &&& m) := by
    apply BitVec.eq_of_getLsbD_eq
    intro i hi
    simp only [BitVec.getLsbD_and, BitVec.getLsbD_xor]
    cases x.getLsbD i <;> cases h.getLsbD i <;> cases m.getLsbD i <;> rfl
  rw [d, e, BitVec.xor_zero]
theorem clr_tw (i : Nat) (x t : BitVec 8) : clr i (tw i x t) = clr i x := by
  unfold clr tw
  by_cases h3 : i % 4 = 3
  · rw [if_pos h3, if_pos h3, if_pos h3]; exact xor_and _ _ _ (high_gone t)
  · by_cases h0 : i % 4 = 0 ∧ 0 < i
    · rw [if_neg h3, if_neg h3, if_neg h3, if_pos h0, if_pos h0, if_pos h0]; exact xor_and _ _ _ (low_gone t)
    · rw [if_neg h3, if_neg h3, if_neg h3, if_neg h0, if_neg h0, if_neg h0]
/-- The first k bytes turned so. -/
def twK (key turn : List (BitVec 8)) : Nat → List (BitVec 8)
  | 0 => key
  | k + 1 => (twK key turn k).set k (tw k ((twK key turn k).getD k 0#8) (turn.getD k 0#8))
theorem twK_zero (key turn : List (BitVec 8)) : twK key turn 0 = key := rfl
theorem twK_succ (key turn : List (BitVec 8)) (k : Nat) : twK key turn (k + 1) = (twK key turn k).set k (tw k ((twK key turn k).getD k 0#8) (turn.getD k 0#8)) := rfl
theorem twK_length (key turn : List (BitVec 8)) (k : Nat) : (twK key turn k).length = key.length := by
  induction k with
  | zero => rfl
  | succ k ih => rw [twK_succ, List.length_set, ih]
theorem twK_get (key turn : List (BitVec 8)) (k : Nat) (hk : k ≤ key.length) (i : Nat) : (twK key turn k).getD i 0#8 = if i < k then tw i (key.getD i 0#8) (turn.getD i 0#8) else key.getD i 0#8 := by
  induction k with
  | zero => rw [twK_zero, if_neg (by omega)]
  | succ k ih =>
    have ih := ih (by omega)
    rw [twK_succ, getD_set _ _ _ _ (by rw [twK_length]; omega)]
    by_cases h : i = k
    · subst h
      rw [if_pos rfl, if_pos (by omega), ih, if_neg (by omega)]
    · rw [if_neg h, ih]
      by_cases h2 : i < k
      · rw [if_pos h2, if_pos (by omega)]
      · rw [if_neg h2, if_neg (by omega)]
theorem twK_tag (key turn bs : List (BitVec 8)) (hk : key.length = 32) : polyTag (twK key turn 16) bs = polyTag key bs := by
  have hl : (twK key turn 16).length = 32 := by rw [twK_length, hk]
  have h1 : clrOf (twK key turn 16) = clrOf key := clrOf_same _ _ hl hk (fun i hi => by rw [twK_get key turn 16 (by omega) i, if_pos hi, clr_tw])
  have h2 : (twK key turn 16).drop 16 = key.drop 16 := by
    apply ext_getD _ _ (by rw [List.length_drop, List.length_drop, hl, hk])
    intro i _
    rw [getD_drop, getD_drop, twK_get key turn 16 (by omega), if_neg (by omega)]
  unfold polyTag
  rw [h1, h2]
end Go.Proofs.YtagkkihnfipfeaaDoor

/-
  The reference's Digits and Clamp.
-/
namespace Go.Proofs.YtagkkihnfipfeaaDoor
open Go.RowKit Go.Proofs.ShaWords
/-- The four digits of a byte, the first k of them; what is left. -/
theorem leN_take_one (bs : List (BitVec 8)) (k : Nat) (h : k < bs.length) : leN (bs.take (k + 1)) = leN (bs.take k) + 256 ^ k * byteN bs k := leN_take_succ bs k h
/-- What Digits has behind k bytes and j digits of the next, of which v is left. -/
structure DgtR (B : Nat) (bs : List (BitVec 8)) (k j v : Nat) (L : List Nat) (sv : Value) (w : World) : Prop where
  own : OwnI B w L sv
  len : L.length = 4 * k + j
  dig : ∀ i, L.getD i 0 < 4
  val : d4 L + 4 ^ (4 * k + j) * v = leN (bs.take k) + 256 ^ k * byteN bs k
  left : v * 4 ^ j < 256
theorem pow4 (k : Nat) : 4 ^ (4 * k) = 256 ^ k := by rw [Nat.pow_mul]
theorem DgtR.next {B : Nat} {bs : List (BitVec 8)} {k j v : Nat} {L : List Nat} {sv sv' : Value} {w w' : World} (h : DgtR B bs k j v L sv w) (ho : OwnI B w' (L ++ [v % 4]) sv') : DgtR B bs k (j + 1) (v / 4) (L ++ [v % 4]) sv' w' := by
  refine ⟨ho, by rw [List.length_append, h.len]; simp; omega, fun i => ?_, ?_, ?_⟩
  · rw [getD_snoc]
    split
    · omega
    · exact h.dig i
  · rw [← h.val, d4_append, h.len]
    show d4 L + 4 ^ (4 * k + j) * (v % 4 + 4 * 0) + 4 ^ (4 * k + j + 1) * (v / 4) = _
    have e : 4 ^ (4 * k + j) * (4 * (v / 4) + v % 4) = 4 ^ (4 * k + j) * v := by rw [Nat.div_add_mod]
    rw [Nat.mul_add] at e
    rw [Nat.mul_zero, Nat.add_zero, Nat.pow_succ, Nat.mul_assoc]
    omega
  · refine Nat.lt_of_le_of_lt ?_ h.left
    rw [Nat.pow_succ, Nat.mul_comm (4 ^ j) 4, ← Nat.mul_assoc]
    exact Nat.mul_le_mul_right _ (Nat.div_mul_le_self v 4)
theorem DgtR.first {B : Nat} {bs : List (BitVec 8)} {k : Nat} {L : List Nat} {sv : Value} {w : World} (ho : OwnI B w L sv) (hl : L.length = 4 * k) (hd : ∀ i, L.getD i 0 < 4) (hv : d4 L = leN (bs.take k)) : DgtR B bs k 0 (byteN bs k) L sv w :=
  ⟨ho, by omega, hd, by rw [hv, Nat.add_zero, pow4], by have := byteN_lt bs k; omega⟩
theorem DgtR.last {B : Nat} {bs : List (BitVec 8)} {k v : Nat} {L : List Nat} {sv : Value} {w : World} (h : DgtR B bs k 4 v L sv w) (hk : k < bs.length) : OwnI B w L sv ∧ L.length = 4 * (k + 1) ∧ (∀ i, L.getD i 0 < 4) ∧ d4 L = leN (bs.take (k + 1)) := by
  have h1 := h.left
  have hv : v = 0 := by omega
  have h2 := h.val
  rw [hv, Nat.mul_zero, Nat.add_zero] at h2
  exact ⟨h.own, by rw [h.len]; omega, h.dig, by rw [h2, leN_take_one bs k hk]⟩
set_option maxRecDepth 100000 in
set_option maxHeartbeats 4000000 in
theorem digits_any (bs : List (BitVec 8)) (m : Nat) (p : Option Addr) (cap : Nat) (w : World) (hm : bs.length = m) (hl : m ≤ 1000) (hL : Lies w p bs) :
    Calls Tryd.prog 49 #[.slice p m cap] w fun e w' => ∃ L v, e = .returned v ∧ DigW w.heap.size (leN bs) (4 * m) L v w' ∧ Below w.heap.size w w' := by
  have HM := Lib.hid hm; clear hm
  have HL := Lib.hid hL; clear hL
  go_enter Tryd.func49, Tryd.ntmps49
  go_wp2_with fail
  go_loopw [3, 4, 5, 6] (fun sv i _ _ wr => ∃ (k : Nat) (L : List Nat), k ≤ m ∧ i = .int .i64 (k : Int) ∧ (OwnI w.heap.size wr L sv ∧ L.length = 4 * k ∧ (∀ i, L.getD i 0 < 4) ∧ d4 L = leN (bs.take k)) ∧ Below w.heap.size w wr) (fun _ i _ _ _ => m - (intOf i).toNat)
  case atStart => exact ⟨0, [], Nat.zero_le _, rfl, ⟨OwnI.nil _ _, rfl, fun i => by simp, by simp [d4, leN]⟩, Below.refl _ _⟩
  case round =>
    obtain ⟨k, L0, hk, rfl, ⟨ho, hl0, hd0, hv0⟩, hb⟩ := hrel
    by_cases hlt : k < m
    · obtain ⟨b, off, hp, hr⟩ : ∃ b off, p = some ⟨b, off, none⟩ ∧ w.rangeAt b off (bytesV bs) := by
        rcases HL.out with h | h
        · have := HM.out; rw [h] at this; simp at this; omega
        · exact h
      subst hp
      have c0 : wr.cell? ⟨b, off + k, none⟩ = some (.int .u8 (byteN bs k : Int)) := range_cell (range_keep hr hb) k (by rw [HM.out]; exact hlt)
      have hby := byteN_lt bs k
      have HF := Lib.hid (DgtR.first (bs := bs) ho hl0 hd0 hv0)
      have HB := Lib.hid hb
      clear ho hl0 hd0 hv0 hb hr
      have q0 : (k : Int) < (m : Int) := by omega
      have q1 : 0 ≤ (k : Int) := by omega
      have q2 : (k : Int).toNat = k := by omega
      generalize byteN bs k = x at c0 hby HF
      have xw : IntKind.i64.wrap (x : Int) = (x : Int) := IntWalk.i64_in _ (by omega)
      go_wp2_with fail
      clear xw
      go_loopw [3, 5, 6] (fun sv vv jv wi => ∃ (j v : Nat) (L : List Nat), j ≤ 4 ∧ jv = .int .i64 (j : Int) ∧ vv = .int .i64 (v : Int) ∧ DgtR w.heap.size bs k j v L sv wi ∧ Below w.heap.size w wi) (fun _ _ jv _ => 4 - (intOf jv).toNat)
      case atStart => exact ⟨0, x, L0, by omega, rfl, rfl, HF.out, HB.out⟩
      case round =>
        clear HF HB c0
        obtain ⟨j, v, L, hj, rfl, rfl, hr, hb⟩ := hrel
        have hvl := hr.left
        have hv256 : v < 256 := by
          have h1 : 1 ≤ 4 ^ j := Nat.one_le_pow _ _ (by omega)
          have h2 : v * 1 ≤ v * 4 ^ j := Nat.mul_le_mul_left _ h1
          omega
        clear hvl
        by_cases hj4 : j < 4
        · have HX := Lib.hid (fun (sv' : Value) (w' : World) => hr.next (sv' := sv') (w' := w'))
          have HO := Lib.hid hr.own
          have HLN := Lib.hid hr.len
          have HB := Lib.hid hb
          clear hr hb
          have r1 : (v : Int) % 4 = ((v % 4 : Nat) : Int) := by omega
          have d1 : (v : Int) / 4 = ((v / 4 : Nat) : Int) := by omega
          have r2 : (v : Int).tmod 4 = ((v % 4 : Nat) : Int) := by rw [Int.tmod_eq_emod_of_nonneg (by omega)]; omega
          have d2 : (v : Int).tdiv 4 = ((v / 4 : Nat) : Int) := by rw [Int.tdiv_eq_ediv_of_nonneg (by omega)]; omega
          have w1 : IntKind.i64.wrap ((v % 4 : Nat) : Int) = ((v % 4 : Nat) : Int) := IntWalk.i64_in _ (by omega)
          have w2 : IntKind.i64.wrap ((v / 4 : Nat) : Int) = ((v / 4 : Nat) : Int) := IntWalk.i64_in _ (by omega)
          generalize v % 4 = vm at r1 r2 w1 HX
          generalize v / 4 = vd at d1 d2 w2 HX
          have j0 : (j : Int) < 4 := by omega
          go_wp2_with (at_builtin; refine wpList_append_num rfl (.tmp 22) (.tmp 25) rfl w.heap.size _ L vm rfl HO.out rfl (by rw [HLN.out]; omega) HB.out.size ?_; intro v' w' ho' hb'; have HX2 := Lib.hid (HX.out v' w' ho'); have HB2 := Lib.hid (HB.out.trans hb'); clear ho' hb')
          go_roundw
          case rel => exact ⟨j + 1, vd, L ++ [vm], by omega, by go_num, by first | rfl | rw [d1], HX2.out, HB2.out⟩
          case measure => simp [intOf]; omega
        · obtain rfl : j = 4 := by omega
          have HX := Lib.hid (hr.last (by rw [HM.out]; exact hlt))
          have HB := Lib.hid hb
          clear hr hb
          go_wp2_with fail
          go_roundw
          case rel => exact ⟨k + 1, L, by omega, by go_num, HX.out, HB.out⟩
          case measure => simp [intOf]; omega
    · obtain rfl : k = m := by omega
      have HDW : Hid (DigW w.heap.size (leN bs) (4 * k) L0 u3 wr) := ⟨ho, hd0, by rw [hv0, List.take_of_length_le (by rw [HM.out]; omega)], by omega⟩
      have HB := Lib.hid hb
      clear ho hl0 hd0 hv0 hb
      go_wp2_with fail
      go_ret
      exact ⟨L0, u3, rfl, HDW.out, HB.out⟩
end Go.Proofs.YtagkkihnfipfeaaDoor

/-
  The reference's times.
-/
namespace Go.Proofs.YtagkkihnfipfeaaDoor
open Go.RowKit Go.Proofs.ShaWords
theorem wpList_make_nums {ops : Array Oper} {rest : List Oper} {o : Oper} {a : Act} {w : World} {Q : Exit → Act → World → Prop} (hg : o.guard = none) (l c : Operand) (hop : o.op = Op.makeSlice 82 l c) (n : Nat) (L : Int)
    (hl : a.eval l = .int .i64 L) (hc : a.eval c = .int .i64 L) (hL : L = (n : Int)) (b2 : n ≤ 1000000)
    (hK : ∀ w', w'.heap[w.heap.size]? = some (.cells (numsV (List.replicate n 0)).toArray 3 (0, 0)) → Below w.heap.size w w' → wpList Tryd.prog ops Q rest (a.put o.dst (.slice (some ⟨w.heap.size, 0, none⟩) n n)) w') : wpList Tryd.prog ops Q (o :: rest) a w := by
  obtain ⟨i, hi, hz, hsz, hby⟩ := info_parts info3
  refine wpList_plain hg fun K hK' => ?_
  subst hL
  have hrun := run_make (P := Tryd.prog) w 82 3 i (.int .i64 0) Tryd.underlying82 hi hz .i64 .i64 (n : Int) (n : Int) (by omega) (by omega) (by rw [hby]; omega) (by omega)
  rw [hsz, Nat.mul_one] at hrun
  simp only [Int.toNat_natCast] at hrun
  have hX : madeCells (Value.int .i64 0).cells n = (numsV (List.replicate n 0)).toArray := by
    apply Array.ext'
    show (madeCells #[Value.int .i64 0] n).toList = _
    rw [toList_madeCells_one]
    simp only [numsV, List.map_replicate]
    rfl
  rw [hX] at hrun
  unfold Oper.wp
  simp [execOp, hop, hl, hc, hrun, Result.andThen]
  exact hK' _ _ (hK _ (heap_new_at rfl) ((Below.refl _ _).alloc (Nat.le_refl _) _))
/-- A block that holds numbers. -/
def NumsAt (w : World) (g : Nat) (l : List Nat) : Prop := w.heap[g]? = some (.cells (numsV l).toArray 3 (0, 0))
theorem NumsAt.cell {w : World} {g : Nat} {l : List Nat} (h : NumsAt w g l) (k : Nat) (hk : k < l.length) : w.cell? ⟨g, k, none⟩ = some (.int .i64 (l.getD k 0 : Nat)) := by
  rw [cell_of_row w g k _ 3 _ h]; simp [numsV, List.getD, hk]
theorem NumsAt.frozen {w : World} {g : Nat} {l : List Nat} (h : NumsAt w g l) (k : Nat) : w.frozen? ⟨g, k, none⟩ = false := frozen_of_row _ _ _ _ _ h
theorem NumsAt.set {w : World} {g : Nat} {l : List Nat} (h : NumsAt w g l) (k : Nat) (x : Nat) : NumsAt (w.setCell ⟨g, k, none⟩ (.int .i64 (x : Int))) g (l.set k x) := by
  show _ = _
  rw [heap_setCell_same _ _ _ _ _ _ h, List.setIfInBounds_toArray]
  simp [numsV, List.map_set]
theorem NumsAt.range {w : World} {g : Nat} {l : List Nat} (h : NumsAt w g l) : w.rangeAt g 0 (numsV l) := fun j v hv => by
  rw [Nat.zero_add, cell_of_row w g j _ 3 _ h]; simpa using hv
theorem d4_set (l : List Nat) (j x : Nat) (hj : j < l.length) : d4 (l.set j x) + 4 ^ j * l.getD j 0 = d4 l + 4 ^ j * x := by
  induction l generalizing j with
  | nil => simp at hj
  | cons y r ih =>
    cases j with
    | zero => simp [d4]; omega
    | succ j =>
      have h := ih j (by simpa using hj)
      rw [List.set_cons_succ, List.getD_cons_succ, d4, d4, Nat.pow_succ, Nat.mul_comm (4 ^ j) 4, Nat.mul_assoc, Nat.mul_assoc]
      omega
theorem d4_zeros (n : Nat) : d4 (List.replicate n 0) = 0 := by
  induction n with
  | zero => rfl
  | succ n ih => rw [List.replicate_succ, d4, ih]
theorem getD_setN (l : List Nat) (j i x : Nat) (hj : j < l.length) : (l.set j x).getD i 0 = if i = j then x else l.getD i 0 := by
  by_cases h : i = j
  · subst h; rw [if_pos rfl]; simp [List.getD, hj]
  · rw [if_neg h]; simp [List.getD, List.getElem?_set_ne (fun e => h e.symm)]
/-- What times has, at the places i and k. -/
structure TimR (w : World) (g la lb : Nat) (a b : List Nat) (i k : Nat) (L : List Nat) (wr : World) : Prop where
  row : NumsAt wr g L
  below : Below w.heap.size w wr
  len : L.length = la + lb
  ent : ∀ j, L.getD j 0 ≤ 9 * (i * lb + k)
  val : d4 L = d4 (a.take i) * d4 b + 4 ^ i * a.getD i 0 * d4 (b.take k)
theorem TimR.next {w : World} {g la lb : Nat} {a b : List Nat} {i k : Nat} {L : List Nat} {wr : World} (h : TimR w g la lb a b i k L wr) (hi : i < la) (hk : k < lb) (ha : a.getD i 0 < 4) (hb : b.getD k 0 < 4) (hg : w.heap.size ≤ g) :
    TimR w g la lb a b i (k + 1) (L.set (i + k) (L.getD (i + k) 0 + a.getD i 0 * b.getD k 0)) (wr.setCell ⟨g, i + k, none⟩ (.int .i64 ((L.getD (i + k) 0 + a.getD i 0 * b.getD k 0 : Nat) : Int))) := by
  have hx : a.getD i 0 * b.getD k 0 ≤ 3 * 3 := Nat.mul_le_mul (by omega) (by omega)
  have hL := h.len
  refine ⟨h.row.set _ _, h.below.setCell hg _, by rw [List.length_set, hL], fun j => ?_, ?_⟩
  · have h1 := h.ent j
    have h2 := h.ent (i + k)
    rw [getD_setN _ _ _ _ (by omega)]
    split
    · omega
    · omega
  · have e := d4_set L (i + k) (L.getD (i + k) 0 + a.getD i 0 * b.getD k 0) (by omega)
    rw [Nat.mul_add] at e
    have e2 : d4 (L.set (i + k) (L.getD (i + k) 0 + a.getD i 0 * b.getD k 0)) = d4 L + 4 ^ (i + k) * (a.getD i 0 * b.getD k 0) := by omega
    rw [e2, h.val, d4_take_succ, Nat.mul_add, Nat.pow_add]
    have e3 : 4 ^ i * 4 ^ k * (a.getD i 0 * b.getD k 0) = 4 ^ i * a.getD i 0 * (4 ^ k * b.getD k 0) := Nat.mul_mul_mul_comm _ _ _ _
    rw [e3]; omega
theorem TimR.row_end {w : World} {g la lb : Nat} {a b : List Nat} {i : Nat} {L : List Nat} {wr : World} (h : TimR w g la lb a b i lb L wr) (hb : b.length = lb) : TimR w g la lb a b (i + 1) 0 L wr := by
  refine ⟨h.row, h.below, h.len, fun j => ?_, ?_⟩
  · have h1 := h.ent j
    have e : (i + 1) * lb = i * lb + lb := Nat.succ_mul i lb
    rw [e]; omega
  · rw [h.val, (List.take_of_length_le (show b.length ≤ lb by omega) : b.take lb = b), d4_take_succ, Nat.add_mul]
    simp [d4]
set_option maxRecDepth 100000 in
set_option maxHeartbeats 4000000 in
theorem times_any (a b : List Nat) (la lb : Nat) (pa pb : Option Addr) (ca cb : Nat) (w : World) (hla : a.length = la) (hlb : b.length = lb) (hsa : la ≤ 200) (hsb : lb ≤ 200) (ha : ∀ i, a.getD i 0 < 4) (hb : ∀ i, b.getD i 0 < 4) (hLa : LiesI w pa a) (hLb : LiesI w pb b) :
    Calls Tryd.prog 52 #[.slice pa la ca, .slice pb lb cb] w fun e w' => ∃ L v, e = .returned v ∧ DigW w.heap.size (d4 a * d4 b) (la + lb + 26) L v w' ∧ Below w.heap.size w w' := by
  have HLA := Lib.hid hla; clear hla
  have HLB := Lib.hid hlb; clear hlb
  have HA := Lib.hid ha; clear ha
  have HB := Lib.hid hb; clear hb
  have HPA := Lib.hid hLa; clear hLa
  have HPB := Lib.hid hLb; clear hLb
  go_enter Tryd.func52, Tryd.ntmps52
  have s0 : IntKind.i64.wrap ((la : Int) + (lb : Int)) = (la : Int) + (lb : Int) := IntWalk.i64_in _ (by omega)
  go_wp2_with (at_make; refine wpList_make_nums rfl _ _ rfl (la + lb) _ rfl rfl (by omega) (by omega) ?_; intro w1 h1 b1; have HF : Hid (TimR w w.heap.size la lb a b 0 0 (List.replicate (la + lb) 0) w1) := ⟨h1, b1, List.length_replicate, fun j => by simp [List.getD, List.getElem?_replicate]; split <;> simp, by rw [d4_zeros]; simp [d4]⟩; clear h1 b1)
  clear s0
  go_loopw [6, 7] (fun iv _ wr => ∃ (i : Nat) (L : List Nat), i ≤ la ∧ iv = .int .i64 (i : Int) ∧ TimR w w.heap.size la lb a b i 0 L wr) (fun iv _ _ => la - (intOf iv).toNat)
  case atStart => exact ⟨0, _, Nat.zero_le _, rfl, HF.out⟩
  case round =>
    clear HF
    obtain ⟨i, L0, hi, rfl, hr⟩ := hrel
    have HR := Lib.hid hr; clear hr
    by_cases hlt : i < la
    · have q0 : (i : Int) < (la : Int) := by omega
      go_wp2_with fail
      go_loopw [7] (fun kv wr => ∃ (k : Nat) (L : List Nat), k ≤ lb ∧ kv = .int .i64 (k : Int) ∧ TimR w w.heap.size la lb a b i k L wr) (fun kv _ => lb - (intOf kv).toNat)
      case atStart => exact ⟨0, _, Nat.zero_le _, rfl, HR.out⟩
      case round =>
        clear HR
        obtain ⟨k, L, hk, rfl, hr⟩ := hrel
        have HR := Lib.hid hr; clear hr
        by_cases hlk : k < lb
        · obtain ⟨ba, oa, hpa, hra⟩ : ∃ b0 off, pa = some ⟨b0, off, none⟩ ∧ w.rangeAt b0 off (numsV a) := by
            rcases HPA.out with h | h
            · have := HLA.out; rw [h] at this; simp at this; omega
            · exact h
          obtain ⟨bb, ob, hpb, hrb⟩ : ∃ b0 off, pb = some ⟨b0, off, none⟩ ∧ w.rangeAt b0 off (numsV b) := by
            rcases HPB.out with h | h
            · have := HLB.out; rw [h] at this; simp at this; omega
            · exact h
          subst hpa; subst hpb
          have c1 := rangeI_cell (range_keep hra HR.out.below) i (by rw [HLA.out]; exact hlt)
          have c2 := rangeI_cell (range_keep hrb HR.out.below) k (by rw [HLB.out]; exact hlk)
          clear hra hrb
          have c0 := HR.out.row.cell (i + k) (by rw [HR.out.len]; omega)
          have cf := HR.out.row.frozen (i + k)
          have hx4 := HA.out i
          have hy4 := HB.out k
          have hz4 := HR.out.ent (i + k)
          have hil : i * lb ≤ 200 * 200 := Nat.mul_le_mul (by omega) (by omega)
          have HX := Lib.hid (HR.out.next hlt hlk hx4 hy4 (Nat.le_refl _))
          generalize a.getD i 0 = x at c1 hx4 HX
          generalize b.getD k 0 = y at c2 hy4 HX
          generalize L.getD (i + k) 0 = z at c0 hz4 HX
          have hxy : x * y ≤ 3 * 3 := Nat.mul_le_mul (by omega) (by omega)
          have mm : IntKind.i64.wrap ((x : Int) * (y : Int)) = ((x * y : Nat) : Int) := by rw [← Int.natCast_mul]; exact IntWalk.i64_in _ (by omega)
          have mm2 : (x : Int) * (y : Int) = ((x * y : Nat) : Int) := by rw [Int.natCast_mul]
          generalize x * y = t at mm mm2 hxy HX
          obtain ⟨s, hs⟩ : ∃ s, s = z + t := ⟨_, rfl⟩
          rw [← hs] at HX
          have m0 : IntKind.i64.wrap ((z : Int) + (t : Int)) = (s : Int) := by rw [IntWalk.i64_in _ (by omega)]; omega
          have m1 : (z : Int) + (t : Int) = (s : Int) := by omega
          obtain ⟨j, hj⟩ : ∃ j, j = i + k := ⟨_, rfl⟩
          rw [← hj] at c0 cf HX
          have j0 : IntKind.i64.wrap ((i : Int) + (k : Int)) = (j : Int) := by rw [IntWalk.i64_in _ (by omega)]; omega
          have j1 : (i : Int) + (k : Int) = (j : Int) := by omega
          have jw : IntKind.i64.wrap (j : Int) = (j : Int) := IntWalk.i64_in _ (by omega)
          have sw : IntKind.i64.wrap (s : Int) = (s : Int) := IntWalk.i64_in _ (by omega)
          have tw : IntKind.i64.wrap (t : Int) = (t : Int) := IntWalk.i64_in _ (by omega)
          have j2 : (j : Int) < ((la + lb : Nat) : Int) := by omega
          have j3 : (j : Int) < (la : Int) + (lb : Int) := by omega
          have j4 : 0 ≤ (j : Int) := by omega
          have j5 : (j : Int).toNat = j := by omega
          have i0 : 0 ≤ (i : Int) := by omega
          have i1 : (i : Int).toNat = i := by omega
          have k0 : 0 ≤ (k : Int) := by omega
          have k1 : (k : Int).toNat = k := by omega
          have k2 : (k : Int) < (lb : Int) := by omega
          clear hs hj hz4 hil hxy
          go_wp2_with fail
          go_still_tail 21, (by kernel_rfl)
          change wpList _ _ _ _ _ wr.drew
          go_wp2_with fail
          go_roundw
          case rel => exact ⟨k + 1, _, by omega, by go_num, ⟨HX.out.row, HX.out.below.trans (((Below.refl _ _).drew).mono HX.out.below.size), HX.out.len, HX.out.ent, HX.out.val⟩⟩
          case measure => simp [intOf]; omega
        · obtain rfl : k = lb := by omega
          go_wp2_with fail
          go_roundw
          case rel => exact ⟨i + 1, L, by omega, by go_num, HR.out.row_end HLB.out⟩
          case measure => simp [intOf]; omega
    · obtain rfl : i = la := by omega
      have hil : i * lb ≤ 200 * 200 := Nat.mul_le_mul hsa hsb
      have hent : ∀ j, L0.getD j 0 ≤ 360000 := fun j => by have := HR.out.ent j; omega
      have HV : Hid (d4 L0 = d4 a * d4 b) := show _ = _ by
        rw [HR.out.val, List.take_of_length_le (by rw [HLA.out]; omega)]
        simp [d4]
      have hsz := HR.out.below.size
      go_wp2_with fail
      refine (carried_any L0 (i + lb) 360000 _ _ wr HR.out.len (by omega) hent (by omega) (Or.inr ⟨_, _, rfl, HR.out.row.range⟩)).mono ?_
      rintro e w2 ⟨L2, v2, rfl, hd, hb2⟩
      have HD := Lib.hid hd
      have HB2 := Lib.hid (HR.out.below.trans (hb2.mono hsz))
      clear hd hb2
      go_wp2_with fail
      go_ret
      exact ⟨L2, v2, rfl, ⟨HD.out.own.base hsz, HD.out.dig, HD.out.val.trans HV.out, HD.out.len⟩, HB2.out⟩
end Go.Proofs.YtagkkihnfipfeaaDoor

/-
  The reference's below.
-/
namespace Go.Proofs.YtagkkihnfipfeaaDoor
open Go.RowKit Go.Proofs.ShaWords
theorem d4_ext (a b : List Nat) (h : ∀ i, a.getD i 0 = b.getD i 0) : d4 a = d4 b := by
  induction a generalizing b with
  | nil =>
    induction b with
    | nil => rfl
    | cons y r ih =>
      have h0 := h 0
      have ih := ih (fun i => by have := h (i + 1); simpa using this)
      have hy : y = 0 := h0.symm
      have hr : d4 r = 0 := ih.symm
      show 0 = y + 4 * d4 r
      omega
  | cons x r ih =>
    cases b with
    | nil =>
      have h0 := h 0
      have ih := ih [] (fun i => by have := h (i + 1); simpa using this)
      have hx : x = 0 := h0
      have hr : d4 r = 0 := ih
      show x + 4 * d4 r = 0
      omega
    | cons y s =>
      have h0 := h 0
      have ih := ih s (fun i => by have := h (i + 1); simpa using this)
      rw [List.getD_cons_zero, List.getD_cons_zero] at h0
      rw [d4, d4, ih, h0]
theorem d4_split (l : List Nat) (n : Nat) : d4 l = d4 (l.take n) + 4 ^ n * d4 (l.drop n) := by
  by_cases h : n ≤ l.length
  · have e := d4_append (l.take n) (l.drop n)
    rw [List.take_append_drop, List.length_take, Nat.min_eq_left h] at e
    exact e
  · rw [List.take_of_length_le (by omega), List.drop_of_length_le (by omega)]; simp [d4]
theorem getD_takeN (l : List Nat) (n i : Nat) : (l.take n).getD i 0 = if i < n then l.getD i 0 else 0 := by
  by_cases h : i < n
  · rw [if_pos h]; simp [List.getD, h]
  · rw [if_neg h]; simp [List.getD, List.getElem?_take, h]
theorem d4_take_lt (l : List Nat) (n : Nat) (h : ∀ i, l.getD i 0 < 4) : d4 (l.take n) < 4 ^ n := by
  have h1 := d4_lt (l.take n) (fun i => by rw [getD_takeN]; split; exact h i; omega)
  have h2 : 4 ^ (l.take n).length ≤ 4 ^ n := Nat.pow_le_pow_right (by omega) (by rw [List.length_take]; omega)
  omega
theorem d4_less (a b : List Nat) (k : Nat) (ha : ∀ i, a.getD i 0 < 4) (hs : ∀ i, k < i → a.getD i 0 = b.getD i 0) (hl : a.getD k 0 < b.getD k 0) : d4 a < d4 b := by
  rw [d4_split a (k + 1), d4_split b (k + 1), d4_take_succ, d4_take_succ]
  have e : d4 (a.drop (k + 1)) = d4 (b.drop (k + 1)) := d4_ext _ _ (fun i => by
    have := hs (k + 1 + i) (by omega)
    simpa [List.getD, List.getElem?_drop] using this)
  rw [e]
  have h1 := d4_take_lt a k ha
  obtain ⟨d, hd⟩ : ∃ d, b.getD k 0 = a.getD k 0 + 1 + d := ⟨b.getD k 0 - a.getD k 0 - 1, by omega⟩
  rw [hd, Nat.mul_add, Nat.mul_add, Nat.mul_one]
  omega
set_option maxRecDepth 100000 in
set_option maxHeartbeats 4000000 in
theorem below_any (l : List Nat) (m : Nat) (p : Option Addr) (cap : Nat) (w : World) (hm : l.length = m) (hl : m ≤ 1000) (hd : ∀ i, l.getD i 0 < 4) (hL : LiesI w p l) :
    Calls Tryd.prog 61 #[.slice p m cap] w fun e w' => e = .returned (.bool (decide (d4 l < P130))) ∧ Below w.heap.size w w' := by
  have HM := Lib.hid hm; clear hm
  have HL := Lib.hid hL; clear hL
  have HD := Lib.hid hd; clear hd
  obtain ⟨M, hM⟩ : ∃ M, M = max m 65 := ⟨_, rfl⟩
  have HMX := Lib.hid hM
  have hM1 : M ≤ 1000 := by omega
  have hM2 : 65 ≤ M := by omega
  have hM3 : m ≤ M := by omega
  clear hM
  go_enter Tryd.func61, Tryd.ntmps61
  go_wp2_with fail
  refine (p_any w).mono ?_
  rintro e w1 ⟨v, rfl, ho, hb⟩
  obtain ⟨pq, cq, hv, hcq, hlq⟩ := ho.lies
  rw [pL_length] at hv hcq
  subst hv
  have HQ := Lib.hid hlq
  have HB1 := Lib.hid hb
  clear ho hb hlq
  have mw : IntKind.i64.wrap ((M : Int) - 1) = (M : Int) - 1 := IntWalk.i64_in _ (by omega)
  go_wp2_with (refine wpList_max rfl (.tmp 7) (.const (.int .i64 65)) rfl m 65 M rfl rfl HMX.out ?_)
  clear mw
  go_loopw [4] (fun i wr => ∃ k : Nat, k ≤ M ∧ i = .int .i64 ((k : Int) - 1) ∧ (∀ j, k ≤ j → l.getD j 0 = pL.getD j 0) ∧ wr = w1) (fun i _ => (intOf i + 1).toNat)
  case atStart =>
    refine ⟨M, Nat.le_refl _, rfl, fun j hj => ?_, rfl⟩
    have h1 : l.getD j 0 = 0 := by simp [List.getD, List.getElem?_eq_none (show l.length ≤ j by rw [HM.out]; omega)]
    have h2 : pL.getD j 0 = 0 := by simp [List.getD, List.getElem?_eq_none (show pL.length ≤ j by rw [pL_length]; omega)]
    rw [h1, h2]
  case round =>
    obtain ⟨k, hk, rfl, hs, rfl⟩ := hrel
    by_cases h0 : k = 0
    · subst h0
      have hv : d4 l = P130 := by rw [← pL_val]; exact d4_ext _ _ (fun i => hs i (Nat.zero_le _))
      have HV : Hid (decide (d4 l < P130) = false) := show _ = _ by rw [hv]; decide
      clear hv hs
      go_wp2_with fail
      go_ret
      exact ⟨by rw [HV.out]; rfl, HB1.out⟩
    · obtain ⟨j, rfl⟩ : ∃ j, k = j + 1 := ⟨k - 1, by omega⟩
      have hLw := HL.out.below HB1.out
      have HD1 := Lib.hid (fun (w2 : World) (h : w2 = wr) => digit_any l m j p cap w2 HM.out (by omega) (by omega) (by rw [h]; exact hLw))
      have HD2 := Lib.hid (fun (w2 : World) (h : w2 = wr) => digit_any pL 65 j pq cq w2 pL_length (by omega) (by omega) (by rw [h]; exact HQ.out))
      have HS := Lib.hid hs
      have HLT := Lib.hid (d4_less l pL j HD.out (fun i hi => hs i (by omega)))
      have HGT := Lib.hid (d4_less pL l j pL_dig (fun i hi => (hs i (by omega)).symm))
      have HEQ : Hid (l.getD j 0 = pL.getD j 0 → ∀ i, j ≤ i → l.getD i 0 = pL.getD i 0) := show _ → _ from fun h i hi => by
        by_cases hij : i = j
        · rw [hij]; exact h
        · exact hs i (by omega)
      clear hs hLw
      have e1 : ((j + 1 : Nat) : Int) - 1 = (j : Int) := by omega
      have e2 : (j : Int) + 1 - 1 = (j : Int) := by omega
      generalize hx : l.getD j 0 = x at HD1 HLT HGT HEQ
      generalize hy : pL.getD j 0 = y at HD2 HLT HGT HEQ
      have j0 : 0 ≤ (j : Int) := by omega
      rw [e1]
      by_cases hxy : x = y
      · subst hxy
        go_wp2_with fail
        refine (HD1.out _ rfl).mono ?_
        rintro e w' ⟨rfl, rfl⟩
        go_wp2_with fail
        refine (HD2.out _ rfl).mono ?_
        rintro e w' ⟨rfl, rfl⟩
        go_wp2_with fail
        go_roundw
        case rel => exact ⟨j, by omega, by go_num, HEQ.out (by trivial), by trivial⟩
        case measure => simp [intOf]
      · have hne : ¬ (x : Int) = (y : Int) := by omega
        by_cases hlt : x < y
        · have q0 : (x : Int) < (y : Int) := by omega
          have HV : Hid (decide (d4 l < P130) = true) := show _ = _ by rw [← pL_val]; exact decide_eq_true (HLT.out hlt)
          go_wp2_with fail
          refine (HD1.out _ rfl).mono ?_
          rintro e w' ⟨rfl, rfl⟩
          go_wp2_with fail
          refine (HD2.out _ rfl).mono ?_
          rintro e w' ⟨rfl, rfl⟩
          go_wp2_with fail
          refine (HD1.out _ rfl).mono ?_
          rintro e w' ⟨rfl, rfl⟩
          go_wp2_with fail
          refine (HD2.out _ rfl).mono ?_
          rintro e w' ⟨rfl, rfl⟩
          go_wp2_with fail
          go_ret
          exact ⟨by rw [HV.out]; rfl, HB1.out⟩
        · have q0 : ¬ (x : Int) < (y : Int) := by omega
          have HV : Hid (decide (d4 l < P130) = false) := show _ = _ by rw [← pL_val]; exact decide_eq_false (by have := HGT.out (by omega); omega)
          go_wp2_with fail
          refine (HD1.out _ rfl).mono ?_
          rintro e w' ⟨rfl, rfl⟩
          go_wp2_with fail
          refine (HD2.out _ rfl).mono ?_
          rintro e w' ⟨rfl, rfl⟩
          go_wp2_with fail
          refine (HD1.out _ rfl).mono ?_
          rintro e w' ⟨rfl, rfl⟩
          go_wp2_with fail
          refine (HD2.out _ rfl).mono ?_
          rintro e w' ⟨rfl, rfl⟩
          go_wp2_with fail
          go_ret
          exact ⟨by rw [HV.out]; rfl, HB1.out⟩
end Go.Proofs.YtagkkihnfipfeaaDoor

/-
  The reference's rest: a number modulo 2^130 - 5.
-/
namespace Go.Proofs.YtagkkihnfipfeaaDoor
open Go.RowKit Go.Proofs.ShaWords
/-- The number that a slice of digits holds, read off memory. -/
def cellN (w : World) (b off : Nat) (i : Nat) : Nat := match w.cell? ⟨b, off + i, none⟩ with | some (.int _ z) => z.toNat | _ => 0
def memN (v : Value) (w : World) : Nat := match v with | .slice (some ⟨b, off, _⟩) n _ => d4 ((List.range n).map (cellN w b off)) | _ => 0
theorem memN_eq {w : World} {p : Option Addr} {L : List Nat} {n c : Nat} (h : LiesI w p L) (hn : L.length = n) (h0 : 0 < n) : memN (.slice p n c) w = d4 L := by
  rcases h with h | ⟨b, off, rfl, hr⟩
  · subst h; simp at hn; omega
  · show d4 _ = _
    congr 1
    apply List.ext_getElem (by simp [hn])
    intro i h1 h2
    have hc := rangeI_cell hr i h2
    simp only [List.getElem_map, List.getElem_range]
    unfold cellN
    rw [hc]
    simp [List.getD, h2]
theorem memN_small {w : World} {p : Option Addr} {L : List Nat} {n c : Nat} (h : LiesI w p L) (hn : L.length = n) : memN (.slice p n c) w ≤ d4 L := by
  by_cases h0 : 0 < n
  · rw [memN_eq h hn h0]; exact Nat.le_refl _
  · have : n = 0 := by omega
    subst this
    cases p with
    | none => exact Nat.zero_le _
    | some a => obtain ⟨b, off, pl⟩ := a; exact Nat.zero_le _
/-- Digits that lie somewhere. -/
structure LieW (N M : Nat) (L : List Nat) (p : Option Addr) (n cap : Nat) (w : World) : Prop where
  lies : LiesI w p L
  len : L.length = n
  cap : n ≤ cap
  most : n ≤ M
  dig : ∀ i, L.getD i 0 < 4
  val : d4 L = N
theorem lies_front {w : World} {p : Option Addr} {L : List Nat} (h : LiesI w p L) (k : Nat) : LiesI w p (L.take k) := by
  rcases h with h | ⟨b, off, hp, hr⟩
  · exact Or.inl (by rw [h]; simp)
  · refine Or.inr ⟨b, off, hp, fun j v hv => hr j v ?_⟩
    simp only [numsV, List.map_take, List.getElem?_take] at hv
    split at hv
    · exact hv
    · cases hv
theorem range_dropI {w : World} {b off : Nat} {L : List Nat} (h : w.rangeAt b off (numsV L)) (k : Nat) : w.rangeAt b (off + k) (numsV (L.drop k)) := fun j v hv => by
  rw [Nat.add_assoc]
  refine h (k + j) v ?_
  simp only [numsV, List.map_drop, List.getElem?_drop] at hv
  exact hv
theorem dig_take (L : List Nat) (k : Nat) (h : ∀ i, L.getD i 0 < 4) (i : Nat) : (L.take k).getD i 0 < 4 := by
  rw [getD_takeN]; split
  · exact h i
  · omega
theorem dig_drop (L : List Nat) (k : Nat) (h : ∀ i, L.getD i 0 < 4) (i : Nat) : (L.drop k).getD i 0 < 4 := by
  have := h (k + i)
  simpa [List.getD, List.getElem?_drop] using this
theorem trimmed_take {w : World} {p : Option Addr} {L : List Nat} {m n cap N M : Nat} (h : LieW N M L p m cap w) (hn : n ≤ m) (hv : d4 (L.take n) = d4 L) : LieW N M (L.take n) p n cap w :=
  ⟨lies_front h.lies n, by rw [List.length_take, h.len]; omega, by have := h.cap; omega, by have := h.most; omega, dig_take L n h.dig, by rw [hv, h.val]⟩
theorem big_of (L : List Nat) (n : Nat) (hn : L.length = n) (h65 : 65 < n) (hz : L.getD (n - 1) 0 ≠ 0) : 1361129467683753853853498429727072845824 ≤ d4 L := by
  rw [d4_split L (n - 1)]
  obtain ⟨k, rfl⟩ : ∃ k, n = k + 1 := ⟨n - 1, by omega⟩
  rw [Nat.add_sub_cancel] at hz ⊢
  have h1 : 1 ≤ d4 (L.drop k) := by
    have e : L.drop k = L.getD k 0 :: L.drop (k + 1) := by
      rw [List.drop_eq_getElem_cons (by omega)]
      simp [List.getD, show k < L.length by omega]
    rw [e, d4]; omega
  have h2 : 4 ^ 65 ≤ 4 ^ k := Nat.pow_le_pow_right (by omega) (by omega)
  have h3 : 4 ^ k * 1 ≤ 4 ^ k * d4 (L.drop k) := Nat.mul_le_mul_left _ h1
  omega
theorem small_of (L : List Nat) (n : Nat) (hn : L.length = n) (h65 : n ≤ 65) (hd : ∀ i, L.getD i 0 < 4) : d4 L < 1361129467683753853853498429727072845824 := by
  have h1 := d4_lt L hd
  have h2 : 4 ^ L.length ≤ 4 ^ 65 := Nat.pow_le_pow_right (by omega) (by omega)
  omega
theorem parts65 (L : List Nat) (hd : ∀ i, L.getD i 0 < 4) : d4 (L.take 65) = d4 L % 1361129467683753853853498429727072845824 ∧ d4 (L.drop 65) = d4 L / 1361129467683753853853498429727072845824 := by
  have h1 := d4_split L 65
  have h2 := d4_take_lt L 65 hd
  omega
theorem ones_dig (i : Nat) : ([1, 1] : List Nat).getD i 0 < 4 := by
  match i with
  | 0 => decide
  | 1 => decide
  | i + 2 => simp
theorem two_ones (w : World) : LiesI (w.alloc (.cells #[.int .i64 1, .int .i64 1] 3)) (some ⟨w.heap.size, 0, none⟩) [1, 1] :=
  Or.inr ⟨_, _, rfl, fun j v hv => by
    rw [Nat.zero_add, cell_of_row _ _ j _ _ _ (heap_new_at rfl)]
    simpa [numsV] using hv⟩
section
variable {ρ : Operand → Value} {o : Oper} {x y : Operand} {w : World}
theorem run_to65 {p : Option Addr} {n c : Nat} (ho : o.op = .slice 82 x none (some (.const (.int .i64 65))) none) (h0 : ∀ u, ρ (.const u) = u) (hx : ρ x = .slice p n c) (hc : 65 ≤ c) (w : World) : (execOp ρ o).run Tryd.prog w = .ok (.value (.slice p 65 c)) w := by
  obtain ⟨dst, op, ty', pos, after, guard⟩ := o
  simp only at ho
  subst ho
  have h1 := h0 (.int .i64 65)
  have q : (65 : Int) ≤ (c : Int) := by omega
  go_simp
theorem run_from65 {b off n c : Nat} (ho : o.op = .slice 82 x (some (.const (.int .i64 65))) none none) (h0 : ∀ u, ρ (.const u) = u) (hx : ρ x = .slice (some ⟨b, off, none⟩) n c) (hn : 65 < n) (hc : n ≤ c) (w : World) :
    (execOp ρ o).run Tryd.prog w = .ok (.value (.slice (some ⟨b, off + 65, none⟩) (n - 65) (c - 65))) w := by
  obtain ⟨dst, op, ty', pos, after, guard⟩ := o
  simp only at ho
  subst ho
  have h1 := h0 (.int .i64 65)
  have q : (65 : Int) ≤ (n : Int) := by omega
  have q2 : (n : Int) ≤ (c : Int) := by omega
  have q3 : ¬ c = 65 := by omega
  have q4 : ¬ c - 65 = 0 := by omega
  go_simp
theorem run_build11 (ho : o.op = .buildSlice 82 2 #[(0, .const (.int .i64 1)), (1, .const (.int .i64 1))]) (h0 : ∀ u, ρ (.const u) = u) (w : World) :
    (execOp ρ o).run Tryd.prog w = .ok (.value (.slice (some ⟨w.heap.size, 0, none⟩) 2 2)) (w.alloc (.cells #[.int .i64 1, .int .i64 1] 3)) := by
  obtain ⟨dst, op, ty', pos, after, guard⟩ := o
  simp only at ho
  subst ho
  have h1 := h0 (.int .i64 1)
  go_simp
end
section
variable {P : Program} {ops : Array Oper} {Q : Exit → Act → World → Prop} {S E : World → Prop} {r : List (Nat × Met)} {i : Nat} {o : Oper} {d : Option Tmp} {v : Value} {a : Act} {w w' : World}
theorem met_value (ho : ops[i]? = some o) (hd : o.dst = d) (hw : Region.wanted o (yielded ops a.tmps) = true) (hr : (execOp a.eval o).run P w = .ok (.value v) w')
    (h : S w' ∧ wpE P ops Q S E r (a.put d v) w') : wpE P ops Q S E ((i, .behind) :: r) a w := by
  refine met_behind ho hw ?_
  unfold Oper.wp
  rw [hr, Oper.upon_value, hd]
  exact h
end
set_option maxRecDepth 100000 in
set_option maxHeartbeats 8000000 in
theorem rest_any (l : List Nat) (m : Nat) (p : Option Addr) (cap : Nat) (w : World) (hm : l.length = m) (hl : m ≤ 260) (hcap : m ≤ cap) (hd : ∀ i, l.getD i 0 < 4) (hL : LiesI w p l) :
    Calls Tryd.prog 51 #[.slice p m cap] w fun e w' => ∃ L q n c, e = .returned (.slice q n c) ∧ LieW (d4 l % P130) 65 L q n c w' ∧ Below w.heap.size w w' := by
  obtain ⟨N0, hN0⟩ : ∃ N0, N0 = d4 l := ⟨_, rfl⟩
  have H00 : Hid (LieW N0 260 l p m cap w) := ⟨hL, hm, hcap, hl, hd, hN0.symm⟩
  rw [← hN0]
  clear hL hm hd hN0
  go_enter Tryd.func51, Tryd.ntmps51
  go_wp2_with fail
  refine (trimmed_any l m p cap w H00.out.len (by omega) hcap H00.out.lies).mono ?_
  rintro e w0 ⟨n0, rfl, hn0, hz0, hv0, rfl⟩
  have H0 := Lib.hid (trimmed_take H00.out hn0 hv0)
  have HZ0 : Hid (n0 = 0 ∨ (l.take n0).getD (n0 - 1) 0 ≠ 0) := show _ ∨ _ by
    rcases hz0 with h | h
    · exact Or.inl h
    · by_cases h0 : n0 = 0
      · exact Or.inl h0
      · exact Or.inr (by rw [getD_takeN, if_pos (by omega)]; exact h)
  clear hn0 hz0 hv0 H00 hl hcap
  go_wp2_with fail
  go_loopw [0] (fun v wr => ∃ (N : Nat) (L : List Nat) (q : Option Addr) (n c : Nat), v = .slice q n c ∧ LieW N 260 L q n c wr ∧ (n = 0 ∨ L.getD (n - 1) 0 ≠ 0) ∧ N % P130 = N0 % P130 ∧ Below w.heap.size w wr) (fun v wr => memN v wr)
  case atStart => exact ⟨N0, _, p, n0, cap, rfl, H0.out, HZ0.out, rfl, Below.refl _ _⟩
  case round =>
    clear H0 HZ0
    obtain ⟨N, L, q, n, cp, rfl, hw, hz, hN, hb⟩ := hrel
    by_cases h65 : 65 < n
    · obtain ⟨b, off, hq, hr⟩ : ∃ b off, q = some ⟨b, off, none⟩ ∧ wr.rangeAt b off (numsV L) := by
        rcases hw.lies with h | h
        · have := hw.len; rw [h] at this; simp at this; omega
        · exact h
      subst hq
      have hmost := hw.most
      have hcp := hw.cap
      have HBIG := Lib.hid (big_of L n hw.len h65 (by rcases hz with h | h; omega; exact h))
      have HPT := Lib.hid (parts65 L hw.dig)
      have HMM := Lib.hid (memN_eq (c := cp) hw.lies hw.len (by omega))
      have HW := Lib.hid hw
      have HDL : Hid ((L.drop 65).length = n - 65) := show _ = _ by rw [List.length_drop, hw.len]
      have HTL : Hid ((L.take 65).length = 65) := show _ = _ by rw [List.length_take, hw.len]; omega
      have HDD := Lib.hid (dig_drop L 65 hw.dig)
      have HTD := Lib.hid (dig_take L 65 hw.dig)
      have HDI : Hid (LiesI wr.drew (some ⟨b, off + 65, none⟩) (L.drop 65)) := show LiesI _ _ _ from Or.inr ⟨_, _, rfl, range_dropI hr 65⟩
      have HTI : Hid (LiesI wr.drew (some ⟨b, off, none⟩) (L.take 65)) := show LiesI _ _ _ from lies_front (Or.inr ⟨_, _, rfl, hr⟩) 65
      have HN := Lib.hid hN
      have HB := Lib.hid hb
      have q0 : (65 : Int) < (n : Int) := by omega
      clear hw hz hN hb hr
      go_upto_region 3 with (fail)
      refine region_phase (fun _ => True) (fun _ => True) 4 trivial trivial [(0, .free), (1, .free), (2, .free), (3, .free), (4, .behind), (5, .behind), (6, .behind), (7, .behind), (8, .free)] (by kernel_rfl) (by kernel_rfl) (by kernel_rfl) (by kernel_rfl) (fun ops hops A2 hA => ?_)
      have hsz : A2.tmps.size = 30 := by rw [hA]; rfl
      have base0 : A2.eval (.tmp 0) = .slice (some ⟨b, off, none⟩) n cp := by rw [hA]; rfl
      have HAA := Lib.hid hA; clear hA
      obtain ⟨o0, po0, q0, d0, gd0⟩ : ∃ o, ops[0]? = some o ∧ o.op = .move (.tmp 0) ∧ o.dst = some 8 ∧ o.guard = none := ⟨_, by rw [hops]; rfl, rfl, rfl, rfl⟩
      obtain ⟨o1, po1, q1, d1, gd1⟩ : ∃ o, ops[1]? = some o ∧ o.op = .slice 82 (.tmp 8) none (some (.const (.int .i64 65))) none ∧ o.dst = some 9 ∧ o.guard = none := ⟨_, by rw [hops]; rfl, rfl, rfl, rfl⟩
      obtain ⟨o2, po2, q2, d2, gd2⟩ : ∃ o, ops[2]? = some o ∧ o.op = .move (.tmp 0) ∧ o.dst = some 10 ∧ o.guard = none := ⟨_, by rw [hops]; rfl, rfl, rfl, rfl⟩
      obtain ⟨o3, po3, q3, d3, gd3⟩ : ∃ o, ops[3]? = some o ∧ o.op = .slice 82 (.tmp 10) (some (.const (.int .i64 65))) none none ∧ o.dst = some 11 ∧ o.guard = none := ⟨_, by rw [hops]; rfl, rfl, rfl, rfl⟩
      obtain ⟨o4, po4, q4, dd4, gd4⟩ : ∃ o, ops[4]? = some o ∧ o.op = .buildSlice 82 2 #[(0, (.const (.int .i64 1))), (1, (.const (.int .i64 1)))] ∧ o.dst = some 12 ∧ o.guard = none := ⟨_, by rw [hops]; rfl, rfl, rfl, rfl⟩
      obtain ⟨o5, po5, q5, d5, gd5⟩ : ∃ o, ops[5]? = some o ∧ o.op = .call { callee := .value (.func 52), args := #[.tmp 11, .tmp 12], argTypes := #[82, 82] } ∧ o.dst = some 13 ∧ o.guard = none := ⟨_, by rw [hops]; rfl, rfl, rfl, rfl⟩
      obtain ⟨o6, po6, q6, d6, gd6⟩ : ∃ o, ops[6]? = some o ∧ o.op = .call { callee := .value (.func 53), args := #[.tmp 9, .tmp 13], argTypes := #[82, 82] } ∧ o.dst = some 14 ∧ o.guard = none := ⟨_, by rw [hops]; rfl, rfl, rfl, rfl⟩
      obtain ⟨o7, po7, q7, d7, gd7⟩ : ∃ o, ops[7]? = some o ∧ o.op = .call { callee := .value (.func 60), args := #[.tmp 14], argTypes := #[82] } ∧ o.dst = some 15 ∧ o.guard = none := ⟨_, by rw [hops]; rfl, rfl, rfl, rfl⟩
      obtain ⟨o8, po8, q8, d8, gd8⟩ : ∃ o, ops[8]? = some o ∧ o.op = .assign (.tmp 15) ∧ o.dst = some 0 ∧ o.guard = none := ⟨_, by rw [hops]; rfl, rfl, rfl, rfl⟩
      clear hops
      refine met_free po0 d0 (wanted_of gd0) (fun w' _ => run_move q0 base0 w') ?_
      refine met_free po1 d1 (wanted_of gd1) (fun w' _ => run_to65 q1 (fun _ => rfl) (eval_same _ _ _ (by rw [hsz]; decide)) (by omega) w') ?_
      refine met_free po2 d2 (wanted_of gd2) (fun w' _ => run_move q2 ((eval_other _ 9 0 _ (by decide)).trans ((eval_other _ 8 0 _ (by decide)).trans base0)) w') ?_
      refine met_free po3 d3 (wanted_of gd3) (fun w' _ => run_from65 q3 (fun _ => rfl) (eval_same _ _ _ (by simp only [put_size, hsz]; decide)) (by omega) (by omega) w') ?_
      refine met_value po4 dd4 (wanted_of gd4) (run_build11 q4 (fun _ => rfl) _) ⟨trivial, ?_⟩
      have H1 := Lib.hid (two_ones wr.drew)
      have HB1 := Lib.hid (show Below wr.drew.heap.size wr.drew (wr.drew.alloc (.cells #[.int .i64 1, .int .i64 1] 3)) from (Below.refl _ _).alloc (Nat.le_refl _) _)
      refine met_enterA po5 d5 (wanted_of gd5) (run_callf2 q5 rfl ((eval_other _ 12 11 _ (by decide)).trans (eval_same _ _ _ (by simp only [put_size, hsz]; decide))) (eval_same _ _ _ (by simp only [put_size, hsz]; decide)) Tryd.func52 (by kernel_rfl) _) (times_any (L.drop 65) [1, 1] (n - 65) 2 _ _ _ _ _ HDL.out rfl (by omega) (by omega) HDD.out ones_dig (HDI.out.below HB1.out) H1.out) ?_
      rintro e w2 ⟨L2, v2, rfl, hd2, hb2⟩
      obtain ⟨p2, c2, hv2, hc2, hl2⟩ := hd2.own.lies
      subst hv2
      have HD2 := Lib.hid hd2
      have HB2 := Lib.hid (HB1.out.trans (hb2.mono HB1.out.size))
      have HL2 := Lib.hid hl2
      have hm2 := hd2.len
      clear hd2 hb2 hl2
      refine ⟨_, rfl, trivial, ?_⟩
      refine met_enterA po6 d6 (wanted_of gd6) (run_callf2 q6 rfl ((eval_other _ 13 9 _ (by decide)).trans ((eval_other _ 12 9 _ (by decide)).trans ((eval_other _ 11 9 _ (by decide)).trans ((eval_other _ 10 9 _ (by decide)).trans (eval_same _ _ _ (by simp only [put_size, hsz]; decide)))))) (eval_same _ _ _ (by simp only [put_size, hsz]; decide)) Tryd.func53 (by kernel_rfl) _) (rplus_any (L.take 65) L2 65 L2.length _ p2 _ c2 w2 HTL.out rfl (by omega) (by omega) HTD.out HD2.out.dig (HTI.out.below HB2.out) HL2.out) ?_
      rintro e w3 ⟨L3, v3, rfl, hd3, hb3⟩
      obtain ⟨p3, c3, hv3, hc3, hl3⟩ := hd3.own.lies
      subst hv3
      have HD3 := Lib.hid hd3
      have HB3 := Lib.hid (HB2.out.trans (hb3.mono HB2.out.size))
      have HL3 := Lib.hid hl3
      have HC3 := Lib.hid hc3
      have hm3 := hd3.len
      clear hd3 hb3 hl3 hc3
      refine ⟨_, rfl, trivial, ?_⟩
      refine met_enterA po7 d7 (wanted_of gd7) (run_callf1 q7 rfl (eval_same _ _ _ (by simp only [put_size, hsz]; decide)) Tryd.func60 (by kernel_rfl) _) (trimmed_any L3 L3.length p3 c3 w3 rfl (by omega) HC3.out HL3.out) ?_
      rintro e w4 ⟨n4, rfl, hn4, hz4, hv4, rfl⟩
      refine ⟨_, rfl, trivial, ?_⟩
      refine met_free po8 d8 (wanted_of gd8) (fun w' _ => run_assign q8 (eval_same _ _ _ (by simp only [put_size, hsz]; decide)) w') ?_
      show NoPanic _ .normal _ _
      refine NoPanic.normal ?_
      rw [HAA.out]
      go_frame
      clear HAA
      have H3 : Hid (LieW (d4 (L.take 65) + d4 L2) 260 L3 p3 L3.length c3 w3) := ⟨HL3.out, rfl, HC3.out, by omega, HD3.out.dig, HD3.out.val⟩
      have H4 := Lib.hid (trimmed_take H3.out hn4 hv4)
      have HZ4 : Hid (n4 = 0 ∨ (L3.take n4).getD (n4 - 1) 0 ≠ 0) := show _ ∨ _ by
        rcases hz4 with h | h
        · exact Or.inl h
        · by_cases h0 : n4 = 0
          · exact Or.inl h0
          · exact Or.inr (by rw [getD_takeN, if_pos (by omega)]; exact h)
      have hval : d4 (L.take 65) + d4 L2 = N % 1361129467683753853853498429727072845824 + N / 1361129467683753853853498429727072845824 * 5 := by
        rw [HPT.out.1, HD2.out.val, HPT.out.2, HW.out.val]
        show _ + _ * (1 + 4 * (1 + 4 * 0)) = _
        omega
      have HVAL := Lib.hid hval
      have hbig := HBIG.out
      rw [HW.out.val] at hbig
      clear hval hn4 hz4 hv4 H3 HL3 HC3 HD3 HL2 HD2 H1
      go_wp2_with fail
      go_roundw
      case rel =>
        refine ⟨_, _, _, _, _, rfl, H4.out, HZ4.out, ?_, HB.out.trans ((((Below.refl _ wr).drew).trans (HB3.out.mono (Nat.le_refl _))).mono HB.out.size)⟩
        rw [HVAL.out, ← HN.out, show P130 = 1361129467683753853853498429727072845819 from rfl]
        omega
      case measure =>
        refine Nat.lt_of_le_of_lt (memN_small H4.out.lies H4.out.len) ?_
        rw [H4.out.val, HVAL.out]
        show _ < memN _ _
        rw [HMM.out, HW.out.val]
        omega
    · have H1 : Hid (LieW N 65 L q n cp wr) := ⟨hw.lies, hw.len, hw.cap, by omega, hw.dig, hw.val⟩
      have HN := Lib.hid hN
      have HB := Lib.hid hb
      have q0 : ¬ (65 : Int) < (n : Int) := by omega
      clear hw hz hN hb
      go_wp2_with fail
      clear q0
      go_loopw [0] (fun v wi => ∃ (N : Nat) (L : List Nat) (q : Option Addr) (n c : Nat), v = .slice q n c ∧ LieW N 65 L q n c wi ∧ N % P130 = N0 % P130 ∧ Below w.heap.size w wi) (fun v wi => memN v wi)
      case atStart => exact ⟨N, L, q, n, cp, rfl, H1.out, HN.out, HB.out⟩
      case round =>
        clear H1 HN HB h65
        obtain ⟨N, L, q, n, cp, rfl, hw, hN, hb⟩ := hrel
        have HW := Lib.hid hw
        have HN := Lib.hid hN
        have HB := Lib.hid hb
        clear hw hN hb
        by_cases hlt : N < P130
        · have HV : Hid (decide (d4 L < P130) = true) := show _ = _ by rw [HW.out.val]; exact decide_eq_true hlt
          have HR : Hid (LieW (N0 % P130) 65 L q n cp wr) := show LieW _ _ _ _ _ _ _ by
            have := HW.out
            exact ⟨this.lies, this.len, this.cap, this.most, this.dig, by rw [this.val, ← HN.out, Nat.mod_eq_of_lt hlt]⟩
          clear hlt
          go_wp2_with fail
          refine (below_any L n q cp wr HW.out.len (by have := HW.out.most; omega) HW.out.dig HW.out.lies).mono ?_
          rintro e w1 ⟨rfl, hb1⟩
          rw [HV.out]
          have HR1 : Hid (LieW (N0 % P130) 65 L q n cp w1) := show LieW _ _ _ _ _ _ _ by
            have := HR.out
            exact ⟨this.lies.below hb1, this.len, this.cap, this.most, this.dig, this.val⟩
          have HB1 := Lib.hid (HB.out.trans (hb1.mono HB.out.size))
          clear hb1 HR HB
          go_wp2_with fail
          go_ret
          exact ⟨L, q, n, cp, rfl, HR1.out, HB1.out⟩
        · have HV : Hid (decide (d4 L < P130) = false) := show _ = _ by rw [HW.out.val]; exact decide_eq_false hlt
          have hsm := small_of L n HW.out.len HW.out.most HW.out.dig
          rw [HW.out.val] at hsm
          have hge : 1361129467683753853853498429727072845819 ≤ N := Nat.le_of_not_lt hlt
          have hnm := HW.out.most
          clear hlt
          go_wp2_with fail
          refine (below_any L n q cp wr HW.out.len (by omega) HW.out.dig HW.out.lies).mono ?_
          rintro e w1 ⟨rfl, hb1⟩
          rw [HV.out]
          have HLB := Lib.hid (HW.out.lies.below hb1)
          have HB1 := Lib.hid hb1
          clear hb1
          have h0n : 0 < n := by
            apply Nat.pos_of_ne_zero
            intro h0
            have h1 := HW.out.len
            have h2 := HW.out.val
            rw [h0] at h1
            rw [List.length_eq_zero_iff.1 h1] at h2
            simp [d4] at h2
            omega
          have HMM := Lib.hid (memN_eq (c := cp) HW.out.lies HW.out.len h0n)
          go_wp2_with fail
          refine calls_gen (fun w2 => LiesI w2 (some ⟨w1.heap.size, 0, none⟩) [1, 1] ∧ Below w1.heap.size w1 w2) ⟨two_ones w1, (Below.refl _ _).alloc (Nat.le_refl _) _⟩ ?_
          rintro w2 ⟨hl2, hb2⟩
          refine (rplus_any L [1, 1] n 2 q _ cp _ w2 HW.out.len rfl (by omega) (by omega) HW.out.dig ones_dig (HLB.out.below hb2) hl2).mono ?_
          rintro e w3 ⟨L3, v3, rfl, hd3, hb3⟩
          obtain ⟨p3, c3, hv3, hc3, hl3⟩ := hd3.own.lies
          subst hv3
          have hm3 := hd3.len
          have HB3 := Lib.hid ((HB1.out.trans (hb2.mono HB1.out.size)).trans (hb3.mono (Nat.le_trans HB1.out.size hb2.size)))
          have H3 : Hid (LieW (N + 5) 91 L3 p3 L3.length c3 w3) := ⟨hl3, rfl, hc3, by omega, hd3.dig, by rw [hd3.val, HW.out.val]; rfl⟩
          clear hl2 hb2 hd3 hb3 hl3 hc3 HLB HB1
          go_wp2_with fail
          refine (trimmed_any L3 L3.length p3 c3 w3 rfl (by omega) H3.out.cap H3.out.lies).mono ?_
          rintro e w4 ⟨n4, rfl, hn4, hz4, hv4, rfl⟩
          have H4 := Lib.hid (trimmed_take H3.out hn4 hv4)
          have hn65 : 65 < n4 := by
            apply Nat.lt_of_not_le
            intro hle
            have h1 := small_of _ n4 H4.out.len hle H4.out.dig
            rw [H4.out.val] at h1
            omega
          have h4c := H4.out.cap
          clear hz4 hv4 H3 hn4
          have q0 : (65 : Int) < (n4 : Int) := by omega
          have q1 : (65 : Int) ≤ (c3 : Int) := by omega
          have q2 : 65 < n4 := hn65
          have H5 : Hid (LieW ((N + 5) % 1361129467683753853853498429727072845824) 65 ((L3.take n4).take 65) p3 65 c3 w3) := show LieW _ _ _ _ _ _ _ from
            ⟨lies_front H4.out.lies 65, by rw [List.length_take, H4.out.len]; omega, by omega, Nat.le_refl _, dig_take _ 65 H4.out.dig, by rw [(parts65 _ H4.out.dig).1, H4.out.val]⟩
          clear H4
          go_wp2_with fail
          refine (trimmed_any _ 65 p3 c3 _ H5.out.len (by omega) H5.out.cap H5.out.lies).mono ?_
          rintro e w6 ⟨n6, rfl, hn6, hz6, hv6, rfl⟩
          have H6 := Lib.hid (trimmed_take H5.out hn6 hv6)
          clear hz6 hv6 H5 hn6
          go_wp2_with fail
          go_roundw
          case rel =>
            refine ⟨_, _, _, _, _, rfl, H6.out, ?_, HB.out.trans (HB3.out.mono HB.out.size)⟩
            rw [← HN.out, show P130 = 1361129467683753853853498429727072845819 from rfl]
            omega
          case measure =>
            refine Nat.lt_of_le_of_lt (memN_small H6.out.lies H6.out.len) ?_
            rw [H6.out.val]
            show _ < memN _ _
            rw [HMM.out, HW.out.val]
            omega
end Go.Proofs.YtagkkihnfipfeaaDoor

/-
  The reference's Clamp.
-/
namespace Go.Proofs.YtagkkihnfipfeaaDoor
open Go.RowKit Go.Proofs.ShaWords
theorem rem16 (t : BitVec 8) : (n8 t).tmod 16 = n8 (t &&& 15#8) := by
  unfold n8; rw [BitVec.toNat_and, show (15#8).toNat = 2 ^ 4 - 1 from rfl, Nat.and_two_pow_sub_one_eq_mod, Int.tmod_eq_emod_of_nonneg (by omega)]; omega
theorem quo4 (t : BitVec 8) : (n8 t).tdiv 4 = n8 (t >>> 2) := by
  unfold n8; rw [BitVec.toNat_ushiftRight, Nat.shiftRight_eq_div_pow, Int.tdiv_eq_ediv_of_nonneg (by omega)]; omega
theorem mul4 (t : BitVec 8) : IntKind.u8.wrap (n8 t * 4) = n8 (t <<< 2) := by
  unfold n8; rw [IntKind.wrap_u8', BitVec.toNat_shiftLeft, Nat.shiftLeft_eq]; omega
theorem wrap_byte (t : BitVec 8) : IntKind.u8.wrap (n8 t) = n8 t := by
  unfold n8; rw [IntKind.wrap_u8']; have := t.isLt; omega
theorem shift2 (t : BitVec 8) : t >>> 2 <<< 2 = t &&& 252#8 := by
  have H : ∀ v : Fin 256, (BitVec.ofFin v : BitVec 8) >>> 2 <<< 2 = BitVec.ofFin v &&& 252#8 := by decide +kernel
  exact H t.toFin
attribute [local go_sem] rem16 quo4 mul4 wrap_byte
theorem Own.base'' {B B' : Nat} {w : World} {l : List (BitVec 8)} {v : Value} (h : Own B w l v) (hb : B' ≤ B) : Own B' w l v := by
  rcases h.2 with h0 | ⟨g, cap, cur, he, hg, hr⟩
  · exact ⟨h.1, .inl h0⟩
  · exact ⟨h.1, .inr ⟨g, cap, cur, he, Nat.le_trans hb hg, hr⟩⟩
/-- The first k bytes of r. -/
def clampK (key : List (BitVec 8)) (k : Nat) : List (BitVec 8) := (List.range k).map fun i => clr i (key.getD i 0#8)
theorem clampK_succ (key : List (BitVec 8)) (k : Nat) : clampK key k ++ [clr k (key.getD k 0#8)] = clampK key (k + 1) := by simp [clampK, List.range_succ]
theorem clampK_length (key : List (BitVec 8)) (k : Nat) : (clampK key k).length = k := by simp [clampK]
theorem clampK_all (key : List (BitVec 8)) (hk : key.length = 32) : clampK key 16 = clrOf key := by
  apply ext_getD _ _ (by rw [clampK_length, clrOf_length key hk])
  intro i hi
  rw [clampK_length] at hi
  rw [clrOf_get key hk i hi]
  simp [clampK, List.getD, hi]
attribute [local irreducible] clampK
set_option maxRecDepth 100000 in
set_option maxHeartbeats 4000000 in
theorem clamp_any (key : List (BitVec 8)) (w : World) (hk : key.length = 32) :
    Calls Tryd.prog 50 #[.agg (bytesV key).toArray] w fun e w' => ∃ v, e = .returned v ∧ Own w.heap.size w' (clrOf key) v ∧ Below w.heap.size w w' := by
  have HKL := Lib.hid hk
  have HE := Lib.hid (clampK_all key hk); clear hk
  have HC0 : Hid (clampK key 0 = []) := show _ = _ by unfold clampK; rfl
  have HCL := Lib.hid (clampK_length key)
  go_enter Tryd.func50, Tryd.ntmps50
  go_wp2_with fail
  refine wp_gen (fun w1 => BytesAt w1 w.heap.size 23 key ∧ Below w.heap.size w w1) ⟨heap_alloc_new w _, (Below.refl _ _).alloc (Nat.le_refl _) _⟩ ?_
  rintro w1 ⟨hk1, hb1⟩
  have HK1 := Lib.hid hk1
  have HB1 := Lib.hid hb1
  clear hk1 hb1
  go_loopw [3, 4, 5] (fun v i _ wr => ∃ k : Nat, k ≤ 16 ∧ i = .int .i64 (k : Int) ∧ BytesAt wr w.heap.size 23 key ∧ Own (w.heap.size + 1) wr (clampK key k) v ∧ Below w.heap.size w wr) (fun _ i _ _ => 16 - (intOf i).toNat)
  case atStart => exact ⟨0, by omega, rfl, HK1.out, by rw [HC0.out]; exact Own.nil _ _, HB1.out⟩
  case round =>
    clear HK1 HB1
    obtain ⟨k, hk, rfl, hkb, ho, hb⟩ := hrel
    have HK := Lib.hid hkb
    have HO := Lib.hid ho
    have HB := Lib.hid hb
    by_cases hlt : k < 16
    · have c0 := hkb.cell k (by rw [HKL.out]; omega)
      have hsz : w.heap.size + 1 ≤ wr.heap.size := hkb.size
      have HS := Lib.hid (clampK_succ key k)
      clear hkb ho hb
      generalize key.getD k 0#8 = x at c0 HS
      have q0 : (k : Int) < 16 := by omega
      have q1 : (k : Int) < 32 := by omega
      have kp : 0 ≤ (k : Int) := by omega
      have z0 : (k : Int).toNat = k := by omega
      by_cases h3 : k % 4 = 3
      · have HT3 : Hid (clr k x = x &&& 15#8) := show _ = _ from if_pos h3
        have e3 : (k : Int).tmod 4 = 3 := by rw [Int.tmod_eq_emod_of_nonneg (by omega)]; omega
        rw [HT3.out] at HS
        clear h3 HT3
        go_wp2_with (at_builtin; refine wpList_append_byte rfl (.tmp 28) (.tmp 30) rfl (w.heap.size + 1) _ (clampK key k) (x &&& 15#8) rfl HO.out rfl (by rw [HCL.out]; omega) hsz ?_; intro v' w' ho' hb'; rw [HS.out] at ho'; have HO2 := Lib.hid ho'; have HB2 := Lib.hid (HB.out.trans (hb'.mono (Nat.le_succ _))); have HK2 : Hid (BytesAt w' w.heap.size 23 key) := (hb'.block _ (Nat.lt_succ_self _)).trans HK.out; clear ho' hb')
        go_roundw
        case rel => exact ⟨k + 1, by omega, by go_num, HK2.out, HO2.out, HB2.out⟩
        case measure => simp [intOf]; omega
      · by_cases h0 : k % 4 = 0 ∧ 0 < k
        · have HT3 : Hid (clr k x = x >>> 2 <<< 2) := show _ = _ from ((if_neg h3).trans (if_pos h0)).trans (shift2 x).symm
          have e3 : (k : Int).tmod 4 = 0 := by rw [Int.tmod_eq_emod_of_nonneg (by omega)]; omega
          have e4 : 0 < (k : Int) := by omega
          have e5 : 0 < k := by omega
          rw [HT3.out] at HS
          clear h3 HT3 h0
          go_wp2_with (at_builtin; refine wpList_append_byte rfl (.tmp 28) (.tmp 30) rfl (w.heap.size + 1) _ (clampK key k) (x >>> 2 <<< 2) rfl HO.out rfl (by rw [HCL.out]; omega) hsz ?_; intro v' w' ho' hb'; rw [HS.out] at ho'; have HO2 := Lib.hid ho'; have HB2 := Lib.hid (HB.out.trans (hb'.mono (Nat.le_succ _))); have HK2 : Hid (BytesAt w' w.heap.size 23 key) := (hb'.block _ (Nat.lt_succ_self _)).trans HK.out; clear ho' hb')
          go_roundw
          case rel => exact ⟨k + 1, by omega, by go_num, HK2.out, HO2.out, HB2.out⟩
          case measure => simp [intOf]; omega
        · have HT3 : Hid (clr k x = x) := show _ = _ from (if_neg h3).trans (if_neg h0)
          rw [HT3.out] at HS
          obtain ⟨r, hr⟩ : ∃ r, r = k % 4 := ⟨_, rfl⟩
          have e3 : (k : Int).tmod 4 = (r : Int) := by rw [Int.tmod_eq_emod_of_nonneg (by omega)]; omega
          have e6 : ¬ (r : Int) = 3 := by omega
          have e7 : ¬ r = 3 := by omega
          have wr4 : IntKind.i64.wrap (r : Int) = (r : Int) := IntWalk.i64_in _ (by omega)
          by_cases hk0 : k = 0
          · subst hk0
            clear h3 HT3 h0 hr
            go_wp2_with (at_builtin; refine wpList_append_byte rfl (.tmp 28) (.tmp 30) rfl (w.heap.size + 1) _ (clampK key 0) x rfl HO.out rfl (by rw [HCL.out]; omega) hsz ?_; intro v' w' ho' hb'; rw [HS.out] at ho'; have HO2 := Lib.hid ho'; have HB2 := Lib.hid (HB.out.trans (hb'.mono (Nat.le_succ _))); have HK2 : Hid (BytesAt w' w.heap.size 23 key) := (hb'.block _ (Nat.lt_succ_self _)).trans HK.out; clear ho' hb')
            go_roundw
            case rel => exact ⟨1, by omega, by go_num, HK2.out, HO2.out, HB2.out⟩
            case measure => simp [intOf]
          · have e8 : ¬ (r : Int) = 0 := by omega
            have e9 : ¬ r = 0 := by omega
            clear hr h3 HT3 h0
            go_wp2_with (at_builtin; refine wpList_append_byte rfl (.tmp 28) (.tmp 30) rfl (w.heap.size + 1) _ (clampK key k) x rfl HO.out rfl (by rw [HCL.out]; omega) hsz ?_; intro v' w' ho' hb'; rw [HS.out] at ho'; have HO2 := Lib.hid ho'; have HB2 := Lib.hid (HB.out.trans (hb'.mono (Nat.le_succ _))); have HK2 : Hid (BytesAt w' w.heap.size 23 key) := (hb'.block _ (Nat.lt_succ_self _)).trans HK.out; clear ho' hb')
            go_roundw
            case rel => exact ⟨k + 1, by omega, by go_num, HK2.out, HO2.out, HB2.out⟩
            case measure => simp [intOf]; omega
    · obtain rfl : k = 16 := by omega
      have HO2 : Hid (Own w.heap.size wr (clrOf key) u3) := show Own _ _ _ _ by rw [← HE.out]; exact HO.out.base'' (Nat.le_succ _)
      clear hkb ho hb HO HK
      go_wp2_with fail
      go_ret
      exact ⟨u3, rfl, HO2.out, HB.out⟩
end Go.Proofs.YtagkkihnfipfeaaDoor

/-
  Tags as numbers: added, moved by another s, without r, with an r of 1.
-/
namespace Go.Proofs.YtagkkihnfipfeaaDoor
open Go.Proofs.ShaWords

theorem leN_get (l : List (BitVec 8)) (i : Nat) : leN l / 256 ^ i % 256 = (l.getD i 0#8).toNat := by
  induction l generalizing i with
  | nil => simp [leN]
  | cons b r ih =>
    have hb := b.isLt
    rw [leN_cons]
    cases i with
    | zero => rw [Nat.pow_zero, Nat.div_one]; simp only [List.getD_cons_zero]; omega
    | succ i =>
      rw [List.getD_cons_succ, ← ih i, Nat.pow_succ, Nat.mul_comm (256 ^ i) 256, ← Nat.div_div_eq_div_mul]
      congr 2
      omega
theorem leB_get (v i : Nat) (hi : i < 16) : (leB v).getD i 0#8 = BitVec.ofNat 8 (v / 256 ^ i) := by
  unfold leB
  simp [List.getD, hi]
theorem leB_leN (l : List (BitVec 8)) (h : l.length = 16) : leB (leN l) = l := by
  apply ext_getD _ _ (by rw [leB_length, h])
  intro i hi
  rw [leB_length] at hi
  rw [leB_get _ _ hi]
  apply BitVec.eq_of_toNat_eq
  rw [BitVec.toNat_ofNat]
  exact leN_get l i
theorem leN_digits (v n : Nat) : leN ((List.range n).map fun i => BitVec.ofNat 8 (v / 256 ^ i)) = v % 256 ^ n := by
  induction n with
  | zero => simp [leN, Nat.mod_one]
  | succ n ih =>
    rw [List.range_succ, List.map_append, leN_append, ih, List.length_map, List.length_range, Nat.pow_succ, Nat.mod_mul]
    simp [leN]
theorem leN_leB (v : Nat) : leN (leB v) = v % 340282366920938463463374607431768211456 := leN_digits v 16
theorem addB_part (x y : List (BitVec 8)) (hx : x.length = 16) (hy : y.length = 16) (k : Nat) (hk : k ≤ 16) : leN ((addB x y k).take k) + 256 ^ k * carB x y k = leN (x.take k) + leN (y.take k) := by
  induction k with
  | zero => simp [leN, carB]
  | succ k ih =>
    have ih := ih (by omega)
    have hl := addB_length x y k
    rw [leN_take_succ x k (by omega), leN_take_succ y k (by omega), leN_take_succ _ k (by rw [addB_length]; omega), addB_succ, carB_succ, getD_set _ _ _ _ (by omega), if_pos rfl, List.take_set_of_le (Nat.le_refl k)]
    have e : (BitVec.ofNat 8 ((byteN x k + byteN y k + carB x y k) % 256)).toNat = (byteN x k + byteN y k + carB x y k) % 256 := by rw [BitVec.toNat_ofNat]; omega
    rw [e]
    have d := Nat.div_add_mod (byteN x k + byteN y k + carB x y k) 256
    show _ = leN (x.take k) + 256 ^ k * byteN x k + (leN (y.take k) + 256 ^ k * byteN y k)
    generalize hs : byteN x k + byteN y k + carB x y k = s at d
    have m : 256 ^ k * (256 * (s / 256) + s % 256) = 256 ^ k * s := by rw [d]
    rw [← hs] at m
    simp only [Nat.mul_add] at m
    rw [hs] at m
    rw [Nat.pow_succ, Nat.mul_assoc]
    generalize 256 ^ k * (256 * (s / 256)) = t1 at m ⊢
    generalize 256 ^ k * (s % 256) = t2 at m ⊢
    generalize 256 ^ k * byteN x k = t3 at m ⊢
    generalize 256 ^ k * byteN y k = t4 at m ⊢
    generalize 256 ^ k * carB x y k = t5 at m ih
    omega
theorem addB_num (x y : List (BitVec 8)) (hx : x.length = 16) (hy : y.length = 16) : addB x y 16 = leB (leN x + leN y) := by
  have h := addB_part x y hx hy 16 (Nat.le_refl _)
  have hl := leN_lt (addB x y 16)
  have hL := addB_length x y 16
  rw [hL] at hl
  have e := leB_leN (addB x y 16) hL
  generalize addB x y 16 = z at h hl hL e
  generalize carB x y 16 = c at h
  have e1 : z.take 16 = z := List.take_of_length_le (by omega)
  have e2 : x.take 16 = x := List.take_of_length_le (by omega)
  have e3 : y.take 16 = y := List.take_of_length_le (by omega)
  rw [e1, e2, e3] at h
  rw [← e, ← leB_mod (leN x + leN y)]
  congr 1
  omega
theorem leN_addB (x y : List (BitVec 8)) (hx : x.length = 16) (hy : y.length = 16) : leN (addB x y 16) = (leN x + leN y) % 340282366920938463463374607431768211456 := by
  rw [addB_num x y hx hy, leN_leB]
theorem drop_both {α : Type} (r s : List α) (n : Nat) (h : r.length = n) : (r ++ s).drop n = s := by rw [← h]; exact List.drop_left
theorem getD_left (r s : List (BitVec 8)) (i : Nat) (h : i < r.length) : (r ++ s).getD i 0#8 = r.getD i 0#8 := by
  simp [List.getD, List.getElem?_append_left h]
/-- A key with another s. -/
theorem clrOf_front (key s : List (BitVec 8)) (hk : key.length = 32) (hs : s.length = 16) : clrOf (key.take 16 ++ s) = clrOf key := by
  have ht : (key.take 16).length = 16 := by rw [List.length_take, hk]; rfl
  apply clrOf_same _ _ (by rw [List.length_append, ht, hs]) hk
  intro i hi
  rw [getD_left _ _ _ (by omega), getD_take _ _ _ hi]
theorem moved_tag (key d bs : List (BitVec 8)) (hk : key.length = 32) (hd : d.length = 16) : polyTag (key.take 16 ++ addB (key.drop 16) d 16) bs = addB (polyTag key bs) d 16 := by
  have ht : (key.take 16).length = 16 := by rw [List.length_take, hk]; rfl
  have hdr : (key.drop 16).length = 16 := by rw [List.length_drop, hk]
  have hl : (key.take 16 ++ addB (key.drop 16) d 16).length = 32 := by rw [List.length_append, ht, addB_length]
  rw [addB_num _ _ (polyTag_length _ _) hd, polyTag_num _ _ hl, clrOf_front _ _ hk (addB_length _ _ _), drop_both _ _ 16 ht, leN_addB _ _ hdr hd, polyTag_num key bs hk, leN_leB]
  generalize accN (leN (clrOf key)) bs ((bs.length + 15) / 16) = a
  rw [← leB_mod (a + _), ← leB_mod (_ % _ + _)]
  congr 1
  omega
theorem empty_tag (key : List (BitVec 8)) (hk : key.length = 32) : polyTag key [] = key.drop 16 := by
  rw [polyTag_num key [] hk]
  show leB (0 + _) = _
  rw [Nat.zero_add, leB_leN _ (by rw [List.length_drop, hk])]
theorem accN_none (bs : List (BitVec 8)) (j : Nat) : accN 0 bs j = 0 := by
  cases j with
  | zero => rfl
  | succ j => rw [accN_succ, Nat.mul_zero]; rfl
theorem zeros16_length : zeros16.length = 16 := rfl
theorem zeros16_get (i : Nat) : zeros16.getD i 0#8 = 0#8 := by
  unfold zeros16
  simp only [List.getD, List.getElem?_replicate]
  split
  · rfl
  · rfl
theorem none_tag (s bs : List (BitVec 8)) (hs : s.length = 16) : polyTag (zeros16 ++ s) bs = s := by
  have hl : (zeros16 ++ s).length = 32 := by rw [List.length_append, zeros16_length, hs]
  have hc : clrOf (zeros16 ++ s) = zeros16 := by
    apply ext_getD _ _ (by rw [clrOf_length _ hl, zeros16_length])
    intro i hi
    rw [clrOf_length _ hl] at hi
    rw [clrOf_get _ hl i hi, getD_left _ _ _ (by rw [zeros16_length]; omega), zeros16_get]
    unfold clr
    split
    · rfl
    · split
      · rfl
      · rfl
  have hz : leN zeros16 = 0 := by decide
  rw [polyTag_num _ bs hl, hc, hz, accN_none, drop_both _ _ 16 zeros16_length, Nat.zero_add, leB_leN s hs]
end Go.Proofs.YtagkkihnfipfeaaDoor

/-
  The reference's Sum: the document's tag.
-/
namespace Go.Proofs.YtagkkihnfipfeaaDoor
open Go.RowKit Go.Proofs.ShaWords
theorem run_min2 {ρ : Operand → Value} {o : Oper} {x y : Operand} {n m k : Nat} (ho : o.op = .call { callee := .builtin .min, args := #[x, y], argTypes := #[3, 3] }) (hx : ρ x = .int .i64 (n : Int)) (hy : ρ y = .int .i64 (m : Int)) (hk : k = min n m) (w : World) :
    (execOp ρ o).run Tryd.prog w = .ok (.value (.int .i64 (k : Int))) w := by
  obtain ⟨dst, op, ty', pos, after, guard⟩ := o
  simp only at ho
  subst ho
  by_cases h : n < m
  · have q : (n : Int) < (m : Int) := by omega
    have q2 : ¬ (m : Int) < (n : Int) := by omega
    obtain rfl : k = n := by omega
    clear hk h
    go_simp
  · by_cases h2 : m < n
    · have q : ¬ (n : Int) < (m : Int) := by omega
      have q2 : (m : Int) < (n : Int) := by omega
      obtain rfl : k = m := by omega
      clear hk h h2
      go_simp
    · obtain rfl : n = m := by omega
      obtain rfl : k = n := by omega
      clear hk h h2
      go_simp
theorem wpList_min2 {ops : Array Oper} {rest : List Oper} {o : Oper} {a : Act} {w : World} {Q : Exit → Act → World → Prop} (hg : o.guard = none) (x y : Operand) (ho : o.op = .call { callee := .builtin .min, args := #[x, y], argTypes := #[3, 3] }) (n m k : Nat)
    (hx : a.eval x = .int .i64 (n : Int)) (hy : a.eval y = .int .i64 (m : Int)) (hk : k = min n m) (h : wpList Tryd.prog ops Q rest (a.put o.dst (.int .i64 (k : Int))) w) : wpList Tryd.prog ops Q (o :: rest) a w := by
  refine wpList_plain hg fun K hK => ?_
  unfold Oper.wp
  rw [run_min2 ho hx hy hk w, Oper.upon_value]
  exact hK _ _ h
theorem own_empty (w : World) (g : Nat) (B : Nat) (hg : w.heap[g]? = some (.cells #[] 5 (0, 0))) (hB : B ≤ g) : Own B w [] (.slice (some ⟨g, 0, none⟩) 0 0) :=
  ⟨by simp [bytesV], .inr ⟨g, 0, #[], rfl, hB, hg, Nat.le_refl _, Nat.zero_le _, rfl, rfl⟩⟩
/-- Four digits are a byte. -/
theorem four_digits (L : List Nat) (V i : Nat) (hd : ∀ i, L.getD i 0 < 4) (hv : d4 L = V) : L.getD (4 * i) 0 + 4 * L.getD (4 * i + 1) 0 + 16 * L.getD (4 * i + 2) 0 + 64 * L.getD (4 * i + 3) 0 = V / 256 ^ i % 256 := by
  have h1 := d4_split L (4 * i)
  have h2 := d4_take_lt L (4 * i) hd
  rw [pow4] at h1 h2
  have h3 : d4 (L.drop (4 * i)) = V / 256 ^ i := by
    rw [← hv, h1, Nat.add_mul_div_left _ _ (Nat.pow_pos (by omega)), Nat.div_eq_of_lt h2, Nat.zero_add]
  have h4 := d4_split (L.drop (4 * i)) 4
  have h5 : d4 ((L.drop (4 * i)).take 4) = L.getD (4 * i) 0 + 4 * L.getD (4 * i + 1) 0 + 16 * L.getD (4 * i + 2) 0 + 64 * L.getD (4 * i + 3) 0 := by
    have e : ∀ k, (L.drop (4 * i)).getD k 0 = L.getD (4 * i + k) 0 := fun k => by simp [List.getD, List.getElem?_drop]
    rw [show (4 : Nat) = 3 + 1 from rfl, d4_take_succ, show (3 : Nat) = 2 + 1 from rfl, d4_take_succ, show (2 : Nat) = 1 + 1 from rfl, d4_take_succ, show (1 : Nat) = 0 + 1 from rfl, d4_take_succ]
    simp only [List.take_zero, e]
    simp [d4]
  have a0 := hd (4 * i); have a1 := hd (4 * i + 1); have a2 := hd (4 * i + 2); have a3 := hd (4 * i + 3)
  rw [h3] at h4
  rw [h4, h5]
  omega
def fillB (V : Nat) : Nat → List (BitVec 8)
  | 0 => zeros16
  | k + 1 => (fillB V k).set k (BitVec.ofNat 8 (V / 256 ^ k % 256))
theorem fillB_zero (V : Nat) : fillB V 0 = zeros16 := rfl
theorem fillB_succ (V k : Nat) : fillB V (k + 1) = (fillB V k).set k (BitVec.ofNat 8 (V / 256 ^ k % 256)) := rfl
theorem fillB_length (V k : Nat) : (fillB V k).length = 16 := by
  induction k with
  | zero => rfl
  | succ k ih => rw [fillB_succ, List.length_set, ih]
theorem fillB_get (V k i : Nat) (hk : k ≤ 16) (hi : i < k) : (fillB V k).getD i 0#8 = BitVec.ofNat 8 (V / 256 ^ i) := by
  induction k with
  | zero => omega
  | succ k ih =>
    rw [fillB_succ, getD_set _ _ _ _ (by rw [fillB_length]; omega)]
    by_cases h : i = k
    · subst h; rw [if_pos rfl]
      apply BitVec.eq_of_toNat_eq
      rw [BitVec.toNat_ofNat, BitVec.toNat_ofNat]; omega
    · rw [if_neg h]; exact ih (by omega) (by omega)
theorem fillB_all (V : Nat) : fillB V 16 = leB V := by
  apply ext_getD _ _ (by rw [fillB_length, leB_length])
  intro i hi
  rw [fillB_length] at hi
  rw [fillB_get V 16 i (Nat.le_refl _) hi, leB_get V i hi]
/-- What the reference's Sum has in memory. -/
structure RefS (w : World) (key : List (BitVec 8)) (pr : Option Addr) (Lr : List Nat) (wr : World) : Prop where
  key : BytesAt wr w.heap.size 23 key
  res : BytesAt wr (w.heap.size + 1) 46 zeros16
  r : LiesI wr pr Lr
  below : Below w.heap.size w wr
theorem RefS.on {w wr w' : World} {key : List (BitVec 8)} {pr : Option Addr} {Lr : List Nat} (h : RefS w key pr Lr wr) (hb : Below wr.heap.size wr w') : RefS w key pr Lr w' := ⟨h.key.keep hb, h.res.keep hb, h.r.below hb, h.below.trans (hb.mono h.below.size)⟩
theorem LieW.on {N M : Nat} {L : List Nat} {p : Option Addr} {n c : Nat} {w w' : World} (h : LieW N M L p n c w) (hb : Below w.heap.size w w') : LieW N M L p n c w' := ⟨h.lies.below hb, h.len, h.cap, h.most, h.dig, h.val⟩
theorem DigW.lie {B N M : Nat} {L : List Nat} {v : Value} {w : World} (h : DigW B N M L v w) : ∃ p c, v = .slice p L.length c ∧ LieW N M L p L.length c w := by
  obtain ⟨p, c, hv, hc, hl⟩ := h.own.lies
  exact ⟨p, c, hv, hl, rfl, hc, h.len, h.dig, h.val⟩
attribute [local go_sem] wrap8_nat
attribute [local irreducible] zeros16 accN fillB
set_option maxRecDepth 100000 in
set_option maxHeartbeats 8000000 in
theorem refSum_any (key bs : List (BitVec 8)) (m : Nat) (p : Option Addr) (cap : Nat) (w : World) (hk : key.length = 32) (hm : bs.length = m) (hl : m ≤ 1000000) (hc : m ≤ cap) (hL : Lies w p bs) :
    Calls Tryd.prog 37 #[.agg (bytesV key).toArray, .slice p m cap] w fun e w' => e = .returned (.agg (bytesV (polyTag key bs)).toArray) ∧ Below w.heap.size w w' := by
  have HKL := Lib.hid hk
  have HPT := Lib.hid (polyTag_num key bs hk); clear hk
  have HM := Lib.hid hm; clear hm
  have HL := Lib.hid hL; clear hL
  have HIK := Lib.hid (infoKey key HKL.out)
  have HCL := Lib.hid (clrOf_length key HKL.out)
  have HA0 : Hid (accN (leN (clrOf key)) bs 0 = 0) := show _ = _ by unfold accN; rfl
  have HAS := Lib.hid (accN_succ (leN (clrOf key)) bs)
  go_enter Tryd.func37, Tryd.ntmps37
  go_upto_region 1 with (fail)
  refine wp_gen (KeyW w key) ?_ ?_
  · exact ⟨BytesAt.keep (w := w.alloc _) (heap_alloc_new w _) ((Below.refl _ _).alloc (Nat.le_refl _) _), by show _ = some (Obj.cells (bytesV zeros16).toArray _ _); rw [zeros16_eq]; exact heap_new_at (by simp), ((Below.refl _ _).alloc (Nat.le_refl _) _).alloc (by simp) _⟩
  intro w0 hw0
  have HROW := Lib.hid hw0.key
  have HW0 := Lib.hid hw0; clear hw0
  go_wp2_with (refine wpList_load_row rfl 23 (.tmp 2) rfl w.heap.size rfl 23 _ (0, 0) _ HROW.out Tryd.underlying23 rfl HIK.out ?_)
  refine (clamp_any key w0 HKL.out).mono ?_
  rintro e w1 ⟨v1, rfl, ho1, hb1⟩
  obtain ⟨p1, c1, hv1, hc1, hl1⟩ := own_lies ho1
  rw [HCL.out] at hv1 hc1
  subst hv1
  have HW1 := Lib.hid (HW0.out.on hb1)
  have HL1 := Lib.hid hl1
  clear ho1 hb1 hl1 HW0 HROW
  go_wp2_with fail
  refine (digits_any (clrOf key) 16 p1 c1 w1 HCL.out (by omega) HL1.out).mono ?_
  rintro e w2 ⟨Lr, v2, rfl, hd2, hb2⟩
  obtain ⟨pr, cr, hv2, hlr⟩ := hd2.lie
  subst hv2
  have HR : Hid (LieW (leN (clrOf key)) 64 Lr pr Lr.length cr w2) := hlr
  have HW2 : Hid (RefS w key pr Lr w2) := show RefS _ _ _ _ _ from ⟨(HW1.out.on hb2).key, (HW1.out.on hb2).res, hlr.lies, (HW1.out.on hb2).below⟩
  have HRD := Lib.hid hlr.dig
  have HRV := Lib.hid hlr.val
  have hrm := hlr.most
  have hrl := hlr.len
  clear hd2 hb2 hlr HW1 HL1 HR
  generalize hrn : Lr.length = nr at hrm hrl
  have HRN := Lib.hid hrn
  clear hrl hrn
  go_wp2_with fail
  go_loopw [6, 7, 8] (fun av iv _ wr => ∃ (j : Nat) (L : List Nat) (q : Option Addr) (n c : Nat), 16 * j < m + 16 ∧ iv = .int .i64 ((16 * j : Nat) : Int) ∧ av = .slice q n c ∧ LieW (accN (leN (clrOf key)) bs j) 65 L q n c wr ∧ RefS w key pr Lr wr) (fun _ iv _ _ => m + 16 - (intOf iv).toNat)
  case atStart => exact ⟨0, [], none, 0, 0, by omega, rfl, rfl, ⟨Or.inl rfl, rfl, Nat.le_refl _, Nat.zero_le _, fun i => by simp, by rw [HA0.out]; rfl⟩, HW2.out⟩
  case round =>
    clear HW2
    obtain ⟨j, L, q, n, c, hj, rfl, rfl, hw, hs⟩ := hrel
    have HW := Lib.hid hw
    have HS := Lib.hid hs
    clear hw hs
    by_cases hlt : 16 * j < m
    · obtain ⟨b, off, hq, hr⟩ : ∃ b off, p = some ⟨b, off, none⟩ ∧ w.rangeAt b off (bytesV bs) := by
        rcases HL.out with h | h
        · have := HM.out; rw [h] at this; simp at this; omega
        · exact h
      subst hq
      obtain ⟨i, hi⟩ : ∃ i, i = 16 * j := ⟨_, rfl⟩
      obtain ⟨f, hf⟩ : ∃ f, f = i + 16 := ⟨_, rfl⟩
      obtain ⟨e, he⟩ : ∃ e, e = min f m := ⟨_, rfl⟩
      obtain ⟨blk, hblk⟩ : ∃ blk, blk = (bs.drop (16 * j)).take 16 := ⟨_, rfl⟩
      have hbl : blk.length = e - i := by rw [hblk, List.length_take, List.length_drop, HM.out]; omega
      have hrb : w.rangeAt b (off + i) (bytesV blk) := by
        have h := range_drop (k := i) hr
        intro t v hv
        refine h t v ?_
        rw [hblk, bytesV_take, List.getElem?_take] at hv
        split at hv
        · rw [hi]; exact hv
        · cases hv
      have HAJ : Hid (accN (leN (clrOf key)) bs (j + 1) = (accN (leN (clrOf key)) bs j + blkN blk) * leN (clrOf key) % P130) := show _ = _ by rw [hblk]; exact HAS.out j
      have HBL := Lib.hid hbl
      have HRB := Lib.hid hrb
      rw [← hi]
      have HEM := Lib.hid he
      have q0 : (i : Int) < (m : Int) := by omega
      have q1 : 0 ≤ (i : Int) := by omega
      have q2 : IntKind.i64.wrap ((i : Int) + 16) = (f : Int) := by rw [IntWalk.i64_in _ (by omega)]; omega
      have q2b : (i : Int) + 16 = (f : Int) := by omega
      have q3 : (e : Int) ≤ (cap : Int) := by omega
      have q4 : (i : Int) ≤ (e : Int) := by omega
      have q5 : ¬ cap = i := by omega
      have q6 : (i : Int).toNat = i := by omega
      have q7 : (e : Int).toNat = e := by omega
      have q8 : 0 ≤ (e : Int) := by omega
      have q9 : i < m := by omega
      have hei : e - i ≤ 16 := by omega
      have hsz0 := HS.out.below.size
      have hnm := HW.out.most
      clear hbl hrb hr hblk he
      have HI := Lib.hid hi
      clear hi hf hj
      go_upto_region 7 with (first
        | (refine wpList_min2 rfl (.tmp 24) (.tmp 26) rfl f m e rfl rfl HEM.out ?_)
        | (at_builtin; refine wpList_append_list rfl (.tmp 20) (.tmp 28) rfl wr.heap.size _ [] blk (some ⟨b, off + i, none⟩) _ rfl (own_empty _ wr.heap.size wr.heap.size (heap_new_at rfl) (Nat.le_refl _)) (by rw [HBL.out]; rfl) (Or.inr ⟨_, _, rfl, range_keep (HRB.out) (HS.out.below.alloc hsz0 _)⟩) (by rw [HBL.out]; simp; omega) (by rw [size_alloc]; omega) ?_; intro v3 w3 ho3 hb3; have HO3 := Lib.hid ho3; have HB3 := Lib.hid (((Below.refl wr.heap.size wr).alloc (Nat.le_refl _) (.cells #[] 5)).trans hb3); clear ho3 hb3))
      clear q0 q1 q2 q2b q3 q4 q5 q6 q7 q8 HRB HEM
      rw [List.nil_append] at HO3
      have hs3 := HB3.out.size
      go_upto_region 8 with (at_builtin; refine wpList_append_byte rfl (.tmp 30) (.tmp 31) rfl wr.heap.size v3 blk 1#8 rfl HO3.out rfl (by rw [HBL.out]; omega) hs3 ?_; intro v4 w4 ho4 hb4; have HO4 := Lib.hid ho4; have HB4 := Lib.hid (HB3.out.trans hb4); clear ho4 hb4)
      clear HO3 HB3 hs3
      obtain ⟨p4, c4, hv4, hc4, hl4⟩ := own_lies HO4.out
      subst hv4
      have hln : (blk ++ [1#8]).length = e - i + 1 := by rw [List.length_append, HBL.out]; rfl
      rw [hln] at hc4 ⊢
      have HLN := Lib.hid hln
      have HL4 := Lib.hid hl4
      have hs4 := HB4.out.size
      clear hl4 hln HO4
      go_wp2_with fail
      refine (digits_any (blk ++ [1#8]) (e - i + 1) p4 c4 w4 HLN.out (by omega) HL4.out).mono ?_
      rintro e5 w5 ⟨L5, v5, rfl, hd5, hb5⟩
      obtain ⟨p5, c5, hv5, hw5⟩ := hd5.lie
      subst hv5
      have hm5 := hw5.most
      have H5 := Lib.hid hw5
      have HB5 := Lib.hid (HB4.out.trans (hb5.mono hs4))
      have hs5 := HB5.out.size
      clear hd5 hb5 hw5 HL4 HB4
      generalize hn5 : L5.length = n5 at H5 hm5
      clear hn5
      go_wp2_with fail
      refine (rplus_any L L5 n n5 q p5 c c5 w5 HW.out.len H5.out.len (by omega) (by omega) HW.out.dig H5.out.dig (HW.out.lies.below HB5.out) H5.out.lies).mono ?_
      rintro e6 w6 ⟨L6, v6, rfl, hd6, hb6⟩
      have hv6 := hd6.val
      rw [HW.out.val, H5.out.val, blk_one] at hv6
      have HV6 := Lib.hid hv6
      obtain ⟨p6, c6, hv6', hw6⟩ := hd6.lie
      subst hv6'
      have hm6 := hw6.most
      have H6 := Lib.hid hw6
      have HB6 := Lib.hid (HB5.out.trans (hb6.mono hs5))
      have hs6 := HB6.out.size
      clear hd6 hb6 hw6 hv6 H5 HB5
      generalize hn6 : L6.length = n6 at H6 hm6
      clear hn6
      go_wp2_with fail
      refine (times_any L6 Lr n6 nr p6 pr c6 cr w6 H6.out.len HRN.out (by omega) (by omega) H6.out.dig HRD.out H6.out.lies (HS.out.r.below HB6.out)).mono ?_
      rintro e7 w7 ⟨L7, v7, rfl, hd7, hb7⟩
      have hv7 := hd7.val
      rw [HV6.out, HRV.out] at hv7
      obtain ⟨p7, c7, hv7', hw7⟩ := hd7.lie
      subst hv7'
      have HV7 := Lib.hid hv7
      have hm7 := hw7.most
      have H7 := Lib.hid hw7
      have HB7 := Lib.hid (HB6.out.trans (hb7.mono hs6))
      have hs7 := HB7.out.size
      clear hd7 hb7 hw7 hv7 H6 HB6 HV6
      generalize hn7 : L7.length = n7 at H7 hm7
      clear hn7
      go_wp2_with fail
      refine (rest_any L7 n7 p7 c7 w7 H7.out.len (by omega) H7.out.cap H7.out.dig H7.out.lies).mono ?_
      rintro e8 w8 ⟨L8, q8, n8', c8, rfl, hw8, hb8⟩
      rw [HV7.out, ← HAJ.out] at hw8
      have H8 := Lib.hid hw8
      have HS8 := Lib.hid (HS.out.on (HB7.out.trans (hb8.mono hs7)))
      clear hw8 hb8 H7 HB7 HV7
      obtain ⟨i2, hi2⟩ : ∃ i2, i2 = i + 16 := ⟨_, rfl⟩
      have qa : IntKind.i64.wrap ((i : Int) + 16) = (i2 : Int) := by rw [IntWalk.i64_in _ (by omega)]; omega
      have qb : (i : Int) + 16 = (i2 : Int) := by omega
      have HI2 : Hid (i2 = 16 * (j + 1)) := show _ = _ by rw [hi2, HI.out]; omega
      have HI3 := Lib.hid hi2
      clear hi2
      go_wp2_with fail
      go_roundw
      case rel => exact ⟨j + 1, L8, q8, n8', c8, by have := HI.out; omega, by rw [HI2.out], rfl, H8.out, HS8.out⟩
      case measure => have := HI3.out; simp [intOf]; omega
    · have hj2 : j = (bs.length + 15) / 16 := by rw [HM.out]; omega
      have HJ := Lib.hid hj2
      have q0 : ¬ ((16 * j : Nat) : Int) < (m : Int) := by omega
      have q1 : ¬ 16 * (j : Int) < (m : Int) := by omega
      have HKD : Hid ((key.drop 16).length = 16) := show _ = _ by rw [List.length_drop, HKL.out]
      have HKLie : Hid (Lies wr (some ⟨w.heap.size, 16, none⟩) (key.drop 16)) := show Lies _ _ _ from Or.inr ⟨_, _, rfl, by
        have := range_drop (k := 16) HS.out.key.range
        rw [Nat.zero_add] at this; exact this⟩
      have hnm := HW.out.most
      clear hj2
      go_wp2_with fail
      refine (digits_any (key.drop 16) 16 _ _ wr HKD.out (by omega) HKLie.out).mono ?_
      rintro e5 w5 ⟨L5, v5, rfl, hd5, hb5⟩
      obtain ⟨p5, c5, hv5, hw5⟩ := hd5.lie
      subst hv5
      have hm5 := hw5.most
      have H5 := Lib.hid hw5
      have HB5 := Lib.hid hb5
      clear hd5 hb5 hw5
      generalize hn5 : L5.length = n5 at H5 hm5
      clear hn5
      go_wp2_with fail
      refine (rplus_any L L5 n n5 q p5 c c5 w5 HW.out.len H5.out.len (by omega) (by omega) HW.out.dig H5.out.dig (HW.out.lies.below HB5.out) H5.out.lies).mono ?_
      rintro e6 w6 ⟨L6, v6, rfl, hd6, hb6⟩
      have hv6 := hd6.val
      rw [HW.out.val, H5.out.val] at hv6
      obtain ⟨p6, c6, hv6', hw6⟩ := hd6.lie
      subst hv6'
      have hm6 := hw6.most
      have HS6 := Lib.hid ((HS.out.on HB5.out).on hb6)
      obtain ⟨V, hV⟩ : ∃ V, V = accN (leN (clrOf key)) bs j + leN (key.drop 16) := ⟨_, rfl⟩
      have HT : Hid (polyTag key bs = leB V) := show _ = _ by rw [HPT.out, ← HJ.out, hV]
      have H6 : Hid (LieW V 94 L6 p6 L6.length c6 w6) := show LieW _ _ _ _ _ _ _ from ⟨hw6.lies, rfl, hw6.cap, by omega, hw6.dig, by rw [hv6, hV]⟩
      clear hd6 hb6 hw6 hv6 hV H5 HB5 HKLie
      generalize hn6 : L6.length = n6 at H6 hm6
      clear hn6
      go_upto_region 11 with (fail)
      refine wp_gen (fun w7 => BytesAt w7 w6.heap.size 46 (fillB V 0) ∧ Below w6.heap.size w6 w7) ⟨?_, (Below.refl _ _).alloc (Nat.le_refl _) _⟩ ?_
      · rw [fillB_zero]; show _ = some (Obj.cells (bytesV zeros16).toArray _ _); rw [zeros16_eq]; exact heap_new_at rfl
      have hG6 : w.heap.size + 1 < w6.heap.size := HS6.out.res.size
      obtain ⟨G, hG⟩ : ∃ G, G = w6.heap.size := ⟨_, rfl⟩
      rw [← hG] at hG6 ⊢
      rintro w7 ⟨ht7, hb7⟩
      have HT7 := Lib.hid ht7
      have HB7 := Lib.hid hb7
      have HG := Lib.hid hG
      clear ht7 hb7 hG q0 q1
      have HFL := Lib.hid (fillB_length V)
      have hsw := HS6.out.below.size
      go_wp2_with fail
      go_loopw [10] (fun iv wi => ∃ k : Nat, k ≤ 16 ∧ iv = .int .i64 (k : Int) ∧ BytesAt wi G 46 (fillB V k) ∧ Below G w6 wi) (fun iv _ => 16 - (intOf iv).toNat)
      case atStart => exact ⟨0, by omega, rfl, HT7.out, HB7.out⟩
      case round =>
        clear HT7 HB7
        obtain ⟨k, hk, rfl, ht, hb⟩ := hrel
        have hbw : Below w6.heap.size w6 wr := by rw [← HG.out]; exact hb
        by_cases hlk : k < 16
        · have hf4 := four_digits L6 V k H6.out.dig H6.out.val
          have HFS : Hid (fillB V (k + 1) = (fillB V k).set k (BitVec.ofNat 8 (L6.getD (4 * k) 0 + 4 * L6.getD (4 * k + 1) 0 + 16 * L6.getD (4 * k + 2) 0 + 64 * L6.getD (4 * k + 3) 0))) := show _ = _ by rw [hf4]; exact fillB_succ V k
          have c0 := ht.cell k (by rw [HFL.out]; omega)
          have cf := ht.frozenAt k
          have b0 := H6.out.dig (4 * k)
          have b1 := H6.out.dig (4 * k + 1)
          have b2 := H6.out.dig (4 * k + 2)
          have b3 := H6.out.dig (4 * k + 3)
          have hlw := H6.out.lies.below hbw
          have hn6 := H6.out.most
          have HD := Lib.hid (fun (i : Nat) (hi : i < 1000) (w9 : World) (h9 : w9 = wr) => digit_any L6 n6 i p6 c6 w9 H6.out.len (by omega) (by omega) (by rw [h9]; exact hlw))
          have HTK := Lib.hid ht
          have HBK := Lib.hid hb
          clear hf4 ht hb hbw hlw hn6
          obtain ⟨a0, ha0⟩ : ∃ a, a = 4 * k := ⟨_, rfl⟩
          obtain ⟨a1, ha1⟩ : ∃ a, a = 4 * k + 1 := ⟨_, rfl⟩
          obtain ⟨a2, ha2⟩ : ∃ a, a = 4 * k + 2 := ⟨_, rfl⟩
          obtain ⟨a3, ha3⟩ : ∃ a, a = 4 * k + 3 := ⟨_, rfl⟩
          rw [← ha1, ← ha2, ← ha3, ← ha0] at HFS
          rw [← ha0] at b0
          rw [← ha1] at b1
          rw [← ha2] at b2
          rw [← ha3] at b3
          have D0 := Lib.hid (HD.out a0 (by omega))
          have D1 := Lib.hid (HD.out a1 (by omega))
          have D2 := Lib.hid (HD.out a2 (by omega))
          have D3 := Lib.hid (HD.out a3 (by omega))
          clear HD
          have g0 : 4 * (k : Int) = (a0 : Int) := by omega
          have g0w : IntKind.i64.wrap (4 * (k : Int)) = (a0 : Int) := by rw [IntWalk.i64_in _ (by omega)]; omega
          have g0v : IntKind.i64.wrap (a0 : Int) = (a0 : Int) := IntWalk.i64_in _ (by omega)
          have g1 : (a0 : Int) + 1 = (a1 : Int) := by omega
          have g1w : IntKind.i64.wrap ((a0 : Int) + 1) = (a1 : Int) := by rw [IntWalk.i64_in _ (by omega)]; omega
          have g1v : IntKind.i64.wrap (a1 : Int) = (a1 : Int) := IntWalk.i64_in _ (by omega)
          have g2 : (a0 : Int) + 2 = (a2 : Int) := by omega
          have g2w : IntKind.i64.wrap ((a0 : Int) + 2) = (a2 : Int) := by rw [IntWalk.i64_in _ (by omega)]; omega
          have g2v : IntKind.i64.wrap (a2 : Int) = (a2 : Int) := IntWalk.i64_in _ (by omega)
          have g3 : (a0 : Int) + 3 = (a3 : Int) := by omega
          have g3w : IntKind.i64.wrap ((a0 : Int) + 3) = (a3 : Int) := by rw [IntWalk.i64_in _ (by omega)]; omega
          have g3v : IntKind.i64.wrap (a3 : Int) = (a3 : Int) := IntWalk.i64_in _ (by omega)
          generalize L6.getD a0 0 = x0 at D0 b0 HFS
          generalize L6.getD a1 0 = x1 at D1 b1 HFS
          generalize L6.getD a2 0 = x2 at D2 b2 HFS
          generalize L6.getD a3 0 = x3 at D3 b3 HFS
          obtain ⟨t1, ht1⟩ : ∃ t, t = 4 * x1 := ⟨_, rfl⟩
          obtain ⟨t2, ht2⟩ : ∃ t, t = 16 * x2 := ⟨_, rfl⟩
          obtain ⟨t3, ht3⟩ : ∃ t, t = 64 * x3 := ⟨_, rfl⟩
          rw [← ht1, ← ht2, ← ht3] at HFS
          obtain ⟨s1, hs1⟩ : ∃ t, t = x0 + t1 := ⟨_, rfl⟩
          rw [← hs1] at HFS
          obtain ⟨s2, hs2⟩ : ∃ t, t = s1 + t2 := ⟨_, rfl⟩
          rw [← hs2] at HFS
          obtain ⟨s3, hs3⟩ : ∃ t, t = s2 + t3 := ⟨_, rfl⟩
          rw [← hs3] at HFS
          have e1 : 4 * (x1 : Int) = (t1 : Int) := by omega
          have e1w : IntKind.i64.wrap (4 * (x1 : Int)) = (t1 : Int) := by rw [IntWalk.i64_in _ (by omega)]; omega
          have e1v : IntKind.i64.wrap (t1 : Int) = (t1 : Int) := IntWalk.i64_in _ (by omega)
          have e2 : 16 * (x2 : Int) = (t2 : Int) := by omega
          have e2w : IntKind.i64.wrap (16 * (x2 : Int)) = (t2 : Int) := by rw [IntWalk.i64_in _ (by omega)]; omega
          have e2v : IntKind.i64.wrap (t2 : Int) = (t2 : Int) := IntWalk.i64_in _ (by omega)
          have e3 : 64 * (x3 : Int) = (t3 : Int) := by omega
          have e3w : IntKind.i64.wrap (64 * (x3 : Int)) = (t3 : Int) := by rw [IntWalk.i64_in _ (by omega)]; omega
          have e3v : IntKind.i64.wrap (t3 : Int) = (t3 : Int) := IntWalk.i64_in _ (by omega)
          have f1 : (x0 : Int) + (t1 : Int) = (s1 : Int) := by omega
          have f1w : IntKind.i64.wrap ((x0 : Int) + (t1 : Int)) = (s1 : Int) := by rw [IntWalk.i64_in _ (by omega)]; omega
          have f1v : IntKind.i64.wrap (s1 : Int) = (s1 : Int) := IntWalk.i64_in _ (by omega)
          have f2 : (s1 : Int) + (t2 : Int) = (s2 : Int) := by omega
          have f2w : IntKind.i64.wrap ((s1 : Int) + (t2 : Int)) = (s2 : Int) := by rw [IntWalk.i64_in _ (by omega)]; omega
          have f2v : IntKind.i64.wrap (s2 : Int) = (s2 : Int) := IntWalk.i64_in _ (by omega)
          have f3 : (s2 : Int) + (t3 : Int) = (s3 : Int) := by omega
          have f3w : IntKind.i64.wrap ((s2 : Int) + (t3 : Int)) = (s3 : Int) := by rw [IntWalk.i64_in _ (by omega)]; omega
          have f3v : IntKind.i64.wrap (s3 : Int) = (s3 : Int) := IntWalk.i64_in _ (by omega)
          have q0 : (k : Int) < 16 := by omega
          have q1 : 0 ≤ (k : Int) := by omega
          have q2 : (k : Int).toNat = k := by omega
          clear ha0 ha1 ha2 ha3 ht1 ht2 ht3 hs1 hs2 hs3 b0 b1 b2 b3
          generalize (fillB V k).getD k 0#8 = u at c0
          go_wp2_with fail
          refine (D0.out wr rfl).mono ?_
          rintro e w' ⟨rfl, rfl⟩
          go_wp2_with fail
          refine (D1.out _ rfl).mono ?_
          rintro e w' ⟨rfl, rfl⟩
          go_wp2_with fail
          refine (D2.out _ rfl).mono ?_
          rintro e w' ⟨rfl, rfl⟩
          go_wp2_with fail
          refine (D3.out _ rfl).mono ?_
          rintro e w' ⟨rfl, rfl⟩
          go_wp2_with fail
          go_roundw
          case rel => exact ⟨k + 1, by omega, by go_num, by rw [HFS.out]; exact HTK.out.put k _, HBK.out.setCell (Nat.le_refl _) _⟩
          case measure => simp [intOf]; omega
        · obtain rfl : k = 16 := by omega
          have hfin : fillB V 16 = polyTag key bs := by rw [fillB_all, HT.out]
          rw [hfin] at ht
          have HROW := Lib.hid (show wr.heap[G]? = some (.cells (bytesV (polyTag key bs)).toArray 46 (0, 0)) from ht)
          have HRES := Lib.hid (show wr.heap[w.heap.size + 1]? = some (.cells (bytesV zeros16).toArray 46 (0, 0)) from (HS6.out.on hbw).res)
          have HBE := Lib.hid (HS6.out.on hbw).below
          have HIT := Lib.hid (infoTag _ (polyTag_length key bs))
          have HTO := Lib.hid (show (bytesV zeros16).toArray.size = (bytesV (polyTag key bs)).toArray.size by rw [bytesV_size _ 16 (polyTag_length key bs)]; unfold zeros16; rfl)
          have HTE := Lib.hid (bytesV_one (polyTag key bs))
          clear ht hb hbw hfin HT HS6 H6
          generalize hfe : (bytesV (polyTag key bs)).toArray = full at HIT HTO HTE HROW ⊢
          have HFE := Lib.hid hfe; clear hfe
          go_wp2_with (first
            | (refine wpList_load_row rfl 46 (.tmp 9) rfl G rfl 46 full (0, 0) _ HROW.out Tryd.underlying46 rfl HIT.out ?_)
            | (refine wpList_store_row rfl 46 (.tmp 4) (.tmp 76) rfl (w.heap.size + 1) full rfl rfl 46 _ HRES.out HIT.out HTO.out HTE.out ?_))
          have hrow := setRow_heap wr (w.heap.size + 1) _ full 46 _ HRES.out
          have hbel := below_setRow HBE.out (show w.heap.size ≤ w.heap.size + 1 by omega) full
          generalize wr.setRow (w.heap.size + 1) full = wz at hrow hbel ⊢
          have hres : ∀ tmps : Array Value, tmps.getD 4 undef = .pointer (some ⟨w.heap.size + 1, 0, none⟩) → Sem.run Tryd.prog (results Tryd.f37 tmps) wz = .ok (.agg full) wz := fun tmps h =>
            results_cell_row (P := Tryd.prog) (p := 4) (ty := 46) Tryd.results37 tmps wz (w.heap.size + 1) 46 full (0, 0) _ h hrow Tryd.underlying46 rfl HIT.out
          exact bodyPost_ret (v := .agg full) (hres _ rfl) rfl ⟨by rw [HFE.out], hbel⟩
end Go.Proofs.YtagkkihnfipfeaaDoor
