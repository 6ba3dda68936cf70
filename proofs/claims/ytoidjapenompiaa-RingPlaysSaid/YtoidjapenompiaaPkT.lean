/-
  What other texts lean on: Ints, KrSlots, KrLive, KrX, KrRefSlots.
-/
import Derived.Test.YtoidjapenompiaaPkA
import Derived.LoopTactic
/-
  Slices of whole numbers (never below nought): of the call's own, read, appended to, written.
-/
namespace Go.Proofs.Ytoidjapenompiaa
open Go.RowKit Go.Proofs.ShaWords
def numsV (l : List Nat) : List Value := l.map fun (n : Nat) => Value.int .i64 (n : Int)
theorem numsV_append (a b : List Nat) : numsV (a ++ b) = numsV a ++ numsV b := List.map_append
/-- A slice of numbers of the call's own. -/
def OwnI (B : Nat) (w : World) (l : List Nat) (v : Value) : Prop := w.ownsRow B 3 1 v l.length (numsV l)
def LiesI (w : World) (p : Option Addr) (l : List Nat) : Prop := l = [] ∨ ∃ b off, p = some ⟨b, off, none⟩ ∧ w.rangeAt b off (numsV l)
theorem OwnI.nil (B : Nat) (w : World) : OwnI B w [] (.slice none 0 0) := World.ownsRow_nil w B 3 1
theorem OwnI.below {B : Nat} {w w' : World} {l : List Nat} {v : Value} (h : OwnI B w l v) (hb : Below w.heap.size w w') : OwnI B w' l v :=
  World.ownsRow.kept h (grown_below hb (Nat.le_refl _) none) (by cases v.ownBlock <;> simp)
theorem LiesI.below {w w' : World} {p : Option Addr} {l : List Nat} (h : LiesI w p l) (hb : Below w.heap.size w w') : LiesI w' p l := by
  rcases h with h | ⟨b, off, hp, hr⟩
  · exact Or.inl h
  · exact Or.inr ⟨b, off, hp, range_keep hr hb⟩
theorem info3 : (Try.prog.info? 3).map (fun i => (i.zero, i.size, i.bytes)) = some (some (.int .i64 0), 1, 8) := by kernel_rfl
theorem OwnI.lies {B : Nat} {w : World} {l : List Nat} {v : Value} (h : OwnI B w l v) : ∃ p cap, v = .slice p l.length cap ∧ l.length ≤ cap ∧ LiesI w p l := by
  rcases h.2 with ⟨rfl, h0⟩ | ⟨g, cap, cur, rfl, hg, hh, hc, hm, hs, ht⟩
  · have : l = [] := List.length_eq_zero_iff.1 h0
    subst this
    exact ⟨none, 0, rfl, Nat.le_refl _, Or.inl rfl⟩
  · refine ⟨some ⟨g, 0, none⟩, cap, rfl, hc, Or.inr ⟨g, 0, rfl, fun j v hv => ?_⟩⟩
    rw [Nat.zero_add, cell_of_row w g j cur 3 (0, 0) hh]
    rw [← ht, Nat.mul_one, List.getElem?_take] at hv
    split at hv
    · rw [← hv]; simp
    · cases hv
theorem wpList_append_num {ops : Array Oper} {rest : List Oper} {o : Oper} {a : Act} {w : World} {Q : Exit → Act → World → Prop} (hgd : o.guard = none) (s x : Operand)
    (ho : o.op = .call { callee := .builtin .append, args := #[s, x], argTypes := #[37, 37] }) (B : Nat) (v : Value) (l : List Nat) (b : Nat) (hs : a.eval s = v) (hown : OwnI B w l v) (hx : a.eval x = .slice (some ⟨w.heap.size, 0, none⟩) 1 1)
    (hl : l.length < 1099511627776) (hB : B ≤ w.heap.size)
    (h : ∀ v' w', OwnI B w' (l ++ [b]) v' → Below B w w' → wpList Try.prog ops Q rest (a.put o.dst v') w') : wpList Try.prog ops Q (o :: rest) a (w.alloc (.cells #[.int .i64 (b : Int)] 3)) := by
  obtain ⟨i, hi, hz, hsz, hby⟩ := info_parts info3
  refine wpList_append_own (w := w.alloc (.cells #[.int .i64 (b : Int)] 3)) hgd s x 37 ho B 3 i (.int .i64 0) 1 8 Try.underlying37 hi hz hsz hby rfl (by decide) v l.length (numsV l) hs (World.ownsRow.alloc hown _) ⟨w.heap.size, 0, none⟩ 1 1 [.int .i64 (b : Int)] hx rfl ?_ ?_ (by unfold maxLen; omega) (by omega) (by rw [size_alloc]; omega) ?_
  · intro j u hu
    have hj : j = 0 := by have := (List.getElem?_eq_some_iff.1 hu).1; simp at this; exact this
    subst hj
    rw [Addr.add_mid, cell_of_row _ _ _ _ _ _ (heap_new_at rfl)]
    simpa using hu
  · intro u hu
    rw [List.mem_singleton.1 hu]; rfl
  · intro v' w' ho' hg _
    refine h v' w' ?_ ?_
    · unfold OwnI
      rw [List.length_append, numsV_append]; exact ho'
    · refine ((Below.refl B w).alloc hB _).grown hg (by rw [size_alloc]; omega) (fun k hk => ?_)
      exact (World.ownsRow.lt hown k hk).1
/-- The value of digits to the base 4. -/
def d4 : List Nat → Nat
  | [] => 0
  | x :: r => x + 4 * d4 r
end Go.Proofs.Ytoidjapenompiaa

/-
  The program's ring: Live and Dead, however the map is gone through.
-/
namespace Go.Proofs.Ytoidjapenompiaa
open Go.RowKit Go.Proofs.ShaWords Go.Maps
def markK (l : List HoldK) (b : Bool) (seen : List Nat) (k : Nat) : Bool := seen.any fun i => match l[i]? with | some h => h.slot == k && h.shred == b | none => false
def marksK (l : List HoldK) (b : Bool) (seen : List Nat) : Array Value := ((List.range 65).map fun k => Value.bool (markK l b seen k)).toArray
theorem marks_size (l : List HoldK) (b : Bool) (seen : List Nat) : (marksK l b seen).size = 65 := by simp [marksK]
theorem marks_get (l : List HoldK) (b : Bool) (seen : List Nat) (k : Nat) (hk : k < 65) : (marksK l b seen)[k]? = some (.bool (markK l b seen k)) := by
  unfold marksK
  rw [List.getElem?_toArray, List.getElem?_map, List.getElem?_range hk]
  rfl
theorem markK_snoc (l : List HoldK) (b : Bool) (seen : List Nat) {i : Nat} {x : HoldK} (hx : l[i]? = some x) (k : Nat) : markK l b (seen ++ [i]) k = (markK l b seen k || (x.slot == k && x.shred == b)) := by
  unfold markK
  rw [List.any_append]
  simp [hx]
theorem marks_skip (l : List HoldK) {b : Bool} (seen : List Nat) {i : Nat} {x : HoldK} (hx : l[i]? = some x) (hs : (x.shred == b) = false) : marksK l b (seen ++ [i]) = marksK l b seen := by
  unfold marksK
  congr 1
  refine List.map_congr_left fun k _ => ?_
  rw [markK_snoc l b seen hx, hs]
  simp
theorem marks_hit (l : List HoldK) {b : Bool} (seen : List Nat) {i : Nat} {x : HoldK} (hx : l[i]? = some x) (hs : (x.shred == b) = true) : (marksK l b seen).setIfInBounds x.slot (.bool true) = marksK l b (seen ++ [i]) := by
  apply Array.ext
  · simp [marks_size]
  · intro k h1 h2
    have hk : k < 65 := by rw [marks_size] at h2; exact h2
    have e2 := marks_get l b (seen ++ [i]) k hk
    have e1 := marks_get l b seen k hk
    rw [Array.getElem?_eq_getElem h2] at e2
    rw [Array.getElem?_eq_getElem (by rw [marks_size]; exact hk)] at e1
    rw [Array.getElem_setIfInBounds (by rw [marks_size]; exact hk), Option.some.inj e2, markK_snoc l b seen hx, hs]
    split
    · rename_i e
      simp [e]
    · rename_i e
      rw [Option.some.inj e1]
      simp [e]
theorem mark_all (l : List HoldK) (b : Bool) (seen : List Nat) (hall : ∀ i, i < l.length → i ∈ seen) (k : Nat) : markK l b seen k = l.any fun h => h.slot == k && h.shred == b := by
  unfold markK
  apply Bool.eq_iff_iff.2
  simp only [List.any_eq_true]
  constructor
  · rintro ⟨i, _, h⟩
    cases hx : l[i]? with
    | none => rw [hx] at h; cases h
    | some x => rw [hx] at h; exact ⟨x, List.mem_of_getElem? hx, h⟩
  · rintro ⟨x, hx, h⟩
    obtain ⟨i, hi⟩ := List.getElem?_of_mem hx
    exact ⟨i, hall i (List.getElem?_eq_some_iff.1 hi).1, by rw [hi]; exact h⟩
/-- The slots up to k. -/
def slotsTo (l : List HoldK) (b : Bool) (k : Nat) : List Nat := (List.range k).filter fun k => l.any fun h => h.slot == k && h.shred == b
theorem slotsTo_succ (l : List HoldK) (b : Bool) (k : Nat) : slotsTo l b (k + 1) = slotsTo l b k ++ (if (l.any fun h => h.slot == k && h.shred == b) = true then [k] else []) := by
  unfold slotsTo
  rw [List.range_succ, List.filter_append]
  congr 1
  simp [List.filter_cons]
theorem slotsTo_all (l : List HoldK) (b : Bool) : slotsTo l b 65 = slotsK l b := rfl
theorem slotsTo_length (l : List HoldK) (b : Bool) (k : Nat) : (slotsTo l b k).length ≤ k := by
  have h := List.length_filter_le (fun k => l.any fun h => h.slot == k && h.shred == b) (List.range k)
  rw [List.length_range] at h
  exact h
structure MkK (w : World) (m : Nat) (l : List HoldK) (b : Bool) (seen : Array Nat) (wr : World) : Prop where
  below : Below w.heap.size w wr
  marks : wr.heap[w.heap.size]? = some (.cells (marksK l b seen.toList) 72 (0, 0))
  iter : wr.heap[w.heap.size + 1]? = some (.mapIter (some m) l.length seen l.length)
section
variable {S : Nat → Prop} {w w' : World} {r m : Nat} {bs : List Nat} {l : List HoldK}
theorem wpList_nextK {ops : Array Oper} {rest : List Oper} {o : Oper} {a : Act} {Q : Exit → Act → World → Prop} (hg : o.guard = none) (x : Operand) (ho : o.op = .next x false) {it : Nat} {seen : Array Nat} (hx : a.eval x = .pointer (some ⟨it, 0, none⟩)) (hV : KrV S w r m bs l)
    (hit : w.heap[it]? = some (.mapIter (some m) l.length seen l.length))
    (hDone : (∀ i, i < l.length → i ∈ seen.toList) → wpList Try.prog ops Q rest (a.put o.dst (.tuple #[.bool false])) w)
    (hMore : ∀ (i b : Nat) (x : HoldK) (w' : World), bs[i]? = some b → l[i]? = some x → w'.heap[it]? = some (.mapIter (some m) l.length (seen.push i) l.length) → Stays (fun k => k = it) w w' → w'.rangeLeft m it < w.rangeLeft m it →
      (Instr.entry (.pointer (some ⟨it, 0, none⟩))).run Try.prog w' = .ok (.tuple #[.agg #[.string x.t, .string x.s], .pointer (some ⟨b, 0, none⟩)]) w' → wpList Try.prog ops Q rest (a.put o.dst (.tuple #[.bool true, .agg #[.string x.t, .string x.s], .pointer (some ⟨b, 0, none⟩)])) w') :
    wpList Try.prog ops Q (o :: rest) a w := by
  refine wpList_plain hg fun K' hK' => ?_
  unfold Oper.wp
  have hborn : ∀ e ∈ (entsK bs l).toArray.toList, e.born < l.length := fun e he => by
    obtain ⟨i, b, y, hb, hy, rfl⟩ := entsK_mem (by simpa using he)
    exact (List.getElem?_eq_some_iff.1 hy).1
  rcases run_next_at (P := Try.prog) w o.type it m l.length l.length seen (entsK bs l).toArray l.length hit hV.map hborn (Nat.le_refl _) with ⟨h0, hrun⟩ | ⟨e, he, w1, hal, hrun⟩
  · simp [execOp, ho, hx, hrun, Result.andThen]
    refine hK' _ _ (hDone fun i hi => ?_)
    have hb : bs[i]? = some (bs[i]'(by rw [hV.len]; exact hi)) := List.getElem?_eq_getElem _
    have hm := all_seen _ seen h0 _ (by simpa using List.mem_of_getElem? (entsK_get hb (List.getElem?_eq_getElem hi)))
    simpa using hm
  · obtain ⟨hem, hes⟩ := mem_left he
    obtain ⟨i, b, y, hb, hy, rfl⟩ := entsK_mem (show e ∈ entsK bs l by simpa using hem)
    have hit1 : w1.heap[it]? = some (.mapIter (some m) l.length seen l.length) := by rcases hal with rfl | rfl <;> exact hit
    obtain ⟨O, hO⟩ : ∃ O, O = Obj.mapIter (some m) l.length (seen.push i) l.length := ⟨_, rfl⟩
    have hset : (ChangeMaps.setBlock w1 it O).heap[it]? = some O ∧ ∀ k, k ≠ it → (ChangeMaps.setBlock w1 it O).heap[k]? = w1.heap[k]? := MapKept.heap_set hit1
    have hsz : (ChangeMaps.setBlock w1 it O).heap.size = w1.heap.size := Array.size_setIfInBounds
    have hst : Stays (fun k => k = it) w (ChangeMaps.setBlock w1 it O) := by
      rcases hal with rfl | rfl
      · exact ⟨rfl, rfl, rfl, Nat.le_of_eq hsz.symm, fun k _ hk => hset.2 k hk⟩
      · exact ⟨rfl, rfl, rfl, Nat.le_of_eq hsz.symm, fun k _ hk => hset.2 k hk⟩
    have hne : m ≠ it := fun e => by
      have h1 := hV.map
      rw [e, hit] at h1
      cases h1
    rw [← hO] at hrun
    clear hsz
    have hm' : (ChangeMaps.setBlock w1 it O).heap[m]? = some (.map (entsK bs l).toArray l.length) := (hst.block m (hV.dom m hV.own.2.1) hne).trans hV.map
    simp [execOp, ho, hx, hrun, Result.andThen]
    refine hK' _ _ (hMore i b y _ hb hy (by rw [← hO]; exact hset.1) hst ?_ ?_)
    · have hsh := left_shrinks _ seen _ he
      have e1 : (ChangeMaps.setBlock w1 it O).rangeLeft m it = (leftOf (entsK bs l).toArray (seen.push i)).size := by unfold World.rangeLeft; rw [hm', hset.1, hO]
      have e2 : w.rangeLeft m it = (leftOf (entsK bs l).toArray seen).size := by unfold World.rangeLeft; rw [hV.map, hit]
      rw [e1, e2]
      exact hsh
    · have hnd : ((entsK bs l).toArray.toList.map (·.born)).Nodup := by
        rw [List.nodup_iff_pairwise_ne, List.pairwise_map]
        refine List.pairwise_iff_getElem.2 fun i j hi hj hij e => ?_
        have e1 : (entsK bs l)[i]? = some (entsK bs l)[i] := List.getElem?_eq_getElem hi
        have e2 : (entsK bs l)[j]? = some (entsK bs l)[j] := List.getElem?_eq_getElem hj
        obtain ⟨_, _, _, _, g1⟩ := entsK_inv e1
        obtain ⟨_, _, _, _, g2⟩ := entsK_inv e2
        simp only [g1, g2] at e
        omega
      exact run_entry_at (P := Try.prog) _ it m l.length seen (entsK bs l).toArray l.length _ (by rw [hset.1, hO]) hm' hem hnd
theorem index72 (cs : Array Value) (k : Nat) (hk : k < 65) {v : Value} (h : cs[k]? = some v) (w : World) : (Instr.index 72 (.agg cs) (.int .i64 (k : Int))).run Try.prog w = .ok v w := by
  have h1 : (0 : Int) ≤ k ∧ (k : Int) < (65 : Nat) := by omega
  have h2 : (sizeOf 4).run Try.prog w = .ok 1 w := by kernel_rfl
  have h3 : (isAgg 4).run Try.prog w = .ok false w := by kernel_rfl
  simp [Instr.index, run_underlying Try.underlying72, asIntOf, h1, h2, h3, hk, h, part, Result.andThen]
end
end Go.Proofs.Ytoidjapenompiaa

/-
  The program's ring: Live and Dead.
-/
namespace Go.Proofs.Ytoidjapenompiaa
open Go.RowKit Go.Proofs.ShaWords Go.Maps
section
variable {S : Nat → Prop} {r : Nat} {l : List HoldK}
theorem size72 : (Try.prog.info? 72).map (·.size) = some 65 := by kernel_rfl
theorem run_load72 {ρ : Operand → Value} {o : Oper} {x : Operand} {T : Nat} {cs : Array Value} {w : World} (ho : o.op = .load 72 x) (hx : ρ x = .pointer (some ⟨T, 0, none⟩)) (hC : w.heap[T]? = some (.cells cs 72 (0, 0))) (hs : cs.size = 65) : (execOp ρ o).run Try.prog w = .ok (.value (.agg cs)) w := by
  have h := World.rangeAt_of_block hC 0 65
  have e : (cs.extract 0 (0 + 65)).toList = cs.toList := by rw [Nat.zero_add, ← hs, Array.extract_size]
  rw [e] at h
  have h2 := run_loadAt_mid (P := Try.prog) w T 0 72 cs.toList _ h Try.underlying72 rfl (by rw [size72, Array.length_toList, hs])
  unfold execOp
  simp only [ho, hx, Sem.run_bind, h2, Result.andThen_ok, Sem.run_pure, Array.toArray_toList]
theorem zero72 (l : List HoldK) (b : Bool) (w : World) : (zeroValue 72).run Try.prog w = .ok (.agg (marksK l b [])) w := by kernel_rfl
set_option maxRecDepth 100000 in
set_option maxHeartbeats 1000000 in
theorem krSlots_any (b : Bool) (w : World) (h : KrAt r l S w) :
    Calls Try.prog 31 #[.pointer (some ⟨r, 0, none⟩), .bool b] w fun e w' => ∃ v, e = .returned v ∧ OwnI w.heap.size w' (slotsK l b) v ∧ Below w.heap.size w w' := by
  obtain ⟨m, bs, hV⟩ := h
  have HV : Hid (∀ w', Below w.heap.size w w' → KrV S w' r m bs l) := show ∀ _, _ → _ from fun w' hb => hV.keep (Below.stays hb) (fun k (f : False) => f.elim)
  clear hV
  have hz0 := zero72 l b
  go_enter Try.func31, Try.ntmps31
  go_upto_region 2 with (fail)
  refine wp_gen (fun A => A.heap.size = w.heap.size + 1 ∧ Below w.heap.size w A ∧ A.heap[w.heap.size]? = some (.cells (marksK l b []) 72 (0, 0))) ⟨by simp, (Below.refl _ _).alloc (Nat.le_refl _) _, heap_new_at rfl⟩ ?_
  rintro A ⟨hsz, hb, hm⟩
  have hVA := HV.out A hb
  have c0 := hVA.cell
  have hrg := run_range_map (P := Try.prog) A 56 _ _ m _ _ Try.underlying56 hVA.map
  rw [hsz] at hrg
  have HM : Hid (MkK w m l b #[] (A.alloc (.mapIter (some m) l.length #[] l.length))) := show MkK _ _ _ _ _ _ from by
    refine ⟨hb.alloc (by omega) _, ?_, ?_⟩
    · rw [(MapKept.heap_alloc A _).2 _ (by omega)]
      exact hm
    · have := heap_alloc_new A (.mapIter (some m) l.length #[] l.length)
      rwa [hsz] at this
  clear hm hb hVA hsz hz0
  go_wp2_with fail
  go_loopw [7] (fun _ wr => ∃ seen, MkK w m l b seen wr) (fun _ wr => wr.rangeLeft m (w.heap.size + 1))
  case atStart => exact ⟨_, HM.out⟩
  case round =>
    obtain ⟨seen, hmk⟩ := hrel
    have HMK := Lib.hid hmk
    have HVR := Lib.hid (HV.out wr hmk.below)
    have HIT := Lib.hid hmk.iter
    clear hmk HM
    have HLIM : Hid (∀ w2, Stays (fun k => k = w.heap.size + 1) wr w2 → Below w.heap.size w w2 ∧ w2.heap[w.heap.size]? = some (.cells (marksK l b seen.toList) 72 (0, 0))) := show ∀ _, _ → _ from fun w2 h => by
      refine ⟨HMK.out.below.trans (h.below (fun k e => by omega) HMK.out.below.size), (h.block _ ?_ (by omega)).trans HMK.out.marks⟩
      exact (Array.getElem?_eq_some_iff.1 HMK.out.marks).1
    have HHIT : Hid (∀ (i bb : Nat) (x : HoldK) w2, bs[i]? = some bb → l[i]? = some x → w2.heap[w.heap.size + 1]? = some (.mapIter (some m) l.length (seen.push i) l.length) → Stays (fun k => k = w.heap.size + 1) wr w2 →
        w2.cell? ⟨bb, 2, none⟩ = some (.bool x.shred) ∧ w2.cell? ⟨bb, 0, none⟩ = some (.int .i64 (x.slot : Int)) ∧ (∃ u, w2.cell? ⟨w.heap.size, x.slot, none⟩ = some u) ∧ w2.frozen? ⟨w.heap.size, x.slot, none⟩ = false ∧ x.slot < 65 ∧
        ((x.shred == b) = false → MkK w m l b (seen.push i) w2) ∧ ((x.shred == b) = true → MkK w m l b (seen.push i) (w2.setCell ⟨w.heap.size, x.slot, none⟩ (.bool true)) ∧ (w2.setCell ⟨w.heap.size, x.slot, none⟩ (.bool true)).rangeLeft m (w.heap.size + 1) = w2.rangeLeft m (w.heap.size + 1))) := show ∀ _ _ _ _, _ → _ → _ → _ → _ from fun i bb x w2 hb hx hit2 hst => by
      have h1 := HLIM.out w2 hst
      have hV2 := HV.out w2 h1.1
      have hrow := hV2.holds i bb x hb hx
      have hs := hV2.ok.slot x (List.mem_of_getElem? hx)
      have hsz := h1.1.size
      refine ⟨(cell_of_row _ _ 2 _ _ _ hrow).trans rfl, (cell_of_row _ _ 0 _ _ _ hrow).trans rfl, ⟨_, (cell_of_row _ _ x.slot _ _ _ h1.2).trans (marks_get l b _ x.slot (by omega))⟩, frozen_of_row _ _ _ _ _ h1.2, by omega, fun e => ⟨h1.1, ?_, hit2⟩, fun e => ⟨⟨h1.1.setCell (Nat.le_refl _) _, ?_, ?_⟩, ?_⟩⟩
      · rw [Array.toList_push, marks_skip l seen.toList hx e]
        exact h1.2
      · rw [Array.toList_push, ← marks_hit l seen.toList hx e]
        exact heap_setCell_same w2 w.heap.size x.slot _ _ _ h1.2
      · rw [heap_setCell_other _ _ _ _ (by simp)]
        exact hit2
      · have hm2 : m < w.heap.size + 1 ∨ w.heap.size + 1 < m ∨ m = w.heap.size + 1 := by omega
        unfold World.rangeLeft
        rw [heap_setCell_other _ _ (w.heap.size + 1) _ (by simp)]
        have hmm := hV2.map
        rw [heap_setCell_other _ _ m _ (fun e2 => by rw [show m = w.heap.size from e2, h1.2] at hmm; cases hmm)]
    clear HLIM
    go_upto_region 8 with (first
      | (at_next; refine wpList_nextK rfl (.tmp 15) rfl rfl HVR.out HIT.out (fun hall => ?_) (fun i bb x w2 hb hx hit2 hst hlt hen => ?_); all_goals first | (have HALL := Lib.hid hall; clear hall) | (obtain ⟨c2, c0', ⟨u, ct⟩, ft, qs, hA, hB⟩ := HHIT.out i bb x w2 hb hx hit2 hst; have HA := Lib.hid hA; have HB := Lib.hid hB; have HLT := Lib.hid hlt; clear hA hB hlt hb hx hit2 hst HHIT)))
    case roundEnd =>
      have hs : (x.shred == b) = true := by first | assumption | simp_all
      exact ⟨⟨_, (HB.out hs).1⟩, by rw [(HB.out hs).2]; exact HLT.out⟩
    case roundEnd =>
      have hs : (x.shred == b) = false := by first | assumption | simp_all
      exact ⟨⟨_, HA.out hs⟩, HLT.out⟩
    refine wp_region_lit ?_
    refine wpList_run (by rfl) (run_load72 (x := .tmp 5) rfl rfl HMK.out.marks (marks_size _ _ _)) ?_
    have HG : Hid (∀ k, k < 65 → (marksK l b seen.toList)[k]? = some (.bool (l.any fun h => h.slot == k && h.shred == b))) := show ∀ _, _ → _ from fun k hk => by rw [marks_get l b _ k hk, mark_all l b _ HALL.out]
    have HB0 := Lib.hid HMK.out.below
    clear HVR HIT HMK HALL HHIT
    generalize marksK l b seen.toList = cs at HG ⊢
    go_wp2_with fail
    go_loopw [8, 32] (fun v i wr => ∃ k : Nat, k ≤ 65 ∧ i = .int .i64 (k : Int) ∧ OwnI w.heap.size wr (slotsTo l b k) v ∧ Below w.heap.size w wr) (fun _ i _ => 65 - (intOf i).toNat)
    case atStart => exact ⟨0, by omega, rfl, OwnI.nil _ _, HB0.out⟩
    case round =>
      obtain ⟨k, hk, rfl, ho, hb⟩ := hrel
      have HO := Lib.hid ho; have HB := Lib.hid hb
      clear ho hb HB0
      by_cases hlt : k < 65
      · have q1 : (k : Int) < 65 := by omega
        have hix := index72 cs k hlt (HG.out k hlt) wr
        have hsc := slotsTo_succ l b k
        have hln := slotsTo_length l b k
        generalize (l.any fun h => h.slot == k && h.shred == b) = y at hix hsc
        have HSC := Lib.hid hsc
        have HLN : Hid ((slotsTo l b k).length < 1099511627776) := show _ < _ from by omega
        clear hsc hln hlt
        cases y with
        | true =>
          go_wp2_with (at_builtin; refine wpList_append_num rfl (.tmp 37) (.tmp 39) rfl w.heap.size _ (slotsTo l b k) k rfl HO.out rfl HLN.out HB.out.size ?_; intro v' w2 ho' hb'; have HO' := Lib.hid ho'; have HB' := Lib.hid (HB.out.trans hb'); clear ho' hb')
          go_roundw
          case rel => exact ⟨k + 1, by omega, by go_num, by rw [HSC.out]; exact HO'.out, HB'.out⟩
          case measure => simp [intOf]; omega
        | false =>
          go_wp2_with fail
          go_roundw
          case rel => exact ⟨k + 1, by omega, by go_num, by rw [HSC.out]; simpa using HO.out, HB.out⟩
          case measure => simp [intOf]; omega
      · obtain rfl : k = 65 := by omega
        go_wp2_with fail
        go_ret
        exact ⟨_, rfl, HO.out, HB.out⟩
set_option maxRecDepth 100000 in
theorem krLiveS_any (w : World) (h : KrAt r l S w) :
    Calls Try.prog 20 #[.pointer (some ⟨r, 0, none⟩)] w fun e w' => ∃ v, e = .returned v ∧ OwnI w.heap.size w' (slotsK l false) v ∧ Below w.heap.size w w' := by
  have HC := Lib.hid (krSlots_any false w h)
  go_enter Try.func20, Try.ntmps20
  go_wp2_with fail
  refine HC.out.mono ?_
  rintro e w' ⟨v, rfl, ho, hb⟩
  have HO := Lib.hid ho; have HB := Lib.hid hb
  clear ho hb
  go_wp2_with fail
  go_ret
  exact ⟨_, rfl, HO.out, HB.out⟩
set_option maxRecDepth 100000 in
theorem krDead_any (w : World) (h : KrAt r l S w) :
    Calls Try.prog 21 #[.pointer (some ⟨r, 0, none⟩)] w fun e w' => ∃ v, e = .returned v ∧ OwnI w.heap.size w' (slotsK l true) v ∧ Below w.heap.size w w' := by
  have HC := Lib.hid (krSlots_any true w h)
  go_enter Try.func21, Try.ntmps21
  go_wp2_with fail
  refine HC.out.mono ?_
  rintro e w' ⟨v, rfl, ho, hb⟩
  have HO := Lib.hid ho; have HB := Lib.hid hb
  clear ho hb
  go_wp2_with fail
  go_ret
  exact ⟨_, rfl, HO.out, HB.out⟩
end
end Go.Proofs.Ytoidjapenompiaa

/-
  The program's ring beside another thing and a list of other blocks; the example that each statement asks.
-/
namespace Go.Proofs.Ytoidjapenompiaa
open Go.RowKit Go.Proofs.ShaWords Go.Maps
/-- Nothing besides. -/
def NoP (U : Nat → Prop) (_ : World) : Prop := ∀ k, ¬ U k
theorem NoP.part : Part NoP := ⟨fun _ _ h k u => absurd u (h k), fun _ _ _ _ h _ _ => h⟩
section
variable {B : (Nat → Prop) → World → Prop} {lo r : Nat} {l : List HoldK} {w : World} {L : List (Nat × Obj)}
theorem X2.krMake (PB : Part B) (h : X2 (KrAt r l) B lo w L) (hlo : lo ≤ w.heap.size) (t s : ByteArray) (n : Int) (ht : t.size ≤ 281474976710656) (hs : s.size ≤ 281474976710656) (hf : l.length + 1 < 1000000) :
    Calls Try.prog 14 #[.pointer (some ⟨r, 0, none⟩), .string t, .string s, .int .i64 n] w fun e w' => e = .returned (.int .i64 (makeK l t s n).1) ∧ X2 (KrAt r (makeK l t s n).2) B lo w' L ∧ Below lo w w' :=
  h.go (C := KrAt r (makeK l t s n).2) (R := fun e => e = .returned (.int .i64 (makeK l t s n).1)) PB hlo fun _ hA _ _ => krMake_any t s n w hA ht hs hf
theorem X2.krUse (PB : Part B) (h : X2 (KrAt r l) B lo w L) (hlo : lo ≤ w.heap.size) (t s : ByteArray) (n : Int) (ht : t.size ≤ 281474976710656) (hs : s.size ≤ 281474976710656) (hn : wrap64 n = n) :
    Calls Try.prog 17 #[.pointer (some ⟨r, 0, none⟩), .string t, .string s, .int .i64 n] w fun e w' => e = .returned (.int .i64 (useK l t s n).1) ∧ X2 (KrAt r (useK l t s n).2) B lo w' L ∧ Below lo w w' :=
  h.go (C := KrAt r (useK l t s n).2) (R := fun e => e = .returned (.int .i64 (useK l t s n).1)) PB hlo fun _ hA _ _ => krUse_any t s n w hA ht hs hn
theorem X2.krShred (PB : Part B) (h : X2 (KrAt r l) B lo w L) (hlo : lo ≤ w.heap.size) (t s : ByteArray) (ht : t.size ≤ 281474976710656) (hs : s.size ≤ 281474976710656) :
    Calls Try.prog 15 #[.pointer (some ⟨r, 0, none⟩), .string t, .string s] w fun e w' => e = .returned (.int .i64 (shredK l t s).1) ∧ X2 (KrAt r (shredK l t s).2) B lo w' L ∧ Below lo w w' :=
  h.go (C := KrAt r (shredK l t s).2) (R := fun e => e = .returned (.int .i64 (shredK l t s).1)) PB hlo fun _ hA _ _ => krShred_any t s w hA ht hs
theorem X2.krHold (h : X2 (KrAt r l) B lo w L) (t s : ByteArray) (ht : t.size ≤ 281474976710656) (hs : s.size ≤ 281474976710656) :
    Calls Try.prog 16 #[.pointer (some ⟨r, 0, none⟩), .string t, .string s] w fun e w' => e = .returned (.tuple #[.agg #[.int .i64 ((holdK l t s).1.slot : Int), .int .i64 ((holdK l t s).1.uses : Int), .bool (holdK l t s).1.shred], .bool (holdK l t s).2]) ∧ Below w.heap.size w w' := by
  obtain ⟨S, U, hA, -⟩ := h
  exact krHold_any t s w hA ht hs
theorem X2.krLive (h : X2 (KrAt r l) B lo w L) : Calls Try.prog 20 #[.pointer (some ⟨r, 0, none⟩)] w fun e w' => ∃ v, e = .returned v ∧ OwnI w.heap.size w' (slotsK l false) v ∧ Below w.heap.size w w' := by
  obtain ⟨S, U, hA, -⟩ := h
  exact krLiveS_any w hA
theorem X2.krDead (h : X2 (KrAt r l) B lo w L) : Calls Try.prog 21 #[.pointer (some ⟨r, 0, none⟩)] w fun e w' => ∃ v, e = .returned v ∧ OwnI w.heap.size w' (slotsK l true) v ∧ Below w.heap.size w w' := by
  obtain ⟨S, U, hA, -⟩ := h
  exact krDead_any w hA
end
theorem krNewX (w : World) (lo : Nat) (hlo : lo ≤ w.heap.size) : Calls Try.prog 8 #[] w fun e w' => ∃ r, e = .returned (.pointer (some ⟨r, 0, none⟩)) ∧ X2 (KrAt r []) NoP lo w' [] ∧ Below w.heap.size w w' := by
  refine (krNew_any w).mono ?_
  rintro e w' ⟨r, rfl, ⟨S, hA, hS⟩, hb⟩
  exact ⟨r, rfl, ⟨S, fun _ => False, hA, fun _ f => f, fun _ _ f => f, fun k s => Nat.le_trans hlo (hS k s), fun _ f => f.elim, fun y hy => absurd hy List.not_mem_nil⟩, hb⟩
abbrev annB : ByteArray := ⟨#[97, 110, 110]⟩
abbrev sB : ByteArray := ⟨#[115]⟩
theorem nonce258 : (bytesV (nonceB 258)).toArray = #[.int .u8 0, .int .u8 0, .int .u8 0, .int .u8 0, .int .u8 0, .int .u8 0, .int .u8 0, .int .u8 0, .int .u8 0, .int .u8 0, .int .u8 1, .int .u8 2] := by kernel_rfl
theorem eq258 (w : World) : (Op.equalIn 10000 33 (.agg #[.int .u8 0, .int .u8 0, .int .u8 0, .int .u8 0, .int .u8 0, .int .u8 0, .int .u8 0, .int .u8 0, .int .u8 0, .int .u8 0, .int .u8 1, .int .u8 2]) (.agg #[.int .u8 0, .int .u8 0, .int .u8 0, .int .u8 0, .int .u8 0, .int .u8 0, .int .u8 0, .int .u8 0, .int .u8 0, .int .u8 0, .int .u8 1, .int .u8 2])).run Try.prog w = .ok true w := by kernel_rfl
set_option maxRecDepth 100000 in
theorem krKnown_any (w : World) : Calls Try.prog 13 #[] w fun e w' => e = .returned (.bool true) ∧ Below w.heap.size w w' := by
  go_enter Try.func13, Try.ntmps13
  go_wp2_with fail
  refine (krNewX w w.heap.size (Nat.le_refl _)).mono ?_
  rintro e w1 ⟨r, rfl, hx, hb⟩
  have HX1 := Lib.hid hx; have HB1 := Lib.hid hb
  clear hx hb
  go_wp2_with fail
  refine (HX1.out.krMake NoP.part HB1.out.size annB sB 3 (by decide) (by decide) (by decide)).mono ?_
  rintro e w2 ⟨rfl, hx, hb⟩
  have e2 : makeK [] annB sB 3 = (0, [⟨annB, sB, 3, 0, false⟩]) := by kernel_rfl
  rw [e2] at hx
  have HX2 := Lib.hid hx; have HB2 := Lib.hid (HB1.out.trans hb)
  rw [e2]
  clear hx hb e2 HX1 HB1
  go_wp2_with fail
  refine (HX2.out.krMake NoP.part HB2.out.size annB sB 4 (by decide) (by decide) (by simp)).mono ?_
  rintro e w3 ⟨rfl, hx, hb⟩
  have e2 : makeK [⟨annB, sB, 3, 0, false⟩] annB sB 4 = (13, [⟨annB, sB, 3, 0, false⟩]) := by kernel_rfl
  rw [e2] at hx
  have HX3 := Lib.hid hx; have HB3 := Lib.hid (HB2.out.trans hb)
  rw [e2]
  clear hx hb e2 HX2 HB2
  go_wp2_with fail
  refine (HX3.out.krUse NoP.part HB3.out.size annB sB 5 (by decide) (by decide) (by unfold wrap64; omega)).mono ?_
  rintro e w4 ⟨rfl, hx, hb⟩
  have e2 : useK [⟨annB, sB, 3, 0, false⟩] annB sB 5 = (0, [⟨annB, sB, 3, 5, false⟩]) := by kernel_rfl
  rw [e2] at hx
  have HX4 := Lib.hid hx; have HB4 := Lib.hid (HB3.out.trans hb)
  rw [e2]
  clear hx hb e2 HX3 HB3
  go_wp2_with fail
  refine (HX4.out.krShred NoP.part HB4.out.size annB sB (by decide) (by decide)).mono ?_
  rintro e w5 ⟨rfl, hx, hb⟩
  have e2 : shredK [⟨annB, sB, 3, 5, false⟩] annB sB = (0, [⟨annB, sB, 3, 5, true⟩]) := by kernel_rfl
  rw [e2] at hx
  have HX5 := Lib.hid hx; have HB5 := Lib.hid (HB4.out.trans hb)
  rw [e2]
  clear hx hb e2 HX4 HB4
  go_wp2_with fail
  refine (HX5.out.krHold annB sB (by decide) (by decide)).mono ?_
  rintro e w6 ⟨rfl, hb⟩
  have e2 : holdK [⟨annB, sB, 3, 5, true⟩] annB sB = (⟨annB, sB, 3, 5, true⟩, true) := by kernel_rfl
  rw [e2]
  have HB6 := Lib.hid (HB5.out.trans (hb.mono HB5.out.size))
  have HX6 := Lib.hid (HX5.out.below (KrAt.part _ _) NoP.part hb)
  clear hb e2 HX5 HB5
  go_wp2_with fail
  have hb7 : Below w6.heap.size w6 (w6.alloc (.cells #[.int .i64 3, .int .i64 5, .bool true] 43)) := (Below.refl _ _).alloc (Nat.le_refl _) _
  have HX7 := Lib.hid (HX6.out.below (KrAt.part _ _) NoP.part hb7)
  have HB7 := Lib.hid (HB6.out.trans (hb7.mono HB6.out.size))
  clear hb7 HX6 HB6
  refine (HX7.out.krUse NoP.part HB7.out.size annB sB 1 (by decide) (by decide) (by unfold wrap64; omega)).mono ?_
  rintro e w8 ⟨rfl, hx, hb⟩
  have e2 : useK [⟨annB, sB, 3, 5, true⟩] annB sB 1 = (17, [⟨annB, sB, 3, 5, true⟩]) := by kernel_rfl
  have HB8 := Lib.hid (HB7.out.trans hb)
  rw [e2]
  clear hx hb e2 HX7 HB7
  go_wp2_with fail
  refine (krNonce_any 258 w8).mono ?_
  rintro e w9 ⟨rfl, hb⟩
  have HB9 := Lib.hid (HB8.out.trans (hb.mono HB8.out.size))
  clear hb HB8
  rw [nonce258]
  have heq := eq258
  go_wp2_with fail
  go_ret
  exact ⟨rfl, HB9.out⟩
end Go.Proofs.Ytoidjapenompiaa

/-
  The document's ring: Live and Dead.
-/
namespace Go.Proofs.Ytoidjapenompiaa
open Go.RowKit Go.Proofs.ShaWords
theorem slotsTo_one {l : List HoldK} (h : OkK l) (b : Bool) : slotsTo l b 1 = [] := by
  rw [slotsTo_succ]
  have e : (l.any fun h => h.slot == 0 && h.shred == b) = false := by
    apply Bool.eq_false_iff.2
    intro hh
    obtain ⟨y, hy, h2⟩ := List.any_eq_true.1 hh
    have := h.slot y hy
    simp at h2
    omega
  rw [e]
  rfl
section
variable {U : Nat → Prop} {x : Nat} {l : List HoldK}
set_option maxRecDepth 100000 in
set_option maxHeartbeats 1000000 in
theorem rrSlots_any (b : Bool) (w : World) (h : RrAt x l U w) :
    Calls Try.prog 33 #[.pointer (some ⟨x, 0, none⟩), .bool b] w fun e w' => ∃ v, e = .returned v ∧ OwnI w.heap.size w' (slotsK l b) v ∧ Below w.heap.size w w' := by
  obtain ⟨v, hV⟩ := h
  have HV : Hid (∀ w', Below w.heap.size w w' → RrV U w' x v l) := show ∀ _, _ → _ from fun w' hb => hV.keep (Below.stays hb) (fun k (f : False) => f.elim)
  have HOK := Lib.hid hV.ok
  have hfew := hV.few
  obtain ⟨p, cap, rfl, -⟩ := hV.form
  obtain ⟨n, hn⟩ : ∃ n, l.length = n := ⟨_, rfl⟩
  rw [hn] at hfew HV
  have HN := Lib.hid hn
  clear hn hV
  go_enter Try.func33, Try.ntmps33
  go_wp2_with fail
  go_loopw [5, 6] (fun v i wr => ∃ m : Nat, 1 ≤ m ∧ m ≤ 65 ∧ i = .int .i64 (m : Int) ∧ OwnI w.heap.size wr (slotsTo l b m) v ∧ Below w.heap.size w wr) (fun _ i _ => 66 - (intOf i).toNat)
  case atStart => exact ⟨1, by omega, by omega, rfl, by rw [slotsTo_one HOK.out]; exact OwnI.nil _ _, Below.refl _ _⟩
  case round =>
    obtain ⟨m, hm1, hm2, rfl, ho, hb⟩ := hrel
    have HO := Lib.hid ho; have HB := Lib.hid hb
    clear ho hb
    by_cases hlt : m ≤ 64
    · have q1 : (m : Int) ≤ 64 := by omega
      have hVr := HV.out wr HB.out
      have hc := hVr.cell
      obtain ⟨p2, cap2, e2, hf⟩ := hVr.form
      rw [HN.out] at e2
      have e3 : p = p2 := by simpa using (by cases e2; rfl : p = p2)
      subst e3
      have HF := Lib.hid hf
      clear hVr e2 hf
      go_wp2_with fail
      go_loopw [7, 8] (fun s i ww => ∃ j : Nat, j ≤ n ∧ i = .int .i64 (j : Int) ∧ s = .bool ((l.take j).any fun h => h.slot == m && h.shred == b) ∧ ww = wr) (fun _ i _ => n - (intOf i).toNat)
      case atStart => exact ⟨0, by omega, rfl, by simp, rfl⟩
      case round =>
        obtain ⟨j, hj, rfl, rfl, rfl⟩ := hrel
        by_cases hjn : j < n
        · have hjl : j < l.length := by rw [HN.out]; exact hjn
          obtain ⟨y, hy⟩ : ∃ y, l[j]? = some y := ⟨_, List.getElem?_eq_getElem hjl⟩
          have HT : Hid (((l.take (j + 1)).any fun h => h.slot == m && h.shred == b) = ((l.take j).any (fun h => h.slot == m && h.shred == b) || (y.slot == m && y.shred == b))) := show _ = _ from by
            rw [List.take_add_one, hy, List.any_append]
            simp
          obtain ⟨g, rfl, -, -, -, hcs, -⟩ := HF.out j y hy
          have c2 := hcs 2 _ rfl
          have c4 := hcs 4 _ rfl
          have q2 : (j : Int) < (n : Int) := by omega
          clear hcs hy hjl
          generalize ((l.take j).any fun h => h.slot == m && h.shred == b) = B at HT ⊢
          cases B with
          | true =>
            go_wp2_with fail
            go_roundw
            case rel => exact ⟨j + 1, by omega, by go_num, by rw [HT.out]; rfl, by first | trivial | rfl⟩
            case measure => simp [intOf]; omega
          | false =>
            by_cases hs : y.slot = m
            · have q3 : (y.slot : Int) = (m : Int) := by omega
              have HS := Lib.hid hs
              clear hs
              go_wp2_with fail
              go_roundw
              case rel => exact ⟨j + 1, by omega, by go_num, by rw [HT.out, HS.out]; simp, by first | trivial | rfl⟩
              case measure => simp [intOf]; omega
            · have q3 : ¬ (y.slot : Int) = (m : Int) := by omega
              have HS := Lib.hid hs
              clear hs
              go_wp2_with fail
              go_roundw
              case rel => exact ⟨j + 1, by omega, by go_num, by rw [HT.out]; simp [HS.out], by first | trivial | rfl⟩
              case measure => simp [intOf]; omega
        · obtain rfl : j = n := by omega
          have hall : (l.take j) = l := List.take_of_length_le (by rw [HN.out]; exact Nat.le_refl _)
          rw [hall]
          have hsc := slotsTo_succ l b m
          have hln := slotsTo_length l b m
          generalize (l.any fun h => h.slot == m && h.shred == b) = y at hsc ⊢
          have HSC := Lib.hid hsc
          have HLN : Hid ((slotsTo l b m).length < 1099511627776) := show _ < _ from by omega
          clear hsc hln hall HF
          cases y with
          | true =>
            go_wp2_with (at_builtin; refine wpList_append_num rfl (.tmp 50) (.tmp 52) rfl w.heap.size _ (slotsTo l b m) m rfl HO.out rfl HLN.out HB.out.size ?_; intro v' w2 ho' hb'; have HO' := Lib.hid ho'; have HB' := Lib.hid (HB.out.trans hb'); clear ho' hb')
            go_roundw
            case rel => exact ⟨m + 1, by omega, by omega, by go_num, by rw [HSC.out]; exact HO'.out, HB'.out⟩
            case measure => simp [intOf]; omega
          | false =>
            go_wp2_with fail
            go_roundw
            case rel => exact ⟨m + 1, by omega, by omega, by go_num, by rw [HSC.out]; simpa using HO.out, HB.out⟩
            case measure => simp [intOf]; omega
    · obtain rfl : m = 65 := by omega
      go_wp2_with fail
      go_ret
      exact ⟨_, rfl, HO.out, HB.out⟩
set_option maxRecDepth 100000 in
theorem rrLive_any (w : World) (h : RrAt x l U w) :
    Calls Try.prog 26 #[.pointer (some ⟨x, 0, none⟩)] w fun e w' => ∃ v, e = .returned v ∧ OwnI w.heap.size w' (slotsK l false) v ∧ Below w.heap.size w w' := by
  have HC := Lib.hid (rrSlots_any false w h)
  go_enter Try.func26, Try.ntmps26
  go_wp2_with fail
  refine HC.out.mono ?_
  rintro e w' ⟨v, rfl, ho, hb⟩
  have HO := Lib.hid ho; have HB := Lib.hid hb
  clear ho hb
  go_wp2_with fail
  go_ret
  exact ⟨_, rfl, HO.out, HB.out⟩
set_option maxRecDepth 100000 in
theorem rrDead_any (w : World) (h : RrAt x l U w) :
    Calls Try.prog 27 #[.pointer (some ⟨x, 0, none⟩)] w fun e w' => ∃ v, e = .returned v ∧ OwnI w.heap.size w' (slotsK l true) v ∧ Below w.heap.size w w' := by
  have HC := Lib.hid (rrSlots_any true w h)
  go_enter Try.func27, Try.ntmps27
  go_wp2_with fail
  refine HC.out.mono ?_
  rintro e w' ⟨v, rfl, ho, hb⟩
  have HO := Lib.hid ho; have HB := Lib.hid hb
  clear ho hb
  go_wp2_with fail
  go_ret
  exact ⟨_, rfl, HO.out, HB.out⟩
end
end Go.Proofs.Ytoidjapenompiaa
