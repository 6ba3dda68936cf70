/-
  What other texts lean on: KitInts, KrInts, KrBoth, KrDoes, KrAlike.
-/
import Derived.Test.YtoidjapenompiaaPkA
import Derived.Test.YtoidjapenompiaaPkT
import Derived.Test.YtoidjapenompiaaPkZ
import Derived.BigQuiet
/-
  The kit's functions on lists of whole numbers: copied, lent with marks behind, compared, kept (gen_kitints.py, out of Bytes' text).
-/
namespace Go.Proofs.Ytoidjapenompiaa
open Go.RowKit Go.Proofs.ShaWords
/-- A slice of whole numbers of the call's own. -/
def OwnZ (B : Nat) (w : World) (l : List Int) (v : Value) : Prop := w.ownsRow B 3 1 v l.length (intsV l)
theorem OwnZ.nil (B : Nat) (w : World) : OwnZ B w [] (.slice none 0 0) := World.ownsRow_nil w B 3 1
theorem OwnZ.below {B : Nat} {w w' : World} {l : List Int} {v : Value} (h : OwnZ B w l v) (hb : Below w.heap.size w w') : OwnZ B w' l v :=
  World.ownsRow.kept h (grown_below hb (Nat.le_refl _) none) (by cases v.ownBlock <;> simp)
theorem OwnZ.lies {B : Nat} {w : World} {l : List Int} {v : Value} (h : OwnZ B w l v) : ∃ p cap, v = .slice p l.length cap ∧ l.length ≤ cap ∧ cap ≤ maxLen ∧ LiesZ w p l := by
  rcases h.2 with ⟨rfl, h0⟩ | ⟨g, cap, cur, rfl, hg, hh, hc, hm, hs, ht⟩
  · have : l = [] := List.length_eq_zero_iff.1 h0
    subst this
    exact ⟨none, 0, rfl, Nat.le_refl _, Nat.zero_le _, Or.inl rfl⟩
  · refine ⟨some ⟨g, 0, none⟩, cap, rfl, hc, hm, Or.inr ⟨g, 0, rfl, fun j v hv => ?_⟩⟩
    rw [Nat.zero_add, cell_of_row w g j cur 3 (0, 0) hh]
    rw [← ht, Nat.mul_one, List.getElem?_take] at hv
    split at hv
    · rw [← hv]; simp
    · cases hv
/-- The kit's marksZ. -/
def markZ (i : Nat) : Int := 7001 + 13 * (i : Int)
def marksZ (k : Nat) : List Int := (List.range k).map markZ
theorem markZ_any (i : Nat) (w : World) (h : i ≤ 1000000) : Calls Try.prog 34 #[.int .i64 (i : Int)] w fun e w' => e = .returned (.int .i64 (markZ i)) ∧ w = w' := by
  go_enter Try.func34, Try.ntmps34
  go_wp2_with fail
  go_ret
  exact ⟨rfl, rfl⟩

set_option maxHeartbeats 400000 in
/-- Two lists of the same bytes are told to be the same. -/
theorem sameZ_any (l : List Int) (n : Nat) (p q : Option Addr) (c1 c2 : Nat) (w : World) (hln : l.length = n) (hl : n < 1000000) (hp : LiesZ w p l) (hq : LiesZ w q l) :
    Calls Try.prog 19 #[.slice p n c1, .slice q n c2] w fun e w' => e = .returned (.bool true) ∧ Below w.heap.size w w' := by
  have HP := Lib.hid hp; clear hp
  have HQ := Lib.hid hq; clear hq
  have HN := Lib.hid hln; clear hln
  go_enter Try.func19, Try.ntmps19
  go_wp2_with fail
  go_loopw [5] (fun i wr => ∃ k : Nat, k ≤ n ∧ i = .int .i64 k ∧ Below w.heap.size w wr) (fun i _ => n - (intOf i).toNat)
  case atStart => exact ⟨0, Nat.zero_le _, rfl, Below.refl _ _⟩
  case round =>
    obtain ⟨k, hk, rfl, hb⟩ := hrel
    by_cases hlt : k < n
    · have hlt' : k < l.length := by rw [HN.out]; exact hlt
      have hv : (intsV l)[k]? = some (.int .i64 l[k]) := by simp [intsV, hlt']
      rcases HP.out with h0 | ⟨b, off, rfl, hr⟩
      · exfalso; rw [h0] at hlt'; simp at hlt'
      rcases HQ.out with h0 | ⟨b2, off2, rfl, hr2⟩
      · exfalso; rw [h0] at hlt'; simp at hlt'
      have hc := (hb.cell (p := ⟨b, off + k, none⟩) (World.block_lt_of_cell? w _ (hr k _ hv))).trans (hr k _ hv)
      have hc2 := (hb.cell (p := ⟨b2, off2 + k, none⟩) (World.block_lt_of_cell? w _ (hr2 k _ hv))).trans (hr2 k _ hv)
      generalize l[k] = x at hc hc2 hv
      have HB := Lib.hid hb
      clear hb hr hr2 hv hlt'
      have q0 : (k : Int) < (n : Int) := by omega
      go_wp2_with fail
      go_quiet (fail)
      go_wp2_with fail
      go_roundw
      case rel => exact ⟨k + 1, by omega, by go_num, HB.out.trans ⟨rfl, rfl, rfl, Nat.le_refl _, fun _ _ => rfl⟩⟩
      case measure => simp [intOf]; omega
    · have HB := Lib.hid hb; clear hb
      go_wp2_with fail
      go_ret
      exact ⟨rfl, HB.out⟩

end Go.Proofs.Ytoidjapenompiaa

/-
  Slots as lists of whole numbers, for the kit's SameInts.
-/
namespace Go.Proofs.Ytoidjapenompiaa
open Go.RowKit Go.Proofs.ShaWords
def zs (l : List Nat) : List Int := l.map fun (n : Nat) => (n : Int)
theorem zs_length (l : List Nat) : (zs l).length = l.length := by simp [zs]
theorem numsV_zs (l : List Nat) : numsV l = intsV (zs l) := by simp [numsV, intsV, zs]
theorem LiesI.toZ {w : World} {p : Option Addr} {l : List Nat} (h : LiesI w p l) : LiesZ w p (zs l) := by
  rcases h with h0 | ⟨b, off, rfl, hr⟩
  · exact Or.inl (by rw [h0]; rfl)
  · exact Or.inr ⟨b, off, rfl, by rw [← numsV_zs]; exact hr⟩
/-- A slice of one's own, as a list of whole numbers that lies somewhere. -/
theorem OwnI.out {B : Nat} {w : World} {l : List Nat} {v : Value} (h : OwnI B w l v) : ∃ p cap, v = .slice p l.length cap ∧ LiesZ w p (zs l) := by
  obtain ⟨p, cap, rfl, -, hl⟩ := h.lies
  exact ⟨p, cap, rfl, hl.toZ⟩
end Go.Proofs.Ytoidjapenompiaa

/-
  Both rings side by side: each call of the document's.
-/
namespace Go.Proofs.Ytoidjapenompiaa
open Go.RowKit Go.Proofs.ShaWords
section
variable {A : (Nat → Prop) → World → Prop} {lo x : Nat} {l : List HoldK} {w : World} {L : List (Nat × Obj)}
theorem X2.rrMake (PA : Part A) (h : X2 A (RrAt x l) lo w L) (hlo : lo ≤ w.heap.size) (t s : ByteArray) (n : Int) (ht : t.size ≤ 281474976710656) (hs : s.size ≤ 281474976710656) (hf : l.length + 1 < 1000000) :
    Calls Try.prog 22 #[.pointer (some ⟨x, 0, none⟩), .string t, .string s, .int .i64 n] w fun e w' => e = .returned (.int .i64 (makeK l t s n).1) ∧ X2 A (RrAt x (makeK l t s n).2) lo w' L ∧ Below lo w w' :=
  h.goY (C := RrAt x (makeK l t s n).2) (R := fun e => e = .returned (.int .i64 (makeK l t s n).1)) PA hlo fun _ hB _ _ => rrMake_any t s n w hB ht hs hf
theorem X2.rrUse (PA : Part A) (h : X2 A (RrAt x l) lo w L) (hlo : lo ≤ w.heap.size) (t s : ByteArray) (n : Int) :
    Calls Try.prog 23 #[.pointer (some ⟨x, 0, none⟩), .string t, .string s, .int .i64 n] w fun e w' => e = .returned (.int .i64 (useK l t s n).1) ∧ X2 A (RrAt x (useK l t s n).2) lo w' L ∧ Below lo w w' :=
  h.goY (C := RrAt x (useK l t s n).2) (R := fun e => e = .returned (.int .i64 (useK l t s n).1)) PA hlo fun _ hB _ _ => rrUse_any t s n w hB
theorem X2.rrShred (PA : Part A) (h : X2 A (RrAt x l) lo w L) (hlo : lo ≤ w.heap.size) (t s : ByteArray) :
    Calls Try.prog 24 #[.pointer (some ⟨x, 0, none⟩), .string t, .string s] w fun e w' => e = .returned (.int .i64 (shredK l t s).1) ∧ X2 A (RrAt x (shredK l t s).2) lo w' L ∧ Below lo w w' :=
  h.goY (C := RrAt x (shredK l t s).2) (R := fun e => e = .returned (.int .i64 (shredK l t s).1)) PA hlo fun _ hB _ _ => rrShred_any t s w hB
theorem X2.rrHold (h : X2 A (RrAt x l) lo w L) (t s : ByteArray) :
    Calls Try.prog 25 #[.pointer (some ⟨x, 0, none⟩), .string t, .string s] w fun e w' => e = .returned (.tuple #[.agg #[.int .i64 ((holdK l t s).1.slot : Int), .int .i64 ((holdK l t s).1.uses : Int), .bool (holdK l t s).1.shred], .bool (holdK l t s).2]) ∧ Below w.heap.size w w' := by
  obtain ⟨S, U, -, hB, -⟩ := h
  exact rrHold_any t s w hB
theorem X2.rrLive (h : X2 A (RrAt x l) lo w L) : Calls Try.prog 26 #[.pointer (some ⟨x, 0, none⟩)] w fun e w' => ∃ v, e = .returned v ∧ OwnI w.heap.size w' (slotsK l false) v ∧ Below w.heap.size w w' := by
  obtain ⟨S, U, -, hB, -⟩ := h
  exact rrLive_any w hB
theorem X2.rrDead (h : X2 A (RrAt x l) lo w L) : Calls Try.prog 27 #[.pointer (some ⟨x, 0, none⟩)] w fun e w' => ∃ v, e = .returned v ∧ OwnI w.heap.size w' (slotsK l true) v ∧ Below w.heap.size w w' := by
  obtain ⟨S, U, -, hB, -⟩ := h
  exact rrDead_any w hB
end
section
variable {ρ : Operand → Value} {o : Oper} {x y : Operand}
theorem run_loadStr {T off : Nat} {s : ByteArray} {w : World} (ho : o.op = .load 9 x) (hx : ρ x = .pointer (some ⟨T, off, none⟩)) (hc : w.cell? ⟨T, off, none⟩ = some (.string s)) : (execOp ρ o).run Try.prog w = .ok (.value (.string s)) w := by
  obtain ⟨dst, op, ty', pos, after, guard⟩ := o
  simp only at ho
  subst ho
  go_simp
theorem run_loadIntK {T off : Nat} {n : Int} {w : World} (ho : o.op = .load 3 x) (hx : ρ x = .pointer (some ⟨T, off, none⟩)) (hc : w.cell? ⟨T, off, none⟩ = some (.int .i64 n)) : (execOp ρ o).run Try.prog w = .ok (.value (.int .i64 n)) w := by
  obtain ⟨dst, op, ty', pos, after, guard⟩ := o
  simp only at ho
  subst ho
  go_simp
theorem run_eqErrK {n : Int} {ty : TypeId} (ho : o.op = .binOp .eql 38 x y ty) (hx : ρ x = .int .i64 n) (hy : ρ y = .int .i64 n) (w : World) : (execOp ρ o).run Try.prog w = .ok (.value (.bool true)) w := by
  obtain ⟨dst, op, ty', pos, after, guard⟩ := o
  simp only at ho
  subst ho
  go_simp
end
/-- The call, in a block of its own. -/
abbrev opO (kd n : Int) (t s : ByteArray) : Obj := .cells #[.int .i64 kd, .int .i64 n, .string t, .string s] 31 (0, 0)
def DcS (T : Nat) (n : Int) (t s : ByteArray) (w : World) : Prop := w.cell? ⟨T, 1, none⟩ = some (.int .i64 n) ∧ w.cell? ⟨T, 2, none⟩ = some (.string t) ∧ w.cell? ⟨T, 3, none⟩ = some (.string s)
theorem X2.dc {A B : (Nat → Prop) → World → Prop} {lo T : Nat} {w : World} {L : List (Nat × Obj)} {kd n : Int} {t s : ByteArray} (h : X2 A B lo w ((T, opO kd n t s) :: L)) : DcS T n t s w := by
  have hr := h.all _ List.mem_cons_self
  exact ⟨(cell_of_row _ _ 1 _ _ _ hr).trans rfl, (cell_of_row _ _ 2 _ _ _ hr).trans rfl, (cell_of_row _ _ 3 _ _ _ hr).trans rfl⟩
end Go.Proofs.Ytoidjapenompiaa

/-
  One call of both rings (gen_krdoes.py).
-/
namespace Go.Proofs.Ytoidjapenompiaa
open Go.RowKit Go.Proofs.ShaWords
theorem X2.drewDc {A B : (Nat → Prop) → World → Prop} {lo T : Nat} {w : World} {L : List (Nat × Obj)} {kd n : Int} {t s : ByteArray} (h : X2 A B lo w ((T, opO kd n t s) :: L)) : DcS T n t s w.drew := h.dc
theorem X2.drewK {A B : (Nat → Prop) → World → Prop} {lo : Nat} {w : World} {L : List (Nat × Obj)} (PA : Part A) (PB : Part B) (h : X2 A B lo w L) : X2 A B lo w.drew L := h.below PA PB ⟨rfl, rfl, rfl, Nat.le_refl _, fun _ _ => rfl⟩
def DoesP (lo r x : Nat) (l : List HoldK) (w : World) (e : Ending) (w' : World) : Prop := e = .returned (.bool true) ∧ ∃ l', l'.length ≤ l.length + 1 ∧ X2 (KrAt r l') (RrAt x l') lo w' [] ∧ Below lo w w'
set_option maxRecDepth 100000 in
set_option maxHeartbeats 4000000 in
theorem krDoes_any (lo r x : Nat) (l : List HoldK) (kd n : Int) (t s : ByteArray) (w : World) (h : X2 (KrAt r l) (RrAt x l) lo w []) (hlo : lo ≤ w.heap.size) (ht : t.size ≤ 140737488351232) (hs : s.size ≤ 140737488351232) (hn : wrap64 n = n) (hf : l.length + 1 < 1000000) :
    Calls Try.prog 9 #[.pointer (some ⟨r, 0, none⟩), .pointer (some ⟨x, 0, none⟩), .agg #[.int .i64 kd, .int .i64 n, .string t, .string s]] w (DoesP lo r x l w) := by
  have HT : Hid (t.size ≤ 281474976710656 ∧ s.size ≤ 281474976710656) := show _ ∧ _ from ⟨by omega, by omega⟩
  have HNW := Lib.hid hn
  have HF := Lib.hid hf
  have hba : Below w.heap.size w (w.alloc (opO kd n t s)) := (Below.refl _ _).alloc (Nat.le_refl _) _
  have hx1 : X2 (KrAt r l) (RrAt x l) lo (w.alloc (opO kd n t s)) [(w.heap.size, opO kd n t s)] := (h.add (KrAt.part _ _) (RrAt.part _ _) hba (L' := [(w.heap.size, opO kd n t s)]) (fun y hy => by rw [List.mem_singleton.1 hy]; exact ⟨Nat.le_refl _, heap_alloc_new _ _⟩)).fewer (by simp)
  have HX1 := Lib.hid hx1
  have HB1 := Lib.hid (hba.mono hlo)
  have HLO := Lib.hid hlo
  clear h hba hx1 ht hs hn hf hlo
  go_enter Try.func9, Try.ntmps9
  go_upto_region 1 with (fail)
  obtain ⟨W1, hW1⟩ : ∃ W1, w.alloc (opO kd n t s) = W1 := ⟨_, rfl⟩
  rw [hW1] at HX1 HB1 ⊢
  obtain ⟨T, hT⟩ : ∃ T, w.heap.size = T := ⟨_, rfl⟩
  rw [hT] at HX1 ⊢
  clear hW1 hT
  have hr0 := HX1.out.all _ List.mem_cons_self
  have c0 := (cell_of_row _ _ 0 _ _ _ hr0).trans (show _ = some (.int .i64 kd) from rfl)
  clear hr0
  go_wp2_with fail
  refine (pick_any kd 5 W1 (by omega) (by omega)).mono ?_
  rintro e w2 ⟨k, hk, rfl, rfl⟩
  clear c0
  have HX2 := Lib.hid HX1.out
  have HXD := Lib.hid (HX1.out.drewK (KrAt.part _ _) (RrAt.part _ _))
  have HBD : Hid (Below lo w W1.drew) := show Below _ _ _ from ⟨HB1.out.os, HB1.out.tape, HB1.out.output, HB1.out.size, HB1.out.block⟩
  have HFIN : Hid (∀ l' w', l'.length ≤ l.length + 1 → X2 (KrAt r l') (RrAt x l') lo w' [(T, opO kd n t s)] → Below lo w w' → DoesP lo r x l w (.returned (.bool true)) w') := show ∀ _ _, _ → _ → _ → _ from fun l' w' h1 h2 h3 => ⟨rfl, l', h1, h2.fewer (by simp), h3⟩
  clear HX1 HB1
  have h5 : (k = 0 ∨ k = 1) ∨ (k = 2 ∨ k = 3) ∨ k = 4 := by omega
  clear hk
  rcases h5 with h5 | h5 | rfl
  · rcases h5 with rfl | rfl
    all_goals
      go_upto_region 4 with (fail)
      refine region_phase (DcS T n t s) (fun _ => True) 99 (HX2.out.drewDc) trivial [(0, .free), (1, .free), (2, .free), (3, .free), (4, .free), (5, .free), (6, .free), (8, .free), (9, .free), (10, .free), (11, .free), (12, .free), (13, .free), (14, .free), (7, .behind), (15, .behind), (16, .free), (17, .free)] (by kernel_rfl) (by kernel_rfl) (by kernel_rfl) (by kernel_rfl) (fun ops hops A4 hA => ?_)
      have hsz : A4.tmps.size = 63 := by rw [hA]; rfl
      have base0 : A4.eval (.tmp 0) = .pointer (some ⟨r, 0, none⟩) := by rw [hA]; rfl
      have base1 : A4.eval (.tmp 1) = .pointer (some ⟨x, 0, none⟩) := by rw [hA]; rfl
      have base5 : A4.eval (.tmp 5) = .pointer (some ⟨T, 0, none⟩) := by rw [hA]; rfl
      have HAA := Lib.hid hA; clear hA
      obtain ⟨o0, po0, q0, d0, gd0⟩ : ∃ o, ops[0]? = some o ∧ o.op = .move (.tmp 0) ∧ o.dst = some 13 ∧ o.guard = none := ⟨_, by rw [hops]; rfl, rfl, rfl, rfl⟩
      obtain ⟨o1, po1, q1, d1, gd1⟩ : ∃ o, ops[1]? = some o ∧ o.op = .fieldAddr 31 (.tmp 5) 2 ∧ o.dst = some 14 ∧ o.guard = none := ⟨_, by rw [hops]; rfl, rfl, rfl, rfl⟩
      obtain ⟨o2, po2, q2, d2, gd2⟩ : ∃ o, ops[2]? = some o ∧ o.op = .load 9 (.tmp 14) ∧ o.dst = some 15 ∧ o.guard = none := ⟨_, by rw [hops]; rfl, rfl, rfl, rfl⟩
      obtain ⟨o3, po3, q3, d3, gd3⟩ : ∃ o, ops[3]? = some o ∧ o.op = .fieldAddr 31 (.tmp 5) 3 ∧ o.dst = some 16 ∧ o.guard = none := ⟨_, by rw [hops]; rfl, rfl, rfl, rfl⟩
      obtain ⟨o4, po4, q4, d4, gd4⟩ : ∃ o, ops[4]? = some o ∧ o.op = .load 9 (.tmp 16) ∧ o.dst = some 17 ∧ o.guard = none := ⟨_, by rw [hops]; rfl, rfl, rfl, rfl⟩
      obtain ⟨o5, po5, q5, d5, gd5⟩ : ∃ o, ops[5]? = some o ∧ o.op = .fieldAddr 31 (.tmp 5) 1 ∧ o.dst = some 18 ∧ o.guard = none := ⟨_, by rw [hops]; rfl, rfl, rfl, rfl⟩
      obtain ⟨o6, po6, q6, d6, gd6⟩ : ∃ o, ops[6]? = some o ∧ o.op = .load 3 (.tmp 18) ∧ o.dst = some 19 ∧ o.guard = none := ⟨_, by rw [hops]; rfl, rfl, rfl, rfl⟩
      obtain ⟨o7, po7, q7, d7, gd7⟩ : ∃ o, ops[7]? = some o ∧ o.op = .call { callee := .value (.func 14), args := #[.tmp 13, .tmp 15, .tmp 17, .tmp 19], argTypes := #[23, 9, 9, 3] } ∧ o.dst = some 20 ∧ o.guard = none := ⟨_, by rw [hops]; rfl, rfl, rfl, rfl⟩
      obtain ⟨o8, po8, q8, d8, gd8⟩ : ∃ o, ops[8]? = some o ∧ o.op = .move (.tmp 1) ∧ o.dst = some 21 ∧ o.guard = none := ⟨_, by rw [hops]; rfl, rfl, rfl, rfl⟩
      obtain ⟨o9, po9, q9, d9, gd9⟩ : ∃ o, ops[9]? = some o ∧ o.op = .fieldAddr 31 (.tmp 5) 2 ∧ o.dst = some 22 ∧ o.guard = none := ⟨_, by rw [hops]; rfl, rfl, rfl, rfl⟩
      obtain ⟨o10, po10, q10, d10, gd10⟩ : ∃ o, ops[10]? = some o ∧ o.op = .load 9 (.tmp 22) ∧ o.dst = some 23 ∧ o.guard = none := ⟨_, by rw [hops]; rfl, rfl, rfl, rfl⟩
      obtain ⟨o11, po11, q11, d11, gd11⟩ : ∃ o, ops[11]? = some o ∧ o.op = .fieldAddr 31 (.tmp 5) 3 ∧ o.dst = some 24 ∧ o.guard = none := ⟨_, by rw [hops]; rfl, rfl, rfl, rfl⟩
      obtain ⟨o12, po12, q12, d12, gd12⟩ : ∃ o, ops[12]? = some o ∧ o.op = .load 9 (.tmp 24) ∧ o.dst = some 25 ∧ o.guard = none := ⟨_, by rw [hops]; rfl, rfl, rfl, rfl⟩
      obtain ⟨o13, po13, q13, d13, gd13⟩ : ∃ o, ops[13]? = some o ∧ o.op = .fieldAddr 31 (.tmp 5) 1 ∧ o.dst = some 26 ∧ o.guard = none := ⟨_, by rw [hops]; rfl, rfl, rfl, rfl⟩
      obtain ⟨o14, po14, q14, d14, gd14⟩ : ∃ o, ops[14]? = some o ∧ o.op = .load 3 (.tmp 26) ∧ o.dst = some 27 ∧ o.guard = none := ⟨_, by rw [hops]; rfl, rfl, rfl, rfl⟩
      obtain ⟨o15, po15, q15, d15, gd15⟩ : ∃ o, ops[15]? = some o ∧ o.op = .call { callee := .value (.func 22), args := #[.tmp 21, .tmp 23, .tmp 25, .tmp 27], argTypes := #[25, 9, 9, 3] } ∧ o.dst = some 28 ∧ o.guard = none := ⟨_, by rw [hops]; rfl, rfl, rfl, rfl⟩
      obtain ⟨o16, po16, q16, d16, gd16⟩ : ∃ o, ops[16]? = some o ∧ o.op = .binOp .eql 38 (.tmp 20) (.tmp 28) 38 ∧ o.dst = some 29 ∧ o.guard = none := ⟨_, by rw [hops]; rfl, rfl, rfl, rfl⟩
      obtain ⟨o17, po17, q17, d17, gd17⟩ : ∃ o, ops[17]? = some o ∧ o.op = .assign (.tmp 29) ∧ o.dst = some 6 ∧ o.guard = none := ⟨_, by rw [hops]; rfl, rfl, rfl, rfl⟩
      clear hops
      refine met_free po0 d0 (wanted_of gd0) (fun w' h' => run_move q0 base0 w') ?_
      refine met_free po1 d1 (wanted_of gd1) (fun w' h' => run_fieldT (off := 2) q1 (fun _ => by kernel_rfl) ((eval_other _ 13 5 _ (by decide)).trans base5) w') ?_
      refine met_free po2 d2 (wanted_of gd2) (fun w' h' => run_loadStr q2 (eval_same _ _ _ (by simp only [put_size, hsz]; decide)) h'.2.1) ?_
      refine met_free po3 d3 (wanted_of gd3) (fun w' h' => run_fieldT (off := 3) q3 (fun _ => by kernel_rfl) ((eval_other _ 15 5 _ (by decide)).trans ((eval_other _ 14 5 _ (by decide)).trans ((eval_other _ 13 5 _ (by decide)).trans base5))) w') ?_
      refine met_free po4 d4 (wanted_of gd4) (fun w' h' => run_loadStr q4 (eval_same _ _ _ (by simp only [put_size, hsz]; decide)) h'.2.2) ?_
      refine met_free po5 d5 (wanted_of gd5) (fun w' h' => run_fieldT (off := 1) q5 (fun _ => by kernel_rfl) ((eval_other _ 17 5 _ (by decide)).trans ((eval_other _ 16 5 _ (by decide)).trans ((eval_other _ 15 5 _ (by decide)).trans ((eval_other _ 14 5 _ (by decide)).trans ((eval_other _ 13 5 _ (by decide)).trans base5))))) w') ?_
      refine met_free po6 d6 (wanted_of gd6) (fun w' h' => run_loadIntK q6 (eval_same _ _ _ (by simp only [put_size, hsz]; decide)) h'.1) ?_
      refine met_free po8 d8 (wanted_of gd8) (fun w' h' => run_move q8 ((eval_other _ 19 1 _ (by decide)).trans ((eval_other _ 18 1 _ (by decide)).trans ((eval_other _ 17 1 _ (by decide)).trans ((eval_other _ 16 1 _ (by decide)).trans ((eval_other _ 15 1 _ (by decide)).trans ((eval_other _ 14 1 _ (by decide)).trans ((eval_other _ 13 1 _ (by decide)).trans base1))))))) w') ?_
      refine met_free po9 d9 (wanted_of gd9) (fun w' h' => run_fieldT (off := 2) q9 (fun _ => by kernel_rfl) ((eval_other _ 21 5 _ (by decide)).trans ((eval_other _ 19 5 _ (by decide)).trans ((eval_other _ 18 5 _ (by decide)).trans ((eval_other _ 17 5 _ (by decide)).trans ((eval_other _ 16 5 _ (by decide)).trans ((eval_other _ 15 5 _ (by decide)).trans ((eval_other _ 14 5 _ (by decide)).trans ((eval_other _ 13 5 _ (by decide)).trans base5)))))))) w') ?_
      refine met_free po10 d10 (wanted_of gd10) (fun w' h' => run_loadStr q10 (eval_same _ _ _ (by simp only [put_size, hsz]; decide)) h'.2.1) ?_
      refine met_free po11 d11 (wanted_of gd11) (fun w' h' => run_fieldT (off := 3) q11 (fun _ => by kernel_rfl) ((eval_other _ 23 5 _ (by decide)).trans ((eval_other _ 22 5 _ (by decide)).trans ((eval_other _ 21 5 _ (by decide)).trans ((eval_other _ 19 5 _ (by decide)).trans ((eval_other _ 18 5 _ (by decide)).trans ((eval_other _ 17 5 _ (by decide)).trans ((eval_other _ 16 5 _ (by decide)).trans ((eval_other _ 15 5 _ (by decide)).trans ((eval_other _ 14 5 _ (by decide)).trans ((eval_other _ 13 5 _ (by decide)).trans base5)))))))))) w') ?_
      refine met_free po12 d12 (wanted_of gd12) (fun w' h' => run_loadStr q12 (eval_same _ _ _ (by simp only [put_size, hsz]; decide)) h'.2.2) ?_
      refine met_free po13 d13 (wanted_of gd13) (fun w' h' => run_fieldT (off := 1) q13 (fun _ => by kernel_rfl) ((eval_other _ 25 5 _ (by decide)).trans ((eval_other _ 24 5 _ (by decide)).trans ((eval_other _ 23 5 _ (by decide)).trans ((eval_other _ 22 5 _ (by decide)).trans ((eval_other _ 21 5 _ (by decide)).trans ((eval_other _ 19 5 _ (by decide)).trans ((eval_other _ 18 5 _ (by decide)).trans ((eval_other _ 17 5 _ (by decide)).trans ((eval_other _ 16 5 _ (by decide)).trans ((eval_other _ 15 5 _ (by decide)).trans ((eval_other _ 14 5 _ (by decide)).trans ((eval_other _ 13 5 _ (by decide)).trans base5)))))))))))) w') ?_
      refine met_free po14 d14 (wanted_of gd14) (fun w' h' => run_loadIntK q14 (eval_same _ _ _ (by simp only [put_size, hsz]; decide)) h'.1) ?_
      refine m_enter po7 d7 (wanted_of gd7) (run_callf4 q7 rfl ((eval_other _ 27 13 _ (by decide)).trans ((eval_other _ 26 13 _ (by decide)).trans ((eval_other _ 25 13 _ (by decide)).trans ((eval_other _ 24 13 _ (by decide)).trans ((eval_other _ 23 13 _ (by decide)).trans ((eval_other _ 22 13 _ (by decide)).trans ((eval_other _ 21 13 _ (by decide)).trans ((eval_other _ 19 13 _ (by decide)).trans ((eval_other _ 18 13 _ (by decide)).trans ((eval_other _ 17 13 _ (by decide)).trans ((eval_other _ 16 13 _ (by decide)).trans ((eval_other _ 15 13 _ (by decide)).trans ((eval_other _ 14 13 _ (by decide)).trans (eval_same _ _ _ (by rw [hsz]; decide))))))))))))))) ((eval_other _ 27 15 _ (by decide)).trans ((eval_other _ 26 15 _ (by decide)).trans ((eval_other _ 25 15 _ (by decide)).trans ((eval_other _ 24 15 _ (by decide)).trans ((eval_other _ 23 15 _ (by decide)).trans ((eval_other _ 22 15 _ (by decide)).trans ((eval_other _ 21 15 _ (by decide)).trans ((eval_other _ 19 15 _ (by decide)).trans ((eval_other _ 18 15 _ (by decide)).trans ((eval_other _ 17 15 _ (by decide)).trans ((eval_other _ 16 15 _ (by decide)).trans (eval_same _ _ _ (by simp only [put_size, hsz]; decide))))))))))))) ((eval_other _ 27 17 _ (by decide)).trans ((eval_other _ 26 17 _ (by decide)).trans ((eval_other _ 25 17 _ (by decide)).trans ((eval_other _ 24 17 _ (by decide)).trans ((eval_other _ 23 17 _ (by decide)).trans ((eval_other _ 22 17 _ (by decide)).trans ((eval_other _ 21 17 _ (by decide)).trans ((eval_other _ 19 17 _ (by decide)).trans ((eval_other _ 18 17 _ (by decide)).trans (eval_same _ _ _ (by simp only [put_size, hsz]; decide))))))))))) ((eval_other _ 27 19 _ (by decide)).trans ((eval_other _ 26 19 _ (by decide)).trans ((eval_other _ 25 19 _ (by decide)).trans ((eval_other _ 24 19 _ (by decide)).trans ((eval_other _ 23 19 _ (by decide)).trans ((eval_other _ 22 19 _ (by decide)).trans ((eval_other _ 21 19 _ (by decide)).trans (eval_same _ _ _ (by simp only [put_size, hsz]; decide))))))))) Try.func14 (by kernel_rfl) _) (HXD.out.krMake (RrAt.part x _) (Nat.le_trans HLO.out HBD.out.size) t s n HT.out.1 HT.out.2 HF.out) ?_
      rintro e w3 ⟨rfl, hx3, hb3⟩
      have HX3 := Lib.hid hx3
      have HB3 := Lib.hid (HBD.out.trans hb3)
      clear hx3 hb3
      refine ⟨_, rfl, HX3.out.dc, ?_⟩
      refine m_enter po15 d15 (wanted_of gd15) (run_callf4 q15 rfl ((eval_other _ 20 21 _ (by decide)).trans ((eval_other _ 27 21 _ (by decide)).trans ((eval_other _ 26 21 _ (by decide)).trans ((eval_other _ 25 21 _ (by decide)).trans ((eval_other _ 24 21 _ (by decide)).trans ((eval_other _ 23 21 _ (by decide)).trans ((eval_other _ 22 21 _ (by decide)).trans (eval_same _ _ _ (by simp only [put_size, hsz]; decide))))))))) ((eval_other _ 20 23 _ (by decide)).trans ((eval_other _ 27 23 _ (by decide)).trans ((eval_other _ 26 23 _ (by decide)).trans ((eval_other _ 25 23 _ (by decide)).trans ((eval_other _ 24 23 _ (by decide)).trans (eval_same _ _ _ (by simp only [put_size, hsz]; decide))))))) ((eval_other _ 20 25 _ (by decide)).trans ((eval_other _ 27 25 _ (by decide)).trans ((eval_other _ 26 25 _ (by decide)).trans (eval_same _ _ _ (by simp only [put_size, hsz]; decide))))) ((eval_other _ 20 27 _ (by decide)).trans (eval_same _ _ _ (by simp only [put_size, hsz]; decide))) Try.func22 (by kernel_rfl) _) (HX3.out.rrMake (KrAt.part r _) (Nat.le_trans HLO.out HB3.out.size) t s n HT.out.1 HT.out.2 HF.out) ?_
      rintro e w4 ⟨rfl, hx4, hb4⟩
      have HX4 := Lib.hid hx4
      have HB4 := Lib.hid (HB3.out.trans hb4)
      clear hx4 hb4
      refine ⟨_, rfl, HX4.out.dc, ?_⟩
      refine met_free po16 d16 (wanted_of gd16) (fun w' h' => run_eqErrK q16 ((eval_other _ 28 20 _ (by decide)).trans (eval_same _ _ _ (by simp only [put_size, hsz]; decide))) (eval_same _ _ _ (by simp only [put_size, hsz]; decide)) w') ?_
      refine met_free po17 d17 (wanted_of gd17) (fun w' h' => run_assign q17 (eval_same _ _ _ (by simp only [put_size, hsz]; decide)) w') ?_
      show NoPanic _ .normal _ _
      refine NoPanic.normal ?_
      rw [HAA.out]
      go_frame
      clear HAA
      clear po0 q0 d0 gd0 po1 q1 d1 gd1 po2 q2 d2 gd2 po3 q3 d3 gd3 po4 q4 d4 gd4 po5 q5 d5 gd5 po6 q6 d6 gd6 po7 q7 d7 gd7 po8 q8 d8 gd8 po9 q9 d9 gd9 po10 q10 d10 gd10 po11 q11 d11 gd11 po12 q12 d12 gd12 po13 q13 d13 gd13 po14 q14 d14 gd14 po15 q15 d15 gd15 po16 q16 d16 gd16 po17 q17 d17 gd17
      clear base0 base1 base5 hsz

      go_wp2_with fail
      go_ret
      exact HFIN.out _ _ (makeK_length l t s n) HX4.out HB4.out
  · rcases h5 with rfl | rfl
    all_goals
      go_upto_region 7 with (fail)
      refine region_phase (DcS T n t s) (fun _ => True) 99 (HX2.out.drewDc) trivial [(0, .free), (1, .free), (2, .free), (3, .free), (4, .free), (5, .free), (6, .free), (8, .free), (9, .free), (10, .free), (11, .free), (12, .free), (13, .free), (14, .free), (7, .behind), (15, .behind), (16, .free), (17, .free)] (by kernel_rfl) (by kernel_rfl) (by kernel_rfl) (by kernel_rfl) (fun ops hops A7 hA => ?_)
      have hsz : A7.tmps.size = 63 := by rw [hA]; rfl
      have base0 : A7.eval (.tmp 0) = .pointer (some ⟨r, 0, none⟩) := by rw [hA]; rfl
      have base1 : A7.eval (.tmp 1) = .pointer (some ⟨x, 0, none⟩) := by rw [hA]; rfl
      have base5 : A7.eval (.tmp 5) = .pointer (some ⟨T, 0, none⟩) := by rw [hA]; rfl
      have HAA := Lib.hid hA; clear hA
      obtain ⟨o0, po0, q0, d0, gd0⟩ : ∃ o, ops[0]? = some o ∧ o.op = .move (.tmp 0) ∧ o.dst = some 33 ∧ o.guard = none := ⟨_, by rw [hops]; rfl, rfl, rfl, rfl⟩
      obtain ⟨o1, po1, q1, d1, gd1⟩ : ∃ o, ops[1]? = some o ∧ o.op = .fieldAddr 31 (.tmp 5) 2 ∧ o.dst = some 34 ∧ o.guard = none := ⟨_, by rw [hops]; rfl, rfl, rfl, rfl⟩
      obtain ⟨o2, po2, q2, d2, gd2⟩ : ∃ o, ops[2]? = some o ∧ o.op = .load 9 (.tmp 34) ∧ o.dst = some 35 ∧ o.guard = none := ⟨_, by rw [hops]; rfl, rfl, rfl, rfl⟩
      obtain ⟨o3, po3, q3, d3, gd3⟩ : ∃ o, ops[3]? = some o ∧ o.op = .fieldAddr 31 (.tmp 5) 3 ∧ o.dst = some 36 ∧ o.guard = none := ⟨_, by rw [hops]; rfl, rfl, rfl, rfl⟩
      obtain ⟨o4, po4, q4, d4, gd4⟩ : ∃ o, ops[4]? = some o ∧ o.op = .load 9 (.tmp 36) ∧ o.dst = some 37 ∧ o.guard = none := ⟨_, by rw [hops]; rfl, rfl, rfl, rfl⟩
      obtain ⟨o5, po5, q5, d5, gd5⟩ : ∃ o, ops[5]? = some o ∧ o.op = .fieldAddr 31 (.tmp 5) 1 ∧ o.dst = some 38 ∧ o.guard = none := ⟨_, by rw [hops]; rfl, rfl, rfl, rfl⟩
      obtain ⟨o6, po6, q6, d6, gd6⟩ : ∃ o, ops[6]? = some o ∧ o.op = .load 3 (.tmp 38) ∧ o.dst = some 39 ∧ o.guard = none := ⟨_, by rw [hops]; rfl, rfl, rfl, rfl⟩
      obtain ⟨o7, po7, q7, d7, gd7⟩ : ∃ o, ops[7]? = some o ∧ o.op = .call { callee := .value (.func 17), args := #[.tmp 33, .tmp 35, .tmp 37, .tmp 39], argTypes := #[23, 9, 9, 3] } ∧ o.dst = some 40 ∧ o.guard = none := ⟨_, by rw [hops]; rfl, rfl, rfl, rfl⟩
      obtain ⟨o8, po8, q8, d8, gd8⟩ : ∃ o, ops[8]? = some o ∧ o.op = .move (.tmp 1) ∧ o.dst = some 41 ∧ o.guard = none := ⟨_, by rw [hops]; rfl, rfl, rfl, rfl⟩
      obtain ⟨o9, po9, q9, d9, gd9⟩ : ∃ o, ops[9]? = some o ∧ o.op = .fieldAddr 31 (.tmp 5) 2 ∧ o.dst = some 42 ∧ o.guard = none := ⟨_, by rw [hops]; rfl, rfl, rfl, rfl⟩
      obtain ⟨o10, po10, q10, d10, gd10⟩ : ∃ o, ops[10]? = some o ∧ o.op = .load 9 (.tmp 42) ∧ o.dst = some 43 ∧ o.guard = none := ⟨_, by rw [hops]; rfl, rfl, rfl, rfl⟩
      obtain ⟨o11, po11, q11, d11, gd11⟩ : ∃ o, ops[11]? = some o ∧ o.op = .fieldAddr 31 (.tmp 5) 3 ∧ o.dst = some 44 ∧ o.guard = none := ⟨_, by rw [hops]; rfl, rfl, rfl, rfl⟩
      obtain ⟨o12, po12, q12, d12, gd12⟩ : ∃ o, ops[12]? = some o ∧ o.op = .load 9 (.tmp 44) ∧ o.dst = some 45 ∧ o.guard = none := ⟨_, by rw [hops]; rfl, rfl, rfl, rfl⟩
      obtain ⟨o13, po13, q13, d13, gd13⟩ : ∃ o, ops[13]? = some o ∧ o.op = .fieldAddr 31 (.tmp 5) 1 ∧ o.dst = some 46 ∧ o.guard = none := ⟨_, by rw [hops]; rfl, rfl, rfl, rfl⟩
      obtain ⟨o14, po14, q14, d14, gd14⟩ : ∃ o, ops[14]? = some o ∧ o.op = .load 3 (.tmp 46) ∧ o.dst = some 47 ∧ o.guard = none := ⟨_, by rw [hops]; rfl, rfl, rfl, rfl⟩
      obtain ⟨o15, po15, q15, d15, gd15⟩ : ∃ o, ops[15]? = some o ∧ o.op = .call { callee := .value (.func 23), args := #[.tmp 41, .tmp 43, .tmp 45, .tmp 47], argTypes := #[25, 9, 9, 3] } ∧ o.dst = some 48 ∧ o.guard = none := ⟨_, by rw [hops]; rfl, rfl, rfl, rfl⟩
      obtain ⟨o16, po16, q16, d16, gd16⟩ : ∃ o, ops[16]? = some o ∧ o.op = .binOp .eql 38 (.tmp 40) (.tmp 48) 38 ∧ o.dst = some 49 ∧ o.guard = none := ⟨_, by rw [hops]; rfl, rfl, rfl, rfl⟩
      obtain ⟨o17, po17, q17, d17, gd17⟩ : ∃ o, ops[17]? = some o ∧ o.op = .assign (.tmp 49) ∧ o.dst = some 6 ∧ o.guard = none := ⟨_, by rw [hops]; rfl, rfl, rfl, rfl⟩
      clear hops
      refine met_free po0 d0 (wanted_of gd0) (fun w' h' => run_move q0 base0 w') ?_
      refine met_free po1 d1 (wanted_of gd1) (fun w' h' => run_fieldT (off := 2) q1 (fun _ => by kernel_rfl) ((eval_other _ 33 5 _ (by decide)).trans base5) w') ?_
      refine met_free po2 d2 (wanted_of gd2) (fun w' h' => run_loadStr q2 (eval_same _ _ _ (by simp only [put_size, hsz]; decide)) h'.2.1) ?_
      refine met_free po3 d3 (wanted_of gd3) (fun w' h' => run_fieldT (off := 3) q3 (fun _ => by kernel_rfl) ((eval_other _ 35 5 _ (by decide)).trans ((eval_other _ 34 5 _ (by decide)).trans ((eval_other _ 33 5 _ (by decide)).trans base5))) w') ?_
      refine met_free po4 d4 (wanted_of gd4) (fun w' h' => run_loadStr q4 (eval_same _ _ _ (by simp only [put_size, hsz]; decide)) h'.2.2) ?_
      refine met_free po5 d5 (wanted_of gd5) (fun w' h' => run_fieldT (off := 1) q5 (fun _ => by kernel_rfl) ((eval_other _ 37 5 _ (by decide)).trans ((eval_other _ 36 5 _ (by decide)).trans ((eval_other _ 35 5 _ (by decide)).trans ((eval_other _ 34 5 _ (by decide)).trans ((eval_other _ 33 5 _ (by decide)).trans base5))))) w') ?_
      refine met_free po6 d6 (wanted_of gd6) (fun w' h' => run_loadIntK q6 (eval_same _ _ _ (by simp only [put_size, hsz]; decide)) h'.1) ?_
      refine met_free po8 d8 (wanted_of gd8) (fun w' h' => run_move q8 ((eval_other _ 39 1 _ (by decide)).trans ((eval_other _ 38 1 _ (by decide)).trans ((eval_other _ 37 1 _ (by decide)).trans ((eval_other _ 36 1 _ (by decide)).trans ((eval_other _ 35 1 _ (by decide)).trans ((eval_other _ 34 1 _ (by decide)).trans ((eval_other _ 33 1 _ (by decide)).trans base1))))))) w') ?_
      refine met_free po9 d9 (wanted_of gd9) (fun w' h' => run_fieldT (off := 2) q9 (fun _ => by kernel_rfl) ((eval_other _ 41 5 _ (by decide)).trans ((eval_other _ 39 5 _ (by decide)).trans ((eval_other _ 38 5 _ (by decide)).trans ((eval_other _ 37 5 _ (by decide)).trans ((eval_other _ 36 5 _ (by decide)).trans ((eval_other _ 35 5 _ (by decide)).trans ((eval_other _ 34 5 _ (by decide)).trans ((eval_other _ 33 5 _ (by decide)).trans base5)))))))) w') ?_
      refine met_free po10 d10 (wanted_of gd10) (fun w' h' => run_loadStr q10 (eval_same _ _ _ (by simp only [put_size, hsz]; decide)) h'.2.1) ?_
      refine met_free po11 d11 (wanted_of gd11) (fun w' h' => run_fieldT (off := 3) q11 (fun _ => by kernel_rfl) ((eval_other _ 43 5 _ (by decide)).trans ((eval_other _ 42 5 _ (by decide)).trans ((eval_other _ 41 5 _ (by decide)).trans ((eval_other _ 39 5 _ (by decide)).trans ((eval_other _ 38 5 _ (by decide)).trans ((eval_other _ 37 5 _ (by decide)).trans ((eval_other _ 36 5 _ (by decide)).trans ((eval_other _ 35 5 _ (by decide)).trans ((eval_other _ 34 5 _ (by decide)).trans ((eval_other _ 33 5 _ (by decide)).trans base5)))))))))) w') ?_
      refine met_free po12 d12 (wanted_of gd12) (fun w' h' => run_loadStr q12 (eval_same _ _ _ (by simp only [put_size, hsz]; decide)) h'.2.2) ?_
      refine met_free po13 d13 (wanted_of gd13) (fun w' h' => run_fieldT (off := 1) q13 (fun _ => by kernel_rfl) ((eval_other _ 45 5 _ (by decide)).trans ((eval_other _ 44 5 _ (by decide)).trans ((eval_other _ 43 5 _ (by decide)).trans ((eval_other _ 42 5 _ (by decide)).trans ((eval_other _ 41 5 _ (by decide)).trans ((eval_other _ 39 5 _ (by decide)).trans ((eval_other _ 38 5 _ (by decide)).trans ((eval_other _ 37 5 _ (by decide)).trans ((eval_other _ 36 5 _ (by decide)).trans ((eval_other _ 35 5 _ (by decide)).trans ((eval_other _ 34 5 _ (by decide)).trans ((eval_other _ 33 5 _ (by decide)).trans base5)))))))))))) w') ?_
      refine met_free po14 d14 (wanted_of gd14) (fun w' h' => run_loadIntK q14 (eval_same _ _ _ (by simp only [put_size, hsz]; decide)) h'.1) ?_
      refine m_enter po7 d7 (wanted_of gd7) (run_callf4 q7 rfl ((eval_other _ 47 33 _ (by decide)).trans ((eval_other _ 46 33 _ (by decide)).trans ((eval_other _ 45 33 _ (by decide)).trans ((eval_other _ 44 33 _ (by decide)).trans ((eval_other _ 43 33 _ (by decide)).trans ((eval_other _ 42 33 _ (by decide)).trans ((eval_other _ 41 33 _ (by decide)).trans ((eval_other _ 39 33 _ (by decide)).trans ((eval_other _ 38 33 _ (by decide)).trans ((eval_other _ 37 33 _ (by decide)).trans ((eval_other _ 36 33 _ (by decide)).trans ((eval_other _ 35 33 _ (by decide)).trans ((eval_other _ 34 33 _ (by decide)).trans (eval_same _ _ _ (by rw [hsz]; decide))))))))))))))) ((eval_other _ 47 35 _ (by decide)).trans ((eval_other _ 46 35 _ (by decide)).trans ((eval_other _ 45 35 _ (by decide)).trans ((eval_other _ 44 35 _ (by decide)).trans ((eval_other _ 43 35 _ (by decide)).trans ((eval_other _ 42 35 _ (by decide)).trans ((eval_other _ 41 35 _ (by decide)).trans ((eval_other _ 39 35 _ (by decide)).trans ((eval_other _ 38 35 _ (by decide)).trans ((eval_other _ 37 35 _ (by decide)).trans ((eval_other _ 36 35 _ (by decide)).trans (eval_same _ _ _ (by simp only [put_size, hsz]; decide))))))))))))) ((eval_other _ 47 37 _ (by decide)).trans ((eval_other _ 46 37 _ (by decide)).trans ((eval_other _ 45 37 _ (by decide)).trans ((eval_other _ 44 37 _ (by decide)).trans ((eval_other _ 43 37 _ (by decide)).trans ((eval_other _ 42 37 _ (by decide)).trans ((eval_other _ 41 37 _ (by decide)).trans ((eval_other _ 39 37 _ (by decide)).trans ((eval_other _ 38 37 _ (by decide)).trans (eval_same _ _ _ (by simp only [put_size, hsz]; decide))))))))))) ((eval_other _ 47 39 _ (by decide)).trans ((eval_other _ 46 39 _ (by decide)).trans ((eval_other _ 45 39 _ (by decide)).trans ((eval_other _ 44 39 _ (by decide)).trans ((eval_other _ 43 39 _ (by decide)).trans ((eval_other _ 42 39 _ (by decide)).trans ((eval_other _ 41 39 _ (by decide)).trans (eval_same _ _ _ (by simp only [put_size, hsz]; decide))))))))) Try.func17 (by kernel_rfl) _) (HXD.out.krUse (RrAt.part x _) (Nat.le_trans HLO.out HBD.out.size) t s n HT.out.1 HT.out.2 HNW.out) ?_
      rintro e w3 ⟨rfl, hx3, hb3⟩
      have HX3 := Lib.hid hx3
      have HB3 := Lib.hid (HBD.out.trans hb3)
      clear hx3 hb3
      refine ⟨_, rfl, HX3.out.dc, ?_⟩
      refine m_enter po15 d15 (wanted_of gd15) (run_callf4 q15 rfl ((eval_other _ 40 41 _ (by decide)).trans ((eval_other _ 47 41 _ (by decide)).trans ((eval_other _ 46 41 _ (by decide)).trans ((eval_other _ 45 41 _ (by decide)).trans ((eval_other _ 44 41 _ (by decide)).trans ((eval_other _ 43 41 _ (by decide)).trans ((eval_other _ 42 41 _ (by decide)).trans (eval_same _ _ _ (by simp only [put_size, hsz]; decide))))))))) ((eval_other _ 40 43 _ (by decide)).trans ((eval_other _ 47 43 _ (by decide)).trans ((eval_other _ 46 43 _ (by decide)).trans ((eval_other _ 45 43 _ (by decide)).trans ((eval_other _ 44 43 _ (by decide)).trans (eval_same _ _ _ (by simp only [put_size, hsz]; decide))))))) ((eval_other _ 40 45 _ (by decide)).trans ((eval_other _ 47 45 _ (by decide)).trans ((eval_other _ 46 45 _ (by decide)).trans (eval_same _ _ _ (by simp only [put_size, hsz]; decide))))) ((eval_other _ 40 47 _ (by decide)).trans (eval_same _ _ _ (by simp only [put_size, hsz]; decide))) Try.func23 (by kernel_rfl) _) (HX3.out.rrUse (KrAt.part r _) (Nat.le_trans HLO.out HB3.out.size) t s n ) ?_
      rintro e w4 ⟨rfl, hx4, hb4⟩
      have HX4 := Lib.hid hx4
      have HB4 := Lib.hid (HB3.out.trans hb4)
      clear hx4 hb4
      refine ⟨_, rfl, HX4.out.dc, ?_⟩
      refine met_free po16 d16 (wanted_of gd16) (fun w' h' => run_eqErrK q16 ((eval_other _ 48 40 _ (by decide)).trans (eval_same _ _ _ (by simp only [put_size, hsz]; decide))) (eval_same _ _ _ (by simp only [put_size, hsz]; decide)) w') ?_
      refine met_free po17 d17 (wanted_of gd17) (fun w' h' => run_assign q17 (eval_same _ _ _ (by simp only [put_size, hsz]; decide)) w') ?_
      show NoPanic _ .normal _ _
      refine NoPanic.normal ?_
      rw [HAA.out]
      go_frame
      clear HAA
      clear po0 q0 d0 gd0 po1 q1 d1 gd1 po2 q2 d2 gd2 po3 q3 d3 gd3 po4 q4 d4 gd4 po5 q5 d5 gd5 po6 q6 d6 gd6 po7 q7 d7 gd7 po8 q8 d8 gd8 po9 q9 d9 gd9 po10 q10 d10 gd10 po11 q11 d11 gd11 po12 q12 d12 gd12 po13 q13 d13 gd13 po14 q14 d14 gd14 po15 q15 d15 gd15 po16 q16 d16 gd16 po17 q17 d17 gd17
      clear base0 base1 base5 hsz

      go_wp2_with fail
      go_ret
      exact HFIN.out _ _ (by rw [useK_length]; omega) HX4.out HB4.out
  · go_upto_region 8 with (fail)
    refine region_phase (DcS T n t s) (fun _ => True) 99 (HX2.out.drewDc) trivial [(0, .free), (1, .free), (2, .free), (3, .free), (4, .free), (6, .free), (7, .free), (8, .free), (9, .free), (10, .free), (5, .behind), (11, .behind), (12, .free), (13, .free)] (by kernel_rfl) (by kernel_rfl) (by kernel_rfl) (by kernel_rfl) (fun ops hops A8 hA => ?_)
    have hsz : A8.tmps.size = 63 := by rw [hA]; rfl
    have base0 : A8.eval (.tmp 0) = .pointer (some ⟨r, 0, none⟩) := by rw [hA]; rfl
    have base1 : A8.eval (.tmp 1) = .pointer (some ⟨x, 0, none⟩) := by rw [hA]; rfl
    have base5 : A8.eval (.tmp 5) = .pointer (some ⟨T, 0, none⟩) := by rw [hA]; rfl
    have HAA := Lib.hid hA; clear hA
    obtain ⟨o0, po0, q0, d0, gd0⟩ : ∃ o, ops[0]? = some o ∧ o.op = .move (.tmp 0) ∧ o.dst = some 50 ∧ o.guard = none := ⟨_, by rw [hops]; rfl, rfl, rfl, rfl⟩
    obtain ⟨o1, po1, q1, d1, gd1⟩ : ∃ o, ops[1]? = some o ∧ o.op = .fieldAddr 31 (.tmp 5) 2 ∧ o.dst = some 51 ∧ o.guard = none := ⟨_, by rw [hops]; rfl, rfl, rfl, rfl⟩
    obtain ⟨o2, po2, q2, d2, gd2⟩ : ∃ o, ops[2]? = some o ∧ o.op = .load 9 (.tmp 51) ∧ o.dst = some 52 ∧ o.guard = none := ⟨_, by rw [hops]; rfl, rfl, rfl, rfl⟩
    obtain ⟨o3, po3, q3, d3, gd3⟩ : ∃ o, ops[3]? = some o ∧ o.op = .fieldAddr 31 (.tmp 5) 3 ∧ o.dst = some 53 ∧ o.guard = none := ⟨_, by rw [hops]; rfl, rfl, rfl, rfl⟩
    obtain ⟨o4, po4, q4, d4, gd4⟩ : ∃ o, ops[4]? = some o ∧ o.op = .load 9 (.tmp 53) ∧ o.dst = some 54 ∧ o.guard = none := ⟨_, by rw [hops]; rfl, rfl, rfl, rfl⟩
    obtain ⟨o5, po5, q5, d5, gd5⟩ : ∃ o, ops[5]? = some o ∧ o.op = .call { callee := .value (.func 15), args := #[.tmp 50, .tmp 52, .tmp 54], argTypes := #[23, 9, 9] } ∧ o.dst = some 55 ∧ o.guard = none := ⟨_, by rw [hops]; rfl, rfl, rfl, rfl⟩
    obtain ⟨o6, po6, q6, d6, gd6⟩ : ∃ o, ops[6]? = some o ∧ o.op = .move (.tmp 1) ∧ o.dst = some 56 ∧ o.guard = none := ⟨_, by rw [hops]; rfl, rfl, rfl, rfl⟩
    obtain ⟨o7, po7, q7, d7, gd7⟩ : ∃ o, ops[7]? = some o ∧ o.op = .fieldAddr 31 (.tmp 5) 2 ∧ o.dst = some 57 ∧ o.guard = none := ⟨_, by rw [hops]; rfl, rfl, rfl, rfl⟩
    obtain ⟨o8, po8, q8, d8, gd8⟩ : ∃ o, ops[8]? = some o ∧ o.op = .load 9 (.tmp 57) ∧ o.dst = some 58 ∧ o.guard = none := ⟨_, by rw [hops]; rfl, rfl, rfl, rfl⟩
    obtain ⟨o9, po9, q9, d9, gd9⟩ : ∃ o, ops[9]? = some o ∧ o.op = .fieldAddr 31 (.tmp 5) 3 ∧ o.dst = some 59 ∧ o.guard = none := ⟨_, by rw [hops]; rfl, rfl, rfl, rfl⟩
    obtain ⟨o10, po10, q10, d10, gd10⟩ : ∃ o, ops[10]? = some o ∧ o.op = .load 9 (.tmp 59) ∧ o.dst = some 60 ∧ o.guard = none := ⟨_, by rw [hops]; rfl, rfl, rfl, rfl⟩
    obtain ⟨o11, po11, q11, d11, gd11⟩ : ∃ o, ops[11]? = some o ∧ o.op = .call { callee := .value (.func 24), args := #[.tmp 56, .tmp 58, .tmp 60], argTypes := #[25, 9, 9] } ∧ o.dst = some 61 ∧ o.guard = none := ⟨_, by rw [hops]; rfl, rfl, rfl, rfl⟩
    obtain ⟨o12, po12, q12, d12, gd12⟩ : ∃ o, ops[12]? = some o ∧ o.op = .binOp .eql 38 (.tmp 55) (.tmp 61) 38 ∧ o.dst = some 62 ∧ o.guard = none := ⟨_, by rw [hops]; rfl, rfl, rfl, rfl⟩
    obtain ⟨o13, po13, q13, d13, gd13⟩ : ∃ o, ops[13]? = some o ∧ o.op = .assign (.tmp 62) ∧ o.dst = some 6 ∧ o.guard = none := ⟨_, by rw [hops]; rfl, rfl, rfl, rfl⟩
    clear hops
    refine met_free po0 d0 (wanted_of gd0) (fun w' h' => run_move q0 base0 w') ?_
    refine met_free po1 d1 (wanted_of gd1) (fun w' h' => run_fieldT (off := 2) q1 (fun _ => by kernel_rfl) ((eval_other _ 50 5 _ (by decide)).trans base5) w') ?_
    refine met_free po2 d2 (wanted_of gd2) (fun w' h' => run_loadStr q2 (eval_same _ _ _ (by simp only [put_size, hsz]; decide)) h'.2.1) ?_
    refine met_free po3 d3 (wanted_of gd3) (fun w' h' => run_fieldT (off := 3) q3 (fun _ => by kernel_rfl) ((eval_other _ 52 5 _ (by decide)).trans ((eval_other _ 51 5 _ (by decide)).trans ((eval_other _ 50 5 _ (by decide)).trans base5))) w') ?_
    refine met_free po4 d4 (wanted_of gd4) (fun w' h' => run_loadStr q4 (eval_same _ _ _ (by simp only [put_size, hsz]; decide)) h'.2.2) ?_
    refine met_free po6 d6 (wanted_of gd6) (fun w' h' => run_move q6 ((eval_other _ 54 1 _ (by decide)).trans ((eval_other _ 53 1 _ (by decide)).trans ((eval_other _ 52 1 _ (by decide)).trans ((eval_other _ 51 1 _ (by decide)).trans ((eval_other _ 50 1 _ (by decide)).trans base1))))) w') ?_
    refine met_free po7 d7 (wanted_of gd7) (fun w' h' => run_fieldT (off := 2) q7 (fun _ => by kernel_rfl) ((eval_other _ 56 5 _ (by decide)).trans ((eval_other _ 54 5 _ (by decide)).trans ((eval_other _ 53 5 _ (by decide)).trans ((eval_other _ 52 5 _ (by decide)).trans ((eval_other _ 51 5 _ (by decide)).trans ((eval_other _ 50 5 _ (by decide)).trans base5)))))) w') ?_
    refine met_free po8 d8 (wanted_of gd8) (fun w' h' => run_loadStr q8 (eval_same _ _ _ (by simp only [put_size, hsz]; decide)) h'.2.1) ?_
    refine met_free po9 d9 (wanted_of gd9) (fun w' h' => run_fieldT (off := 3) q9 (fun _ => by kernel_rfl) ((eval_other _ 58 5 _ (by decide)).trans ((eval_other _ 57 5 _ (by decide)).trans ((eval_other _ 56 5 _ (by decide)).trans ((eval_other _ 54 5 _ (by decide)).trans ((eval_other _ 53 5 _ (by decide)).trans ((eval_other _ 52 5 _ (by decide)).trans ((eval_other _ 51 5 _ (by decide)).trans ((eval_other _ 50 5 _ (by decide)).trans base5)))))))) w') ?_
    refine met_free po10 d10 (wanted_of gd10) (fun w' h' => run_loadStr q10 (eval_same _ _ _ (by simp only [put_size, hsz]; decide)) h'.2.2) ?_
    refine m_enter po5 d5 (wanted_of gd5) (run_callf3 q5 rfl ((eval_other _ 60 50 _ (by decide)).trans ((eval_other _ 59 50 _ (by decide)).trans ((eval_other _ 58 50 _ (by decide)).trans ((eval_other _ 57 50 _ (by decide)).trans ((eval_other _ 56 50 _ (by decide)).trans ((eval_other _ 54 50 _ (by decide)).trans ((eval_other _ 53 50 _ (by decide)).trans ((eval_other _ 52 50 _ (by decide)).trans ((eval_other _ 51 50 _ (by decide)).trans (eval_same _ _ _ (by rw [hsz]; decide))))))))))) ((eval_other _ 60 52 _ (by decide)).trans ((eval_other _ 59 52 _ (by decide)).trans ((eval_other _ 58 52 _ (by decide)).trans ((eval_other _ 57 52 _ (by decide)).trans ((eval_other _ 56 52 _ (by decide)).trans ((eval_other _ 54 52 _ (by decide)).trans ((eval_other _ 53 52 _ (by decide)).trans (eval_same _ _ _ (by simp only [put_size, hsz]; decide))))))))) ((eval_other _ 60 54 _ (by decide)).trans ((eval_other _ 59 54 _ (by decide)).trans ((eval_other _ 58 54 _ (by decide)).trans ((eval_other _ 57 54 _ (by decide)).trans ((eval_other _ 56 54 _ (by decide)).trans (eval_same _ _ _ (by simp only [put_size, hsz]; decide))))))) Try.func15 (by kernel_rfl) _) (HXD.out.krShred (RrAt.part x _) (Nat.le_trans HLO.out HBD.out.size) t s HT.out.1 HT.out.2) ?_
    rintro e w3 ⟨rfl, hx3, hb3⟩
    have HX3 := Lib.hid hx3
    have HB3 := Lib.hid (HBD.out.trans hb3)
    clear hx3 hb3
    refine ⟨_, rfl, HX3.out.dc, ?_⟩
    refine m_enter po11 d11 (wanted_of gd11) (run_callf3 q11 rfl ((eval_other _ 55 56 _ (by decide)).trans ((eval_other _ 60 56 _ (by decide)).trans ((eval_other _ 59 56 _ (by decide)).trans ((eval_other _ 58 56 _ (by decide)).trans ((eval_other _ 57 56 _ (by decide)).trans (eval_same _ _ _ (by simp only [put_size, hsz]; decide))))))) ((eval_other _ 55 58 _ (by decide)).trans ((eval_other _ 60 58 _ (by decide)).trans ((eval_other _ 59 58 _ (by decide)).trans (eval_same _ _ _ (by simp only [put_size, hsz]; decide))))) ((eval_other _ 55 60 _ (by decide)).trans (eval_same _ _ _ (by simp only [put_size, hsz]; decide))) Try.func24 (by kernel_rfl) _) (HX3.out.rrShred (KrAt.part r _) (Nat.le_trans HLO.out HB3.out.size) t s ) ?_
    rintro e w4 ⟨rfl, hx4, hb4⟩
    have HX4 := Lib.hid hx4
    have HB4 := Lib.hid (HB3.out.trans hb4)
    clear hx4 hb4
    refine ⟨_, rfl, HX4.out.dc, ?_⟩
    refine met_free po12 d12 (wanted_of gd12) (fun w' h' => run_eqErrK q12 ((eval_other _ 61 55 _ (by decide)).trans (eval_same _ _ _ (by simp only [put_size, hsz]; decide))) (eval_same _ _ _ (by simp only [put_size, hsz]; decide)) w') ?_
    refine met_free po13 d13 (wanted_of gd13) (fun w' h' => run_assign q13 (eval_same _ _ _ (by simp only [put_size, hsz]; decide)) w') ?_
    show NoPanic _ .normal _ _
    refine NoPanic.normal ?_
    rw [HAA.out]
    go_frame
    clear HAA
    clear po0 q0 d0 gd0 po1 q1 d1 gd1 po2 q2 d2 gd2 po3 q3 d3 gd3 po4 q4 d4 gd4 po5 q5 d5 gd5 po6 q6 d6 gd6 po7 q7 d7 gd7 po8 q8 d8 gd8 po9 q9 d9 gd9 po10 q10 d10 gd10 po11 q11 d11 gd11 po12 q12 d12 gd12 po13 q13 d13 gd13
    clear base0 base1 base5 hsz
    go_wp2_with fail
    go_ret
    exact HFIN.out _ _ (by rw [shredK_length]; omega) HX4.out HB4.out
end Go.Proofs.Ytoidjapenompiaa

/-
  Both rings tell the same.
-/
namespace Go.Proofs.Ytoidjapenompiaa
open Go.RowKit Go.Proofs.ShaWords
set_option maxRecDepth 100000 in
theorem spoilI_any (l : List Nat) (B : Nat) (v : Value) (w : World) (hl : l.length < 100000) (ho : OwnI B w l v) :
    Calls Try.prog 28 #[v] w fun e w' => e = .returned (.tuple #[]) ∧ Stays (fun k => v.ownBlock = some k) w w' := by
  obtain ⟨p, cap, n, rfl, hn, hg⟩ : ∃ p cap n, v = .slice p n cap ∧ n < 100000 ∧ (n = 0 ∨ ∃ g, p = some ⟨g, 0, none⟩ ∧ B ≤ g ∧ ∃ cur : Array Value, w.heap[g]? = some (.cells cur 3 (0, 0)) ∧ n ≤ cur.size) := by
    rcases ho.2 with ⟨rfl, h0⟩ | ⟨g, cap, cur, rfl, hg, hh, hc, hm, hs, ht⟩
    · exact ⟨none, 0, 0, rfl, by omega, Or.inl rfl⟩
    · exact ⟨_, cap, l.length, rfl, hl, Or.inr ⟨g, rfl, hg, cur, hh, by omega⟩⟩
  have HG := Lib.hid hg
  clear ho hg hl
  go_enter Try.func28, Try.ntmps28
  go_wp2_with fail
  go_loopw [2] (fun i wr => ∃ k : Nat, k ≤ n ∧ i = .int .i64 (k : Int) ∧ (n = 0 ∨ ∃ g, p = some ⟨g, 0, none⟩ ∧ B ≤ g ∧ ∃ cur : Array Value, wr.heap[g]? = some (.cells cur 3 (0, 0)) ∧ n ≤ cur.size) ∧ Stays (fun k => (Value.slice p n cap).ownBlock = some k) w wr) (fun i _ => n - (intOf i).toNat)
  case atStart => exact ⟨0, by omega, rfl, HG.out, Stays.refl _ _⟩
  case round =>
    obtain ⟨k, hk, rfl, hg, hb⟩ := hrel
    have HB := Lib.hid hb
    clear hb HG
    by_cases hlt : k < n
    · rcases hg with h0 | ⟨g, rfl, hB, cur, hh, hc⟩
      · omega
      have cc : wr.cell? ⟨g, k, none⟩ = some (cur[k]'(by omega)) := (cell_of_row _ _ k _ _ _ hh).trans (Array.getElem?_eq_getElem (by omega))
      have ff : wr.frozen? ⟨g, k, none⟩ = false := frozen_of_row _ _ _ _ _ hh
      generalize cur[k]'(by omega) = u at cc
      have HE : Hid (∀ z : Int, (n = 0 ∨ ∃ g', (some ⟨g, 0, none⟩ : Option Addr) = some ⟨g', 0, none⟩ ∧ B ≤ g' ∧ ∃ cur : Array Value, (wr.setCell ⟨g, k, none⟩ (.int .i64 z)).heap[g']? = some (.cells cur 3 (0, 0)) ∧ n ≤ cur.size) ∧ Stays (fun k => (Value.slice (some ⟨g, 0, none⟩) n cap).ownBlock = some k) w (wr.setCell ⟨g, k, none⟩ (.int .i64 z))) := show ∀ _, _ ∧ _ from fun z =>
        ⟨Or.inr ⟨g, rfl, hB, _, heap_setCell_same wr g k _ _ _ hh, by simpa using hc⟩, HB.out.trans (grown_stays (F := fun k => (Value.slice (some ⟨g, 0, none⟩) n cap).ownBlock = some k) (grown_setCell wr g k _) (fun k e => by cases e; rfl)) (fun k f _ => f)⟩
      clear hh hc
      have k1 : (k : Int) < (n : Int) := by omega
      have hm := markZ_any (k + 7) wr (by omega)
      rw [show ((k + 7 : Nat) : Int) = (k : Int) + 7 by omega] at hm
      have HM := Lib.hid hm; clear hm
      go_wp2_with fail
      refine HM.out.mono ?_
      rintro e w' ⟨rfl, rfl⟩
      go_wp2_with fail
      go_roundw
      case rel => exact ⟨k + 1, by omega, by go_num, (HE.out _).1, (HE.out _).2⟩
      case measure => simp [intOf]; omega
    · clear hg
      go_wp2_with fail
      go_end0
      exact ⟨rfl, HB.out⟩
theorem OwnI.base {B B' : Nat} {w : World} {l : List Nat} {v : Value} (h : OwnI B w l v) (hB : B' ≤ B) : OwnI B' w l v := by
  refine ⟨h.1, ?_⟩
  rcases h.2 with h0 | ⟨g, cap, cur, e, hg, r⟩
  · exact Or.inl h0
  · exact Or.inr ⟨g, cap, cur, e, Nat.le_trans hB hg, r⟩
theorem slotsK_length (l : List HoldK) (b : Bool) : (slotsK l b).length < 100000 := by
  have h := slotsTo_length l b 65
  rw [slotsTo_all] at h
  omega
set_option maxRecDepth 100000 in
set_option maxHeartbeats 4000000 in
theorem krAlike_any (lo r x : Nat) (l : List HoldK) (kd n : Int) (t s : ByteArray) (w : World) (h : X2 (KrAt r l) (RrAt x l) lo w []) (ht : t.size ≤ 140737488351232) (hs : s.size ≤ 140737488351232) :
    Calls Try.prog 10 #[.pointer (some ⟨r, 0, none⟩), .pointer (some ⟨x, 0, none⟩), .agg #[.int .i64 kd, .int .i64 n, .string t, .string s]] w fun e w' => e = .returned (.bool true) ∧ Below w.heap.size w w' := by
  have HT : Hid (t.size ≤ 281474976710656 ∧ s.size ≤ 281474976710656) := show _ ∧ _ from ⟨by omega, by omega⟩
  have HX : Hid (∀ w', Below w.heap.size w w' → X2 (KrAt r l) (RrAt x l) lo w' []) := show ∀ _, _ → _ from fun w' hb => h.below (KrAt.part _ _) (RrAt.part _ _) hb
  have HL1 := Lib.hid (slotsK_length l false)
  have HL2 := Lib.hid (slotsK_length l true)
  clear h ht hs
  obtain ⟨y, ok, hyk⟩ : ∃ y ok, holdK l t s = (y, ok) := ⟨_, _, rfl⟩
  have HY := Lib.hid hyk
  clear hyk
  obtain ⟨l1, hl1⟩ : ∃ l1, slotsK l false = l1 := ⟨_, rfl⟩
  obtain ⟨l2, hl2⟩ : ∃ l2, slotsK l true = l2 := ⟨_, rfl⟩
  rw [hl1] at HL1
  rw [hl2] at HL2
  have HE1 := Lib.hid hl1
  have HE2 := Lib.hid hl2
  clear hl1 hl2
  go_enter Try.func10, Try.ntmps10
  go_upto_region 1 with (fail)
  have hb1 : Below w.heap.size w (w.alloc (opO kd n t s)) := (Below.refl _ _).alloc (Nat.le_refl _) _
  have hc1 : ∀ w', Below (w.alloc (opO kd n t s)).heap.size (w.alloc (opO kd n t s)) w' → w'.cell? ⟨w.heap.size, 2, none⟩ = some (.string t) ∧ w'.cell? ⟨w.heap.size, 3, none⟩ = some (.string s) := fun w' hb => by
    have hr : w'.heap[w.heap.size]? = some (opO kd n t s) := (hb.block _ (by simp)).trans (heap_alloc_new _ _)
    exact ⟨(cell_of_row _ _ 2 _ _ _ hr).trans rfl, (cell_of_row _ _ 3 _ _ _ hr).trans rfl⟩
  obtain ⟨W1, hW1⟩ : ∃ W1, w.alloc (opO kd n t s) = W1 := ⟨_, rfl⟩
  rw [hW1] at hb1 hc1 ⊢
  clear hW1
  have HB1 := Lib.hid hb1
  have HC1 := Lib.hid hc1
  obtain ⟨c2, c3⟩ := hc1 W1 (Below.refl _ _)
  obtain ⟨T, hT⟩ : ∃ T, w.heap.size = T := ⟨_, rfl⟩
  clear hb1 hc1 hT T
  go_wp2_with fail
  refine ((HX.out _ HB1.out).krHold t s HT.out.1 HT.out.2).mono ?_
  rintro e w2 ⟨rfl, hb⟩
  rw [HY.out]
  have hb3 : Below W1.heap.size W1 (w2.alloc (.cells #[.int .i64 (y.slot : Int), .int .i64 (y.uses : Int), .bool y.shred] 43)) := hb.alloc hb.size _
  have HD3 := Lib.hid hb3
  have HR3 : Hid ((w2.alloc (.cells #[.int .i64 (y.slot : Int), .int .i64 (y.uses : Int), .bool y.shred] 43)).heap[w2.heap.size]? = some (.cells #[.int .i64 (y.slot : Int), .int .i64 (y.uses : Int), .bool y.shred] 43 (0, 0))) := show _ = _ from heap_alloc_new _ _
  clear hb hb3 c2 c3
  go_upto_region 2 with (fail)
  generalize w2.alloc (.cells #[.int .i64 (y.slot : Int), .int .i64 (y.uses : Int), .bool y.shred] 43) = W3 at HD3 HR3 ⊢
  generalize w2.heap.size = T7 at HR3 ⊢
  have HB3 := Lib.hid (HB1.out.trans (HD3.out.mono HB1.out.size))
  obtain ⟨c2, c3⟩ := HC1.out W3 HD3.out
  go_wp2_with fail
  refine ((HX.out _ HB3.out).rrHold t s).mono ?_
  rintro e w4 ⟨rfl, hb⟩
  rw [HY.out]
  have hb5 : Below W3.heap.size W3 (w4.alloc (.cells #[.int .i64 (y.slot : Int), .int .i64 (y.uses : Int), .bool y.shred] 43)) := hb.alloc hb.size _
  have HR5 : Hid ((w4.alloc (.cells #[.int .i64 (y.slot : Int), .int .i64 (y.uses : Int), .bool y.shred] 43)).heap[w4.heap.size]? = some (.cells #[.int .i64 (y.slot : Int), .int .i64 (y.uses : Int), .bool y.shred] 43 (0, 0))) := show _ = _ from heap_alloc_new _ _
  have HR53 : Hid ((w4.alloc (.cells #[.int .i64 (y.slot : Int), .int .i64 (y.uses : Int), .bool y.shred] 43)).heap[T7]? = some (.cells #[.int .i64 (y.slot : Int), .int .i64 (y.uses : Int), .bool y.shred] 43 (0, 0))) := show _ = _ from (hb5.block _ (Array.getElem?_eq_some_iff.1 HR3.out).1).trans HR3.out
  have HB5 := Lib.hid (HB3.out.trans (hb5.mono HB3.out.size))
  clear hb hb5 c2 c3 HR3 HD3 HC1 HB1
  go_upto_region 3 with (fail)
  generalize w4.alloc (.cells #[.int .i64 (y.slot : Int), .int .i64 (y.uses : Int), .bool y.shred] 43) = W5 at HR5 HR53 HB5 ⊢
  generalize w4.heap.size = T9 at HR5 ⊢
  clear HB3
  go_wp2_with fail
  refine (HX.out _ HB5.out).krLive.mono ?_
  rintro e w6 ⟨v1, rfl, ho, hb⟩
  rw [HE1.out] at ho
  have HO1 := Lib.hid (ho.base (B' := w.heap.size) HB5.out.size)
  have HB6 := Lib.hid (HB5.out.trans (hb.mono HB5.out.size))
  have HR6 : Hid (w6.heap[T7]? = some (.cells #[.int .i64 (y.slot : Int), .int .i64 (y.uses : Int), .bool y.shred] 43 (0, 0)) ∧ w6.heap[T9]? = some (.cells #[.int .i64 (y.slot : Int), .int .i64 (y.uses : Int), .bool y.shred] 43 (0, 0))) := show _ ∧ _ from ⟨(hb.block _ (Array.getElem?_eq_some_iff.1 HR53.out).1).trans HR53.out, (hb.block _ (Array.getElem?_eq_some_iff.1 HR5.out).1).trans HR5.out⟩
  clear ho hb HB5 HR5 HR53
  go_wp2_with fail
  refine (HX.out _ HB6.out).krDead.mono ?_
  rintro e w7 ⟨v2, rfl, ho, hb⟩
  rw [HE2.out] at ho
  have HO2 := Lib.hid (ho.base (B' := w.heap.size) HB6.out.size)
  have HNE : Hid (∀ k, v1.ownBlock = some k → v2.ownBlock ≠ some k) := show ∀ _, _ → _ from fun k h1 h2 => by
    have g1 := (World.ownsRow.lt HO1.out k h1).2
    have g2 := (World.ownsRow.lt ho k h2).1
    omega
  have HO1b := Lib.hid (HO1.out.below hb)
  have HB7 := Lib.hid (HB6.out.trans (hb.mono HB6.out.size))
  have hr7 := (hb.block _ (Array.getElem?_eq_some_iff.1 HR6.out.1).1).trans HR6.out.1
  have hr9 := (hb.block _ (Array.getElem?_eq_some_iff.1 HR6.out.2).1).trans HR6.out.2
  have a0 := (cell_of_row _ _ 0 _ _ _ hr7).trans (show _ = some (.int .i64 (y.slot : Int)) from rfl)
  have a1 := (cell_of_row _ _ 1 _ _ _ hr7).trans (show _ = some (.int .i64 (y.uses : Int)) from rfl)
  have a2 := (cell_of_row _ _ 2 _ _ _ hr7).trans (show _ = some (.bool y.shred) from rfl)
  have b0 := (cell_of_row _ _ 0 _ _ _ hr9).trans (show _ = some (.int .i64 (y.slot : Int)) from rfl)
  have b1 := (cell_of_row _ _ 1 _ _ _ hr9).trans (show _ = some (.int .i64 (y.uses : Int)) from rfl)
  have b2 := (cell_of_row _ _ 2 _ _ _ hr9).trans (show _ = some (.bool y.shred) from rfl)
  clear ho hb HB6 HR6 HO1 hr7 hr9
  go_wp2_with fail
  refine (HX.out _ HB7.out).rrLive.mono ?_
  rintro e w8 ⟨v3, rfl, ho, hb⟩
  rw [HE1.out] at ho
  clear a0 a1 a2 b0 b1 b2
  have HO1c := Lib.hid (HO1b.out.below hb)
  have HO2c := Lib.hid (HO2.out.below hb)
  have HB8 := Lib.hid (HB7.out.trans (hb.mono HB7.out.size))
  obtain ⟨p1, cap1, rfl, hz1⟩ := HO1c.out.out
  obtain ⟨p3, cap3, rfl, hz3⟩ := ho.out
  have HZ1 := Lib.hid hz1; have HZ3 := Lib.hid hz3
  clear ho hb HB7 HO1b HO2 hz1 hz3
  go_wp2_with fail
  refine (sameZ_any (zs l1) l1.length p1 p3 cap1 cap3 w8 (zs_length l1) (by have := HL1.out; omega) HZ1.out HZ3.out).mono ?_
  rintro e w9 ⟨rfl, hb⟩
  have HO1d := Lib.hid (HO1c.out.below hb)
  have HO2d := Lib.hid (HO2c.out.below hb)
  have HB9 := Lib.hid (HB8.out.trans (hb.mono HB8.out.size))
  clear hb HB8 HO1c HO2c HZ1 HZ3
  go_wp2_with fail
  refine (HX.out _ HB9.out).rrDead.mono ?_
  rintro e w10 ⟨v4, rfl, ho, hb⟩
  rw [HE2.out] at ho
  have HO1e := Lib.hid (HO1d.out.below hb)
  have HO2e := Lib.hid (HO2d.out.below hb)
  have HB10 := Lib.hid (HB9.out.trans (hb.mono HB9.out.size))
  obtain ⟨p2, cap2, rfl, hz2⟩ := HO2e.out.out
  obtain ⟨p4, cap4, rfl, hz4⟩ := ho.out
  have HZ2 := Lib.hid hz2; have HZ4 := Lib.hid hz4
  clear ho hb HB9 HO1d HO2d hz2 hz4
  go_wp2_with fail
  refine (sameZ_any (zs l2) l2.length p2 p4 cap2 cap4 w10 (zs_length l2) (by have := HL2.out; omega) HZ2.out HZ4.out).mono ?_
  rintro e w11 ⟨rfl, hb⟩
  have HO1f := Lib.hid (HO1e.out.below hb)
  have HO2f := Lib.hid (HO2e.out.below hb)
  have HB11 := Lib.hid (HB10.out.trans (hb.mono HB10.out.size))
  clear hb HB10 HO1e HO2e HZ2 HZ4
  go_wp2_with fail
  refine (spoilI_any l1 w.heap.size _ w11 HL1.out HO1f.out).mono ?_
  rintro e w12 ⟨rfl, hb⟩
  have HO2g : Hid (OwnI w.heap.size w12 l2 (.slice p2 l2.length cap2)) := show OwnI _ _ _ _ from ownsRow_stays HO2f.out hb (fun k hk f => HNE.out k f hk)
  have HB12 := Lib.hid (HB11.out.trans (hb.below (B := w.heap.size) (fun k f => (World.ownsRow.lt HO1f.out k f).1) HB11.out.size))
  clear hb HB11 HO1f HO2f HNE
  go_wp2_with fail
  refine (spoilI_any l2 w.heap.size _ w12 HL2.out HO2g.out).mono ?_
  rintro e w13 ⟨rfl, hb⟩
  have HB13 := Lib.hid (HB12.out.trans (hb.below (B := w.heap.size) (fun k f => (World.ownsRow.lt HO2g.out k f).1) HB12.out.size))
  clear hb HB12 HO2g
  go_wp2_with fail
  go_ret
  exact ⟨rfl, HB13.out⟩
end Go.Proofs.Ytoidjapenompiaa
