/-
  The contracts of the kit's own functions on bytes: CopyBytes, markBytes, LentBytes, SameBytes at equal lists, KeptBytes at what LentBytes made.
-/
import Derived.Test.YtagkkihnfipfeaaDoorGen
namespace Go.Proofs.YtagkkihnfipfeaaDoor
open Go.RowKit Go.Proofs.ShaWords

/-- A slice of the call's own that holds these bytes. -/
def Own (B : Nat) (w : World) (l : List (BitVec 8)) (v : Value) : Prop := w.ownsRow B 5 1 v l.length (bytesV l)
theorem Own.nil (B : Nat) (w : World) : Own B w [] (.slice none 0 0) := World.ownsRow_nil w B 5 1
theorem Own.lies {B : Nat} {w : World} {l : List (BitVec 8)} {v : Value} (h : Own B w l v) : ∃ p cap, v = .slice p l.length cap ∧ l.length ≤ cap ∧ cap ≤ maxLen ∧ Lies w p l := by
  rcases h.2 with ⟨rfl, h0⟩ | ⟨g, cap, cur, rfl, hg, hh, hc, hm, hs, ht⟩
  · have : l = [] := List.length_eq_zero_iff.1 h0
    subst this
    exact ⟨none, 0, rfl, Nat.le_refl _, Nat.zero_le _, Or.inl rfl⟩
  · refine ⟨some ⟨g, 0, none⟩, cap, rfl, hc, hm, Or.inr ⟨g, 0, rfl, fun j v hv => ?_⟩⟩
    rw [Nat.zero_add, cell_of_row w g j cur 5 (0, 0) hh]
    rw [← ht, Nat.mul_one, List.getElem?_take] at hv
    split at hv
    · rw [← hv]; simp
    · cases hv
theorem Own.below {B : Nat} {w w' : World} {l : List (BitVec 8)} {v : Value} (h : Own B w l v) (hb : Below w.heap.size w w') : Own B w' l v :=
  World.ownsRow.kept h (grown_below hb (Nat.le_refl _) none) (by cases v.ownBlock <;> simp)
theorem info5' : ∃ i : TypeInfo, Tryd.prog.info? 5 = some i ∧ i.zero = some (.int .u8 0) ∧ i.size = 1 ∧ i.bytes = 1 := info_parts info5
/-- One byte more, behind a slice of the call's own. -/
theorem wpList_append_byte {ops : Array Oper} {rest : List Oper} {o : Oper} {a : Act} {w : World} {Q : Exit → Act → World → Prop} (hgd : o.guard = none) (s x : Operand)
    (ho : o.op = .call { callee := .builtin .append, args := #[s, x], argTypes := #[26, 26] }) (B : Nat) (v : Value) (l : List (BitVec 8)) (b : BitVec 8) (hs : a.eval s = v) (hown : Own B w l v) (hx : a.eval x = .slice (some ⟨w.heap.size, 0, none⟩) 1 1)
    (hl : l.length < 1099511627776) (hB : B ≤ w.heap.size)
    (h : ∀ v' w', Own B w' (l ++ [b]) v' → Below B w w' → wpList Tryd.prog ops Q rest (a.put o.dst v') w') : wpList Tryd.prog ops Q (o :: rest) a (w.alloc (.cells #[.int .u8 (n8 b)] 5)) := by
  obtain ⟨i, hi, hz, hsz, hby⟩ := info5'
  refine wpList_append_own (w := w.alloc (.cells #[.int .u8 (n8 b)] 5)) hgd s x 26 ho B 5 i (.int .u8 0) 1 1 Tryd.underlying26 hi hz hsz hby rfl (by decide) v l.length (bytesV l) hs (hown.alloc _) ⟨w.heap.size, 0, none⟩ 1 1 [.int .u8 (n8 b)] hx rfl ?_ ?_ (by unfold maxLen; omega) (by omega) (by rw [size_alloc]; omega) ?_
  · intro j u hu
    have hj : j = 0 := by have := (List.getElem?_eq_some_iff.1 hu).1; simp at this; exact this
    subst hj
    rw [Addr.add_mid, cell_of_row _ _ _ _ _ _ (heap_new_at rfl)]
    simpa using hu
  · intro u hu
    rw [List.mem_singleton.1 hu]; rfl
  · intro v' w' ho' hg _
    refine h v' w' ?_ ?_
    · unfold Own
      rw [List.length_append, bytesV_append]; exact ho'
    · refine ((Below.refl B w).alloc hB _).grown hg (by rw [size_alloc]; omega) (fun k hk => ?_)
      exact (hown.lt k hk).1

set_option maxHeartbeats 400000 in
theorem copy_any (l : List (BitVec 8)) (p : Option Addr) (cap : Nat) (w : World) (hl : l.length < 1000000) (hL : Lies w p l) :
    Calls Tryd.prog 20 #[.slice p l.length cap] w fun e w' => ∃ v, e = .returned v ∧ Own w.heap.size w' l v ∧ Below w.heap.size w w' := by
  have HL := Lib.hid hL; clear hL
  go_enter Tryd.func20, Tryd.ntmps20
  go_wp2_with fail
  go_loopw [3, 4] (fun v i wr => ∃ k : Nat, k ≤ l.length ∧ i = .int .i64 k ∧ Own w.heap.size wr (l.take k) v ∧ Below w.heap.size w wr) (fun _ i _ => l.length - (intOf i).toNat)
  case atStart => exact ⟨0, Nat.zero_le _, rfl, Own.nil _ _, Below.refl _ _⟩
  case round =>
    obtain ⟨k, hk, rfl, ho, hb⟩ := hrel
    have sz := hb.size
    by_cases hlt : k < l.length
    · rcases HL.out with h0 | ⟨b, off, rfl, hr⟩
      · exfalso; rw [h0] at hlt; simp at hlt
      · have hv : (bytesV l)[k]? = some (.int .u8 (n8 l[k])) := by simp [bytesV, hlt]
        have hbl := World.block_lt_of_cell? w _ (hr k _ hv)
        have hc := (hb.cell (p := ⟨b, off + k, none⟩) hbl).trans (hr k _ hv)
        clear hv
        have HTK := Lib.hid (List.take_succ_eq_append_getElem hlt)
        generalize l[k] = x at hc HTK
        have hk1 : (l.take k).length < 1099511627776 := by rw [List.length_take]; omega
        have HO := Lib.hid ho; clear ho
        have HB := Lib.hid hb; clear hb hr hbl
        have HK1 := Lib.hid hk1; clear hk1
        go_wp2_with (at_builtin; refine wpList_append_byte rfl (.tmp 11) (.tmp 16) rfl w.heap.size _ (l.take k) x rfl HO.out rfl HK1.out (by omega) ?_; intro v' w' ho' hb'; rw [← HTK.out] at ho'; have HO' := Lib.hid ho'; have HB' := Lib.hid (HB.out.trans hb'); clear ho' hb')
        go_roundw
        case rel => exact ⟨k + 1, by omega, by go_num, HO'.out, HB'.out⟩
        case measure => simp [intOf]; omega
    · have HO := Lib.hid ho; clear ho
      have HB := Lib.hid hb; clear hb
      go_wp2_with fail
      go_ret
      refine ⟨_, rfl, ?_, HB.out⟩
      have h1 := HO.out
      rw [List.take_of_length_le (by omega)] at h1
      exact h1

/-- The kit's marks. -/
def mark (i : Nat) : BitVec 8 := BitVec.ofNat 8 (201 + 7 * i)
def marks (k : Nat) : List (BitVec 8) := (List.range k).map mark
theorem mark_eq (i : Nat) : IntKind.u8.wrap (201 + 7 * (i : Int)) = n8 (mark i) := by
  unfold n8 mark
  rw [IntKind.wrap_u8', BitVec.toNat_ofNat]; omega
theorem marks_succ (k : Nat) : marks (k + 1) = marks k ++ [mark k] := by simp [marks, List.range_succ]
theorem marks_length (k : Nat) : (marks k).length = k := by simp [marks]
theorem mark_any (i : Nat) (w : World) (h : i ≤ 1000000) : Calls Tryd.prog 24 #[.int .i64 (i : Int)] w fun e w' => e = .returned (.int .u8 (n8 (mark i))) ∧ w = w' := by
  have HM := Lib.hid (mark_eq i)
  go_enter Tryd.func24, Tryd.ntmps24
  go_wp2_with fail
  go_ret
  refine ⟨?_, rfl⟩
  rw [← HM.out]; rfl

set_option maxHeartbeats 400000 in
theorem lent_any (l : List (BitVec 8)) (p : Option Addr) (cap : Nat) (w : World) (hl : l.length < 1000000) (hL : Lies w p l) :
    Calls Tryd.prog 10 #[.slice p l.length cap] w fun e w' => ∃ v, e = .returned v ∧ Own w.heap.size w' (l ++ marks 5) v ∧ Below w.heap.size w w' := by
  have HL := Lib.hid hL; clear hL
  go_enter Tryd.func10, Tryd.ntmps10
  go_wp2_with fail
  refine (copy_any l p cap w hl HL.out).mono ?_
  rintro e w1 ⟨v, rfl, ho, hb⟩
  have HO := Lib.hid ho; clear ho
  have HB := Lib.hid hb; clear hb
  go_wp2_with fail
  go_loopw [3, 4] (fun v i wr => ∃ k : Nat, k ≤ 5 ∧ i = .int .i64 k ∧ Own w.heap.size wr (l ++ marks k) v ∧ Below w.heap.size w wr) (fun _ i _ => 5 - (intOf i).toNat)
  case atStart => exact ⟨0, Nat.zero_le _, rfl, by have h := HO.out; simpa [marks] using h, HB.out⟩
  case round =>
    clear HO HB
    obtain ⟨k, hk, rfl, ho, hb⟩ := hrel
    have sz := hb.size
    by_cases hlt : k < 5
    · have HTK : Hid (l ++ marks (k + 1) = (l ++ marks k) ++ [mark k]) := by
        show _ = _
        rw [marks_succ, List.append_assoc]
      have HK1 : Hid ((l ++ marks k).length < 1099511627776) := by
        show _ < _
        rw [List.length_append, marks_length]; omega
      have HO := Lib.hid ho; clear ho
      have HB := Lib.hid hb; clear hb
      go_wp2_with (first
        | (go_at_call 24; refine (mark_any k _ (by omega)).mono ?_; rintro e w' ⟨rfl, rfl⟩)
        | (at_builtin; refine wpList_append_byte rfl (.tmp 11) (.tmp 14) rfl w.heap.size _ (l ++ marks k) (mark k) rfl HO.out rfl HK1.out (by omega) ?_; intro v' w' ho' hb'; rw [← HTK.out] at ho'; have HO' := Lib.hid ho'; have HB' := Lib.hid (HB.out.trans hb'); clear ho' hb'))
      go_roundw
      case rel => exact ⟨k + 1, by omega, by go_num, HO'.out, HB'.out⟩
      case measure => simp [intOf]; omega
    · have HO := Lib.hid ho; clear ho
      have HB := Lib.hid hb; clear hb
      have HK5 : Hid (k = 5) := show k = 5 by omega
      go_wp2_with fail
      go_ret
      refine ⟨_, rfl, ?_, HB.out⟩
      have h1 := HO.out
      rw [HK5.out] at h1
      exact h1

set_option maxHeartbeats 400000 in
/-- Two lists of the same bytes are told to be the same. -/
theorem same_any (l : List (BitVec 8)) (n : Nat) (p q : Option Addr) (c1 c2 : Nat) (w : World) (hln : l.length = n) (hl : n < 1000000) (hp : Lies w p l) (hq : Lies w q l) :
    Calls Tryd.prog 14 #[.slice p n c1, .slice q n c2] w fun e w' => e = .returned (.bool true) ∧ Below w.heap.size w w' := by
  have HP := Lib.hid hp; clear hp
  have HQ := Lib.hid hq; clear hq
  have HN := Lib.hid hln; clear hln
  go_enter Tryd.func14, Tryd.ntmps14
  go_wp2_with fail
  go_loopw [5] (fun i wr => ∃ k : Nat, k ≤ n ∧ i = .int .i64 k ∧ Below w.heap.size w wr) (fun i _ => n - (intOf i).toNat)
  case atStart => exact ⟨0, Nat.zero_le _, rfl, Below.refl _ _⟩
  case round =>
    obtain ⟨k, hk, rfl, hb⟩ := hrel
    by_cases hlt : k < n
    · have hlt' : k < l.length := by rw [HN.out]; exact hlt
      have hv : (bytesV l)[k]? = some (.int .u8 (n8 l[k])) := by simp [bytesV, hlt']
      rcases HP.out with h0 | ⟨b, off, rfl, hr⟩
      · exfalso; rw [h0] at hlt'; simp at hlt'
      rcases HQ.out with h0 | ⟨b2, off2, rfl, hr2⟩
      · exfalso; rw [h0] at hlt'; simp at hlt'
      have hc := (hb.cell (p := ⟨b, off + k, none⟩) (World.block_lt_of_cell? w _ (hr k _ hv))).trans (hr k _ hv)
      have hc2 := (hb.cell (p := ⟨b2, off2 + k, none⟩) (World.block_lt_of_cell? w _ (hr2 k _ hv))).trans (hr2 k _ hv)
      generalize l[k] = x at hc hc2 hv
      have HB := Lib.hid hb
      clear hb hr hr2 hv hlt'
      have q0 : (k : Int) < (n : Int) := by omega
      go_wp2_with fail
      go_quiet (fail)
      go_wp2_with fail
      go_roundw
      case rel => exact ⟨k + 1, by omega, by go_num, HB.out.trans ⟨rfl, rfl, rfl, Nat.le_refl _, fun _ _ => rfl⟩⟩
      case measure => simp [intOf]; omega
    · have HB := Lib.hid hb; clear hb
      go_wp2_with fail
      go_ret
      exact ⟨rfl, HB.out⟩

theorem range_front {w : World} {b off : Nat} {l r : List (BitVec 8)} (h : w.rangeAt b off (bytesV (l ++ r))) : w.rangeAt b off (bytesV l) := fun j v hv => by
  refine h j v ?_
  rw [bytesV_append, List.getElem?_append_left (List.getElem?_eq_some_iff.1 hv).1]; exact hv
theorem range_back {w : World} {b off : Nat} {l r : List (BitVec 8)} (h : w.rangeAt b off (bytesV (l ++ r))) : w.rangeAt b (off + l.length) (bytesV r) := fun j v hv => by
  rw [Nat.add_assoc]
  refine h (l.length + j) v ?_
  rw [bytesV_append, List.getElem?_append_right (by rw [bytesV_length]; omega), bytesV_length, Nat.add_sub_cancel_left]; exact hv

set_option maxHeartbeats 400000 in
theorem kept_any (l : List (BitVec 8)) (n m : Nat) (pa pb : Option Addr) (ca cb : Nat) (w : World) (hn : l.length = n) (hm1 : m ≤ n + 5) (hm2 : n + 5 ≤ m) (hl : n < 1000000) (hca : m ≤ ca) (hA : Lies w pa (l ++ marks 5)) (hB : Lies w pb l) :
    Calls Tryd.prog 16 #[.slice pa m ca, .slice pb n cb] w fun e w' => e = .returned (.bool true) ∧ Below w.heap.size w w' := by
  have HN := Lib.hid hn; clear hn
  have HB := Lib.hid hB; clear hB
  rcases hA with h0 | ⟨g, off, rfl, hr⟩
  · exfalso
    have := congrArg List.length h0
    rw [List.length_append, marks_length] at this
    simp at this
  have HR := Lib.hid hr; clear hr
  have hck : ¬ ca = n := by omega
  have hcn : (n : Int) ≤ (ca : Int) := by omega
  have hcn2 : (n : Int) ≤ (m : Int) := by omega
  go_enter Tryd.func16, Tryd.ntmps16
  go_wp2_with fail
  refine (same_any l n _ _ _ _ w HN.out hl (Or.inr ⟨g, off, rfl, range_front HR.out⟩) HB.out).mono ?_
  rintro e w1 ⟨rfl, hb1⟩
  have HB1 := Lib.hid hb1; clear hb1
  go_wp2_with fail
  go_loopw [5, 6] (fun v i wr => ∃ k : Nat, k ≤ 5 ∧ i = .int .i64 k ∧ Own w.heap.size wr (marks k) v ∧ Below w.heap.size w wr) (fun _ i _ => 5 - (intOf i).toNat)
  case atStart => exact ⟨0, Nat.zero_le _, rfl, Own.nil _ _, HB1.out⟩
  case round =>
    clear HB1
    obtain ⟨k, hk, rfl, ho, hb⟩ := hrel
    have sz := hb.size
    by_cases hlt : k < 5
    · have HTK := Lib.hid (marks_succ k)
      have HK1 : Hid ((marks k).length < 1099511627776) := by
        show _ < _
        rw [marks_length]; omega
      have HO := Lib.hid ho; clear ho
      have HB2 := Lib.hid hb; clear hb
      go_wp2_with (first
        | (go_at_call 24; refine (mark_any k _ (by omega)).mono ?_; rintro e w' ⟨rfl, rfl⟩)
        | (at_builtin; refine wpList_append_byte rfl (.tmp 26) (.tmp 29) rfl w.heap.size _ (marks k) (mark k) rfl HO.out rfl HK1.out (by omega) ?_; intro v' w' ho' hb'; rw [← HTK.out] at ho'; have HO' := Lib.hid ho'; have HB' := Lib.hid (HB2.out.trans hb'); clear ho' hb'))
      go_roundw
      case rel => exact ⟨k + 1, by omega, by go_num, HO'.out, HB'.out⟩
      case measure => simp [intOf]; omega
    · have HK5 : Hid (k = 5) := show k = 5 by omega
      rw [HK5.out] at ho
      obtain ⟨q, c, rfl, _, _, hq⟩ := ho.lies
      have HQ := Lib.hid hq; clear hq ho
      have HB2 := Lib.hid hb; clear hb
      rw [show (marks 5).length = 5 from rfl]
      go_wp2_with fail
      rw [show m - n = 5 by omega]
      refine (same_any (marks 5) 5 _ _ _ _ wr rfl (by omega) (Lies.below (w := w) (Or.inr ⟨g, off + n, rfl, by have h := range_back HR.out; rw [HN.out] at h; exact h⟩) HB2.out) HQ.out).mono ?_
      rintro e w9 ⟨rfl, hb9⟩
      have HB9 := Lib.hid (HB2.out.trans (hb9.mono (by omega))); clear hb9
      go_wp2_with fail
      go_ret
      exact ⟨rfl, HB9.out⟩
/-- A slice of the call's own lies in no block that was made behind it. -/
theorem own_beside {B : Nat} {w : World} {l : List (BitVec 8)} {v : Value} (h : Own B w l v) : v.ownBlock = none ∨ v.ownBlock ≠ some w.heap.size := by
  cases hv : v.ownBlock with
  | none => exact Or.inl rfl
  | some k => exact Or.inr (fun h0 => by cases h0; have := (h.lt _ hv).2; omega)
end Go.Proofs.YtagkkihnfipfeaaDoor
