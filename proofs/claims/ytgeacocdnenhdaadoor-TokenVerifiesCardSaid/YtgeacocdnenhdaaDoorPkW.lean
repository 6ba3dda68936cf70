/-
  What other texts lean on: PkModel, PkRd, PkNum, PkNext, PkMore, PkLay, PkRefLay, PkRefLay2.
-/
import Derived.Test.YtgeacocdnenhdaaDoorPkA
import Derived.Test.YtgeacocdnenhdaaDoorPkP
import Derived.Deep.Cut
import Derived.Deep.CutRange
import Derived.Lib.AppendStr
/-
  What layer 7 asks, as plain functions: a number in eight bytes, the highest first, there and back; a reader.
-/
namespace Go.Proofs.YtgeacocdnenhdaaDoor
open Go.Proofs.ShaWords
/-- The first k of a number's bytes, the highest first. -/
def beTo (v : Int) (k : Nat) : List (BitVec 8) := (List.range k).map fun i => BitVec.ofInt 8 (v / 2 ^ (8 * (7 - i)))
def be8 (v : Int) : List (BitVec 8) := beTo v 8
theorem beTo_zero (v : Int) : beTo v 0 = [] := rfl
theorem beTo_succ (v : Int) (k : Nat) : beTo v (k + 1) = beTo v k ++ [BitVec.ofInt 8 (v / 2 ^ (8 * (7 - k)))] := by simp [beTo, List.range_succ]
theorem beTo_length (v : Int) (k : Nat) : (beTo v k).length = k := by simp [beTo]
theorem be8_length (v : Int) : (be8 v).length = 8 := beTo_length v 8
/-- The number that bytes tell, the highest first. -/
def num8 (l : List (BitVec 8)) : Nat := l.foldl (fun u b => u * 256 + b.toNat) 0
/-- The number as an int. -/
def int8 (l : List (BitVec 8)) : Int := IntKind.i64.wrap (num8 l : Int)
theorem ofInt8_toNat (x : Int) : (BitVec.ofInt 8 x).toNat = (x % 256).toNat := by rw [BitVec.toNat_ofInt]; rfl
/-- A reader: the bytes that are left (none once an error has stuck), the error. -/
structure RS where
  bs : List (BitVec 8)
  e : Nat
def RS.fail (s : RS) (k : Nat) : RS := ⟨[], if s.e = 0 then k else s.e⟩
def RS.got (s : RS) (n : Nat) : List (BitVec 8) := if s.bs.length < n then [] else s.bs.take n
def RS.intV (s : RS) : Int := int8 (s.got 8)
def RS.over (s : RS) (most : Int) : Bool := decide (s.intV < 0) || decide (most < s.intV)
def RS.Ok (s : RS) : Prop := s.e ≠ 0 → s.bs = []
end Go.Proofs.YtgeacocdnenhdaaDoor

/-
  The program's reader in memory: Read, Left, Bad, End, fail, next, Int.
-/
namespace Go.Proofs.YtgeacocdnenhdaaDoor
open Go.RowKit Go.Proofs.ShaWords
/-- The program's reader: its block; what is left lies in blocks of D. -/
structure RdAt (D : Nat → Prop) (w : World) (g : Nat) (s : RS) : Prop where
  ok : s.Ok
  ne : ¬ D g
  dom : ∀ k, D k → k < w.heap.size
  left : ∃ v, w.heap[g]? = some (.cells #[v, .int .i64 (s.e : Int)] 141 (0, 0)) ∧ SliceIn D w v s.bs
theorem RdAt.lt {D : Nat → Prop} {w : World} {g : Nat} {s : RS} (h : RdAt D w g s) : g < w.heap.size := by
  obtain ⟨v, h1, _⟩ := h.left
  exact (Array.getElem?_eq_some_iff.1 h1).1
theorem RdAt.keep {D F : Nat → Prop} {w w' : World} {g : Nat} {s : RS} (h : RdAt D w g s) (hk : Stays F w w') (hF : ∀ k, F k → k ≠ g ∧ ¬ D k) : RdAt D w' g s := by
  have hlt := h.lt
  obtain ⟨h1, h2, h3, v, h4, h5⟩ := h
  exact ⟨h1, h2, fun k d => Nat.lt_of_lt_of_le (h3 k d) hk.size, v, (hk.block g hlt (fun f => (hF g f).1 rfl)).trans h4, h5.keep hk (fun k f => (hF k f).2)⟩
theorem RdAt.below {D : Nat → Prop} {w w' : World} {g : Nat} {s : RS} (h : RdAt D w g s) (hb : Below w.heap.size w w') : RdAt D w' g s :=
  h.keep (F := fun _ => False) (Below.stays hb) (fun _ h => h.elim)
/-- Another reader, or anything else in other blocks, was changed. -/
theorem RdAt.past {D : Nat → Prop} {w w' : World} {g k : Nat} {s : RS} (h : RdAt D w g s) (hk : Stays (fun x => x = k) w w') (h1 : k ≠ g) (h2 : ¬ D k) : RdAt D w' g s :=
  h.keep hk (fun x e => by subst e; exact ⟨h1, h2⟩)
theorem SliceIn.nil (D : Nat → Prop) (w : World) : SliceIn D w (.slice none 0 0) [] := ⟨none, 0, rfl, Nat.le_refl _, Nat.zero_le _, Or.inl rfl⟩
theorem RdAt.set {D : Nat → Prop} {w : World} {g : Nat} {s t : RS} (h : RdAt D w g s) {v : Value} {j : Nat} {u : Value} {x : Value} (hold : w.heap[g]? = some (.cells #[v, .int .i64 (s.e : Int)] 141 (0, 0))) (hok : t.Ok)
    (hc : (#[v, .int .i64 (s.e : Int)] : Array Value).setIfInBounds j u = #[x, .int .i64 (t.e : Int)]) (hs : SliceIn D w x t.bs) : RdAt D (w.setCell ⟨g, j, none⟩ u) g t := by
  have hst : Stays (fun k => k = g) w (w.setCell ⟨g, j, none⟩ u) := grown_stays (grown_setCell w g j u) (fun k e => (Option.some.inj e).symm)
  refine ⟨hok, h.ne, fun k d => Nat.lt_of_lt_of_le (h.dom k d) hst.size, x, ?_, hs.keep hst (fun k f d => h.ne (f ▸ d))⟩
  rw [heap_setCell_same _ _ _ _ _ _ hold, hc]
end Go.Proofs.YtgeacocdnenhdaaDoor

/-
  A number's eight bytes tell it; eight bytes are their number's.
-/
namespace Go.Proofs.YtgeacocdnenhdaaDoor
open Go.Proofs.ShaWords
theorem eight (l : List (BitVec 8)) (h : l.length = 8) : ∃ a b c d e f g i, l = [a, b, c, d, e, f, g, i] := by
  match l, h with
  | [a, b, c, d, e, f, g, i], _ => exact ⟨a, b, c, d, e, f, g, i, rfl⟩
end Go.Proofs.YtgeacocdnenhdaaDoor

/-
  The program's reader: next, Int.
-/
namespace Go.Proofs.YtgeacocdnenhdaaDoor
open Go.RowKit Go.Proofs.ShaWords
end Go.Proofs.YtgeacocdnenhdaaDoor

/-
  The program's reader: Sum, Count, Blob, Text.
-/
namespace Go.Proofs.YtgeacocdnenhdaaDoor
open Go.RowKit Go.Proofs.ShaWords
theorem infoSum (l : List (BitVec 8)) (h : l.length = 32) : (Tryd.prog.info? 48).map (·.size) = some (bytesV l).toArray.size := by
  rw [bytesV_size l 32 h]; kernel_rfl
theorem BytesAt.stays {F : Nat → Prop} {w w' : World} {g : Nat} {t : TypeId} {l : List (BitVec 8)} (h : BytesAt w g t l) (hk : Stays F w w') (hF : ¬ F g) : BytesAt w' g t l := (hk.block g h.size hF).trans h
theorem Own.lower {B B' : Nat} {w : World} {l : List (BitVec 8)} {v : Value} (h : Own B w l v) (hB : B' ≤ B) : Own B' w l v := by
  refine ⟨h.1, ?_⟩
  rcases h.2 with h0 | ⟨g, cap, cur, he, hg, r⟩
  · exact Or.inl h0
  · exact Or.inr ⟨g, cap, cur, he, Nat.le_trans hB hg, r⟩
end Go.Proofs.YtgeacocdnenhdaaDoor

/-
  What is laid: slices.Grow of nothing, slices.Concat of two, and the program's Int, Blob, Text and Sum.
-/
namespace Go.Proofs.YtgeacocdnenhdaaDoor
open Go.RowKit Go.Proofs.ShaWords
theorem strB_cells (m : List (BitVec 8)) : Lib.strCells (strB m) = bytesV m := by
  unfold Lib.strCells strB bytesV
  rw [strOfNums_data, List.map_map, List.map_map]
  refine List.map_congr_left fun b _ => ?_
  have hb := b.isLt
  simp [n8]
theorem strB_size (m : List (BitVec 8)) : (strB m).size = m.length := by
  unfold strB
  rw [strOfNums_size, List.length_map]
/-- A string's bytes, appended to a slice of the call's own. -/
theorem wpList_append_str {ops : Array Oper} {rest : List Oper} {o : Oper} {a : Act} {w : World} {Q : Exit → Act → World → Prop} (hgd : o.guard = none) (s x : Operand)
    (ho : o.op = .call { callee := .builtin .append, args := #[s, x], argTypes := #[24, 9] }) (B : Nat) (v : Value) (l m : List (BitVec 8)) (hs : a.eval s = v) (hown : Own B w l v) (hx : a.eval x = .string (strB m))
    (hl : l.length + m.length < 140737488355328) (hB : B ≤ w.heap.size)
    (h : ∀ v' w', Own B w' (l ++ m) v' → Below B w w' → wpList Tryd.prog ops Q rest (a.put o.dst v') w') : wpList Tryd.prog ops Q (o :: rest) a w := by
  obtain ⟨i, hi, hz, hsz, hby⟩ := info5'
  refine Lib.wpList_append_own_string w hgd s x 24 9 ho B 5 i Tryd.underlying24 Tryd.underlying9 hi hz hsz hby v l.length (bytesV l) hs hown (strB m) hx (by rw [strB_size]; unfold maxLen; omega) (by rw [strB_size]; omega) hB ?_
  intro v' w' ho' hg _
  refine h v' w' ?_ ((Below.refl B w).grown hg hB (fun k hk => (hown.lt k hk).1))
  unfold Own
  rw [List.length_append, bytesV_append]
  rw [strB_size, strB_cells] at ho'
  exact ho'
/-- The front of a slice of the call's own. -/
theorem Own.front {B : Nat} {w : World} {l : List (BitVec 8)} {q : Option Addr} {n c k : Nat} (h : Own B w l (.slice q n c)) (hk : k ≤ l.length) : Own B w (l.take k) (.slice q k c) := by
  rcases h.2 with ⟨h0, h1⟩ | ⟨g, cap, cur, he, hg, hh, hc, hm, hs, ht⟩
  · cases h0
    have hk0 : k = 0 := by omega
    subst hk0
    exact World.ownsRow_nil w B 5 1
  · cases he
    refine ⟨by rw [bytesV_length, Nat.mul_one], .inr ⟨g, c, cur, by rw [List.length_take, Nat.min_eq_left hk], hg, hh, by rw [List.length_take]; omega, hm, hs, ?_⟩⟩
    rw [Nat.mul_one] at ht ⊢
    rw [List.length_take, Nat.min_eq_left hk, bytesV_take, ← ht, List.take_take, Nat.min_eq_left hk]
theorem grow_any (n : Nat) (w : World) (hn : n ≤ 140737488355327) : Calls Tryd.prog 180 #[.slice none 0 0, .int .i64 (n : Int)] w fun e w' => ∃ v, e = .returned v ∧ Own w.heap.size w' [] v ∧ Below w.heap.size w w' := by
  have HO := Lib.hid (Own.nil w.heap.size w)
  go_enter Tryd.func180, Tryd.ntmps180
  by_cases h0 : n = 0
  · subst h0
    go_wp2_with fail
    go_ret
    exact ⟨_, rfl, HO.out, Below.refl _ _⟩
  · have q0 : ¬ (n : Int) < 0 := by omega
    have q1 : (n : Int) > 0 := by omega
    go_wp2_with (at_builtin; refine wpList_append_zeros rfl (.tmp 20) (.tmp 21) rfl w.heap.size _ [] n rfl HO.out rfl (by simpa using hn) (Nat.le_refl _) ?_; intro v1 w1 h1 b1; have hl := h1.lies; rw [List.nil_append, noughts_length] at hl; obtain ⟨p, cap, rfl, hc1, hc2, -⟩ := hl; have HO1 := Lib.hid h1; have HB1 := Lib.hid b1; clear h1 b1)
    go_ret
    exact ⟨_, rfl, HO1.out.front (k := 0) (Nat.zero_le _), HB1.out⟩
set_option maxHeartbeats 800000 in
theorem concat_any (l m : List (BitVec 8)) (n k : Nat) (p q : Option Addr) (c d b : Nat) (t : TypeId) (w : World) (hn : l.length = n) (hk : m.length = k) (hnk : n + k < 140737488355327) (hb : w.heap[b]? = some (.cells #[.slice p n c, .slice q k d] t (0, 0))) (hp : Lies w p l) (hq : Lies w q m) :
    Calls Tryd.prog 131 #[.slice (some ⟨b, 0, none⟩) 2 2] w fun e w' => ∃ v, e = .returned v ∧ Own w.heap.size w' (l ++ m) v ∧ Below w.heap.size w w' := by
  have HP := Lib.hid hp; clear hp
  have HQ := Lib.hid hq; clear hq
  have HN := Lib.hid hn; clear hn
  have HK := Lib.hid hk; clear hk
  have c0 : w.cell? ⟨b, 0, none⟩ = some (.slice p n c) := by rw [cell_of_row w b _ _ _ _ hb]; rfl
  have c1 : w.cell? ⟨b, 1, none⟩ = some (.slice q k d) := by rw [cell_of_row w b _ _ _ _ hb]; rfl
  have hblt : b < w.heap.size := (Array.getElem?_eq_some_iff.1 hb).1
  have HBK := Lib.hid hb; clear hb
  have q0 : ¬ (n : Int) < 0 := by omega
  have q1 : ¬ (n : Int) + (k : Int) < 0 := by omega
  go_enter Tryd.func131, Tryd.ntmps131
  go_wp2_with fail
  go_loopw [3, 11] (fun s i wr => w = wr ∧ ((s = .int .i64 0 ∧ i = .int .i64 0) ∨ (s = .int .i64 (n : Int) ∧ i = .int .i64 1) ∨ (s = .int .i64 ((n + k : Nat) : Int) ∧ i = .int .i64 2))) (fun _ i _ => 2 - (intOf i).toNat)
  case atStart => exact ⟨rfl, .inl ⟨rfl, rfl⟩⟩
  case round =>
    obtain ⟨rfl, ⟨rfl, rfl⟩ | ⟨rfl, rfl⟩ | ⟨rfl, rfl⟩⟩ := hrel
    · go_wp2_with fail
      go_roundw
      case rel => exact ⟨trivial, .inr (.inl ⟨by go_num, by go_num⟩)⟩
      case measure => simp [intOf]
    · go_wp2_with fail
      go_roundw
      case rel => exact ⟨trivial, .inr (.inr ⟨by go_num, by go_num⟩)⟩
      case measure => simp [intOf]
    · go_wp2_with (go_at_call 180; refine (grow_any (n + k) _ (by omega)).mono ?_; rintro e w1 ⟨v, rfl, ho, hb1⟩; have HO := Lib.hid ho; have HB := Lib.hid hb1; clear ho hb1)
      rename World => w1
      go_loopw [6, 27] (fun v i wr => Below w.heap.size w wr ∧ ((Own w.heap.size wr [] v ∧ i = .int .i64 0) ∨ (Own w.heap.size wr l v ∧ i = .int .i64 1) ∨ (Own w.heap.size wr (l ++ m) v ∧ i = .int .i64 2))) (fun _ i _ => 2 - (intOf i).toNat)
      case atStart => exact ⟨HB.out, .inl ⟨HO.out, rfl⟩⟩
      case round =>
        clear HO HB
        obtain ⟨hb2, ⟨ho, rfl⟩ | ⟨ho, rfl⟩ | ⟨ho, rfl⟩⟩ := hrel
        · have d0 := (hb2.cell (p := ⟨b, 0, none⟩) hblt).trans c0
          have HO := Lib.hid ho; clear ho
          have HB := Lib.hid hb2; clear hb2
          go_wp2_with (at_builtin; refine wpList_append_listB rfl (.tmp 31) (.tmp 32) rfl w.heap.size _ [] l p c rfl HO.out (by rw [HN.out]; rfl) (HP.out.below HB.out) (by rw [HN.out, List.length_nil]; omega) HB.out.size ?_; intro v1 w1 h1 b1; rw [List.nil_append] at h1; have HO1 := Lib.hid h1; have HB1 := Lib.hid (HB.out.trans b1); clear h1 b1)
          go_roundw
          case rel => exact ⟨HB1.out, .inr (.inl ⟨HO1.out, by go_num⟩)⟩
          case measure => simp [intOf]
        · have d1 := (hb2.cell (p := ⟨b, 1, none⟩) hblt).trans c1
          have HO := Lib.hid ho; clear ho
          have HB := Lib.hid hb2; clear hb2
          go_wp2_with (at_builtin; refine wpList_append_listB rfl (.tmp 31) (.tmp 32) rfl w.heap.size _ l m q d rfl HO.out (by rw [HK.out]; rfl) (HQ.out.below HB.out) (by rw [HN.out, HK.out]; omega) HB.out.size ?_; intro v1 w1 h1 b1; have HO1 := Lib.hid h1; have HB1 := Lib.hid (HB.out.trans b1); clear h1 b1)
          go_roundw
          case rel => exact ⟨HB1.out, .inr (.inr ⟨HO1.out, by go_num⟩)⟩
          case measure => simp [intOf]
        · have HO := Lib.hid ho; clear ho
          have HB := Lib.hid hb2; clear hb2
          go_wp2_with fail
          go_ret
          exact ⟨_, rfl, HO.out, HB.out⟩
theorem n8_byte (x : Int) : x % 256 = n8 (BitVec.ofInt 8 x) := by
  unfold n8
  rw [ofInt8_toNat]
  omega
theorem beTo_set (v : Int) (k : Nat) (h : k < 8) : (beTo v k ++ noughts (8 - k)).set k (BitVec.ofInt 8 (v / 2 ^ (8 * (7 - k)))) = beTo v (k + 1) ++ noughts (8 - (k + 1)) := by
  rw [List.set_append_right _ _ (by rw [beTo_length]; exact Nat.le_refl _), beTo_length, Nat.sub_self, beTo_succ, List.append_assoc]
  obtain ⟨j, hj⟩ : ∃ j, 8 - k = j + 1 := ⟨8 - k - 1, by omega⟩
  rw [hj, show 8 - (k + 1) = j by omega]
  rfl
set_option maxHeartbeats 800000 in
theorem intP_any (v : Int) (l : List (BitVec 8)) (n : Nat) (p : Option Addr) (c : Nat) (w : World) (hn : l.length = n) (hl : n < 140737488355000) (hp : Lies w p l) :
    Calls Tryd.prog 57 #[.slice p n c, .int .i64 v] w fun e w' => ∃ r, e = .returned r ∧ Own w.heap.size w' (l ++ be8 v) r ∧ Below w.heap.size w w' := by
  have HP := Lib.hid hp; clear hp
  have HN := Lib.hid hn; clear hn
  have HST : Hid (BytesAt (w.alloc (.cells (bytesV (noughts 8)).toArray 156)) w.heap.size 156 (beTo v 0 ++ noughts (8 - 0)) ∧ Below w.heap.size w (w.alloc (.cells (bytesV (noughts 8)).toArray 156))) := show _ ∧ _ from ⟨heap_new_at rfl, (Below.refl _ _).alloc (Nat.le_refl _) _⟩
  go_enter Tryd.func57, Tryd.ntmps57
  go_wp2_with fail
  go_loopw [7] (fun i wr => ∃ k : Nat, k ≤ 8 ∧ i = .int .i64 (k : Int) ∧ BytesAt wr w.heap.size 156 (beTo v k ++ noughts (8 - k)) ∧ Below w.heap.size w wr) (fun i _ => 8 - (intOf i).toNat)
  case atStart => exact ⟨0, by omega, rfl, HST.out.1, HST.out.2⟩
  case round =>
    clear HST
    obtain ⟨k, hk, rfl, ho, hb⟩ := hrel
    by_cases hlt : k < 8
    · have q0 : (k : Int) < 8 := by omega
      have hll : k < (beTo v k ++ noughts (8 - k)).length := by rw [List.length_append, beTo_length, noughts_length]; omega
      have hc := cell_bytesV ho hll
      have hf := frozen_of_row _ _ k _ _ ho
      have HO := Lib.hid ho; clear ho
      have HB := Lib.hid hb; clear hb
      go_wp2_with fail
      go_roundw
      case rel =>
        rw [n8_byte]
        refine ⟨k + 1, by omega, by go_num, ?_, HB.out.grown (grown_setCell wr w.heap.size k _) HB.out.size (fun x e => by cases e; exact Nat.le_refl _)⟩
        have h1 := setCell_bytes (k := k) HO.out (BitVec.ofInt 8 (v / 2 ^ (8 * (7 - k))))
        rw [beTo_set v k hlt] at h1
        exact h1
      case measure => simp [intOf]; omega
    · have q0 : ¬ (k : Int) < 8 := by omega
      obtain rfl : k = 8 := by omega
      have h8 : beTo v 8 ++ noughts (8 - 8) = be8 v := by simp [be8, noughts]
      rw [h8] at ho
      have HO := Lib.hid ho; clear ho
      have HB := Lib.hid hb; clear hb
      have sz := HB.out.size
      have HB1 : Hid (Below wr.heap.size wr (wr.alloc (.cells #[.slice p n c, .slice (some ⟨w.heap.size, 0, none⟩) 8 8] 24))) := show Below _ _ _ from (Below.refl _ _).alloc (Nat.le_refl _) _
      have HC := Lib.hid (concat_any l (be8 v) n 8 p (some ⟨w.heap.size, 0, none⟩) c 8 wr.heap.size 24 (wr.alloc (.cells #[.slice p n c, .slice (some ⟨w.heap.size, 0, none⟩) 8 8] 24)) HN.out (be8_length v) (by omega) (heap_new_at rfl) ((HP.out.below HB.out).below HB1.out) ((show Lies wr _ _ from Or.inr ⟨_, 0, rfl, HO.out.range⟩).below HB1.out))
      go_wp2_with (go_at_call 131; refine HC.out.mono ?_; rintro e w2 ⟨r, rfl, ho, hb⟩; have HO2 := Lib.hid ho; have HB2 := Lib.hid (HB.out.trans ((HB1.out.trans (hb.mono HB1.out.size)).mono sz)); clear ho hb)
      go_ret
      exact ⟨_, rfl, HO2.out.lower (by rw [size_alloc]; omega), HB2.out⟩
theorem withLenS_any (l m : List (BitVec 8)) (n k : Nat) (p : Option Addr) (c : Nat) (w : World) (hn : l.length = n) (hk : m.length = k) (hl : n + k < 140737488350000) (hp : Lies w p l) :
    Calls Tryd.prog 132 #[.slice p n c, .string (strB m)] w fun e w' => ∃ r, e = .returned r ∧ Own w.heap.size w' (l ++ be8 (k : Int) ++ m) r ∧ Below w.heap.size w w' := by
  have HI := Lib.hid (intP_any (k : Int) l n p c w hn (by omega) hp)
  have HK := Lib.hid hk
  have HLE : Hid ((l ++ be8 (k : Int)).length + m.length < 140737488355328) := show _ < _ by rw [List.length_append, be8_length]; omega
  clear hk hp
  have hsz := strB_size m
  rw [HK.out] at hsz
  generalize hS : strB m = S at *
  have HS := Lib.hid hS; clear hS
  go_enter Tryd.func132, Tryd.ntmps132
  go_wp2_with (first
    | (go_at_call 57; refine HI.out.mono ?_; rintro e w1 ⟨r, rfl, ho, hb⟩; have HO := Lib.hid ho; have HB := Lib.hid hb; clear ho hb)
    | (at_builtin; refine wpList_append_str rfl (.tmp 8) (.tmp 9) rfl w.heap.size _ _ m rfl HO.out (by rw [HS.out]; rfl) HLE.out HB.out.size ?_; intro v1 w2 h1 b1; have HO1 := Lib.hid h1; have HB1 := Lib.hid (HB.out.trans b1); clear h1 b1))
  go_ret
  exact ⟨_, rfl, HO1.out, HB1.out⟩
theorem textP_any (l m : List (BitVec 8)) (n k : Nat) (p : Option Addr) (c : Nat) (w : World) (hn : l.length = n) (hk : m.length = k) (hl : n + k < 140737488350000) (hp : Lies w p l) :
    Calls Tryd.prog 58 #[.slice p n c, .string (strB m)] w fun e w' => ∃ r, e = .returned r ∧ Own w.heap.size w' (l ++ be8 (k : Int) ++ m) r ∧ Below w.heap.size w w' := by
  have HI := Lib.hid (withLenS_any l m n k p c w hn hk hl hp)
  clear hk hp hn
  go_enter Tryd.func58, Tryd.ntmps58
  go_wp2_with (go_at_call 132; refine HI.out.mono ?_; rintro e w1 ⟨r, rfl, ho, hb⟩; have HO := Lib.hid ho; have HB := Lib.hid hb; clear ho hb)
  go_ret
  exact ⟨_, rfl, HO.out, HB.out⟩
end Go.Proofs.YtgeacocdnenhdaaDoor

/-
  The document's Int, Blob, Text and Sum of layer 7.
-/
namespace Go.Proofs.YtgeacocdnenhdaaDoor
open Go.RowKit Go.Proofs.ShaWords
theorem refByte (v : Int) (i : Nat) (h : i < 8) : (((v % 18446744073709551616).toNat / 256 ^ i : Nat) : Int) % 256 = n8 (BitVec.ofInt 8 (v / 2 ^ (8 * i))) := by
  rw [← n8_byte]
  have hU : (((v % 18446744073709551616).toNat : Nat) : Int) = v % 18446744073709551616 := by omega
  rw [Int.natCast_ediv, hU]
  clear hU
  obtain rfl | rfl | rfl | rfl | rfl | rfl | rfl | rfl : i = 0 ∨ i = 1 ∨ i = 2 ∨ i = 3 ∨ i = 4 ∨ i = 5 ∨ i = 6 ∨ i = 7 := by omega
  · show v % 18446744073709551616 / 1 % 256 = v / 1 % 256; omega
  · show v % 18446744073709551616 / 256 % 256 = v / 256 % 256; omega
  · show v % 18446744073709551616 / 65536 % 256 = v / 65536 % 256; omega
  · show v % 18446744073709551616 / 16777216 % 256 = v / 16777216 % 256; omega
  · show v % 18446744073709551616 / 4294967296 % 256 = v / 4294967296 % 256; omega
  · show v % 18446744073709551616 / 1099511627776 % 256 = v / 1099511627776 % 256; omega
  · show v % 18446744073709551616 / 281474976710656 % 256 = v / 281474976710656 % 256; omega
  · show v % 18446744073709551616 / 72057594037927936 % 256 = v / 72057594037927936 % 256; omega
theorem wrapU (v : Int) : IntKind.u64.wrap v = (((v % 18446744073709551616).toNat : Nat) : Int) := by
  rw [IntKind.wrap_u64]; omega
set_option maxHeartbeats 1000000 in
theorem intR_any (v : Int) (l : List (BitVec 8)) (n : Nat) (p : Option Addr) (c : Nat) (w : World) (hn : l.length = n) (hl : n < 140737488355000) (hp : Lies w p l) :
    Calls Tryd.prog 111 #[.slice p n c, .int .i64 v] w fun e w' => ∃ r, e = .returned r ∧ Own w.heap.size w' (l ++ be8 v) r ∧ Below w.heap.size w w' := by
  have HC := Lib.hid (copy_bigL l n p c w hn (by omega) hp)
  clear hp
  have hwu := wrapU v
  have hrb := fun i h => refByte v i h
  have hUlt : (v % 18446744073709551616).toNat < 18446744073709551616 := by omega
  generalize (v % 18446744073709551616).toNat = U at *
  have HRB := Lib.hid hrb; clear hrb
  go_enter Tryd.func111, Tryd.ntmps111
  go_wp2_with (go_at_call 18; refine HC.out.mono ?_; rintro e w1 ⟨r, rfl, ho, hb⟩; have HO := Lib.hid ho; have HB := Lib.hid hb; clear ho hb)
  clear hwu HC
  rename World => w1
  go_loopw [5, 7] (fun r i wr => ∃ j : Nat, j ≤ 8 ∧ i = .int .i64 (7 - (j : Int)) ∧ Own w.heap.size wr (l ++ beTo v j) r ∧ Below w.heap.size w wr) (fun _ i _ => (intOf i + 1).toNat)
  case atStart => exact ⟨0, by omega, rfl, by rw [beTo_zero, List.append_nil]; exact HO.out, HB.out⟩
  case round =>
    clear HO HB
    obtain ⟨j, hj, rfl, ho, hb⟩ := hrel
    have HO := Lib.hid ho; clear ho
    have HB := Lib.hid hb; clear hb
    have sz := HB.out.size
    by_cases hlt : j < 8
    · have q0 : 7 - (j : Int) ≥ 0 := by omega
      go_wp2_with fail
      go_loopw [8, 9] (fun x k w2 => wr = w2 ∧ ∃ i : Nat, (i : Int) ≤ 7 - (j : Int) ∧ k = .int .i64 (i : Int) ∧ x = .int .u64 ((U / 256 ^ i : Nat) : Int)) (fun _ k _ => (7 - (j : Int) - intOf k).toNat)
      case atStart => exact ⟨rfl, 0, by omega, rfl, by simp⟩
      case round =>
        obtain ⟨rfl, i, hi, rfl, rfl⟩ := hrel
        have hdiv : U / 256 ^ i / 256 = U / 256 ^ (i + 1) := by rw [Nat.div_div_eq_div_mul, Nat.pow_succ]
        have hle : U / 256 ^ i ≤ U := Nat.div_le_self _ _
        by_cases hil : (i : Int) < 7 - (j : Int)
        · generalize U / 256 ^ i = X at *
          go_wp2_with fail
          go_roundw
          case rel => exact ⟨trivial, i + 1, by omega, by go_num, by rw [← hdiv]; rfl⟩
          case measure => simp [intOf]; omega
        · obtain rfl : i = 7 - j := by omega
          have m1 := HRB.out (7 - j) (by omega)
          have HBT : Hid (l ++ beTo v (j + 1) = (l ++ beTo v j) ++ [BitVec.ofInt 8 (v / 2 ^ (8 * (7 - j)))]) := show _ = _ by rw [beTo_succ, List.append_assoc]
          have HLE : Hid ((l ++ beTo v j).length < 140737488355328) := show _ < _ by rw [List.length_append, beTo_length]; omega
          generalize BitVec.ofInt 8 (v / 2 ^ (8 * (7 - j))) = b at *
          generalize U / 256 ^ (7 - j) = X at *
          go_wp2_with (at_builtin; refine wpList_append_byte_big rfl (.tmp 26) (.tmp 30) rfl w.heap.size _ (l ++ beTo v j) b rfl HO.out rfl HLE.out HB.out.size ?_; intro v' w' ho' hb'; rw [← HBT.out] at ho'; have HO' := Lib.hid ho'; have HB' := Lib.hid (HB.out.trans hb'); clear ho' hb')
          go_roundw
          case rel => exact ⟨j + 1, by omega, by go_num, HO'.out, HB'.out⟩
          case measure => simp [intOf]; omega
    · obtain rfl : j = 8 := by omega
      go_wp2_with fail
      go_ret
      exact ⟨_, rfl, HO.out, HB.out⟩
end Go.Proofs.YtgeacocdnenhdaaDoor

/-
  The document's Blob, Text and Sum of layer 7.
-/
namespace Go.Proofs.YtgeacocdnenhdaaDoor
open Go.RowKit Go.Proofs.ShaWords
theorem strB_byte (m : List (BitVec 8)) (k : Nat) (h : k < m.length) (w : World) : (Instr.index 9 (.string (strB m)) (.int .i64 (k : Int))).run Tryd.prog w = .ok (.int .u8 (n8 m[k])) w := by
  have hsz := strB_size m
  rw [run_index_string (P := Tryd.prog) w 9 (strB m) .i64 (k : Int) Tryd.underlying9, dif_pos ⟨by omega, by rw [hsz]; omega⟩]
  have e : ((strB m)[(k : Int).toNat]'(by rw [hsz]; omega)).toNat = m[k].toNat := by
    have h1 := m[k].isLt
    simp [strB, strOfNums, ByteArray.getElem_eq_getElem_data, n8]
  unfold n8
  rw [e]
set_option maxHeartbeats 1000000 in
theorem textR_any (l m : List (BitVec 8)) (n k : Nat) (p : Option Addr) (c : Nat) (w : World) (hn : l.length = n) (hk : m.length = k) (hl : n + k < 140737488350000) (hp : Lies w p l) :
    Calls Tryd.prog 112 #[.slice p n c, .string (strB m)] w fun e w' => ∃ r, e = .returned r ∧ Own w.heap.size w' (l ++ be8 (k : Int) ++ m) r ∧ Below w.heap.size w w' := by
  have HI := Lib.hid (intR_any (k : Int) l n p c w hn (by omega) hp)
  have hlE : (l ++ be8 (k : Int)).length = n + 8 := by rw [List.length_append, be8_length]; omega
  clear hp hn
  generalize l ++ be8 (k : Int) = L at *
  have hsz := strB_size m
  rw [hk] at hsz
  have hix := fun j h w => strB_byte m j h w
  generalize strB m = S at *
  have HIX := Lib.hid hix; clear hix
  go_enter Tryd.func112, Tryd.ntmps112
  go_wp2_with (go_at_call 111; refine HI.out.mono ?_; rintro e w1 ⟨r, rfl, ho, hb⟩; have HO := Lib.hid ho; have HB := Lib.hid hb; clear ho hb)
  rename World => w1
  clear HI
  go_loopw [5, 6] (fun r i wr => ∃ j : Nat, j ≤ k ∧ i = .int .i64 (j : Int) ∧ Own w.heap.size wr (L ++ m.take j) r ∧ Below w.heap.size w wr) (fun _ i _ => k - (intOf i).toNat)
  case atStart => exact ⟨0, by omega, rfl, by rw [List.take_zero, List.append_nil]; exact HO.out, HB.out⟩
  case round =>
    clear HO HB
    obtain ⟨j, hj, rfl, ho, hb⟩ := hrel
    have HO := Lib.hid ho; clear ho
    have HB := Lib.hid hb; clear hb
    by_cases hlt : j < k
    · have hjm : j < m.length := by omega
      have hix := HIX.out j hjm
      have HTK : Hid (L ++ m.take (j + 1) = (L ++ m.take j) ++ [m[j]]) := show _ = _ by rw [List.take_succ_eq_append_getElem hjm, List.append_assoc]
      have HLE : Hid ((L ++ m.take j).length < 140737488355328) := show _ < _ by rw [List.length_append, hlE, List.length_take]; omega
      generalize m[j] = x at hix HTK
      go_wp2_with (at_builtin; refine wpList_append_byte_big rfl (.tmp 17) (.tmp 21) rfl w.heap.size _ (L ++ m.take j) x rfl HO.out rfl HLE.out HB.out.size ?_; intro v' w' ho' hb'; rw [← HTK.out] at ho'; have HO' := Lib.hid ho'; have HB' := Lib.hid (HB.out.trans hb'); clear ho' hb')
      go_roundw
      case rel => exact ⟨j + 1, by omega, by go_num, HO'.out, HB'.out⟩
      case measure => simp [intOf]; omega
    · have HTK : Hid (m.take j = m) := show _ = _ from List.take_of_length_le (by omega)
      go_wp2_with fail
      go_ret
      exact ⟨_, rfl, by have h := HO.out; rw [HTK.out] at h; exact h, HB.out⟩
end Go.Proofs.YtgeacocdnenhdaaDoor
