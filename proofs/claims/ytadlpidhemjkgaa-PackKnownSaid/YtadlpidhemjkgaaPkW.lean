/-
  What other texts lean on: PkModel, PkRd, PkNum, PkNext, PkMore, PkLay, PkRefLay, PkRefLay2, PkRefRd, PkRefRd2, PkRefRd3, PkRefSum, PkWorks, PkOpen.
-/
import Derived.Test.YtadlpidhemjkgaaPkA
import Derived.Test.YtadlpidhemjkgaaPkP
import Derived.Deep.Cut
import Derived.Deep.CutRange
import Derived.Lib.AppendStr
import Derived.Deep.QuietTactic
import Derived.BigQuiet
import Derived.StillTailTactics
import Derived.Laws.ResultCell
import Derived.Great.BuildSlice
/-
  What layer 7 asks, as plain functions: a number in eight bytes, the highest first, there and back; a reader.
-/
namespace Go.Proofs.Ytadlpidhemjkgaa
open Go.Proofs.ShaWords
/-- The first k of a number's bytes, the highest first. -/
def beTo (v : Int) (k : Nat) : List (BitVec 8) := (List.range k).map fun i => BitVec.ofInt 8 (v / 2 ^ (8 * (7 - i)))
def be8 (v : Int) : List (BitVec 8) := beTo v 8
theorem beTo_zero (v : Int) : beTo v 0 = [] := rfl
theorem beTo_succ (v : Int) (k : Nat) : beTo v (k + 1) = beTo v k ++ [BitVec.ofInt 8 (v / 2 ^ (8 * (7 - k)))] := by simp [beTo, List.range_succ]
theorem beTo_length (v : Int) (k : Nat) : (beTo v k).length = k := by simp [beTo]
theorem be8_length (v : Int) : (be8 v).length = 8 := beTo_length v 8
/-- The number that bytes tell, the highest first. -/
def num8 (l : List (BitVec 8)) : Nat := l.foldl (fun u b => u * 256 + b.toNat) 0
theorem num8_nil : num8 [] = 0 := rfl
theorem num8_snoc (l : List (BitVec 8)) (b : BitVec 8) : num8 (l ++ [b]) = num8 l * 256 + b.toNat := by simp [num8]
theorem num8_lt : ∀ (k : Nat) (l : List (BitVec 8)), l.length = k → num8 l < 256 ^ k
  | 0, l, h => by rw [List.length_eq_zero_iff.1 h]; decide
  | k + 1, l, h => by
    have hne : l ≠ [] := fun e => by rw [e] at h; simp at h
    rw [← List.dropLast_concat_getLast hne, num8_snoc]
    have h1 := num8_lt k l.dropLast (by rw [List.length_dropLast]; omega)
    have h2 := (l.getLast hne).isLt
    rw [Nat.pow_succ]
    omega
/-- The number as an int. -/
def int8 (l : List (BitVec 8)) : Int := IntKind.i64.wrap (num8 l : Int)
theorem int8_nil : int8 [] = 0 := by decide
theorem or_byte (u b : Nat) (hb : b < 256) : u * 256 ||| b = u * 256 + b := by
  rw [Nat.mul_comm u 256]
  exact (Nat.two_pow_add_eq_or_of_lt (i := 8) hb u).symm
theorem shl_or8 (u : Nat) (b : BitVec 8) (h : u * 256 + 255 < 18446744073709551616) : bits .or .u64 (IntKind.u64.wrap ((u : Int) * 256)) (n8 b) = ((u * 256 + b.toNat : Nat) : Int) := by
  have e1 : IntKind.u64.wrap ((u : Int) * 256) = ((u * 256 : Nat) : Int) := by rw [IntKind.wrap_u64]; omega
  have hb := b.isLt
  rw [e1]
  unfold n8
  rw [u64_or_nat (u * 256) b.toNat (Nat.lt_of_le_of_lt (Nat.le_add_right _ 255) h) (Nat.lt_of_lt_of_le hb (by decide)), or_byte u b.toNat hb]
theorem mul_add8 (u : Nat) (b : BitVec 8) (h : u * 256 + 255 < 18446744073709551616) : IntKind.u64.wrap (IntKind.u64.wrap ((u : Int) * 256) + n8 b) = ((u * 256 + b.toNat : Nat) : Int) := by
  have hb := b.isLt
  unfold n8
  simp only [IntKind.wrap_u64]
  omega
theorem num_bound (k : Nat) (l : List (BitVec 8)) (h : l.length = k) (hk : k < 8) : num8 l * 256 + 255 < 18446744073709551616 := by
  have h1 := num8_lt k l h
  have h2 : (256 : Nat) ^ k ≤ 256 ^ 7 := Nat.pow_le_pow_right (by omega) (by omega)
  have h3 : (256 : Nat) ^ 7 = 72057594037927936 := by decide
  rw [h3] at h2
  generalize (256 : Nat) ^ k = P at h1 h2
  omega
theorem ofInt8_toNat (x : Int) : (BitVec.ofInt 8 x).toNat = (x % 256).toNat := by rw [BitVec.toNat_ofInt]; rfl
/-- A reader: the bytes that are left (none once an error has stuck), the error. -/
structure RS where
  bs : List (BitVec 8)
  e : Nat
def RS.fail (s : RS) (k : Nat) : RS := ⟨[], if s.e = 0 then k else s.e⟩
def RS.next (s : RS) (n : Nat) : RS := if s.bs.length < n then s.fail 4 else ⟨s.bs.drop n, s.e⟩
def RS.got (s : RS) (n : Nat) : List (BitVec 8) := if s.bs.length < n then [] else s.bs.take n
def RS.intV (s : RS) : Int := int8 (s.got 8)
def RS.sumV (s : RS) : List (BitVec 8) := if s.bs.length < 32 then List.replicate 32 0#8 else s.bs.take 32
def RS.over (s : RS) (most : Int) : Bool := decide (s.intV < 0) || decide (most < s.intV)
def RS.countS (s : RS) (most : Int) : RS := if s.over most = true then (s.next 8).fail 3 else s.next 8
def RS.countV (s : RS) (most : Int) : Nat := if s.over most = true then 0 else s.intV.toNat
def RS.blobS (s : RS) (most : Int) : RS := (s.countS most).next (s.countV most)
def RS.blobV (s : RS) (most : Int) : List (BitVec 8) := (s.countS most).got (s.countV most)
def RS.Ok (s : RS) : Prop := s.e ≠ 0 → s.bs = []
theorem RS.fail_ok (s : RS) (k : Nat) : (s.fail k).Ok := fun _ => rfl
theorem RS.next_ok {s : RS} (h : s.Ok) (n : Nat) : (s.next n).Ok := by
  unfold RS.next
  split
  · exact RS.fail_ok s 4
  · intro h1
    have := h h1
    simp [this]
theorem RS.countS_ok {s : RS} (h : s.Ok) (most : Int) : (s.countS most).Ok := by
  unfold RS.countS
  split
  · exact RS.fail_ok _ 3
  · exact RS.next_ok h 8
theorem RS.blobS_ok {s : RS} (h : s.Ok) (most : Int) : (s.blobS most).Ok := RS.next_ok (RS.countS_ok h most) _
theorem RS.got_length {s : RS} {n : Nat} : (s.got n).length ≤ n := by
  unfold RS.got; split
  · simp
  · rw [List.length_take]; omega
theorem RS.got_le {s : RS} {n : Nat} : (s.got n).length ≤ s.bs.length := by
  unfold RS.got; split
  · simp
  · rw [List.length_take]; omega
end Go.Proofs.Ytadlpidhemjkgaa

/-
  The program's reader in memory: Read, Left, Bad, End, fail, next, Int.
-/
namespace Go.Proofs.Ytadlpidhemjkgaa
open Go.RowKit Go.Proofs.ShaWords
/-- The program's reader: its block; what is left lies in blocks of D. -/
structure RdAt (D : Nat → Prop) (w : World) (g : Nat) (s : RS) : Prop where
  ok : s.Ok
  ne : ¬ D g
  dom : ∀ k, D k → k < w.heap.size
  left : ∃ v, w.heap[g]? = some (.cells #[v, .int .i64 (s.e : Int)] 91 (0, 0)) ∧ SliceIn D w v s.bs
theorem RdAt.lt {D : Nat → Prop} {w : World} {g : Nat} {s : RS} (h : RdAt D w g s) : g < w.heap.size := by
  obtain ⟨v, h1, _⟩ := h.left
  exact (Array.getElem?_eq_some_iff.1 h1).1
theorem RdAt.keep {D F : Nat → Prop} {w w' : World} {g : Nat} {s : RS} (h : RdAt D w g s) (hk : Stays F w w') (hF : ∀ k, F k → k ≠ g ∧ ¬ D k) : RdAt D w' g s := by
  have hlt := h.lt
  obtain ⟨h1, h2, h3, v, h4, h5⟩ := h
  exact ⟨h1, h2, fun k d => Nat.lt_of_lt_of_le (h3 k d) hk.size, v, (hk.block g hlt (fun f => (hF g f).1 rfl)).trans h4, h5.keep hk (fun k f => (hF k f).2)⟩
theorem RdAt.below {D : Nat → Prop} {w w' : World} {g : Nat} {s : RS} (h : RdAt D w g s) (hb : Below w.heap.size w w') : RdAt D w' g s :=
  h.keep (F := fun _ => False) (Below.stays hb) (fun _ h => h.elim)
/-- Another reader, or anything else in other blocks, was changed. -/
theorem RdAt.past {D : Nat → Prop} {w w' : World} {g k : Nat} {s : RS} (h : RdAt D w g s) (hk : Stays (fun x => x = k) w w') (h1 : k ≠ g) (h2 : ¬ D k) : RdAt D w' g s :=
  h.keep hk (fun x e => by subst e; exact ⟨h1, h2⟩)
theorem RdAt.cell0 {D : Nat → Prop} {w : World} {g : Nat} {s : RS} (h : RdAt D w g s) : ∃ q c, w.heap[g]? = some (.cells #[.slice q s.bs.length c, .int .i64 (s.e : Int)] 91 (0, 0)) ∧ w.cell? ⟨g, 0, none⟩ = some (.slice q s.bs.length c) ∧ w.cell? ⟨g, 1, none⟩ = some (.int .i64 (s.e : Int)) ∧ (∀ j, w.frozen? ⟨g, j, none⟩ = false) ∧ s.bs.length ≤ c ∧ c ≤ maxLen ∧ LiesIn D w q s.bs := by
  obtain ⟨v, h4, q, c, rfl, h5, h6, h7⟩ := h.left
  refine ⟨q, c, h4, ?_, ?_, fun j => frozen_of_row _ _ _ _ _ h4, h5, h6, h7⟩
  · rw [cell_of_row w g _ _ _ _ h4]; rfl
  · rw [cell_of_row w g _ _ _ _ h4]; rfl
theorem SliceIn.nil (D : Nat → Prop) (w : World) : SliceIn D w (.slice none 0 0) [] := ⟨none, 0, rfl, Nat.le_refl _, Nat.zero_le _, Or.inl rfl⟩
set_option maxRecDepth 100000 in
theorem read_any (l : List (BitVec 8)) (n : Nat) (p : Option Addr) (c : Nat) (w : World) (hn : l.length = n) (hl : n < 140737488355328) (hp : Lies w p l) :
    Calls Try.prog 16 #[.slice p n c] w fun e w' => ∃ g, e = .returned (.pointer (some ⟨g, 0, none⟩)) ∧ w.heap.size ≤ g ∧ RdAt (fun k => w.heap.size ≤ k ∧ k < g) w' g ⟨l, 0⟩ ∧ Below w.heap.size w w' := by
  have HP := Lib.hid hp; clear hp
  go_enter Try.func16, Try.ntmps16
  go_wp2_with fail
  refine (clone_any l n p c w hn hl HP.out).mono ?_
  subst hn
  rintro e w1 ⟨v, rfl, ho, hb⟩
  obtain ⟨q, c1, rfl, h1, h2, -⟩ := ho.lies
  have HO := Lib.hid ho; clear ho
  have HB := Lib.hid hb; clear hb
  have sz := HB.out.size
  go_wp2_with fail
  go_ret
  refine ⟨w1.heap.size, rfl, sz, ⟨fun h => absurd rfl h, by omega, fun k hk => by rw [size_alloc]; omega, .slice q l.length c1, heap_new_at rfl, ?_⟩, HB.out.alloc sz _⟩
  exact (HO.out.sliceIn (D := fun k => w.heap.size ≤ k ∧ k < w1.heap.size) (fun k hk => World.ownsRow.lt HO.out k hk)).keep (F := fun _ => False) (Below.stays ((Below.refl _ _).alloc (Nat.le_refl _) _)) (fun _ h => h.elim)
theorem left_any (D : Nat → Prop) (g : Nat) (s : RS) (w : World) (h : RdAt D w g s) :
    Calls Try.prog 54 #[.pointer (some ⟨g, 0, none⟩)] w fun e w' => e = .returned (.int .i64 (s.bs.length : Int)) ∧ w = w' := by
  obtain ⟨q, c, -, h0, -, -, -⟩ := h.cell0
  clear h
  generalize s.bs.length = n at *
  go_enter Try.func54, Try.ntmps54
  go_wp2_with fail
  go_ret
  exact ⟨rfl, rfl⟩
theorem bad_any (D : Nat → Prop) (g : Nat) (s : RS) (w : World) (h : RdAt D w g s) :
    Calls Try.prog 59 #[.pointer (some ⟨g, 0, none⟩)] w fun e w' => e = .returned (.bool (decide (s.e ≠ 0))) ∧ w = w' := by
  obtain ⟨q, c, -, -, h0, -, -⟩ := h.cell0
  clear h
  generalize s.e = n at *
  go_enter Try.func59, Try.ntmps59
  go_wp2_with fail
  go_ret
  by_cases hn : n = 0 <;> simp [hn] <;> omega
/-- What End tells. -/
def RS.endV (s : RS) : Nat := if s.e = 0 ∧ 0 < s.bs.length then 5 else s.e
theorem end_any (D : Nat → Prop) (g : Nat) (s : RS) (w : World) (h : RdAt D w g s) :
    Calls Try.prog 17 #[.pointer (some ⟨g, 0, none⟩)] w fun e w' => e = .returned (.int .i64 (s.endV : Int)) ∧ w = w' := by
  have HB := Lib.hid (bad_any D g s w h)
  have HL := Lib.hid (left_any D g s w h)
  obtain ⟨q, c, -, -, h0, -, -⟩ := h.cell0
  clear h
  unfold RS.endV
  generalize s.e = n at *
  generalize s.bs.length = m at *
  generalize hE : (if n = 0 ∧ 0 < m then 5 else n) = E
  go_enter Try.func17, Try.ntmps17
  by_cases hn : n = 0
  · by_cases hm : 0 < m
    · have e1 : decide (n ≠ 0) = false := by simp [hn]
      rw [e1] at HB
      have q0 : (m : Int) > 0 := by omega
      have HE : Hid (E = 5) := show _ = _ by rw [← hE, if_pos ⟨hn, hm⟩]
      clear hE
      go_wp2_with (first
        | (go_at_call 59; refine HB.out.mono ?_; rintro e w' ⟨rfl, rfl⟩)
        | (go_at_call 54; refine HL.out.mono ?_; rintro e w' ⟨rfl, rfl⟩))
      go_ret
      exact ⟨by rw [HE.out]; rfl, rfl⟩
    · have e1 : decide (n ≠ 0) = false := by simp [hn]
      rw [e1] at HB
      have q0 : ¬ (m : Int) > 0 := by omega
      have HE : Hid (E = n) := show _ = _ by rw [← hE, if_neg (fun h => hm h.2)]
      clear hE
      go_wp2_with (first
        | (go_at_call 59; refine HB.out.mono ?_; rintro e w' ⟨rfl, rfl⟩)
        | (go_at_call 54; refine HL.out.mono ?_; rintro e w' ⟨rfl, rfl⟩))
      go_ret
      exact ⟨by rw [HE.out]; rw [hn]; rfl, rfl⟩
  · have e1 : decide (n ≠ 0) = true := by simp [hn]
    rw [e1] at HB
    have HE : Hid (E = n) := show _ = _ by rw [← hE, if_neg (fun h => hn h.1)]
    clear hE
    go_wp2_with (go_at_call 59; refine HB.out.mono ?_; rintro e w' ⟨rfl, rfl⟩)
    go_ret
    exact ⟨by rw [HE.out]; rfl, rfl⟩
theorem RdAt.set {D : Nat → Prop} {w : World} {g : Nat} {s t : RS} (h : RdAt D w g s) {v : Value} {j : Nat} {u : Value} {x : Value} (hold : w.heap[g]? = some (.cells #[v, .int .i64 (s.e : Int)] 91 (0, 0))) (hok : t.Ok)
    (hc : (#[v, .int .i64 (s.e : Int)] : Array Value).setIfInBounds j u = #[x, .int .i64 (t.e : Int)]) (hs : SliceIn D w x t.bs) : RdAt D (w.setCell ⟨g, j, none⟩ u) g t := by
  have hst : Stays (fun k => k = g) w (w.setCell ⟨g, j, none⟩ u) := grown_stays (grown_setCell w g j u) (fun k e => (Option.some.inj e).symm)
  refine ⟨hok, h.ne, fun k d => Nat.lt_of_lt_of_le (h.dom k d) hst.size, x, ?_, hs.keep hst (fun k f d => h.ne (f ▸ d))⟩
  rw [heap_setCell_same _ _ _ _ _ _ hold, hc]
theorem fail_any (D : Nat → Prop) (g : Nat) (s : RS) (k : Nat) (w : World) (h : RdAt D w g s) :
    Calls Try.prog 94 #[.pointer (some ⟨g, 0, none⟩), .int .i64 (k : Int)] w fun e w' => e = .returned (.tuple #[]) ∧ RdAt D w' g (s.fail k) ∧ Stays (fun x => x = g) w w' := by
  have HB := Lib.hid (bad_any D g s w h)
  obtain ⟨q, c, h1, c0, c1, hf, h2, h3, h4⟩ := h.cell0
  have hf0 := hf 0
  have hf1 := hf 1
  have H := Lib.hid h
  have H1 := Lib.hid h1
  clear h h1 hf h2 h3 h4
  go_enter Try.func94, Try.ntmps94
  by_cases hn : s.e = 0
  · have e1 : decide (s.e ≠ 0) = false := by simp [hn]
    rw [e1] at HB
    have hok : ¬ s.e ≠ 0 := fun h => h hn
    have hst : Stays (fun x => x = g) w (w.setCell ⟨g, 1, none⟩ (.int .i64 (k : Int))) := grown_stays (grown_setCell w g 1 _) (fun k e => (Option.some.inj e).symm)
    have g1 : (w.setCell ⟨g, 1, none⟩ (.int .i64 (k : Int))).heap[g]? = some (.cells #[.slice q s.bs.length c, .int .i64 (k : Int)] 91 (0, 0)) := by rw [heap_setCell_same _ _ _ _ _ _ H1.out]; rfl
    have g2 : (w.setCell ⟨g, 1, none⟩ (.int .i64 (k : Int))).cell? ⟨g, 0, none⟩ = some (.slice q s.bs.length c) := by rw [cell_of_row _ g _ _ _ _ g1]; rfl
    have g3 : (w.setCell ⟨g, 1, none⟩ (.int .i64 (k : Int))).frozen? ⟨g, 0, none⟩ = false := frozen_of_row _ _ _ _ _ g1
    have HR : Hid (RdAt D ((w.setCell ⟨g, 1, none⟩ (.int .i64 (k : Int))).setCell ⟨g, 0, none⟩ (.slice none 0 0)) g (s.fail k) ∧ Stays (fun x => x = g) w ((w.setCell ⟨g, 1, none⟩ (.int .i64 (k : Int))).setCell ⟨g, 0, none⟩ (.slice none 0 0))) := show _ ∧ _ by
      have hst2 : Stays (fun x => x = g) (w.setCell ⟨g, 1, none⟩ (.int .i64 (k : Int))) ((w.setCell ⟨g, 1, none⟩ (.int .i64 (k : Int))).setCell ⟨g, 0, none⟩ (.slice none 0 0)) := grown_stays (grown_setCell _ g 0 _) (fun k e => (Option.some.inj e).symm)
      have hst3 := hst.trans hst2 (fun k e _ => e)
      refine ⟨⟨RS.fail_ok s k, H.out.ne, fun x d => Nat.lt_of_lt_of_le (H.out.dom x d) hst3.size, .slice none 0 0, ?_, SliceIn.nil D _⟩, hst3⟩
      rw [heap_setCell_same _ _ _ _ _ _ g1]
      unfold RS.fail
      rw [if_pos hn]
      rfl
    clear g1 hst hok e1
    go_wp2_with (go_at_call 59; refine HB.out.mono ?_; rintro e w' ⟨rfl, rfl⟩)
    go_end0
    exact ⟨rfl, HR.out.1, HR.out.2⟩
  · have e1 : decide (s.e ≠ 0) = true := by simp [hn]
    rw [e1] at HB
    have HR : Hid (RdAt D (w.setCell ⟨g, 0, none⟩ (.slice none 0 0)) g (s.fail k) ∧ Stays (fun x => x = g) w (w.setCell ⟨g, 0, none⟩ (.slice none 0 0))) := show _ ∧ _ from
      ⟨H.out.set H1.out (RS.fail_ok s k) (by unfold RS.fail; rw [if_neg hn]; rfl) (SliceIn.nil D _), grown_stays (grown_setCell w g 0 _) (fun k e => (Option.some.inj e).symm)⟩
    clear e1
    go_wp2_with (go_at_call 59; refine HB.out.mono ?_; rintro e w' ⟨rfl, rfl⟩)
    go_end0
    exact ⟨rfl, HR.out.1, HR.out.2⟩
end Go.Proofs.Ytadlpidhemjkgaa

/-
  A number's eight bytes tell it; eight bytes are their number's.
-/
namespace Go.Proofs.Ytadlpidhemjkgaa
open Go.Proofs.ShaWords
theorem eight (l : List (BitVec 8)) (h : l.length = 8) : ∃ a b c d e f g i, l = [a, b, c, d, e, f, g, i] := by
  match l, h with
  | [a, b, c, d, e, f, g, i], _ => exact ⟨a, b, c, d, e, f, g, i, rfl⟩
theorem num8_eight (a b c d e f g i : BitVec 8) : num8 [a, b, c, d, e, f, g, i] = ((((((a.toNat * 256 + b.toNat) * 256 + c.toNat) * 256 + d.toNat) * 256 + e.toNat) * 256 + f.toNat) * 256 + g.toNat) * 256 + i.toNat := by
  simp only [num8, List.foldl, Nat.zero_mul, Nat.zero_add]
theorem be8_eight (v : Int) : be8 v = [BitVec.ofInt 8 (v / 72057594037927936), BitVec.ofInt 8 (v / 281474976710656), BitVec.ofInt 8 (v / 1099511627776), BitVec.ofInt 8 (v / 4294967296), BitVec.ofInt 8 (v / 16777216), BitVec.ofInt 8 (v / 65536), BitVec.ofInt 8 (v / 256), BitVec.ofInt 8 (v / 1)] := by
  simp only [be8, beTo, List.range, List.range.loop, List.map, Nat.sub_zero, Nat.reduceSub, Nat.reduceMul, Nat.mul_zero]
  rfl
theorem byteN (x : Int) : ((BitVec.ofInt 8 x).toNat : Int) = x % 256 := by
  rw [ofInt8_toNat]; omega
theorem int8_be8 (v : Int) (h : -9223372036854775808 ≤ v ∧ v < 9223372036854775808) : int8 (be8 v) = v := by
  unfold int8
  rw [be8_eight, num8_eight]
  simp only [Int.natCast_add, Int.natCast_mul, byteN, Int.ediv_one]
  show IntKind.i64.wrap (((((((_ * 256 + _) * 256 + _) * 256 + _) * 256 + _) * 256 + _) * 256 + _) * 256 + _) = _
  have h7 : v / 281474976710656 / 256 = v / 72057594037927936 := Int.ediv_ediv_of_nonneg (by decide)
  have h6 : v / 1099511627776 / 256 = v / 281474976710656 := Int.ediv_ediv_of_nonneg (by decide)
  have h5 : v / 4294967296 / 256 = v / 1099511627776 := Int.ediv_ediv_of_nonneg (by decide)
  have h4 : v / 16777216 / 256 = v / 4294967296 := Int.ediv_ediv_of_nonneg (by decide)
  have h3 : v / 65536 / 256 = v / 16777216 := Int.ediv_ediv_of_nonneg (by decide)
  have h2 : v / 256 / 256 = v / 65536 := Int.ediv_ediv_of_nonneg (by decide)
  generalize v / 72057594037927936 = x7 at *
  generalize v / 281474976710656 = x6 at *
  generalize v / 1099511627776 = x5 at *
  generalize v / 4294967296 = x4 at *
  generalize v / 16777216 = x3 at *
  generalize v / 65536 = x2 at *
  generalize h1 : v / 256 = x1 at *
  have s6 : x7 % 256 * 256 + x6 % 256 = x6 % 65536 := by omega
  rw [s6]; clear s6
  have s5 : x6 % 65536 * 256 + x5 % 256 = x5 % 16777216 := by omega
  rw [s5]; clear s5
  have s4 : x5 % 16777216 * 256 + x4 % 256 = x4 % 4294967296 := by omega
  rw [s4]; clear s4
  have s3 : x4 % 4294967296 * 256 + x3 % 256 = x3 % 1099511627776 := by omega
  rw [s3]; clear s3
  have s2 : x3 % 1099511627776 * 256 + x2 % 256 = x2 % 281474976710656 := by omega
  rw [s2]; clear s2
  have s1 : x2 % 281474976710656 * 256 + x1 % 256 = x1 % 72057594037927936 := by omega
  rw [s1]; clear s1
  have s0 : x1 % 72057594037927936 * 256 + v % 256 = v % 18446744073709551616 := by omega
  rw [s0, IntKind.wrap_i64]
  clear s0
  omega
theorem be8_int8 (l : List (BitVec 8)) (h : l.length = 8) : be8 (int8 l) = l := by
  obtain ⟨a, b, c, d, e, f, g, i, rfl⟩ := eight l h
  have la := a.isLt; have lb := b.isLt; have lc := c.isLt; have ld := d.isLt; have le := e.isLt; have lf := f.isLt; have lg := g.isLt; have li := i.isLt
  rw [be8_eight]
  unfold int8
  rw [num8_eight]
  generalize ha : a.toNat = A at *
  generalize hb : b.toNat = B at *
  generalize hc : c.toNat = C at *
  generalize hd : d.toNat = D at *
  generalize he : e.toNat = E at *
  generalize hf : f.toNat = F at *
  generalize hg : g.toNat = G at *
  generalize hi : i.toNat = I at *
  obtain ⟨U1, hU1⟩ : ∃ U, U = A := ⟨_, rfl⟩
  rw [← hU1]
  obtain ⟨U2, hU2⟩ : ∃ U, U = U1 * 256 + B := ⟨_, rfl⟩
  rw [← hU2]
  obtain ⟨U3, hU3⟩ : ∃ U, U = U2 * 256 + C := ⟨_, rfl⟩
  rw [← hU3]
  obtain ⟨U4, hU4⟩ : ∃ U, U = U3 * 256 + D := ⟨_, rfl⟩
  rw [← hU4]
  obtain ⟨U5, hU5⟩ : ∃ U, U = U4 * 256 + E := ⟨_, rfl⟩
  rw [← hU5]
  obtain ⟨U6, hU6⟩ : ∃ U, U = U5 * 256 + F := ⟨_, rfl⟩
  rw [← hU6]
  obtain ⟨U7, hU7⟩ : ∃ U, U = U6 * 256 + G := ⟨_, rfl⟩
  rw [← hU7]
  obtain ⟨U8, hU8⟩ : ∃ U, U = U7 * 256 + I := ⟨_, rfl⟩
  rw [← hU8]
  have b1 : U1 < 256 := by omega
  have b2 : U2 < 65536 := by omega
  have b3 : U3 < 16777216 := by omega
  have b4 : U4 < 4294967296 := by omega
  have b5 : U5 < 1099511627776 := by omega
  have b6 : U6 < 281474976710656 := by omega
  have b7 : U7 < 72057594037927936 := by omega
  have b8 : U8 < 18446744073709551616 := by omega
  obtain ⟨m, hm, hv⟩ : ∃ m : Int, (m = 0 ∨ m = 1) ∧ IntKind.i64.wrap (U8 : Int) = U8 - m * 18446744073709551616 := by
    rw [IntKind.wrap_i64]
    by_cases hs : U8 < 9223372036854775808
    · exact ⟨0, .inl rfl, by omega⟩
    · exact ⟨1, .inr rfl, by omega⟩
  rw [hv]
  generalize hV : (U8 : Int) - m * 18446744073709551616 = V
  have h2 : V / 256 / 256 = V / 65536 := Int.ediv_ediv_of_nonneg (by decide)
  have h3 : V / 65536 / 256 = V / 16777216 := Int.ediv_ediv_of_nonneg (by decide)
  have h4 : V / 16777216 / 256 = V / 4294967296 := Int.ediv_ediv_of_nonneg (by decide)
  have h5 : V / 4294967296 / 256 = V / 1099511627776 := Int.ediv_ediv_of_nonneg (by decide)
  have h6 : V / 1099511627776 / 256 = V / 281474976710656 := Int.ediv_ediv_of_nonneg (by decide)
  have h7 : V / 281474976710656 / 256 = V / 72057594037927936 := Int.ediv_ediv_of_nonneg (by decide)
  have e0 : V = (U7 : Int) * 256 + I - m * 18446744073709551616 := by omega
  have e1 : V / 256 = (U7 : Int) - m * 72057594037927936 := by omega
  have e2 : V / 65536 = (U6 : Int) - m * 281474976710656 := by rw [← h2, e1]; clear h2; omega
  have e3 : V / 16777216 = (U5 : Int) - m * 1099511627776 := by rw [← h3, e2]; clear h3; omega
  have e4 : V / 4294967296 = (U4 : Int) - m * 4294967296 := by rw [← h4, e3]; clear h4; omega
  have e5 : V / 1099511627776 = (U3 : Int) - m * 16777216 := by rw [← h5, e4]; clear h5; omega
  have e6 : V / 281474976710656 = (U2 : Int) - m * 65536 := by rw [← h6, e5]; clear h6; omega
  have e7 : V / 72057594037927936 = (U1 : Int) - m * 256 := by rw [← h7, e6]; clear h7; omega
  rw [e7, e6, e5, e4, e3, e2, e1, Int.ediv_one]
  simp only [List.cons.injEq, and_true]
  refine ⟨?_, ?_, ?_, ?_, ?_, ?_, ?_, ?_⟩ <;> apply BitVec.eq_of_toNat_eq <;> rw [ofInt8_toNat]
  · rw [ha]; clear e0 e1 e2 e3 e4 e5 e6 e7; omega
  · rw [hb]; clear e0 e1 e2 e3 e4 e5 e6 e7; omega
  · rw [hc]; clear e0 e1 e2 e3 e4 e5 e6 e7; omega
  · rw [hd]; clear e0 e1 e2 e3 e4 e5 e6 e7; omega
  · rw [he]; clear e0 e1 e2 e3 e4 e5 e6 e7; omega
  · rw [hf]; clear e0 e1 e2 e3 e4 e5 e6 e7; omega
  · rw [hg]; clear e0 e1 e2 e3 e4 e5 e6 e7; omega
  · rw [hi]; omega
end Go.Proofs.Ytadlpidhemjkgaa

/-
  The program's reader: next, Int.
-/
namespace Go.Proofs.Ytadlpidhemjkgaa
open Go.RowKit Go.Proofs.ShaWords
theorem liesIn_take {D : Nat → Prop} {w : World} {p : Option Addr} {l : List (BitVec 8)} (h : LiesIn D w p l) (k : Nat) : LiesIn D w p (l.take k) := by
  rcases h with h0 | ⟨b, off, rfl, hd, hb, hr⟩
  · exact Or.inl (by rw [h0]; simp)
  · refine Or.inr ⟨b, off, rfl, hd, hb, fun j v hv => hr j v ?_⟩
    simp only [bytesV, List.map_take] at hv
    rw [List.getElem?_take] at hv
    split at hv
    · exact hv
    · cases hv
theorem liesIn_drop {D : Nat → Prop} {w : World} {p : Option Addr} {l : List (BitVec 8)} (h : LiesIn D w p l) (k : Nat) : LiesIn D w (p.map (·.add k)) (l.drop k) := by
  rcases h with h0 | ⟨b, off, rfl, hd, hb, hr⟩
  · exact Or.inl (by rw [h0]; simp)
  · exact Or.inr ⟨b, off + k, by simp [Addr.add_mid], hd, hb, range_drop hr⟩
theorem sliceIn_take {D : Nat → Prop} {w : World} {p : Option Addr} {l : List (BitVec 8)} {c k : Nat} (h : LiesIn D w p l) (h1 : l.length ≤ c) (h2 : c ≤ maxLen) (hk : k ≤ l.length) : SliceIn D w (.slice p k c) (l.take k) :=
  ⟨p, c, by rw [List.length_take, Nat.min_eq_left hk], by rw [List.length_take]; omega, h2, liesIn_take h k⟩
theorem sliceIn_drop {D : Nat → Prop} {w : World} {p : Option Addr} {l : List (BitVec 8)} {n m c k : Nat} (h : LiesIn D w p l) (h1 : l.length ≤ c) (h2 : c ≤ maxLen) (hn : n = l.length - k) (hm : m = c - k) : SliceIn D w (.slice (p.map (·.add k)) n m) (l.drop k) :=
  ⟨p.map (·.add k), m, by rw [List.length_drop, hn], by rw [List.length_drop]; omega, by omega, liesIn_drop h k⟩
theorem sliceIn_end {D : Nat → Prop} {w : World} {p : Option Addr} {l : List (BitVec 8)} {n m k : Nat} (hn : n = 0) (hm : m ≤ maxLen) (hk : l.length ≤ k) : SliceIn D w (.slice p n m) (l.drop k) := by
  have e : l.drop k = [] := List.drop_of_length_le hk
  rw [e, hn]
  exact ⟨p, m, rfl, Nat.zero_le _, hm, Or.inl rfl⟩
theorem set_stays (w : World) (g j : Nat) (u : Value) : Stays (fun k => k = g) w (w.setCell ⟨g, j, none⟩ u) := grown_stays (grown_setCell w g j u) (fun _ e => (Option.some.inj e).symm)
theorem wrapEq7 (x : Int) : wrap64 x = IntKind.i64.wrap x := (IntWalk.i64_left x).symm
theorem next_any (D : Nat → Prop) (g : Nat) (s : RS) (n : Nat) (w : World) (h : RdAt D w g s) :
    Calls Try.prog 67 #[.pointer (some ⟨g, 0, none⟩), .int .i64 (n : Int)] w fun e w' => ∃ v, e = .returned v ∧ SliceIn D w' v (s.got n) ∧ RdAt D w' g (s.next n) ∧ Stays (fun x => x = g) w w' := by
  have HF := Lib.hid (fail_any D g s 4 w h)
  obtain ⟨q, c, h1, c0, c1, hf, h2, h3, h4⟩ := h.cell0
  have hf0 := hf 0
  have H := Lib.hid h
  have H1 := Lib.hid h1
  have H4 := Lib.hid h4
  clear h h1 hf h4 c1
  go_enter Try.func67, Try.ntmps67
  by_cases hn : s.bs.length < n
  · have q0 : (n : Int) > (s.bs.length : Int) := by omega
    have HG : Hid (s.got n = []) := show _ = _ from if_pos hn
    have HN : Hid (s.next n = s.fail 4) := show _ = _ from if_pos hn
    go_wp2_with (go_at_call 94; refine HF.out.mono ?_; rintro e w' ⟨rfl, hr, hs⟩; have HR := Lib.hid hr; have HS := Lib.hid hs; clear hr hs)
    go_ret
    exact ⟨_, rfl, by rw [HG.out]; exact SliceIn.nil D _, by rw [HN.out]; exact HR.out, HS.out⟩
  · have q0 : ¬ (n : Int) > (s.bs.length : Int) := by omega
    have q1 : (n : Int) ≤ (s.bs.length : Int) := by omega
    have q2 : (n : Int) ≤ (c : Int) := by omega
    have HG : Hid (s.got n = s.bs.take n) := show _ = _ from if_neg hn
    have HN : Hid (s.next n = ⟨s.bs.drop n, s.e⟩) := show _ = _ from if_neg hn
    go_wp2_with fail
    all_goals go_ret
    · exact ⟨_, rfl, by rw [HG.out]; exact (sliceIn_take (k := n) (c := n) H4.out (by omega) (by omega) (by omega)).keep (set_stays w g 0 _) (fun k f d => H.out.ne (f ▸ d)), by rw [HN.out]; exact H.out.set H1.out (fun he => by have := H.out.ok he; simp [this]) rfl (sliceIn_end (by omega) (by omega) (by omega)), set_stays w g 0 _⟩
    · exact ⟨_, rfl, by rw [HG.out]; exact (sliceIn_take (k := n) (c := c) H4.out h2 h3 (by omega)).keep (set_stays w g 0 _) (fun k f d => H.out.ne (f ▸ d)), by rw [HN.out]; exact H.out.set H1.out (fun he => by have := H.out.ok he; simp [this]) rfl (sliceIn_drop H4.out h2 h3 rfl rfl), set_stays w g 0 _⟩
theorem RS.got_take_succ {s : RS} {k : Nat} (h : k < (s.got 8).length) : (s.got 8).take (k + 1) = (s.got 8).take k ++ [(s.got 8)[k]] := List.take_succ_eq_append_getElem h
theorem int_any (D : Nat → Prop) (g : Nat) (s : RS) (w : World) (h : RdAt D w g s) :
    Calls Try.prog 18 #[.pointer (some ⟨g, 0, none⟩)] w fun e w' => e = .returned (.int .i64 s.intV) ∧ RdAt D w' g (s.next 8) ∧ Stays (fun x => x = g) w w' := by
  have HN := Lib.hid (next_any D g s 8 w h)
  clear h
  have H8 : Hid ((s.got 8).length ≤ 8) := show _ ≤ _ from RS.got_length
  unfold RS.intV int8
  generalize s.got 8 = bs at *
  generalize s.next 8 = s' at *
  go_enter Try.func18, Try.ntmps18
  go_wp2_with (go_at_call 67; refine HN.out.mono ?_; rintro e w' ⟨v, rfl, ⟨q, c, rfl, h1, h2, h3⟩, hr, hs⟩; have HL := Lib.hid h3.lies; have HR := Lib.hid hr; have HS := Lib.hid hs; clear h1 h2 h3 hr hs)
  rename World => w1
  have hle := H8.out
  obtain ⟨n, hn⟩ : ∃ n, bs.length = n := ⟨_, rfl⟩
  rw [hn] at hle
  rw [hn]
  go_loopw [3, 9] (fun v i wr => ∃ k : Nat, k ≤ n ∧ v = .int .u64 (num8 (bs.take k) : Int) ∧ i = .int .i64 (k : Int) ∧ wr = w1) (fun _ i _ => n - (intOf i).toNat)
  case atStart => exact ⟨0, by omega, rfl, rfl, rfl⟩
  case round =>
    obtain ⟨k, hk, rfl, rfl, rfl⟩ := hrel
    by_cases hlt : k < n
    · have hkb : k < bs.length := by omega
      rcases HL.out with h0 | ⟨b, off, rfl, hr⟩
      · exfalso; rw [h0] at hkb; simp at hkb
      · have hv : (bytesV bs)[k]? = some (.int .u8 (n8 bs[k])) := by simp [bytesV, hkb]
        have hc := hr k _ hv
        clear hv
        have HTK := Lib.hid (List.take_succ_eq_append_getElem hkb)
        have htl : (bs.take k).length = k := by rw [List.length_take]; omega
        generalize bs[k] = x at hc HTK
        have m1 := shl_or8 (num8 (bs.take k)) x (num_bound k (bs.take k) htl (by omega))
        rw [← num8_snoc, ← HTK.out] at m1
        have m3 : IntKind.u64.wrap (n8 x) = n8 x := by rw [wrap64_n8]; unfold n64 ext64 n8; rw [BitVec.toNat_setWidth]; have := x.isLt; omega
        have q0 : (k : Int) < (n : Int) := by omega
        generalize num8 (bs.take k) = U at *
        go_wp2_with fail
        go_roundw
        case rel => exact ⟨k + 1, by omega, rfl, by go_num, trivial⟩
        case measure => simp [intOf]; omega
    · have q0 : ¬ (k : Int) < (n : Int) := by omega
      have HTK : Hid (bs.take k = bs) := show _ = _ from List.take_of_length_le (by omega)
      go_wp2_with fail
      go_ret
      refine ⟨?_, HR.out, HS.out⟩
      rw [HTK.out]
      exact congrArg (fun z => Ending.returned (.int .i64 z)) (wrapEq7 _)
end Go.Proofs.Ytadlpidhemjkgaa

/-
  The program's reader: Sum, Count, Blob, Text.
-/
namespace Go.Proofs.Ytadlpidhemjkgaa
open Go.RowKit Go.Proofs.ShaWords
theorem run_sliceSum {ρ : Operand → Value} {o : Oper} {x : Operand} {g : Nat} (ho : o.op = .slice 26 x none none none) (hx : ρ x = .pointer (some ⟨g, 0, none⟩)) (w : World) :
    (execOp ρ o).run Try.prog w = .ok (.value (.slice (some ⟨g, 0, none⟩) 32 32)) w := by
  obtain ⟨dst, op, ty, pos, after, guard⟩ := o
  simp only at ho
  subst ho
  go_simp
theorem infoSum (l : List (BitVec 8)) (h : l.length = 32) : (Try.prog.info? 26).map (·.size) = some (bytesV l).toArray.size := by
  rw [bytesV_size l 32 h]; kernel_rfl
theorem sumV_splice (s : RS) : splice (noughts 32) 0 (s.got 32) = s.sumV := by
  unfold RS.got RS.sumV
  by_cases h : s.bs.length < 32
  · rw [if_pos h, if_pos h, splice_nil]; rfl
  · rw [if_neg h, if_neg h]
    have hl : (s.bs.take 32).length = 32 := by rw [List.length_take]; omega
    show splice (List.replicate 32 0#8) 0 _ = _
    rw [splice_noughts, hl]
    simp
theorem sumV_length (s : RS) : s.sumV.length = 32 := by
  unfold RS.sumV
  split
  · simp
  · rw [List.length_take]; omega
theorem BytesAt.stays {F : Nat → Prop} {w w' : World} {g : Nat} {t : TypeId} {l : List (BitVec 8)} (h : BytesAt w g t l) (hk : Stays F w w') (hF : ¬ F g) : BytesAt w' g t l := (hk.block g h.size hF).trans h
theorem Own.lower {B B' : Nat} {w : World} {l : List (BitVec 8)} {v : Value} (h : Own B w l v) (hB : B' ≤ B) : Own B' w l v := by
  refine ⟨h.1, ?_⟩
  rcases h.2 with h0 | ⟨g, cap, cur, he, hg, r⟩
  · exact Or.inl h0
  · exact Or.inr ⟨g, cap, cur, he, Nat.le_trans hB hg, r⟩
theorem Below.drew0 (w : World) : Below w.heap.size w w.drew := (Below.refl _ _).drew
set_option maxRecDepth 100000 in
set_option maxHeartbeats 1000000 in
theorem sum_any (D : Nat → Prop) (g : Nat) (s : RS) (w : World) (h : RdAt D w g s) :
    Calls Try.prog 65 #[.pointer (some ⟨g, 0, none⟩)] w fun e w' => e = .returned (.agg (bytesV s.sumV).toArray) ∧ RdAt D w' g (s.next 32) ∧ Stays (fun x => x = g) w w' := by
  have HR := Lib.hid h; clear h
  have hglt : g < w.heap.size := HR.out.lt
  have HST : Hid (BytesAt ((w.alloc (.cells (bytesV (noughts 32)).toArray 26)).alloc (.cells (bytesV (noughts 32)).toArray 26)) w.heap.size 26 (noughts 32) ∧ BytesAt ((w.alloc (.cells (bytesV (noughts 32)).toArray 26)).alloc (.cells (bytesV (noughts 32)).toArray 26)) (w.heap.size + 1) 26 (noughts 32) ∧ Below w.heap.size w ((w.alloc (.cells (bytesV (noughts 32)).toArray 26)).alloc (.cells (bytesV (noughts 32)).toArray 26))) := show _ ∧ _ ∧ _ from
    ⟨(show BytesAt (w.alloc _) _ _ _ from heap_new_at rfl).keep ((Below.refl _ _).alloc (Nat.le_refl _) _), heap_new_at (size_alloc _ _), ((Below.refl _ _).alloc (Nat.le_refl _) _).alloc (by rw [size_alloc]; omega) _⟩
  go_enter Try.func65, Try.ntmps65
  go_upto_region 2 with (fail)
  refine wp_gen (fun w1 => BytesAt w1 w.heap.size 26 (noughts 32) ∧ BytesAt w1 (w.heap.size + 1) 26 (noughts 32) ∧ Below w.heap.size w w1) HST.out ?_
  clear HST
  intro w1 hw1
  have HA := Lib.hid (hw1.1.keep (Below.drew0 w1))
  have HB := Lib.hid (hw1.2.1.keep (Below.drew0 w1))
  have HC := Lib.hid (hw1.2.2.trans ((Below.drew0 w1).mono hw1.2.2.size))
  clear hw1
  have HR1 := Lib.hid (HR.out.below HC.out)
  refine region_phase (fun _ => True) (fun _ => True) 2 (trivial) trivial [(0, .free), (1, .free), (2, .behind), (3, .behind)] (by kernel_rfl) (by kernel_rfl) (by kernel_rfl) (by kernel_rfl) (fun ops hops A hA => ?_)
  have hsz : A.tmps.size = 9 := by rw [hA]; rfl
  have base0 : A.eval (.tmp 0) = .pointer (some ⟨g, 0, none⟩) := by rw [hA]; rfl
  have base3 : A.eval (.tmp 3) = .pointer (some ⟨w.heap.size + 1, 0, none⟩) := by rw [hA]; rfl
  have HAA := Lib.hid hA; clear hA
  obtain ⟨o0, po0, q0, d0, gd0⟩ : ∃ o, ops[0]? = some o ∧ o.op = .slice 26 (.tmp 3) none none none ∧ o.dst = some 4 ∧ o.guard = none := ⟨_, by rw [hops]; rfl, rfl, rfl, rfl⟩
  obtain ⟨o1, po1, q1, d1, gd1⟩ : ∃ o, ops[1]? = some o ∧ o.op = .move (.tmp 0) ∧ o.dst = some 5 ∧ o.guard = none := ⟨_, by rw [hops]; rfl, rfl, rfl, rfl⟩
  obtain ⟨o2, po2, q2, d2, gd2⟩ : ∃ o, ops[2]? = some o ∧ o.op = .call { callee := .value (.func 67), args := #[.tmp 5, .const (.int .i64 32)], argTypes := #[39, 3] } ∧ o.dst = some 6 ∧ o.guard = none := ⟨_, by rw [hops]; rfl, rfl, rfl, rfl⟩
  obtain ⟨o3, po3, q3, d3, gd3⟩ : ∃ o, ops[3]? = some o ∧ o.op = .call { callee := .builtin .copy, args := #[.tmp 4, .tmp 6], argTypes := #[23, 23] } ∧ o.dst = some 7 ∧ o.guard = none := ⟨_, by rw [hops]; rfl, rfl, rfl, rfl⟩
  clear hops
  refine met_free po0 d0 (wanted_of gd0) (fun w' h' => run_sliceSum q0 base3 w') ?_
  refine met_free po1 d1 (wanted_of gd1) (fun w' h' => run_move q1 ((eval_other _ 4 0 _ (by decide)).trans base0) w') ?_
  refine m_enter po2 d2 (wanted_of gd2) (run_callf2 q2 rfl (eval_same _ _ _ (by simp only [put_size, hsz]; decide)) rfl Try.func67 (by kernel_rfl) _) (next_any D g s 32 _ HR1.out) ?_
  rintro e w2 ⟨v, rfl, ⟨q, c, rfl, -, -, hl⟩, hr, hst⟩
  have HR2 := Lib.hid hr
  have HA2 := Lib.hid (HA.out.stays hst (by omega))
  have HB2 := Lib.hid (HB.out.stays hst (by omega))
  have HS2 := Lib.hid hst
  have HL2 := Lib.hid hl.lies
  clear hr hst hl
  refine ⟨_, rfl, trivial, ?_⟩
  obtain ⟨w3, hcp, hb3, hg3⟩ := run_copy_bytes w2 o3.type (w.heap.size + 1) 32 32 26 (noughts 32) (s.got 32) q (s.got 32).length c HB2.out (noughts_length 32) HL2.out rfl RS.got_length
  rw [sumV_splice] at hb3
  refine met_op po3 d3 (wanted_of gd3) (run_copy_op q3 ((eval_other _ 6 4 _ (by decide)).trans ((eval_other _ 5 4 _ (by decide)).trans (eval_same _ _ _ (by rw [hsz]; decide)))) (eval_same _ _ _ (by simp only [put_size, hsz]; decide)) hcp) trivial ?_
  show NoPanic _ .normal _ _
  refine NoPanic.normal ?_
  rw [HAA.out]
  go_frame
  clear HAA
  have hs3 : Stays (fun x => x = w.heap.size + 1) w2 w3 := grown_stays hg3 (fun _ e => (Option.some.inj e).symm)
  have HA3 := Lib.hid (HA2.out.stays hs3 (by omega))
  have HB3 := Lib.hid hb3
  have HR3 := Lib.hid (HR2.out.past hs3 (by omega) (fun d => by have := HR.out.dom _ d; omega))
  have HS3 : Hid (Stays (fun x => x = g) w w3) := show Stays _ _ _ from ((Below.stays HC.out).trans HS2.out (fun _ e _ => e)).trans hs3 (fun k e hk => by omega)
  clear hs3 hb3 hg3 hcp HA HB HC HR1 HR2 HA2 HB2 HS2 HL2
  have HIN := Lib.hid (infoSum s.sumV (sumV_length s))
  have HIN0 := Lib.hid (infoSum (noughts 32) (noughts_length 32))
  have HSL := Lib.hid (sumV_length s)
  have HONE := Lib.hid (bytesV_one s.sumV)
  have HOLD := Lib.hid (show (bytesV (noughts 32)).toArray.size = (bytesV s.sumV).toArray.size by rw [bytesV_size _ 32 HSL.out, bytesV_size _ 32 (noughts_length 32)])
  unfold BytesAt at HA3 HB3
  generalize hfe : (bytesV s.sumV).toArray = full at *
  have HFE := Lib.hid hfe; clear hfe
  go_wp2_with (first
    | (refine wpList_load_row rfl 26 (.tmp 3) rfl (w.heap.size + 1) rfl 26 full (0, 0) _ HB3.out Try.underlying26 rfl HIN.out ?_)
    | (refine wpList_store_row rfl 26 (.tmp 2) (.tmp 8) rfl w.heap.size full rfl rfl 26 _ HA3.out HIN.out HOLD.out HONE.out ?_))
  have hrow := setRow_heap w3 w.heap.size _ full 26 _ HA3.out
  have hst4 : Stays (fun x => x = w.heap.size) w3 (w3.setRow w.heap.size full) := grown_stays (grown_setRow _ _ _) (fun _ e => (Option.some.inj e).symm)
  generalize w3.setRow w.heap.size full = wz at hrow hst4 ⊢
  have hres : ∀ tmps : Array Value, tmps.getD 2 undef = .pointer (some ⟨w.heap.size, 0, none⟩) → Sem.run Try.prog (results Try.f65 tmps) wz = .ok (.agg full) wz := fun tmps h =>
    results_cell_row (P := Try.prog) (p := 2) (ty := 26) Try.results65 tmps wz w.heap.size 26 full (0, 0) _ h hrow Try.underlying26 rfl HIN.out
  exact bodyPost_ret (v := .agg full) (hres _ rfl) rfl ⟨by rw [HFE.out], HR3.out.past hst4 (by omega) (fun d => by have := HR.out.dom _ d; omega), HS3.out.trans hst4 (fun k e hk => by omega)⟩
theorem count_any (D : Nat → Prop) (g : Nat) (s : RS) (most : Int) (w : World) (h : RdAt D w g s) :
    Calls Try.prog 51 #[.pointer (some ⟨g, 0, none⟩), .int .i64 most] w fun e w' => e = .returned (.int .i64 (s.countV most : Int)) ∧ RdAt D w' g (s.countS most) ∧ Stays (fun x => x = g) w w' := by
  have HI := Lib.hid (int_any D g s w h)
  clear h
  unfold RS.countV RS.countS RS.over
  generalize s.intV = z at *
  generalize s.next 8 = s' at *
  generalize hV : (if (decide (z < 0) || decide (most < z)) = true then 0 else z.toNat) = V
  generalize hT : (if (decide (z < 0) || decide (most < z)) = true then s'.fail 3 else s') = T
  go_enter Try.func51, Try.ntmps51
  by_cases h1 : z < 0
  · have HV : Hid (V = 0) := show _ = _ by rw [← hV]; simp [h1]
    have HT : Hid (T = s'.fail 3) := show _ = _ by rw [← hT]; simp [h1]
    clear hV hT
    go_wp2_with (first
      | (go_at_call 18; refine HI.out.mono ?_; rintro e w1 ⟨rfl, hr, hs⟩; have HR := Lib.hid hr; have HS := Lib.hid hs; clear hr hs)
      | (go_at_call 94; refine (fail_any D g s' 3 _ HR.out).mono ?_; rintro e w2 ⟨rfl, hr, hs⟩; have HR2 := Lib.hid hr; have HS2 := Lib.hid (HS.out.trans hs (fun _ e _ => e)); clear hr hs))
    go_ret
    rw [HV.out, HT.out]
    exact ⟨rfl, HR2.out, HS2.out⟩
  · by_cases h2 : most < z
    · have q0 : z > most := h2
      have HV : Hid (V = 0) := show _ = _ by rw [← hV]; simp [h2]
      have HT : Hid (T = s'.fail 3) := show _ = _ by rw [← hT]; simp [h2]
      clear hV hT
      go_wp2_with (first
        | (go_at_call 18; refine HI.out.mono ?_; rintro e w1 ⟨rfl, hr, hs⟩; have HR := Lib.hid hr; have HS := Lib.hid hs; clear hr hs)
        | (go_at_call 94; refine (fail_any D g s' 3 _ HR.out).mono ?_; rintro e w2 ⟨rfl, hr, hs⟩; have HR2 := Lib.hid hr; have HS2 := Lib.hid (HS.out.trans hs (fun _ e _ => e)); clear hr hs))
      go_ret
      rw [HV.out, HT.out]
      exact ⟨rfl, HR2.out, HS2.out⟩
    · have q0 : ¬ z > most := h2
      have HV : Hid ((V : Int) = z) := show _ = _ by rw [← hV]; simp [h1, h2]; omega
      have HT : Hid (T = s') := show _ = _ by rw [← hT]; simp [h1, h2]
      clear hV hT
      go_wp2_with (go_at_call 18; refine HI.out.mono ?_; rintro e w1 ⟨rfl, hr, hs⟩; have HR := Lib.hid hr; have HS := Lib.hid hs; clear hr hs)
      go_ret
      rw [HV.out, HT.out]
      exact ⟨rfl, HR.out, HS.out⟩
/-- What is left is short: so is what is told. -/
def RS.Short (s : RS) : Prop := s.bs.length < 140737488355328
theorem blob_any (D : Nat → Prop) (g : Nat) (s : RS) (most : Int) (w : World) (h : RdAt D w g s) (hs : s.Short) :
    Calls Try.prog 52 #[.pointer (some ⟨g, 0, none⟩), .int .i64 most] w fun e w' => ∃ v, e = .returned v ∧ Own w.heap.size w' (s.blobV most) v ∧ RdAt D w' g (s.blobS most) ∧ Stays (fun x => x = g) w w' := by
  have HC := Lib.hid (count_any D g s most w h)
  have hlt := h.lt
  have HD := Lib.hid h.dom
  clear h
  have HL : Hid ((s.blobV most).length < 140737488355328) := show _ < _ by
    refine Nat.lt_of_le_of_lt RS.got_le ?_
    unfold RS.Short at hs
    unfold RS.countS RS.next RS.fail
    split <;> split <;> simp <;> omega
  unfold RS.blobS
  unfold RS.blobV at HL ⊢
  generalize s.countV most = n at *
  generalize s.countS most = s1 at *
  go_enter Try.func52, Try.ntmps52
  go_wp2_with (first
    | (go_at_call 51; refine HC.out.mono ?_; rintro e w1 ⟨rfl, hr, hs⟩; have HR := Lib.hid hr; have HS := Lib.hid hs; clear hr hs)
    | (go_at_call 67; refine (next_any D g s1 n _ HR.out).mono ?_; rintro e w2 ⟨v, rfl, ⟨q, c, rfl, -, -, hl⟩, hr, hs⟩; have HL2 := Lib.hid hl.lies; have HR2 := Lib.hid hr; have HS2 := Lib.hid (HS.out.trans hs (fun _ e _ => e)); clear hr hs hl)
    | (go_at_call 66; refine (clone_any (s1.got n) _ q c _ rfl HL.out HL2.out).mono ?_; rintro e w3 ⟨v, rfl, ho, hb⟩; have HO := Lib.hid ho; have HB := Lib.hid hb; clear ho hb))
  go_ret
  refine ⟨_, rfl, ?_, HR2.out.below HB.out, HS2.out.trans (Below.stays HB.out) (F := fun x => x = g) (G := fun _ => False) (fun _ h => h.elim)⟩
  exact HO.out.lower HS2.out.size
/-- The bytes as a string. -/
theorem text_any (D : Nat → Prop) (g : Nat) (s : RS) (most : Int) (w : World) (h : RdAt D w g s) :
    Calls Try.prog 53 #[.pointer (some ⟨g, 0, none⟩), .int .i64 most] w fun e w' => e = .returned (.string (strB (s.blobV most))) ∧ RdAt D w' g (s.blobS most) ∧ Stays (fun x => x = g) w w' := by
  have HC := Lib.hid (count_any D g s most w h)
  clear h
  unfold RS.blobS RS.blobV
  generalize s.countV most = n at *
  generalize s.countS most = s1 at *
  go_enter Try.func53, Try.ntmps53
  generalize hS : strB (s1.got n) = S
  have HSS := Lib.hid hS; clear hS
  go_wp2_with (first
    | (go_at_call 51; refine HC.out.mono ?_; rintro e w1 ⟨rfl, hr, hs⟩; have HR := Lib.hid hr; have HS := Lib.hid hs; clear hr hs)
    | (go_at_call 67; refine (next_any D g s1 n _ HR.out).mono ?_; rintro e w2 ⟨v, rfl, ⟨q, c, rfl, -, -, hl⟩, hr, hs⟩; have hcv := run_strB hl.lies _ c rfl; rw [HSS.out] at hcv; have HR2 := Lib.hid hr; have HS2 := Lib.hid (HS.out.trans hs (fun _ e _ => e)); clear hr hs hl))
  go_ret
  exact ⟨rfl, HR2.out, HS2.out⟩
end Go.Proofs.Ytadlpidhemjkgaa

/-
  What is laid: slices.Grow of nothing, slices.Concat of two, and the program's Int, Blob, Text and Sum.
-/
namespace Go.Proofs.Ytadlpidhemjkgaa
open Go.RowKit Go.Proofs.ShaWords
theorem strB_cells (m : List (BitVec 8)) : Lib.strCells (strB m) = bytesV m := by
  unfold Lib.strCells strB bytesV
  rw [strOfNums_data, List.map_map, List.map_map]
  refine List.map_congr_left fun b _ => ?_
  have hb := b.isLt
  simp [n8]
theorem strB_size (m : List (BitVec 8)) : (strB m).size = m.length := by
  unfold strB
  rw [strOfNums_size, List.length_map]
/-- A string's bytes, appended to a slice of the call's own. -/
theorem wpList_append_str {ops : Array Oper} {rest : List Oper} {o : Oper} {a : Act} {w : World} {Q : Exit → Act → World → Prop} (hgd : o.guard = none) (s x : Operand)
    (ho : o.op = .call { callee := .builtin .append, args := #[s, x], argTypes := #[23, 9] }) (B : Nat) (v : Value) (l m : List (BitVec 8)) (hs : a.eval s = v) (hown : Own B w l v) (hx : a.eval x = .string (strB m))
    (hl : l.length + m.length < 140737488355328) (hB : B ≤ w.heap.size)
    (h : ∀ v' w', Own B w' (l ++ m) v' → Below B w w' → wpList Try.prog ops Q rest (a.put o.dst v') w') : wpList Try.prog ops Q (o :: rest) a w := by
  obtain ⟨i, hi, hz, hsz, hby⟩ := info5'
  refine Lib.wpList_append_own_string w hgd s x 23 9 ho B 5 i Try.underlying23 Try.underlying9 hi hz hsz hby v l.length (bytesV l) hs hown (strB m) hx (by rw [strB_size]; unfold maxLen; omega) (by rw [strB_size]; omega) hB ?_
  intro v' w' ho' hg _
  refine h v' w' ?_ ((Below.refl B w).grown hg hB (fun k hk => (hown.lt k hk).1))
  unfold Own
  rw [List.length_append, bytesV_append]
  rw [strB_size, strB_cells] at ho'
  exact ho'
/-- The front of a slice of the call's own. -/
theorem Own.front {B : Nat} {w : World} {l : List (BitVec 8)} {q : Option Addr} {n c k : Nat} (h : Own B w l (.slice q n c)) (hk : k ≤ l.length) : Own B w (l.take k) (.slice q k c) := by
  rcases h.2 with ⟨h0, h1⟩ | ⟨g, cap, cur, he, hg, hh, hc, hm, hs, ht⟩
  · cases h0
    have hk0 : k = 0 := by omega
    subst hk0
    exact World.ownsRow_nil w B 5 1
  · cases he
    refine ⟨by rw [bytesV_length, Nat.mul_one], .inr ⟨g, c, cur, by rw [List.length_take, Nat.min_eq_left hk], hg, hh, by rw [List.length_take]; omega, hm, hs, ?_⟩⟩
    rw [Nat.mul_one] at ht ⊢
    rw [List.length_take, Nat.min_eq_left hk, bytesV_take, ← ht, List.take_take, Nat.min_eq_left hk]
theorem grow_any (n : Nat) (w : World) (hn : n ≤ 140737488355327) : Calls Try.prog 100 #[.slice none 0 0, .int .i64 (n : Int)] w fun e w' => ∃ v, e = .returned v ∧ Own w.heap.size w' [] v ∧ Below w.heap.size w w' := by
  have HO := Lib.hid (Own.nil w.heap.size w)
  go_enter Try.func100, Try.ntmps100
  by_cases h0 : n = 0
  · subst h0
    go_wp2_with fail
    go_ret
    exact ⟨_, rfl, HO.out, Below.refl _ _⟩
  · have q0 : ¬ (n : Int) < 0 := by omega
    have q1 : (n : Int) > 0 := by omega
    go_wp2_with (at_builtin; refine wpList_append_zeros rfl (.tmp 20) (.tmp 21) rfl w.heap.size _ [] n rfl HO.out rfl (by simpa using hn) (Nat.le_refl _) ?_; intro v1 w1 h1 b1; have hl := h1.lies; rw [List.nil_append, noughts_length] at hl; obtain ⟨p, cap, rfl, hc1, hc2, -⟩ := hl; have HO1 := Lib.hid h1; have HB1 := Lib.hid b1; clear h1 b1)
    go_ret
    exact ⟨_, rfl, HO1.out.front (k := 0) (Nat.zero_le _), HB1.out⟩
set_option maxHeartbeats 800000 in
theorem concat_any (l m : List (BitVec 8)) (n k : Nat) (p q : Option Addr) (c d b : Nat) (t : TypeId) (w : World) (hn : l.length = n) (hk : m.length = k) (hnk : n + k < 140737488355327) (hb : w.heap[b]? = some (.cells #[.slice p n c, .slice q k d] t (0, 0))) (hp : Lies w p l) (hq : Lies w q m) :
    Calls Try.prog 61 #[.slice (some ⟨b, 0, none⟩) 2 2] w fun e w' => ∃ v, e = .returned v ∧ Own w.heap.size w' (l ++ m) v ∧ Below w.heap.size w w' := by
  have HP := Lib.hid hp; clear hp
  have HQ := Lib.hid hq; clear hq
  have HN := Lib.hid hn; clear hn
  have HK := Lib.hid hk; clear hk
  have c0 : w.cell? ⟨b, 0, none⟩ = some (.slice p n c) := by rw [cell_of_row w b _ _ _ _ hb]; rfl
  have c1 : w.cell? ⟨b, 1, none⟩ = some (.slice q k d) := by rw [cell_of_row w b _ _ _ _ hb]; rfl
  have hblt : b < w.heap.size := (Array.getElem?_eq_some_iff.1 hb).1
  have HBK := Lib.hid hb; clear hb
  have q0 : ¬ (n : Int) < 0 := by omega
  have q1 : ¬ (n : Int) + (k : Int) < 0 := by omega
  go_enter Try.func61, Try.ntmps61
  go_wp2_with fail
  go_loopw [3, 11] (fun s i wr => w = wr ∧ ((s = .int .i64 0 ∧ i = .int .i64 0) ∨ (s = .int .i64 (n : Int) ∧ i = .int .i64 1) ∨ (s = .int .i64 ((n + k : Nat) : Int) ∧ i = .int .i64 2))) (fun _ i _ => 2 - (intOf i).toNat)
  case atStart => exact ⟨rfl, .inl ⟨rfl, rfl⟩⟩
  case round =>
    obtain ⟨rfl, ⟨rfl, rfl⟩ | ⟨rfl, rfl⟩ | ⟨rfl, rfl⟩⟩ := hrel
    · go_wp2_with fail
      go_roundw
      case rel => exact ⟨trivial, .inr (.inl ⟨by go_num, by go_num⟩)⟩
      case measure => simp [intOf]
    · go_wp2_with fail
      go_roundw
      case rel => exact ⟨trivial, .inr (.inr ⟨by go_num, by go_num⟩)⟩
      case measure => simp [intOf]
    · go_wp2_with (go_at_call 100; refine (grow_any (n + k) _ (by omega)).mono ?_; rintro e w1 ⟨v, rfl, ho, hb1⟩; have HO := Lib.hid ho; have HB := Lib.hid hb1; clear ho hb1)
      rename World => w1
      go_loopw [6, 27] (fun v i wr => Below w.heap.size w wr ∧ ((Own w.heap.size wr [] v ∧ i = .int .i64 0) ∨ (Own w.heap.size wr l v ∧ i = .int .i64 1) ∨ (Own w.heap.size wr (l ++ m) v ∧ i = .int .i64 2))) (fun _ i _ => 2 - (intOf i).toNat)
      case atStart => exact ⟨HB.out, .inl ⟨HO.out, rfl⟩⟩
      case round =>
        clear HO HB
        obtain ⟨hb2, ⟨ho, rfl⟩ | ⟨ho, rfl⟩ | ⟨ho, rfl⟩⟩ := hrel
        · have d0 := (hb2.cell (p := ⟨b, 0, none⟩) hblt).trans c0
          have HO := Lib.hid ho; clear ho
          have HB := Lib.hid hb2; clear hb2
          go_wp2_with (at_builtin; refine wpList_append_listB rfl (.tmp 31) (.tmp 32) rfl w.heap.size _ [] l p c rfl HO.out (by rw [HN.out]; rfl) (HP.out.below HB.out) (by rw [HN.out, List.length_nil]; omega) HB.out.size ?_; intro v1 w1 h1 b1; rw [List.nil_append] at h1; have HO1 := Lib.hid h1; have HB1 := Lib.hid (HB.out.trans b1); clear h1 b1)
          go_roundw
          case rel => exact ⟨HB1.out, .inr (.inl ⟨HO1.out, by go_num⟩)⟩
          case measure => simp [intOf]
        · have d1 := (hb2.cell (p := ⟨b, 1, none⟩) hblt).trans c1
          have HO := Lib.hid ho; clear ho
          have HB := Lib.hid hb2; clear hb2
          go_wp2_with (at_builtin; refine wpList_append_listB rfl (.tmp 31) (.tmp 32) rfl w.heap.size _ l m q d rfl HO.out (by rw [HK.out]; rfl) (HQ.out.below HB.out) (by rw [HN.out, HK.out]; omega) HB.out.size ?_; intro v1 w1 h1 b1; have HO1 := Lib.hid h1; have HB1 := Lib.hid (HB.out.trans b1); clear h1 b1)
          go_roundw
          case rel => exact ⟨HB1.out, .inr (.inr ⟨HO1.out, by go_num⟩)⟩
          case measure => simp [intOf]
        · have HO := Lib.hid ho; clear ho
          have HB := Lib.hid hb2; clear hb2
          go_wp2_with fail
          go_ret
          exact ⟨_, rfl, HO.out, HB.out⟩
theorem n8_byte (x : Int) : x % 256 = n8 (BitVec.ofInt 8 x) := by
  unfold n8
  rw [ofInt8_toNat]
  omega
theorem beTo_set (v : Int) (k : Nat) (h : k < 8) : (beTo v k ++ noughts (8 - k)).set k (BitVec.ofInt 8 (v / 2 ^ (8 * (7 - k)))) = beTo v (k + 1) ++ noughts (8 - (k + 1)) := by
  rw [List.set_append_right _ _ (by rw [beTo_length]; exact Nat.le_refl _), beTo_length, Nat.sub_self, beTo_succ, List.append_assoc]
  obtain ⟨j, hj⟩ : ∃ j, 8 - k = j + 1 := ⟨8 - k - 1, by omega⟩
  rw [hj, show 8 - (k + 1) = j by omega]
  rfl
set_option maxHeartbeats 800000 in
theorem intP_any (v : Int) (l : List (BitVec 8)) (n : Nat) (p : Option Addr) (c : Nat) (w : World) (hn : l.length = n) (hl : n < 140737488355000) (hp : Lies w p l) :
    Calls Try.prog 13 #[.slice p n c, .int .i64 v] w fun e w' => ∃ r, e = .returned r ∧ Own w.heap.size w' (l ++ be8 v) r ∧ Below w.heap.size w w' := by
  have HP := Lib.hid hp; clear hp
  have HN := Lib.hid hn; clear hn
  have HST : Hid (BytesAt (w.alloc (.cells (bytesV (noughts 8)).toArray 84)) w.heap.size 84 (beTo v 0 ++ noughts (8 - 0)) ∧ Below w.heap.size w (w.alloc (.cells (bytesV (noughts 8)).toArray 84))) := show _ ∧ _ from ⟨heap_new_at rfl, (Below.refl _ _).alloc (Nat.le_refl _) _⟩
  go_enter Try.func13, Try.ntmps13
  go_wp2_with fail
  go_loopw [7] (fun i wr => ∃ k : Nat, k ≤ 8 ∧ i = .int .i64 (k : Int) ∧ BytesAt wr w.heap.size 84 (beTo v k ++ noughts (8 - k)) ∧ Below w.heap.size w wr) (fun i _ => 8 - (intOf i).toNat)
  case atStart => exact ⟨0, by omega, rfl, HST.out.1, HST.out.2⟩
  case round =>
    clear HST
    obtain ⟨k, hk, rfl, ho, hb⟩ := hrel
    by_cases hlt : k < 8
    · have q0 : (k : Int) < 8 := by omega
      have hll : k < (beTo v k ++ noughts (8 - k)).length := by rw [List.length_append, beTo_length, noughts_length]; omega
      have hc := cell_bytesV ho hll
      have hf := frozen_of_row _ _ k _ _ ho
      have HO := Lib.hid ho; clear ho
      have HB := Lib.hid hb; clear hb
      go_wp2_with fail
      go_roundw
      case rel =>
        rw [n8_byte]
        refine ⟨k + 1, by omega, by go_num, ?_, HB.out.grown (grown_setCell wr w.heap.size k _) HB.out.size (fun x e => by cases e; exact Nat.le_refl _)⟩
        have h1 := setCell_bytes (k := k) HO.out (BitVec.ofInt 8 (v / 2 ^ (8 * (7 - k))))
        rw [beTo_set v k hlt] at h1
        exact h1
      case measure => simp [intOf]; omega
    · have q0 : ¬ (k : Int) < 8 := by omega
      obtain rfl : k = 8 := by omega
      have h8 : beTo v 8 ++ noughts (8 - 8) = be8 v := by simp [be8, noughts]
      rw [h8] at ho
      have HO := Lib.hid ho; clear ho
      have HB := Lib.hid hb; clear hb
      have sz := HB.out.size
      have HB1 : Hid (Below wr.heap.size wr (wr.alloc (.cells #[.slice p n c, .slice (some ⟨w.heap.size, 0, none⟩) 8 8] 23))) := show Below _ _ _ from (Below.refl _ _).alloc (Nat.le_refl _) _
      have HC := Lib.hid (concat_any l (be8 v) n 8 p (some ⟨w.heap.size, 0, none⟩) c 8 wr.heap.size 23 (wr.alloc (.cells #[.slice p n c, .slice (some ⟨w.heap.size, 0, none⟩) 8 8] 23)) HN.out (be8_length v) (by omega) (heap_new_at rfl) ((HP.out.below HB.out).below HB1.out) ((show Lies wr _ _ from Or.inr ⟨_, 0, rfl, HO.out.range⟩).below HB1.out))
      go_wp2_with (go_at_call 61; refine HC.out.mono ?_; rintro e w2 ⟨r, rfl, ho, hb⟩; have HO2 := Lib.hid ho; have HB2 := Lib.hid (HB.out.trans ((HB1.out.trans (hb.mono HB1.out.size)).mono sz)); clear ho hb)
      go_ret
      exact ⟨_, rfl, HO2.out.lower (by rw [size_alloc]; omega), HB2.out⟩
theorem withLenB_any (l m : List (BitVec 8)) (n k : Nat) (p q : Option Addr) (c d : Nat) (w : World) (hn : l.length = n) (hk : m.length = k) (hl : n + k < 140737488350000) (hp : Lies w p l) (hq : Lies w q m) :
    Calls Try.prog 93 #[.slice p n c, .slice q k d] w fun e w' => ∃ r, e = .returned r ∧ Own w.heap.size w' (l ++ be8 (k : Int) ++ m) r ∧ Below w.heap.size w w' := by
  have HI := Lib.hid (intP_any (k : Int) l n p c w hn (by omega) hp)
  have HQ := Lib.hid hq; clear hq
  have HK := Lib.hid hk
  have HLE : Hid ((l ++ be8 (k : Int)).length + m.length < 140737488355328) := show _ < _ by rw [List.length_append, be8_length]; omega
  clear hk hp
  go_enter Try.func93, Try.ntmps93
  go_wp2_with (first
    | (go_at_call 13; refine HI.out.mono ?_; rintro e w1 ⟨r, rfl, ho, hb⟩; have HO := Lib.hid ho; have HB := Lib.hid hb; clear ho hb)
    | (at_builtin; refine wpList_append_listB rfl (.tmp 8) (.tmp 9) rfl w.heap.size _ _ m q d rfl HO.out (by rw [HK.out]; rfl) (HQ.out.below HB.out) HLE.out HB.out.size ?_; intro v1 w2 h1 b1; have HO1 := Lib.hid h1; have HB1 := Lib.hid (HB.out.trans b1); clear h1 b1))
  go_ret
  exact ⟨_, rfl, HO1.out, HB1.out⟩
theorem withLenS_any (l m : List (BitVec 8)) (n k : Nat) (p : Option Addr) (c : Nat) (w : World) (hn : l.length = n) (hk : m.length = k) (hl : n + k < 140737488350000) (hp : Lies w p l) :
    Calls Try.prog 68 #[.slice p n c, .string (strB m)] w fun e w' => ∃ r, e = .returned r ∧ Own w.heap.size w' (l ++ be8 (k : Int) ++ m) r ∧ Below w.heap.size w w' := by
  have HI := Lib.hid (intP_any (k : Int) l n p c w hn (by omega) hp)
  have HK := Lib.hid hk
  have HLE : Hid ((l ++ be8 (k : Int)).length + m.length < 140737488355328) := show _ < _ by rw [List.length_append, be8_length]; omega
  clear hk hp
  have hsz := strB_size m
  rw [HK.out] at hsz
  generalize hS : strB m = S at *
  have HS := Lib.hid hS; clear hS
  go_enter Try.func68, Try.ntmps68
  go_wp2_with (first
    | (go_at_call 13; refine HI.out.mono ?_; rintro e w1 ⟨r, rfl, ho, hb⟩; have HO := Lib.hid ho; have HB := Lib.hid hb; clear ho hb)
    | (at_builtin; refine wpList_append_str rfl (.tmp 8) (.tmp 9) rfl w.heap.size _ _ m rfl HO.out (by rw [HS.out]; rfl) HLE.out HB.out.size ?_; intro v1 w2 h1 b1; have HO1 := Lib.hid h1; have HB1 := Lib.hid (HB.out.trans b1); clear h1 b1))
  go_ret
  exact ⟨_, rfl, HO1.out, HB1.out⟩
theorem blobP_any (l m : List (BitVec 8)) (n k : Nat) (p q : Option Addr) (c d : Nat) (w : World) (hn : l.length = n) (hk : m.length = k) (hl : n + k < 140737488350000) (hp : Lies w p l) (hq : Lies w q m) :
    Calls Try.prog 43 #[.slice p n c, .slice q k d] w fun e w' => ∃ r, e = .returned r ∧ Own w.heap.size w' (l ++ be8 (k : Int) ++ m) r ∧ Below w.heap.size w w' := by
  have HI := Lib.hid (withLenB_any l m n k p q c d w hn hk hl hp hq)
  clear hk hp hq hn
  go_enter Try.func43, Try.ntmps43
  go_wp2_with (go_at_call 93; refine HI.out.mono ?_; rintro e w1 ⟨r, rfl, ho, hb⟩; have HO := Lib.hid ho; have HB := Lib.hid hb; clear ho hb)
  go_ret
  exact ⟨_, rfl, HO.out, HB.out⟩
theorem textP_any (l m : List (BitVec 8)) (n k : Nat) (p : Option Addr) (c : Nat) (w : World) (hn : l.length = n) (hk : m.length = k) (hl : n + k < 140737488350000) (hp : Lies w p l) :
    Calls Try.prog 20 #[.slice p n c, .string (strB m)] w fun e w' => ∃ r, e = .returned r ∧ Own w.heap.size w' (l ++ be8 (k : Int) ++ m) r ∧ Below w.heap.size w w' := by
  have HI := Lib.hid (withLenS_any l m n k p c w hn hk hl hp)
  clear hk hp hn
  go_enter Try.func20, Try.ntmps20
  go_wp2_with (go_at_call 68; refine HI.out.mono ?_; rintro e w1 ⟨r, rfl, ho, hb⟩; have HO := Lib.hid ho; have HB := Lib.hid hb; clear ho hb)
  go_ret
  exact ⟨_, rfl, HO.out, HB.out⟩
theorem sumP_any (l m : List (BitVec 8)) (n : Nat) (p : Option Addr) (c : Nat) (w : World) (hn : l.length = n) (hm : m.length = 32) (hl : n < 140737488350000) (hp : Lies w p l) :
    Calls Try.prog 44 #[.slice p n c, .agg (bytesV m).toArray] w fun e w' => ∃ r, e = .returned r ∧ Own w.heap.size w' (l ++ m) r ∧ Below w.heap.size w w' := by
  have HB1 : Hid (Below w.heap.size w ((w.alloc (.cells (bytesV m).toArray 26)).alloc (.cells #[.slice p n c, .slice (some ⟨w.heap.size, 0, none⟩) 32 32] 23))) := show Below _ _ _ from ((Below.refl _ _).alloc (Nat.le_refl _) _).alloc (by rw [size_alloc]; omega) _
  have HA1 : Hid (BytesAt ((w.alloc (.cells (bytesV m).toArray 26)).alloc (.cells #[.slice p n c, .slice (some ⟨w.heap.size, 0, none⟩) 32 32] 23)) w.heap.size 26 m) := show BytesAt _ _ _ _ from (show BytesAt (w.alloc _) _ _ _ from heap_new_at rfl).keep ((Below.refl _ _).alloc (Nat.le_refl _) _)
  have HC := Lib.hid (concat_any l m n 32 p (some ⟨w.heap.size, 0, none⟩) c 32 (w.heap.size + 1) 23 _ hn hm (by omega) (heap_new_at (size_alloc w (.cells (bytesV m).toArray 26))) (hp.below HB1.out) (Or.inr ⟨_, 0, rfl, HA1.out.range⟩))
  have hsm := infoSum m hm
  clear hp hn
  generalize hM : (bytesV m).toArray = M at *
  have HM := Lib.hid hM; clear hM
  go_enter Try.func44, Try.ntmps44
  go_wp2_with (go_at_call 61; refine HC.out.mono ?_; rintro e w2 ⟨r, rfl, ho, hb⟩; have HO2 := Lib.hid ho; have HB2 := Lib.hid (HB1.out.trans (hb.mono HB1.out.size)); clear ho hb)
  go_ret
  exact ⟨_, rfl, HO2.out.lower HB1.out.size, HB2.out⟩
end Go.Proofs.Ytadlpidhemjkgaa

/-
  The document's Int, Blob, Text and Sum of layer 7.
-/
namespace Go.Proofs.Ytadlpidhemjkgaa
open Go.RowKit Go.Proofs.ShaWords
theorem refByte (v : Int) (i : Nat) (h : i < 8) : (((v % 18446744073709551616).toNat / 256 ^ i : Nat) : Int) % 256 = n8 (BitVec.ofInt 8 (v / 2 ^ (8 * i))) := by
  rw [← n8_byte]
  have hU : (((v % 18446744073709551616).toNat : Nat) : Int) = v % 18446744073709551616 := by omega
  rw [Int.natCast_ediv, hU]
  clear hU
  obtain rfl | rfl | rfl | rfl | rfl | rfl | rfl | rfl : i = 0 ∨ i = 1 ∨ i = 2 ∨ i = 3 ∨ i = 4 ∨ i = 5 ∨ i = 6 ∨ i = 7 := by omega
  · show v % 18446744073709551616 / 1 % 256 = v / 1 % 256; omega
  · show v % 18446744073709551616 / 256 % 256 = v / 256 % 256; omega
  · show v % 18446744073709551616 / 65536 % 256 = v / 65536 % 256; omega
  · show v % 18446744073709551616 / 16777216 % 256 = v / 16777216 % 256; omega
  · show v % 18446744073709551616 / 4294967296 % 256 = v / 4294967296 % 256; omega
  · show v % 18446744073709551616 / 1099511627776 % 256 = v / 1099511627776 % 256; omega
  · show v % 18446744073709551616 / 281474976710656 % 256 = v / 281474976710656 % 256; omega
  · show v % 18446744073709551616 / 72057594037927936 % 256 = v / 72057594037927936 % 256; omega
theorem wrapU (v : Int) : IntKind.u64.wrap v = (((v % 18446744073709551616).toNat : Nat) : Int) := by
  rw [IntKind.wrap_u64]; omega
set_option maxHeartbeats 1000000 in
theorem intR_any (v : Int) (l : List (BitVec 8)) (n : Nat) (p : Option Addr) (c : Nat) (w : World) (hn : l.length = n) (hl : n < 140737488355000) (hp : Lies w p l) :
    Calls Try.prog 45 #[.slice p n c, .int .i64 v] w fun e w' => ∃ r, e = .returned r ∧ Own w.heap.size w' (l ++ be8 v) r ∧ Below w.heap.size w w' := by
  have HC := Lib.hid (copy_bigL l n p c w hn (by omega) hp)
  clear hp
  have hwu := wrapU v
  have hrb := fun i h => refByte v i h
  have hUlt : (v % 18446744073709551616).toNat < 18446744073709551616 := by omega
  generalize (v % 18446744073709551616).toNat = U at *
  have HRB := Lib.hid hrb; clear hrb
  go_enter Try.func45, Try.ntmps45
  go_wp2_with (go_at_call 40; refine HC.out.mono ?_; rintro e w1 ⟨r, rfl, ho, hb⟩; have HO := Lib.hid ho; have HB := Lib.hid hb; clear ho hb)
  clear hwu HC
  rename World => w1
  go_loopw [5, 7] (fun r i wr => ∃ j : Nat, j ≤ 8 ∧ i = .int .i64 (7 - (j : Int)) ∧ Own w.heap.size wr (l ++ beTo v j) r ∧ Below w.heap.size w wr) (fun _ i _ => (intOf i + 1).toNat)
  case atStart => exact ⟨0, by omega, rfl, by rw [beTo_zero, List.append_nil]; exact HO.out, HB.out⟩
  case round =>
    clear HO HB
    obtain ⟨j, hj, rfl, ho, hb⟩ := hrel
    have HO := Lib.hid ho; clear ho
    have HB := Lib.hid hb; clear hb
    have sz := HB.out.size
    by_cases hlt : j < 8
    · have q0 : 7 - (j : Int) ≥ 0 := by omega
      go_wp2_with fail
      go_loopw [8, 9] (fun x k w2 => wr = w2 ∧ ∃ i : Nat, (i : Int) ≤ 7 - (j : Int) ∧ k = .int .i64 (i : Int) ∧ x = .int .u64 ((U / 256 ^ i : Nat) : Int)) (fun _ k _ => (7 - (j : Int) - intOf k).toNat)
      case atStart => exact ⟨rfl, 0, by omega, rfl, by simp⟩
      case round =>
        obtain ⟨rfl, i, hi, rfl, rfl⟩ := hrel
        have hdiv : U / 256 ^ i / 256 = U / 256 ^ (i + 1) := by rw [Nat.div_div_eq_div_mul, Nat.pow_succ]
        have hle : U / 256 ^ i ≤ U := Nat.div_le_self _ _
        by_cases hil : (i : Int) < 7 - (j : Int)
        · generalize U / 256 ^ i = X at *
          go_wp2_with fail
          go_roundw
          case rel => exact ⟨trivial, i + 1, by omega, by go_num, by rw [← hdiv]; rfl⟩
          case measure => simp [intOf]; omega
        · obtain rfl : i = 7 - j := by omega
          have m1 := HRB.out (7 - j) (by omega)
          have HBT : Hid (l ++ beTo v (j + 1) = (l ++ beTo v j) ++ [BitVec.ofInt 8 (v / 2 ^ (8 * (7 - j)))]) := show _ = _ by rw [beTo_succ, List.append_assoc]
          have HLE : Hid ((l ++ beTo v j).length < 140737488355328) := show _ < _ by rw [List.length_append, beTo_length]; omega
          generalize BitVec.ofInt 8 (v / 2 ^ (8 * (7 - j))) = b at *
          generalize U / 256 ^ (7 - j) = X at *
          go_wp2_with (at_builtin; refine wpList_append_byte_big rfl (.tmp 26) (.tmp 30) rfl w.heap.size _ (l ++ beTo v j) b rfl HO.out rfl HLE.out HB.out.size ?_; intro v' w' ho' hb'; rw [← HBT.out] at ho'; have HO' := Lib.hid ho'; have HB' := Lib.hid (HB.out.trans hb'); clear ho' hb')
          go_roundw
          case rel => exact ⟨j + 1, by omega, by go_num, HO'.out, HB'.out⟩
          case measure => simp [intOf]; omega
    · obtain rfl : j = 8 := by omega
      go_wp2_with fail
      go_ret
      exact ⟨_, rfl, HO.out, HB.out⟩
end Go.Proofs.Ytadlpidhemjkgaa

/-
  The document's Blob, Text and Sum of layer 7.
-/
namespace Go.Proofs.Ytadlpidhemjkgaa
open Go.RowKit Go.Proofs.ShaWords
theorem strB_byte (m : List (BitVec 8)) (k : Nat) (h : k < m.length) (w : World) : (Instr.index 9 (.string (strB m)) (.int .i64 (k : Int))).run Try.prog w = .ok (.int .u8 (n8 m[k])) w := by
  have hsz := strB_size m
  rw [run_index_string (P := Try.prog) w 9 (strB m) .i64 (k : Int) Try.underlying9, dif_pos ⟨by omega, by rw [hsz]; omega⟩]
  have e : ((strB m)[(k : Int).toNat]'(by rw [hsz]; omega)).toNat = m[k].toNat := by
    have h1 := m[k].isLt
    simp [strB, strOfNums, ByteArray.getElem_eq_getElem_data, n8]
  unfold n8
  rw [e]
set_option maxHeartbeats 1000000 in
theorem blobR_any (l m : List (BitVec 8)) (n k : Nat) (p q : Option Addr) (c d : Nat) (w : World) (hn : l.length = n) (hk : m.length = k) (hl : n + k < 140737488350000) (hp : Lies w p l) (hq : Lies w q m) :
    Calls Try.prog 46 #[.slice p n c, .slice q k d] w fun e w' => ∃ r, e = .returned r ∧ Own w.heap.size w' (l ++ be8 (k : Int) ++ m) r ∧ Below w.heap.size w w' := by
  have HI := Lib.hid (intR_any (k : Int) l n p c w hn (by omega) hp)
  have HQ := Lib.hid hq; clear hq
  have hlE : (l ++ be8 (k : Int)).length = n + 8 := by rw [List.length_append, be8_length]; omega
  clear hp hn
  generalize l ++ be8 (k : Int) = L at *
  go_enter Try.func46, Try.ntmps46
  go_wp2_with (go_at_call 45; refine HI.out.mono ?_; rintro e w1 ⟨r, rfl, ho, hb⟩; have HO := Lib.hid ho; have HB := Lib.hid hb; clear ho hb)
  rename World => w1
  clear HI
  go_loopw [5, 6] (fun r i wr => ∃ j : Nat, j ≤ k ∧ i = .int .i64 (j : Int) ∧ Own w.heap.size wr (L ++ m.take j) r ∧ Below w.heap.size w wr) (fun _ i _ => k - (intOf i).toNat)
  case atStart => exact ⟨0, by omega, rfl, by rw [List.take_zero, List.append_nil]; exact HO.out, HB.out⟩
  case round =>
    clear HO HB
    obtain ⟨j, hj, rfl, ho, hb⟩ := hrel
    have HO := Lib.hid ho; clear ho
    by_cases hlt : j < k
    · have hjm : j < m.length := by omega
      rcases HQ.out with h0 | ⟨b, off, rfl, hr⟩
      · exfalso; rw [h0] at hjm; simp at hjm
      · have hv : (bytesV m)[j]? = some (.int .u8 (n8 m[j])) := by simp [bytesV, hjm]
        have hbl := World.block_lt_of_cell? w _ (hr j _ hv)
        have hc := (hb.cell (p := ⟨b, off + j, none⟩) hbl).trans (hr j _ hv)
        clear hv hr hbl
        have HTK : Hid (L ++ m.take (j + 1) = (L ++ m.take j) ++ [m[j]]) := show _ = _ by rw [List.take_succ_eq_append_getElem hjm, List.append_assoc]
        have HLE : Hid ((L ++ m.take j).length < 140737488355328) := show _ < _ by rw [List.length_append, hlE, List.length_take]; omega
        generalize m[j] = x at hc HTK
        have HB := Lib.hid hb; clear hb
        go_wp2_with (at_builtin; refine wpList_append_byte_big rfl (.tmp 17) (.tmp 22) rfl w.heap.size _ (L ++ m.take j) x rfl HO.out rfl HLE.out HB.out.size ?_; intro v' w' ho' hb'; rw [← HTK.out] at ho'; have HO' := Lib.hid ho'; have HB' := Lib.hid (HB.out.trans hb'); clear ho' hb')
        go_roundw
        case rel => exact ⟨j + 1, by omega, by go_num, HO'.out, HB'.out⟩
        case measure => simp [intOf]; omega
    · have HTK : Hid (m.take j = m) := show _ = _ from List.take_of_length_le (by omega)
      have HB := Lib.hid hb; clear hb
      go_wp2_with fail
      go_ret
      exact ⟨_, rfl, by have h := HO.out; rw [HTK.out] at h; exact h, HB.out⟩
set_option maxHeartbeats 1000000 in
theorem textR_any (l m : List (BitVec 8)) (n k : Nat) (p : Option Addr) (c : Nat) (w : World) (hn : l.length = n) (hk : m.length = k) (hl : n + k < 140737488350000) (hp : Lies w p l) :
    Calls Try.prog 47 #[.slice p n c, .string (strB m)] w fun e w' => ∃ r, e = .returned r ∧ Own w.heap.size w' (l ++ be8 (k : Int) ++ m) r ∧ Below w.heap.size w w' := by
  have HI := Lib.hid (intR_any (k : Int) l n p c w hn (by omega) hp)
  have hlE : (l ++ be8 (k : Int)).length = n + 8 := by rw [List.length_append, be8_length]; omega
  clear hp hn
  generalize l ++ be8 (k : Int) = L at *
  have hsz := strB_size m
  rw [hk] at hsz
  have hix := fun j h w => strB_byte m j h w
  generalize strB m = S at *
  have HIX := Lib.hid hix; clear hix
  go_enter Try.func47, Try.ntmps47
  go_wp2_with (go_at_call 45; refine HI.out.mono ?_; rintro e w1 ⟨r, rfl, ho, hb⟩; have HO := Lib.hid ho; have HB := Lib.hid hb; clear ho hb)
  rename World => w1
  clear HI
  go_loopw [5, 6] (fun r i wr => ∃ j : Nat, j ≤ k ∧ i = .int .i64 (j : Int) ∧ Own w.heap.size wr (L ++ m.take j) r ∧ Below w.heap.size w wr) (fun _ i _ => k - (intOf i).toNat)
  case atStart => exact ⟨0, by omega, rfl, by rw [List.take_zero, List.append_nil]; exact HO.out, HB.out⟩
  case round =>
    clear HO HB
    obtain ⟨j, hj, rfl, ho, hb⟩ := hrel
    have HO := Lib.hid ho; clear ho
    have HB := Lib.hid hb; clear hb
    by_cases hlt : j < k
    · have hjm : j < m.length := by omega
      have hix := HIX.out j hjm
      have HTK : Hid (L ++ m.take (j + 1) = (L ++ m.take j) ++ [m[j]]) := show _ = _ by rw [List.take_succ_eq_append_getElem hjm, List.append_assoc]
      have HLE : Hid ((L ++ m.take j).length < 140737488355328) := show _ < _ by rw [List.length_append, hlE, List.length_take]; omega
      generalize m[j] = x at hix HTK
      go_wp2_with (at_builtin; refine wpList_append_byte_big rfl (.tmp 17) (.tmp 21) rfl w.heap.size _ (L ++ m.take j) x rfl HO.out rfl HLE.out HB.out.size ?_; intro v' w' ho' hb'; rw [← HTK.out] at ho'; have HO' := Lib.hid ho'; have HB' := Lib.hid (HB.out.trans hb'); clear ho' hb')
      go_roundw
      case rel => exact ⟨j + 1, by omega, by go_num, HO'.out, HB'.out⟩
      case measure => simp [intOf]; omega
    · have HTK : Hid (m.take j = m) := show _ = _ from List.take_of_length_le (by omega)
      go_wp2_with fail
      go_ret
      exact ⟨_, rfl, by have h := HO.out; rw [HTK.out] at h; exact h, HB.out⟩
set_option maxHeartbeats 1000000 in
theorem sumR_any (l m : List (BitVec 8)) (n : Nat) (p : Option Addr) (c : Nat) (w : World) (hn : l.length = n) (hm : m.length = 32) (hl : n < 140737488350000) (hp : Lies w p l) :
    Calls Try.prog 48 #[.slice p n c, .agg (bytesV m).toArray] w fun e w' => ∃ r, e = .returned r ∧ Own w.heap.size w' (l ++ m) r ∧ Below w.heap.size w w' := by
  have hB1 : Below w.heap.size w (w.alloc (.cells (bytesV m).toArray 26)) := (Below.refl _ _).alloc (Nat.le_refl _) _
  have HA1 : Hid (BytesAt (w.alloc (.cells (bytesV m).toArray 26)) w.heap.size 26 m) := show BytesAt _ _ _ _ from heap_new_at rfl
  have hsz1 := size_alloc w (.cells (bytesV m).toArray 26)
  have HC := Lib.hid (copy_bigL l n p c _ hn (by omega) (hp.below hB1))
  have HB1 := Lib.hid hB1
  have hsm := infoSum m hm
  clear hp hB1
  generalize hM : (bytesV m).toArray = M at *
  have HM := Lib.hid hM; clear hM
  go_enter Try.func48, Try.ntmps48
  go_wp2_with (go_at_call 40; refine HC.out.mono ?_; rintro e w1 ⟨r, rfl, ho, hb⟩; have HA2 := Lib.hid (HA1.out.keep hb); rw [hsz1] at ho; have HO := Lib.hid ho; have HB := Lib.hid (HB1.out.trans (hb.mono HB1.out.size)); clear ho hb)
  rename World => w1
  clear HC HA1
  go_loopw [5, 6] (fun r i wr => ∃ j : Nat, j ≤ 32 ∧ i = .int .i64 (j : Int) ∧ Own (w.heap.size + 1) wr (l ++ m.take j) r ∧ BytesAt wr w.heap.size 26 m ∧ Below w.heap.size w wr) (fun _ i _ => 32 - (intOf i).toNat)
  case atStart => exact ⟨0, by omega, rfl, by rw [List.take_zero, List.append_nil]; exact HO.out, HA2.out, HB.out⟩
  case round =>
    clear HO HB HA2
    obtain ⟨j, hj, rfl, ho, ha, hb⟩ := hrel
    have HO := Lib.hid ho; clear ho
    have HB := Lib.hid hb; clear hb
    have hlt3 := ha.size
    by_cases hlt : j < 32
    · have hjm : j < m.length := by omega
      have q0 : (j : Int) < 32 := by omega
      have hc := cell_bytesV ha hjm
      have HA := Lib.hid ha; clear ha
      have HTK : Hid (l ++ m.take (j + 1) = (l ++ m.take j) ++ [m[j]]) := show _ = _ by rw [List.take_succ_eq_append_getElem hjm, List.append_assoc]
      have HLE : Hid ((l ++ m.take j).length < 140737488355328) := show _ < _ by rw [List.length_append, List.length_take]; omega
      generalize m[j] = x at hc HTK
      go_wp2_with (at_builtin; refine wpList_append_byte_big rfl (.tmp 13) (.tmp 17) rfl (w.heap.size + 1) _ (l ++ m.take j) x rfl HO.out rfl HLE.out (by omega) ?_; intro v' w' ho' hb'; rw [← HTK.out] at ho'; have HO' := Lib.hid ho'; have HA' : Hid (BytesAt w' w.heap.size 26 m) := show BytesAt _ _ _ _ from (hb'.block _ (by omega)).trans HA.out; have HB' := Lib.hid (HB.out.trans (hb'.mono (by omega))); clear ho' hb')
      go_roundw
      case rel => exact ⟨j + 1, by omega, by go_num, HO'.out, HA'.out, HB'.out⟩
      case measure => simp [intOf]; omega
    · have HTK : Hid (m.take j = m) := show _ = _ from List.take_of_length_le (by omega)
      have q0 : ¬ (j : Int) < 32 := by omega
      clear ha
      go_wp2_with fail
      go_ret
      exact ⟨_, rfl, by have h := HO.out; rw [HTK.out] at h; exact h.lower (by omega), HB.out⟩
end Go.Proofs.Ytadlpidhemjkgaa

/-
  The document's reader of layer 7: Read, Left, Bad, End, next.
-/
namespace Go.Proofs.Ytadlpidhemjkgaa
open Go.RowKit Go.Proofs.ShaWords
/-- The document's reader: its block; the bytes lie in blocks of D. -/
structure MdAt (D : Nat → Prop) (w : World) (g : Nat) (s : RS) : Prop where
  ne : ¬ D g
  dom : ∀ k, D k → k < w.heap.size
  mem : ∃ (v : Value) (B : List (BitVec 8)) (i : Nat), w.heap[g]? = some (.cells #[v, .int .i64 (i : Int), .int .i64 (s.e : Int)] 117 (0, 0)) ∧ SliceIn D w v B ∧ i ≤ B.length ∧ s.bs = if s.e = 0 then B.drop i else []
theorem MdAt.lt {D : Nat → Prop} {w : World} {g : Nat} {s : RS} (h : MdAt D w g s) : g < w.heap.size := by
  obtain ⟨v, B, i, h1, _⟩ := h.mem
  exact (Array.getElem?_eq_some_iff.1 h1).1
theorem MdAt.keep {D F : Nat → Prop} {w w' : World} {g : Nat} {s : RS} (h : MdAt D w g s) (hk : Stays F w w') (hF : ∀ k, F k → k ≠ g ∧ ¬ D k) : MdAt D w' g s := by
  have hlt := h.lt
  obtain ⟨h2, h3, v, B, i, h4, h5, h6, h7⟩ := h
  exact ⟨h2, fun k d => Nat.lt_of_lt_of_le (h3 k d) hk.size, v, B, i, (hk.block g hlt (fun f => (hF g f).1 rfl)).trans h4, h5.keep hk (fun k f => (hF k f).2), h6, h7⟩
theorem MdAt.below {D : Nat → Prop} {w w' : World} {g : Nat} {s : RS} (h : MdAt D w g s) (hb : Below w.heap.size w w') : MdAt D w' g s :=
  h.keep (F := fun _ => False) (Below.stays hb) (fun _ h => h.elim)
theorem MdAt.past {D : Nat → Prop} {w w' : World} {g k : Nat} {s : RS} (h : MdAt D w g s) (hk : Stays (fun x => x = k) w w') (h1 : k ≠ g) (h2 : ¬ D k) : MdAt D w' g s :=
  h.keep hk (fun x e => by subst e; exact ⟨h1, h2⟩)
theorem MdAt.ok {D : Nat → Prop} {w : World} {g : Nat} {s : RS} (h : MdAt D w g s) : s.Ok := fun he => by
  obtain ⟨v, B, i, _, _, _, h7⟩ := h.mem
  rw [h7, if_neg he]
theorem MdAt.cells {D : Nat → Prop} {w : World} {g : Nat} {s : RS} (h : MdAt D w g s) : ∃ (q : Option Addr) (c : Nat) (B : List (BitVec 8)) (i : Nat), w.heap[g]? = some (.cells #[.slice q B.length c, .int .i64 (i : Int), .int .i64 (s.e : Int)] 117 (0, 0)) ∧ w.cell? ⟨g, 0, none⟩ = some (.slice q B.length c) ∧ w.cell? ⟨g, 1, none⟩ = some (.int .i64 (i : Int)) ∧ w.cell? ⟨g, 2, none⟩ = some (.int .i64 (s.e : Int)) ∧ (∀ j, w.frozen? ⟨g, j, none⟩ = false) ∧ B.length ≤ c ∧ c ≤ maxLen ∧ LiesIn D w q B ∧ i ≤ B.length ∧ s.bs = if s.e = 0 then B.drop i else [] := by
  obtain ⟨v, B, i, h4, ⟨q, c, rfl, h5, h6, h7⟩, h8, h9⟩ := h.mem
  refine ⟨q, c, B, i, h4, ?_, ?_, ?_, fun j => frozen_of_row _ _ _ _ _ h4, h5, h6, h7, h8, h9⟩ <;> rw [cell_of_row w g _ _ _ _ h4] <;> rfl
set_option maxRecDepth 100000 in
theorem readR_any (l : List (BitVec 8)) (n : Nat) (p : Option Addr) (c : Nat) (w : World) (hn : l.length = n) (hl : n < 140737488355328) (hp : Lies w p l) :
    Calls Try.prog 55 #[.slice p n c] w fun e w' => ∃ g, e = .returned (.pointer (some ⟨g, 0, none⟩)) ∧ w.heap.size ≤ g ∧ MdAt (fun k => w.heap.size ≤ k ∧ k < g) w' g ⟨l, 0⟩ ∧ Below w.heap.size w w' := by
  have HP := Lib.hid hp; clear hp
  go_enter Try.func55, Try.ntmps55
  go_wp2_with fail
  refine (copy_bigL l n p c w hn hl HP.out).mono ?_
  subst hn
  rintro e w1 ⟨v, rfl, ho, hb⟩
  obtain ⟨q, c1, rfl, h1, h2, -⟩ := ho.lies
  have HO := Lib.hid ho; clear ho
  have HB := Lib.hid hb; clear hb
  have sz := HB.out.size
  go_wp2_with fail
  go_ret
  refine ⟨w1.heap.size, rfl, sz, ⟨by omega, fun k hk => by rw [size_alloc]; omega, .slice q l.length c1, l, 0, heap_new_at rfl, ?_, Nat.zero_le _, rfl⟩, HB.out.alloc sz _⟩
  exact (HO.out.sliceIn (D := fun k => w.heap.size ≤ k ∧ k < w1.heap.size) (fun k hk => World.ownsRow.lt HO.out k hk)).keep (F := fun _ => False) (Below.stays ((Below.refl _ _).alloc (Nat.le_refl _) _)) (fun _ h => h.elim)
theorem badR_any (D : Nat → Prop) (g : Nat) (s : RS) (w : World) (h : MdAt D w g s) :
    Calls Try.prog 60 #[.pointer (some ⟨g, 0, none⟩)] w fun e w' => e = .returned (.bool (decide (s.e ≠ 0))) ∧ w = w' := by
  obtain ⟨q, c, B, i, -, -, -, h0, -⟩ := h.cells
  clear h
  generalize s.e = n at *
  go_enter Try.func60, Try.ntmps60
  go_wp2_with fail
  go_ret
  by_cases hn : n = 0 <;> simp [hn] <;> omega
theorem leftR_any (D : Nat → Prop) (g : Nat) (s : RS) (w : World) (h : MdAt D w g s) :
    Calls Try.prog 56 #[.pointer (some ⟨g, 0, none⟩)] w fun e w' => e = .returned (.int .i64 (s.bs.length : Int)) ∧ Below w.heap.size w w' := by
  obtain ⟨q, c, B, i, -, h0, h1, h2, -, h3, h4, -, h5, h6⟩ := h.cells
  clear h
  rw [h6]
  generalize s.e = n at *
  go_enter Try.func56, Try.ntmps56
  by_cases hn : n = 0
  · rw [if_pos hn, List.length_drop]
    obtain ⟨m, hm⟩ : ∃ m, B.length = m := ⟨_, rfl⟩
    rw [hm] at h0 h5 h3
    rw [hm]
    unfold maxLen at h4
    have q0 : (n : Int) = 0 := by omega
    have q1 : (i : Int) ≤ (m : Int) := by omega
    have HX : Hid ((m : Int) - (i : Int) = ((m - i : Nat) : Int)) := show _ = _ by omega
    go_wp2_with fail
    go_quiet (fail)
    go_wp2_with fail
    go_ret
    exact ⟨by rw [← HX.out]; rfl, ⟨rfl, rfl, rfl, Nat.le_refl _, fun _ _ => rfl⟩⟩
  · rw [if_neg hn]
    have q0 : ¬ (n : Int) = 0 := by omega
    go_wp2_with fail
    go_ret
    exact ⟨rfl, Below.refl _ _⟩
theorem endR_any (D : Nat → Prop) (g : Nat) (s : RS) (w : World) (h : MdAt D w g s) :
    Calls Try.prog 57 #[.pointer (some ⟨g, 0, none⟩)] w fun e w' => e = .returned (.int .i64 (s.endV : Int)) ∧ Below w.heap.size w w' := by
  have HL := Lib.hid (leftR_any D g s w h)
  obtain ⟨q, c, B, i, hg, -, -, h0, -⟩ := h.cells
  have hglt := h.lt
  clear h
  unfold RS.endV
  generalize s.e = n at *
  generalize s.bs.length = m at *
  generalize hE : (if n = 0 ∧ 0 < m then 5 else n) = E
  have HG : Hid (∀ w', Below w.heap.size w w' → w'.cell? ⟨g, 2, none⟩ = some (.int .i64 (n : Int))) := show ∀ w', _ → _ from fun w' hb => by
    rw [cell_of_row w' g _ _ _ _ ((hb.block g hglt).trans hg)]; rfl
  clear hg
  go_enter Try.func57, Try.ntmps57
  by_cases hn : n = 0
  · by_cases hm : 0 < m
    · have q0 : (m : Int) > 0 := by omega
      have q1 : (n : Int) = 0 := by omega
      have HE : Hid (E = 5) := show _ = _ by rw [← hE, if_pos ⟨hn, hm⟩]
      clear hE
      go_wp2_with (go_at_call 56; refine HL.out.mono ?_; rintro e w' ⟨rfl, hb⟩; have HB := Lib.hid hb; clear hb)
      go_ret
      exact ⟨by rw [HE.out]; rfl, HB.out⟩
    · have q0 : ¬ (m : Int) > 0 := by omega
      have q1 : (n : Int) = 0 := by omega
      have HE : Hid (E = n) := show _ = _ by rw [← hE, if_neg (fun h => hm h.2)]
      clear hE
      go_wp2_with (go_at_call 56; refine HL.out.mono ?_; rintro e w' ⟨rfl, hb⟩; have h9 := HG.out _ hb; have HB := Lib.hid hb; clear hb)
      go_ret
      exact ⟨by rw [HE.out]; first | rfl | (rw [hn]; rfl), HB.out⟩
  · have q0 : ¬ (n : Int) = 0 := by omega
    have HE : Hid (E = n) := show _ = _ by rw [← hE, if_neg (fun h => hn h.1)]
    clear hE
    go_wp2_with fail
    go_ret
    exact ⟨by rw [HE.out]; rfl, Below.refl _ _⟩
end Go.Proofs.Ytadlpidhemjkgaa

/-
  The document's reader of layer 7: next, Int, Sum, Count, Blob, Text.
-/
namespace Go.Proofs.Ytadlpidhemjkgaa
open Go.RowKit Go.Proofs.ShaWords
theorem MdAt.setE {D : Nat → Prop} {w : World} {g : Nat} {s : RS} (h : MdAt D w g s) {q : Option Addr} {c i : Nat} {B : List (BitVec 8)} (hold : w.heap[g]? = some (.cells #[.slice q B.length c, .int .i64 (i : Int), .int .i64 (s.e : Int)] 117 (0, 0)))
    (h1 : B.length ≤ c) (h2 : c ≤ maxLen) (h3 : LiesIn D w q B) (h4 : i ≤ B.length) (k : Nat) (hk : k ≠ 0) : MdAt D (w.setCell ⟨g, 2, none⟩ (.int .i64 (k : Int))) g ⟨[], k⟩ := by
  have hst := set_stays w g 2 (.int .i64 (k : Int))
  refine ⟨h.ne, fun x d => Nat.lt_of_lt_of_le (h.dom x d) hst.size, .slice q B.length c, B, i, ?_, SliceIn.keep ⟨q, c, rfl, h1, h2, h3⟩ hst (fun x f d => h.ne (f ▸ d)), h4, (if_neg hk).symm⟩
  rw [heap_setCell_same _ _ _ _ _ _ hold]
  rfl
theorem MdAt.setAt {D : Nat → Prop} {w : World} {g : Nat} {s : RS} (h : MdAt D w g s) {q : Option Addr} {c i : Nat} {B : List (BitVec 8)} (hold : w.heap[g]? = some (.cells #[.slice q B.length c, .int .i64 (i : Int), .int .i64 (s.e : Int)] 117 (0, 0)))
    (h1 : B.length ≤ c) (h2 : c ≤ maxLen) (h3 : LiesIn D w q B) (he : s.e = 0) (n : Nat) (h4 : i + n ≤ B.length) : MdAt D (w.setCell ⟨g, 1, none⟩ (.int .i64 ((i + n : Nat) : Int))) g ⟨B.drop (i + n), s.e⟩ := by
  have hst := set_stays w g 1 (.int .i64 ((i + n : Nat) : Int))
  refine ⟨h.ne, fun x d => Nat.lt_of_lt_of_le (h.dom x d) hst.size, .slice q B.length c, B, i + n, ?_, SliceIn.keep ⟨q, c, rfl, h1, h2, h3⟩ hst (fun x f d => h.ne (f ▸ d)), h4, (if_pos he).symm⟩
  rw [heap_setCell_same _ _ _ _ _ _ hold]
  rfl
theorem RS.next_bad {s : RS} (h : s.Ok) (he : s.e ≠ 0) (n : Nat) : s.next n = s ∧ s.got n = [] := by
  have hb := h he
  obtain ⟨bs, e⟩ := s
  simp only at hb he
  subst hb
  unfold RS.next RS.got RS.fail
  simp [he]
set_option maxRecDepth 100000 in
set_option maxHeartbeats 1000000 in
theorem nextR_any (D : Nat → Prop) (g : Nat) (s : RS) (n : Nat) (w : World) (h : MdAt D w g s) (hs : s.Short) :
    Calls Try.prog 106 #[.pointer (some ⟨g, 0, none⟩), .int .i64 (n : Int)] w fun e w' => ∃ v, e = .returned v ∧ Own w.heap.size w' (s.got n) v ∧ MdAt D w' g (s.next n) ∧ Stays (fun x => x = g) w w' := by
  have HL := Lib.hid (leftR_any D g s w h)
  have H := Lib.hid h
  have hglt := h.lt
  obtain ⟨q, c, B, i, hg, c0, c1, c2, hf, h3, h4, h5, h6, h7⟩ := h.cells
  have HNB := Lib.hid (RS.next_bad (n := n) h.ok)
  have HG := Lib.hid hg
  have HF := Lib.hid hf
  have H5 := Lib.hid h5
  clear h hg hf h5
  by_cases hn : s.e = 0
  · rw [if_pos hn] at h7
    have hbl : s.bs.length = B.length - i := by rw [h7, List.length_drop]
    have q1 : (s.e : Int) = 0 := by omega
    by_cases hlt : s.bs.length < n
    · have HGT : Hid (s.got n = []) := show _ = _ from if_pos hlt
      have HNX : Hid (s.next n = ⟨[], 4⟩) := show _ = _ by unfold RS.next RS.fail; rw [if_pos hlt, if_pos hn]
      have q2 : (s.bs.length : Int) < (n : Int) := by omega
      have HC := Lib.hid hbl
      clear c0 c1 h7 hbl
      go_enter Try.func106, Try.ntmps106
      go_wp2_with (go_at_call 56; refine HL.out.mono ?_; rintro e w1 ⟨rfl, hb⟩; have g1 := (hb.block g hglt).trans HG.out; have f1 : w1.frozen? ⟨g, 2, none⟩ = false := frozen_of_row _ _ _ _ _ g1; have d2 : w1.cell? ⟨g, 2, none⟩ = some (.int .i64 (s.e : Int)) := (by rw [cell_of_row w1 g _ _ _ _ g1]; rfl); have HG1 := Lib.hid g1; have HB := Lib.hid hb; clear hb g1)
      go_ret
      exact ⟨_, rfl, by rw [HGT.out]; exact Own.nil _ _, by rw [HNX.out]; exact (H.out.below HB.out).setE HG1.out h3 h4 ((H5.out.keep (F := fun _ => False) (Below.stays HB.out) (fun _ h => h.elim))) h6 4 (by decide), (Below.stays HB.out).trans (set_stays _ g 2 _) (fun _ e _ => e)⟩
    · have HGT : Hid (s.got n = (B.drop i).take n) := show _ = _ by unfold RS.got; rw [if_neg hlt, h7]
      have HNX : Hid (s.next n = ⟨B.drop (i + n), s.e⟩) := show _ = _ by unfold RS.next; rw [if_neg hlt, h7, List.drop_drop]
      have q2 : ¬ (s.bs.length : Int) < (n : Int) := by omega
      have HC := Lib.hid hbl
      unfold RS.Short at hs
      have hin : i + n ≤ B.length := by omega
      have hsm : n < 140737488355328 := by omega
      clear c0 c1 h7 hbl
      unfold maxLen at h4
      go_enter Try.func106, Try.ntmps106
      go_upto_region 6 with (go_at_call 56; refine HL.out.mono ?_; rintro e w1 ⟨rfl, hb⟩; have g1 := (hb.block g hglt).trans HG.out; have f1 : w1.frozen? ⟨g, 1, none⟩ = false := frozen_of_row _ _ _ _ _ g1; have d1 : w1.cell? ⟨g, 1, none⟩ = some (.int .i64 (i : Int)) := (by rw [cell_of_row w1 g _ _ _ _ g1]; rfl); have d2 : w1.cell? ⟨g, 2, none⟩ = some (.int .i64 (s.e : Int)) := (by rw [cell_of_row w1 g _ _ _ _ g1]; rfl); have HG1 := Lib.hid g1; have HB := Lib.hid hb; clear hb g1)
      have hw1 := (H.out.below HB.out).setAt HG1.out h3 h4 (H5.out.keep (F := fun _ => False) (Below.stays HB.out) (fun _ h => h.elim)) hn n hin
      have hcast : ((i + n : Nat) : Int) = (i : Int) + (n : Int) := by omega
      have HW : Hid ((w1.setCell ⟨g, 1, none⟩ (.int .i64 ((i : Int) + (n : Int)))).heap[g]? = some (.cells #[.slice q B.length c, .int .i64 ((i + n : Nat) : Int), .int .i64 (s.e : Int)] 117 (0, 0)) ∧ LiesIn D (w1.setCell ⟨g, 1, none⟩ (.int .i64 ((i : Int) + (n : Int)))) q B ∧ MdAt D (w1.setCell ⟨g, 1, none⟩ (.int .i64 ((i : Int) + (n : Int)))) g ⟨B.drop (i + n), s.e⟩ ∧ Stays (fun x => x = g) w (w1.setCell ⟨g, 1, none⟩ (.int .i64 ((i : Int) + (n : Int))))) := show _ ∧ _ ∧ _ ∧ _ by
        rw [← hcast]
        refine ⟨?_, (H5.out.keep (F := fun _ => False) (Below.stays HB.out) (fun _ h => h.elim)).keep (set_stays _ g 1 _) (fun x f d => H.out.ne (f ▸ d)), hw1, (Below.stays HB.out).trans (set_stays _ g 1 _) (fun _ e _ => e)⟩
        rw [heap_setCell_same _ _ _ _ _ _ HG1.out]
        rfl
      refine wp_gen (fun w2 => w2.heap[g]? = some (.cells #[.slice q B.length c, .int .i64 ((i + n : Nat) : Int), .int .i64 (s.e : Int)] 117 (0, 0)) ∧ LiesIn D w2 q B ∧ MdAt D w2 g ⟨B.drop (i + n), s.e⟩ ∧ Stays (fun x => x = g) w w2) HW.out ?_
      clear HW hw1 d1 d2 f1 HG1 HB HG HF HL HC H5 HNB q2 hlt c2
      intro w2 hw2
      obtain ⟨g2, l2, m2, s2⟩ := hw2
      have e0 : w2.cell? ⟨g, 0, none⟩ = some (.slice q B.length c) := by rw [cell_of_row w2 g _ _ _ _ g2]; rfl
      have e1 : w2.cell? ⟨g, 1, none⟩ = some (.int .i64 ((i + n : Nat) : Int)) := by rw [cell_of_row w2 g _ _ _ _ g2]; rfl
      have L2 := Lib.hid l2; have M2 := Lib.hid m2; have S2 := Lib.hid s2
      clear g2 l2 m2 s2
      obtain ⟨m, hm⟩ : ∃ m, B.length = m := ⟨_, rfl⟩
      rw [hm] at e0 h3 hin
      have z0 : ((i + n : Nat) : Int) - (n : Int) = (i : Int) := by omega
      have z1 : (i : Int) ≤ ((i + n : Nat) : Int) := by omega
      have z2 : ((i + n : Nat) : Int) ≤ (c : Int) := by omega
      have z3 : (((i + n : Nat) : Int) - (i : Int)) = (n : Int) := by omega
      have b0 : i ≤ 9223372036854775807 := by omega
      have b1 : i + n ≤ 9223372036854775807 := by omega
      have w0 : IntKind.i64.wrap (i : Int) = (i : Int) := IntWalk.i64_in _ (by omega)
      have LA : Hid (Lies w2 (q.map (·.add i)) (s.got n)) := show Lies _ _ _ by
        rw [HGT.out]
        exact (liesIn_take (liesIn_drop L2.out i) n).lies
      have LL : Hid ((s.got n).length = n) := show _ = _ by rw [HGT.out, List.length_take, List.length_drop, hm]; omega
      have LZ : Hid (c = i → n = 0) := show _ → _ from fun h => by omega
      go_still_tail 14, (by kernel_rfl)
      change wpList _ _ _ _ _ w2.drew
      have HGL : Hid (∀ (q' : Option Addr) (c' : Nat), Lies w2 q' (s.got n) → Calls Try.prog 40 #[.slice q' n c'] w2.drew fun e w' => ∃ v, e = .returned v ∧ Own w.heap.size w' (s.got n) v ∧ MdAt D w' g (s.next n) ∧ Stays (fun x => x = g) w w') := show ∀ _ _, _ → _ from fun q' c' hq' =>
        (copy_bigL (s.got n) n q' c' w2.drew LL.out hsm (hq'.below (Below.drew0 w2))).mono fun e w' ⟨v, he, ho, hb⟩ => ⟨v, he, ho.lower S2.out.size, by rw [HNX.out]; exact (M2.out.below (Below.drew0 w2)).below hb, (S2.out.trans (Below.stays (Below.drew0 w2)) (F := fun x => x = g) (G := fun _ => False) (fun _ h => h.elim)).trans (Below.stays hb) (F := fun x => x = g) (G := fun _ => False) (fun _ h => h.elim)⟩
      have HGN : Hid (n = 0 → s.got n = []) := show _ → _ from fun h => List.length_eq_zero_iff.1 (LL.out.trans h)
      clear HGT
      go_wp2_with fail
      · have hz : n = 0 := by omega
        refine (HGL.out q 0 (Or.inl (HGN.out hz))).mono ?_
        rintro e w3 ⟨v, rfl, ho, hm, hst⟩
        have HO := Lib.hid ho; have HM := Lib.hid hm; have HS := Lib.hid hst; clear ho hm hst
        go_wp2_with fail
        go_ret
        exact ⟨_, rfl, HO.out, HM.out, HS.out⟩
      · refine (HGL.out _ _ LA.out).mono ?_
        rintro e w3 ⟨v, rfl, ho, hm, hst⟩
        have HO := Lib.hid ho; have HM := Lib.hid hm; have HS := Lib.hid hst; clear ho hm hst
        go_wp2_with fail
        go_ret
        exact ⟨_, rfl, HO.out, HM.out, HS.out⟩
  · have h9 := HNB.out hn
    have HGT : Hid (s.got n = []) := h9.2
    have HNX : Hid (s.next n = s) := h9.1
    have q1 : ¬ (s.e : Int) = 0 := by omega
    clear h9 h7 c0 c1
    go_enter Try.func106, Try.ntmps106
    go_wp2_with fail
    go_ret
    exact ⟨_, rfl, by rw [HGT.out]; exact Own.nil _ _, by rw [HNX.out]; exact H.out, Stays.refl _ _⟩
end Go.Proofs.Ytadlpidhemjkgaa

/-
  The document's reader of layer 7: Int, Sum, Count, Blob, Text.
-/
namespace Go.Proofs.Ytadlpidhemjkgaa
open Go.RowKit Go.Proofs.ShaWords
theorem wrap_n8 (x : BitVec 8) : IntKind.u64.wrap (n8 x) = n8 x := by
  unfold n8
  rw [IntKind.wrap_u64]
  have := x.isLt
  omega
theorem RS.next_short {s : RS} (h : s.Short) (n : Nat) : (s.next n).Short := by
  unfold RS.Short RS.next RS.fail at *
  split <;> simp <;> omega
theorem RS.countS_short {s : RS} (h : s.Short) (most : Int) : (s.countS most).Short := by
  unfold RS.countS
  split
  · unfold RS.Short RS.fail; simp
  · exact RS.next_short h 8
theorem RS.blobS_short {s : RS} (h : s.Short) (most : Int) : (s.blobS most).Short := RS.next_short (RS.countS_short h most) _
theorem RS.countS_of {s : RS} (h : s.Ok) (most : Int) : s.countS most = if (s.next 8).e = 0 ∧ s.over most = true then ⟨[], 3⟩ else s.next 8 := by
  unfold RS.countS
  by_cases ho : s.over most = true
  · rw [if_pos ho]
    by_cases he : (s.next 8).e = 0
    · rw [if_pos ⟨he, ho⟩]; unfold RS.fail; rw [if_pos he]
    · rw [if_neg (fun h => he h.1)]
      have hb := RS.next_ok h 8 he
      generalize s.next 8 = t at *
      obtain ⟨bs, e⟩ := t
      simp only at hb he
      subst hb
      unfold RS.fail
      simp [he]
  · rw [if_neg ho, if_neg (fun h => ho h.2)]
theorem RS.countV_of {s : RS} (h : s.Ok) (most : Int) : (s.countV most : Int) = if (s.countS most).e = 0 then s.intV else 0 := by
  have hc := RS.countS_of h most
  by_cases ho : s.over most = true
  · have hv : s.countV most = 0 := if_pos ho
    by_cases he : (s.next 8).e = 0
    · rw [if_pos ⟨he, ho⟩] at hc
      rw [hv, hc]; rfl
    · rw [if_neg (fun h => he h.1)] at hc
      rw [hv, hc, if_neg he]; rfl
  · have hv : s.countV most = s.intV.toNat := if_neg ho
    rw [if_neg (fun h => ho h.2)] at hc
    have h0 : 0 ≤ s.intV := by
      unfold RS.over at ho
      simp at ho
      omega
    rw [hv, hc]
    by_cases he : (s.next 8).e = 0
    · rw [if_pos he]; omega
    · rw [if_neg he]
      have hg : s.got 8 = [] := by
        unfold RS.got
        unfold RS.next at he
        split at he
        · rename_i hl; rw [if_pos hl]
        · rename_i hl; have := h he; rw [this] at hl; simp at hl
      unfold RS.intV
      rw [hg, int8_nil]
      rfl
set_option maxHeartbeats 1000000 in
theorem intRR_any (D : Nat → Prop) (g : Nat) (s : RS) (w : World) (h : MdAt D w g s) (hs : s.Short) :
    Calls Try.prog 95 #[.pointer (some ⟨g, 0, none⟩)] w fun e w' => e = .returned (.int .i64 s.intV) ∧ MdAt D w' g (s.next 8) ∧ Stays (fun x => x = g) w w' := by
  have HN := Lib.hid (nextR_any D g s 8 w h hs)
  clear h
  have H8 : Hid ((s.got 8).length ≤ 8) := show _ ≤ _ from RS.got_length
  unfold RS.intV int8
  generalize s.got 8 = bs at *
  generalize s.next 8 = s' at *
  go_enter Try.func95, Try.ntmps95
  go_wp2_with (go_at_call 106; refine HN.out.mono ?_; rintro e w' ⟨v, rfl, ho, hr, hs⟩; have hl := ho.lies; obtain ⟨q, c, rfl, -, -, h3⟩ := hl; have HL := Lib.hid h3; have HR := Lib.hid hr; have HS := Lib.hid hs; clear h3 hr hs ho)
  rename World => w1
  have hle := H8.out
  obtain ⟨n, hn⟩ : ∃ n, bs.length = n := ⟨_, rfl⟩
  rw [hn] at hle
  rw [hn]
  go_loopw [4, 5] (fun v i wr => ∃ k : Nat, k ≤ n ∧ v = .int .u64 (num8 (bs.take k) : Int) ∧ i = .int .i64 (k : Int) ∧ wr = w1) (fun _ i _ => n - (intOf i).toNat)
  case atStart => exact ⟨0, by omega, rfl, rfl, rfl⟩
  case round =>
    obtain ⟨k, hk, rfl, rfl, rfl⟩ := hrel
    by_cases hlt : k < n
    · have hkb : k < bs.length := by omega
      rcases HL.out with h0 | ⟨b, off, rfl, hr⟩
      · exfalso; rw [h0] at hkb; simp at hkb
      · have hv : (bytesV bs)[k]? = some (.int .u8 (n8 bs[k])) := by simp [bytesV, hkb]
        have hc := hr k _ hv
        clear hv
        have HTK := Lib.hid (List.take_succ_eq_append_getElem hkb)
        have htl : (bs.take k).length = k := by rw [List.length_take]; omega
        generalize bs[k] = x at hc HTK
        have m1 := mul_add8 (num8 (bs.take k)) x (num_bound k (bs.take k) htl (by omega))
        rw [← num8_snoc, ← HTK.out] at m1
        have m3 := wrap_n8 x
        have q0 : (k : Int) < (n : Int) := by omega
        generalize num8 (bs.take k) = U at *
        go_wp2_with fail
        go_roundw
        case rel => exact ⟨k + 1, by omega, rfl, by go_num, trivial⟩
        case measure => simp [intOf]; omega
    · have q0 : ¬ (k : Int) < (n : Int) := by omega
      have HTK : Hid (bs.take k = bs) := show _ = _ from List.take_of_length_le (by omega)
      go_wp2_with fail
      go_ret
      refine ⟨?_, HR.out, HS.out⟩
      rw [HTK.out]
      exact congrArg (fun z => Ending.returned (.int .i64 z)) (wrapEq7 _)
set_option maxHeartbeats 1000000 in
theorem countRR_any (D : Nat → Prop) (g : Nat) (s : RS) (most : Int) (w : World) (h : MdAt D w g s) (hs : s.Short) :
    Calls Try.prog 97 #[.pointer (some ⟨g, 0, none⟩), .int .i64 most] w fun e w' => e = .returned (.int .i64 (s.countV most : Int)) ∧ MdAt D w' g (s.countS most) ∧ Stays (fun x => x = g) w w' := by
  have HI := Lib.hid (intRR_any D g s w h hs)
  have hok := h.ok
  have HV := Lib.hid (RS.countV_of hok most)
  have HS := Lib.hid (RS.countS_of hok most)
  clear h hok
  have HOV : Hid (s.over most = (decide (s.intV < 0) || decide (most < s.intV))) := show _ = _ from rfl
  generalize hz : s.intV = z at *
  generalize hs' : s.next 8 = s' at *
  go_enter Try.func97, Try.ntmps97
  go_upto_region 2 with (go_at_call 95; refine HI.out.mono ?_; rintro e w1 ⟨rfl, hr, hst⟩; have HR := Lib.hid hr; have HST := Lib.hid hst; clear hr hst)
  rename World => w1
  obtain ⟨q, c, B, i, hg, c0, c1, c2, hf, h3, h4, h5, h6, h7⟩ := HR.out.cells
  have hf2 := hf 2
  have HG := Lib.hid hg
  have H5 := Lib.hid h5
  clear hg hf h5 c0 c1 h7
  by_cases he : s'.e = 0
  · have q1 : (s'.e : Int) = 0 := by omega
    by_cases ho : z < 0 ∨ most < z
    · have HT : Hid (s.countS most = ⟨[], 3⟩) := show _ = _ by rw [HS.out, if_pos ⟨he, by rw [HOV.out]; simpa using ho⟩]
      have HZ : Hid ((s.countV most : Int) = 0) := show _ = _ by rw [HV.out, HT.out]; rfl
      have HSE : Hid (MdAt D (w1.setCell ⟨g, 2, none⟩ (.int .i64 3)) g ⟨[], 3⟩ ∧ Stays (fun x => x = g) w (w1.setCell ⟨g, 2, none⟩ (.int .i64 3))) := show _ ∧ _ from ⟨HR.out.setE HG.out h3 h4 H5.out h6 3 (by decide), HST.out.trans (set_stays w1 g 2 _) (fun _ e _ => e)⟩
      rcases ho with h1 | h1
      · go_wp2_with fail
        go_ret
        exact ⟨by rw [HZ.out]; rfl, by rw [HT.out]; exact HSE.out.1, HSE.out.2⟩
      · have q2 : z > most := h1
        by_cases h0 : z < 0
        · go_wp2_with fail
          go_ret
          exact ⟨by rw [HZ.out]; rfl, by rw [HT.out]; exact HSE.out.1, HSE.out.2⟩
        · go_wp2_with fail
          go_ret
          exact ⟨by rw [HZ.out]; rfl, by rw [HT.out]; exact HSE.out.1, HSE.out.2⟩
    · have h0 : ¬ z < 0 := fun h => ho (.inl h)
      have q2 : ¬ z > most := fun h => ho (.inr h)
      have HT : Hid (s.countS most = s') := show _ = _ by rw [HS.out, if_neg (fun h => by rw [HOV.out] at h; exact ho (by simpa using h.2))]
      have HZ : Hid ((s.countV most : Int) = z) := show _ = _ by rw [HV.out, HT.out, if_pos he]
      go_wp2_with fail
      go_ret
      exact ⟨by rw [HZ.out]; rfl, by rw [HT.out]; exact HR.out, HST.out⟩
  · have q1 : ¬ (s'.e : Int) = 0 := by omega
    have HT : Hid (s.countS most = s') := show _ = _ by rw [HS.out, if_neg (fun h => he h.1)]
    have HZ : Hid ((s.countV most : Int) = 0) := show _ = _ by rw [HV.out, HT.out, if_neg he]
    go_wp2_with fail
    go_ret
    exact ⟨by rw [HZ.out]; rfl, by rw [HT.out]; exact HR.out, HST.out⟩
theorem blobRR_any (D : Nat → Prop) (g : Nat) (s : RS) (most : Int) (w : World) (h : MdAt D w g s) (hs : s.Short) :
    Calls Try.prog 98 #[.pointer (some ⟨g, 0, none⟩), .int .i64 most] w fun e w' => ∃ v, e = .returned v ∧ Own w.heap.size w' (s.blobV most) v ∧ MdAt D w' g (s.blobS most) ∧ Stays (fun x => x = g) w w' := by
  have HC := Lib.hid (countRR_any D g s most w h hs)
  have HSH := Lib.hid (RS.countS_short hs most)
  clear h hs
  unfold RS.blobV RS.blobS
  generalize s.countV most = n at *
  generalize s.countS most = s1 at *
  go_enter Try.func98, Try.ntmps98
  go_wp2_with (first
    | (go_at_call 97; refine HC.out.mono ?_; rintro e w1 ⟨rfl, hr, hs⟩; have HR := Lib.hid hr; have HS := Lib.hid hs; clear hr hs)
    | (go_at_call 106; refine (nextR_any D g s1 n _ HR.out HSH.out).mono ?_; rintro e w2 ⟨v, rfl, ho, hr, hs⟩; have HO := Lib.hid (ho.lower HS.out.size); have HR2 := Lib.hid hr; have HS2 := Lib.hid (HS.out.trans hs (fun _ e _ => e)); clear hr hs ho))
  go_ret
  exact ⟨_, rfl, HO.out, HR2.out, HS2.out⟩
theorem textRR_any (D : Nat → Prop) (g : Nat) (s : RS) (most : Int) (w : World) (h : MdAt D w g s) (hs : s.Short) :
    Calls Try.prog 99 #[.pointer (some ⟨g, 0, none⟩), .int .i64 most] w fun e w' => e = .returned (.string (strB (s.blobV most))) ∧ MdAt D w' g (s.blobS most) ∧ Stays (fun x => x = g) w w' := by
  have HC := Lib.hid (blobRR_any D g s most w h hs)
  clear h hs
  generalize s.blobV most = l at *
  generalize s.blobS most = s1 at *
  go_enter Try.func99, Try.ntmps99
  generalize hS : strB l = S
  have HSS := Lib.hid hS; clear hS
  go_wp2_with (go_at_call 98; refine HC.out.mono ?_; rintro e w1 ⟨v, rfl, ho, hr, hs⟩; have hl := ho.lies; obtain ⟨q, c, rfl, -, -, h3⟩ := hl; have hcv := run_strB h3 _ c rfl; rw [HSS.out] at hcv; have HR := Lib.hid hr; have HS := Lib.hid hs; clear hr hs ho h3)
  go_ret
  exact ⟨rfl, HR.out, HS.out⟩
end Go.Proofs.Ytadlpidhemjkgaa

/-
  The document's reader of layer 7: Sum.
-/
namespace Go.Proofs.Ytadlpidhemjkgaa
open Go.RowKit Go.Proofs.ShaWords
theorem sumV_got (s : RS) : s.got 32 ++ noughts (32 - (s.got 32).length) = s.sumV := by
  unfold RS.got RS.sumV
  by_cases h : s.bs.length < 32
  · rw [if_pos h, if_pos h]; rfl
  · rw [if_neg h, if_neg h]
    have hl : (s.bs.take 32).length = 32 := by rw [List.length_take]; omega
    rw [hl]
    simp [noughts]
theorem take_set (l : List (BitVec 8)) (j : Nat) (h : j < l.length) (hl : l.length ≤ 32) : (l.take j ++ noughts (32 - j)).set j l[j] = l.take (j + 1) ++ noughts (32 - (j + 1)) := by
  have hj : (l.take j).length = j := by rw [List.length_take]; omega
  rw [List.set_append_right _ _ (by omega), hj, Nat.sub_self, List.take_succ_eq_append_getElem h, List.append_assoc]
  obtain ⟨i, hi⟩ : ∃ i, 32 - j = i + 1 := ⟨32 - j - 1, by omega⟩
  rw [hi, show 32 - (j + 1) = i by omega]
  rfl
set_option maxRecDepth 100000 in
set_option maxHeartbeats 1000000 in
theorem sumRR_any (D : Nat → Prop) (g : Nat) (s : RS) (w : World) (h : MdAt D w g s) (hs : s.Short) :
    Calls Try.prog 96 #[.pointer (some ⟨g, 0, none⟩)] w fun e w' => e = .returned (.agg (bytesV s.sumV).toArray) ∧ MdAt D w' g (s.next 32) ∧ Stays (fun x => x = g) w w' := by
  have hglt := h.lt
  have HD := Lib.hid h.dom
  have HST : Hid (BytesAt (w.alloc (.cells (bytesV (noughts 32)).toArray 26)) w.heap.size 26 (noughts 32) ∧ Below w.heap.size w (w.alloc (.cells (bytesV (noughts 32)).toArray 26))) := show _ ∧ _ from
    ⟨heap_new_at rfl, (Below.refl _ _).alloc (Nat.le_refl _) _⟩
  have HSV := Lib.hid (sumV_got s)
  have HSL := Lib.hid (sumV_length s)
  have HSO := Lib.hid (bytesV_one s.sumV)
  have HGL : Hid ((s.got 32).length ≤ 32) := show _ ≤ _ from RS.got_length
  have HN := fun w1 (hb : Below w.heap.size w w1) => nextR_any D g s 32 w1 (h.below hb) hs
  have HNH := Lib.hid HN
  clear HN h hs
  generalize s.got 32 = bs at *
  generalize s.next 32 = s' at *
  go_enter Try.func96, Try.ntmps96
  go_upto_region 1 with (fail)
  refine wp_gen (fun w1 => BytesAt w1 w.heap.size 26 (noughts 32) ∧ Below w.heap.size w w1) HST.out ?_
  clear HST
  rintro w1 ⟨ha1, hb1⟩
  have HA1 := Lib.hid ha1; have HB1 := Lib.hid hb1
  have hr1 := ha1.size
  clear ha1 hb1
  go_upto_region 2 with (go_at_call 106; refine (HNH.out w1 HB1.out).mono ?_; rintro e w2 ⟨v, rfl, ho, hm, hst⟩; obtain ⟨q, c, rfl, -, -, h3⟩ := ho.lies; have HL := Lib.hid h3; have HM := Lib.hid hm; have HA2 := Lib.hid (HA1.out.stays hst (by omega)); have HS2 := Lib.hid ((Below.stays HB1.out (F := fun _ => False)).more (G := fun x => x = g) (fun _ h => h.elim) |>.trans hst (fun _ e _ => e)); clear ho hm hst h3)
  rename World => w2
  clear HNH HA1 HB1
  have hle := HGL.out
  obtain ⟨n, hn⟩ : ∃ n, bs.length = n := ⟨_, rfl⟩
  rw [hn] at hle
  rw [hn]
  have HB0 : Hid (Below w2.heap.size w2 (w2.alloc (.cells (bytesV (noughts 32)).toArray 26)) ∧ BytesAt (w2.alloc (.cells (bytesV (noughts 32)).toArray 26)) w2.heap.size 26 (bs.take 0 ++ noughts (32 - 0))) := show _ ∧ _ from ⟨(Below.refl _ _).alloc (Nat.le_refl _) _, heap_new_at rfl⟩
  go_wp2_with fail
  go_loopw [5] (fun i wr => ∃ j : Nat, j ≤ n ∧ i = .int .i64 (j : Int) ∧ BytesAt wr w2.heap.size 26 (bs.take j ++ noughts (32 - j)) ∧ Below w2.heap.size w2 wr) (fun i _ => n - (intOf i).toNat)
  case atStart => exact ⟨0, by omega, rfl, HB0.out.2, HB0.out.1⟩
  case round =>
    clear HB0
    obtain ⟨j, hj, rfl, ho, hb⟩ := hrel
    by_cases hlt : j < n
    · have hjb : j < bs.length := by omega
      have q0 : (j : Int) < (n : Int) := by omega
      have q1 : (j : Int) < 32 := by omega
      have hll : j < (bs.take j ++ noughts (32 - j)).length := by rw [List.length_append, noughts_length, List.length_take]; omega
      have hc := cell_bytesV ho hll
      have hf := frozen_of_row _ _ j _ _ ho
      rcases HL.out with h0 | ⟨b, off, rfl, hr⟩
      · exfalso; rw [h0] at hjb; simp at hjb
      · have hv : (bytesV bs)[j]? = some (.int .u8 (n8 bs[j])) := by simp [bytesV, hjb]
        have hbl := World.block_lt_of_cell? w2 _ (hr j _ hv)
        have hc2 := (hb.cell (p := ⟨b, off + j, none⟩) hbl).trans (hr j _ hv)
        have h9 := setCell_bytes (k := j) ho bs[j]
        rw [take_set bs j hjb (by omega)] at h9
        have HO := Lib.hid h9
        have HB := Lib.hid (hb.grown (grown_setCell wr w2.heap.size j (.int .u8 (n8 bs[j]))) hb.size (fun k e => by cases e; exact Nat.le_refl _))
        clear hv hbl hr ho hb h9
        generalize bs[j] = x at *
        go_wp2_with fail
        go_roundw
        case rel => exact ⟨j + 1, by omega, by go_num, HO.out, HB.out⟩
        case measure => simp [intOf]; omega
    · obtain rfl : j = n := by omega
      have q0 : ¬ (j : Int) < (j : Int) := by omega
      have h9 : bs.take j ++ noughts (32 - j) = s.sumV := by rw [List.take_of_length_le (by omega), ← hn, HSV.out]
      rw [h9] at ho
      unfold BytesAt at ho
      have ha := HA2.out.keep hb
      have hlt2 := HA2.out.size
      unfold BytesAt at ha
      have HIN := Lib.hid (infoSum s.sumV HSL.out)
      have HOLD := Lib.hid (show (bytesV (noughts 32)).toArray.size = (bytesV s.sumV).toArray.size by rw [bytesV_size _ 32 HSL.out, bytesV_size _ 32 (noughts_length 32)])
      have HO := Lib.hid ho; have HA := Lib.hid ha; have HB := Lib.hid hb
      clear ho ha hb
      generalize hfe : (bytesV s.sumV).toArray = full at *
      have HFE := Lib.hid hfe; clear hfe
      go_wp2_with (first
        | (refine wpList_load_row rfl 26 (.tmp 4) rfl w2.heap.size rfl 26 full (0, 0) _ HO.out Try.underlying26 rfl HIN.out ?_)
        | (refine wpList_store_row rfl 26 (.tmp 2) (.tmp 20) rfl w.heap.size full rfl rfl 26 _ HA.out HIN.out HOLD.out HSO.out ?_))
      have hrow := setRow_heap wr w.heap.size _ full 26 _ HA.out
      have hst4 : Stays (fun x => x = w.heap.size) wr (wr.setRow w.heap.size full) := grown_stays (grown_setRow _ _ _) (fun _ e => (Option.some.inj e).symm)
      generalize wr.setRow w.heap.size full = wz at hrow hst4 ⊢
      have hres : ∀ tmps : Array Value, tmps.getD 2 undef = .pointer (some ⟨w.heap.size, 0, none⟩) → Sem.run Try.prog (results Try.f96 tmps) wz = .ok (.agg full) wz := fun tmps h =>
        results_cell_row (P := Try.prog) (p := 2) (ty := 26) Try.results96 tmps wz w.heap.size 26 full (0, 0) _ h hrow Try.underlying26 rfl HIN.out
      exact bodyPost_ret (v := .agg full) (hres _ rfl) rfl ⟨by rw [HFE.out], (HM.out.below HB.out).past hst4 (by omega) (fun d => by have := HD.out _ d; omega), ((HS2.out.trans (Below.stays HB.out (F := fun _ => False)) (fun _ h => h.elim)).trans hst4 (fun k e hk => by omega))⟩
end Go.Proofs.Ytadlpidhemjkgaa

/-
  The statements' example: two bytes are laid with their length, and read; one more is left.
-/
namespace Go.Proofs.Ytadlpidhemjkgaa
open Go.RowKit Go.Proofs.ShaWords
/-- A slice of the call's own, with its length by name. -/
theorem Own.sl {B N : Nat} {w : World} {l : List (BitVec 8)} {v : Value} (h : Own B w l v) (hN : l.length = N) : ∃ q c, v = .slice q N c ∧ N ≤ c ∧ c ≤ maxLen ∧ Lies w q l := by
  subst hN
  obtain ⟨q, c, h1, h2, h3, h4⟩ := h.lies
  exact ⟨q, c, h1, h2, h3, h4⟩
def pkLaid : List (BitVec 8) := [0#8, 0#8, 0#8, 0#8, 0#8, 0#8, 0#8, 2#8, 5#8, 6#8]
theorem pkLaid_eq : ([] : List (BitVec 8)) ++ be8 ((2 : Nat) : Int) ++ [5#8, 6#8] = pkLaid := by decide +kernel
theorem pkBlobV : (⟨pkLaid ++ [9#8], 0⟩ : RS).blobV 2 = [5#8, 6#8] := by decide +kernel
theorem pkBlobS_bs : ((⟨pkLaid ++ [9#8], 0⟩ : RS).blobS 2).bs = [9#8] := by decide +kernel
theorem pkBlobS_e : ((⟨pkLaid ++ [9#8], 0⟩ : RS).blobS 2).e = 0 := by decide +kernel
attribute [local irreducible] pkLaid
set_option maxRecDepth 100000 in
set_option maxHeartbeats 1000000 in
theorem works7_any (w : World) : Calls Try.prog 21 #[] w fun e w' => e = .returned (.bool true) ∧ Below w.heap.size w w' := by
  have hB0 : Below w.heap.size w (w.alloc (.cells #[.int .u8 5, .int .u8 6] 5)) := (Below.refl _ _).alloc (Nat.le_refl _) _
  have hP := blobP_any [] [5#8, 6#8] 0 2 none (some ⟨w.heap.size, 0, none⟩) 0 2 (w.alloc (.cells #[.int .u8 5, .int .u8 6] 5)) rfl rfl (by omega) (Or.inl rfl) (lies_new rfl)
  rw [pkLaid_eq] at hP
  have HP := Lib.hid hP; clear hP
  have HB0 := Lib.hid hB0; clear hB0
  have HLL : Hid (pkLaid.length = 10) := show _ = _ by unfold pkLaid; rfl
  go_enter Try.func21, Try.ntmps21
  go_upto_region 2 with (go_at_call 43; refine HP.out.mono ?_; rintro e w1 ⟨v1, rfl, ho, hb⟩; have HO1 := Lib.hid (ho.lower HB0.out.size); have HB1 := Lib.hid (HB0.out.trans (hb.mono HB0.out.size)); clear ho hb)
  rename World => w1
  rename Value => v1
  clear HP HB0
  obtain ⟨q1, c1, rfl, -, -, hl1⟩ := HO1.out.sl HLL.out
  have HL1 := Lib.hid hl1; clear hl1
  have sz1 := HB1.out.size
  have HLM : Hid ((pkLaid ++ [9#8]).length = 11) := show _ = _ by rw [List.length_append, HLL.out]; rfl
  go_upto_region 3 with (first
    | (go_at_call 40; refine (copy_bigL pkLaid 10 q1 c1 _ HLL.out (by omega) HL1.out).mono ?_; rintro e w2 ⟨v2, rfl, ho, hb⟩; have HO2 := Lib.hid ho; have HB2 := Lib.hid hb; clear ho hb)
    | (at_builtin; refine wpList_append_byte_big rfl (.tmp 7) (.tmp 8) rfl w1.heap.size _ pkLaid 9#8 rfl HO2.out rfl (by rw [HLL.out]; omega) HB2.out.size ?_; intro v3 w3 ho hb; have HO3 := Lib.hid ho; have HB3 := Lib.hid (HB2.out.trans hb); clear ho hb; have hl3 := HO3.out.sl HLM.out; obtain ⟨q3, c3, rfl, -, -, hl3⟩ := hl3; have HL3 := Lib.hid hl3; clear hl3)
    | (go_at_call 16; refine (read_any (pkLaid ++ [9#8]) 11 q3 c3 _ HLM.out (by omega) HL3.out).mono ?_; rintro e w4 ⟨g, rfl, hg, hr, hb⟩; have HR4 := Lib.hid hr; have HB4 := Lib.hid (HB3.out.trans (hb.mono HB3.out.size)); have hg4 := Nat.le_trans HB3.out.size hg; clear hr hb hg))
  rename World => w4
  rename Nat => g
  clear HO2 HB2 HO3 HB3 HL3
  have h5 := blob_any _ g _ 2 w4 HR4.out (show _ < _ by rw [HLM.out]; omega)
  rw [pkBlobV] at h5
  have e1 := pkBlobS_bs
  have e2 := pkBlobS_e
  generalize RS.blobS ⟨pkLaid ++ [9#8], 0⟩ 2 = s5 at *
  have HP5 := Lib.hid h5; clear h5
  go_upto_region 4 with (go_at_call 52; refine HP5.out.mono ?_; rintro e w5 ⟨v5, rfl, ho, hr, hst⟩; have ho2 := ho.sl rfl; obtain ⟨q5, c5, rfl, -, -, hl⟩ := ho2; have HL5 := Lib.hid hl; have HR5 := Lib.hid hr; have HB5 := Lib.hid (HB4.out.trans (Stays.below hst (B := w1.heap.size) (fun k e => by omega) HB4.out.size)); clear hl hr hst ho)
  rename World => w5
  clear HP5 HR4 HB4
  have HLF : Hid (∀ (w' : World) (D : Nat → Prop), RdAt D w' g s5 → Calls Try.prog 54 #[.pointer (some ⟨g, 0, none⟩)] w' fun e w'' => e = .returned (.int .i64 1) ∧ w' = w'') := show ∀ _ _, _ from fun w' D h => by
    have h1 := left_any D g s5 w' h
    rw [e1] at h1
    exact h1
  have HBD : Hid (∀ (w' : World) (D : Nat → Prop), RdAt D w' g s5 → Calls Try.prog 59 #[.pointer (some ⟨g, 0, none⟩)] w' fun e w'' => e = .returned (.bool false) ∧ w' = w'') := show ∀ _ _, _ from fun w' D h => by
    have h1 := bad_any D g s5 w' h
    rw [e2] at h1
    exact h1
  have HEN : Hid (∀ (w' : World) (D : Nat → Prop), RdAt D w' g s5 → Calls Try.prog 17 #[.pointer (some ⟨g, 0, none⟩)] w' fun e w'' => e = .returned (.int .i64 5) ∧ w' = w'') := show ∀ _ _, _ from fun w' D h => by
    have h1 := end_any D g s5 w' h
    unfold RS.endV at h1
    rw [e1, e2] at h1
    exact h1
  clear e1 e2
  have HA1 : Hid (∀ w' : World, Below w'.heap.size w' (w'.alloc (.cells #[.int .u8 5, .int .u8 6] 5))) := show ∀ _, _ from fun w' => (Below.refl _ _).alloc (Nat.le_refl _) _
  have HA2 : Hid (Below w5.heap.size w5 (w5.alloc (.cells (bytesV pkLaid).toArray 5))) := show Below _ _ _ from (Below.refl _ _).alloc (Nat.le_refl _) _
  have hs1 := same_any pkLaid 10 q1 (some ⟨w5.heap.size, 0, none⟩) c1 10 (w5.alloc (.cells (bytesV pkLaid).toArray 5)) HLL.out (by omega) ((HL1.out.below HB5.out).below HA2.out) (lies_new rfl)
  have HS1 : Hid (Calls Try.prog 19 #[.slice q1 10 c1, .slice (some ⟨w5.heap.size, 0, none⟩) 10 10] (w5.alloc (.cells (bytesV pkLaid).toArray 5)) fun e w6 => e = .returned (.bool true) ∧ RdAt (fun k => w3.heap.size ≤ k ∧ k < g) w6 g s5 ∧ Lies w6 q5 [5#8, 6#8] ∧ Below w1.heap.size w1 w6) := show Calls _ _ _ _ _ from
    hs1.mono fun e w6 ⟨he, hb⟩ => ⟨he, (HR5.out.below HA2.out).below hb, (HL5.out.below HA2.out).below hb, (HB5.out.trans (HA2.out.mono HB5.out.size)).trans (hb.mono (Nat.le_trans HB5.out.size HA2.out.size))⟩
  have HS2 : Hid (∀ w6 : World, RdAt (fun k => w3.heap.size ≤ k ∧ k < g) w6 g s5 → Lies w6 q5 [5#8, 6#8] → Below w1.heap.size w1 w6 → Calls Try.prog 19 #[.slice q5 2 c5, .slice (some ⟨w6.heap.size, 0, none⟩) 2 2] (w6.alloc (.cells #[.int .u8 5, .int .u8 6] 5)) fun e w7 => e = .returned (.bool true) ∧ RdAt (fun k => w3.heap.size ≤ k ∧ k < g) w7 g s5 ∧ Below w1.heap.size w1 w7) := show ∀ _, _ from fun w6 h1 h2 h3 =>
    (same_any [5#8, 6#8] 2 q5 (some ⟨w6.heap.size, 0, none⟩) c5 2 (w6.alloc (.cells #[.int .u8 5, .int .u8 6] 5)) rfl (by omega) (h2.below (HA1.out w6)) (lies_new rfl)).mono fun e w7 ⟨he, hb⟩ => ⟨he, (h1.below (HA1.out w6)).below hb, (h3.trans ((HA1.out w6).mono h3.size)).trans (hb.mono (Nat.le_trans h3.size (HA1.out w6).size))⟩
  clear hs1
  have HLC : Hid ((([0, 0, 0, 0, 0, 0, 0, 2, 5, 6] : List Int).map (Value.int .u8)).toArray = (bytesV pkLaid).toArray) := show _ = _ by unfold pkLaid; rfl
  go_wp2_with (refine wpList_buildFlat rfl 23 5 10 _ rfl .u8 [0, 0, 0, 0, 0, 0, 0, 2, 5, 6] Try.underlying23 (by kernel_rfl) (by kernel_rfl) rfl (by decide) (by decide) rfl ?_; rw [HLC.out])
  refine HS1.out.mono ?_
  rintro e w6 ⟨rfl, h1, h2, h3⟩
  have HS3 := Lib.hid (HS2.out w6 h1 h2 h3); clear h1 h2 h3
  go_wp2_with fail
  refine HS3.out.mono ?_
  rintro e w7 ⟨rfl, h1, h2⟩
  have HR7 := Lib.hid h1; have HB7 := Lib.hid h2; clear h1 h2 HS1 HS2 HS3
  go_wp2_with fail
  refine (HLF.out _ _ HR7.out).mono ?_
  rintro e w8 ⟨rfl, rfl⟩
  go_wp2_with fail
  refine (HBD.out _ _ HR7.out).mono ?_
  rintro e w8 ⟨rfl, rfl⟩
  go_wp2_with fail
  refine (HEN.out _ _ HR7.out).mono ?_
  rintro e w8 ⟨rfl, rfl⟩
  go_wp2_with fail
  go_ret
  exact ⟨rfl, HB1.out.trans (HB7.out.mono sz1)⟩
end Go.Proofs.Ytadlpidhemjkgaa

/-
  What comes in at layer 7, opened: digests, what is asked, things.
-/
namespace Go.Proofs.Ytadlpidhemjkgaa
open Go.ChangeShapes Go.WideShapes Go.ChangeAt Go.RowKit Go.Proofs.ShaWords Go.Deep
theorem wf64 {n : Int} (h : (Lit.int .i64 n).wf = true) : -9223372036854775808 ≤ n ∧ n < 9223372036854775808 := by
  have := bounds_i64 h
  omega
set_option maxRecDepth 100000 in
/-- A digest that came in. -/
theorem open_sum7 {H : Type} {enc : TypeId × Value → H} {W : World} {fuel : Nat} {cs : List Value} {x : DataW H × List MemPlace}
    (h : DataW.trod enc Try.prog W 0 (fun _ => true) true fuel 26 cs = some x) : ∃ bs : List (BitVec 8), bs.length = 32 ∧ cs = bytesV bs := by
  obtain ⟨xs, m, rfl, rfl, hl, hxl, hf⟩ := DataW.trod_array Try.underlying26 h
  have hc5 : Try.prog.cellsOf 5 = 1 := by kernel_rfl
  have hcs : Try.prog.cellsOf 26 = 32 := by kernel_rfl
  rw [hcs] at hl
  have each : ∀ i, i < 32 → ∃ z : Int, cs[i]? = some (.int .u8 z) ∧ (Lit.int .u8 z).wf = true := fun i hi => by
    have h1 := hf i hi
    obtain ⟨b, hb⟩ : ∃ b, xs[i]? = some b := ⟨xs[i]'(by omega), List.getElem?_eq_getElem (by omega)⟩
    rw [hc5, Nat.mul_one, hb] at h1
    obtain ⟨z, hz, _, hw⟩ := DataW.trod_int Try.underlying5 h1
    refine ⟨z, ?_, hw⟩
    have := congrArg (·[0]?) hz
    simpa [List.getElem?_take, List.getElem?_drop] using this
  obtain ⟨Z, hZ⟩ := choose_lt (α := Int) each
  refine ⟨(List.range 32).map fun i => BitVec.ofInt 8 (Z i), by simp, ?_⟩
  apply List.ext_getElem?
  intro i
  by_cases hi : i < 32
  · rw [(hZ i hi).1]
    simp [bytesV, hi, n8_ofInt _ (hZ i hi).2]
  · rw [List.getElem?_eq_none (by omega), List.getElem?_eq_none (by simp [bytesV]; omega)]
set_option maxRecDepth 100000 in
theorem okWide_sum7 {W : World} {base : Nat} {v : Value} (h : Value.okWide Try.prog W .any base 26 v) : ∃ cs : Array Value, v = .agg cs := by
  simp only [Value.okWide, Try.underlying26] at h
  obtain ⟨cs, h, _⟩ := h
  exact ⟨cs, h⟩
set_option maxRecDepth 100000 in
theorem slice_shape7 {H : Type} {enc : TypeId × Value → H} {W : World} {fuel : Nat} {v : Value} {x : DataW H × List MemPlace} (h : DataW.trod enc Try.prog W 0 (fun _ => true) true fuel 23 [v] = some x) : ∃ a len cap, v = .slice a len cap := by
  rcases open_ints Try.underlying23 Try.underlying5 (by kernel_rfl) h with ⟨hcs, _⟩ | ⟨y, l, c, zs, hcs, _⟩
  · exact ⟨_, _, _, by simpa using hcs⟩
  · exact ⟨_, _, _, by simpa using hcs⟩
set_option maxRecDepth 100000 in
/-- Bytes of a field. -/
theorem open_bytes7 {H : Type} {enc : TypeId × Value → H} {W : World} {fuel : Nat} {v : Value} {x : DataW H × List MemPlace} (h : DataW.trod enc Try.prog W 0 (fun _ => true) true fuel 23 [v] = some x) :
    ∃ (a : Option Addr) (cap : Nat) (bs : List (BitVec 8)), v = .slice a bs.length cap ∧ bs.length ≤ cap ∧ Lies W a bs := by
  obtain ⟨a, len, cap, rfl⟩ := slice_shape7 h
  obtain ⟨bs, hl, h1, h2, -⟩ := open_bytes (a := a) (len := len) (cap := cap) h
  exact ⟨a, cap, bs, by rw [hl], by omega, h2⟩
/-- One thing that is asked. -/
structure AskM where
  kind : Int
  most : Int
instance : Inhabited AskM := ⟨⟨0, 0⟩⟩
def AskM.cells (o : AskM) : List Value := [.int .i64 o.kind, .int .i64 o.most]
structure AskM.Ok (_W : World) (o : AskM) : Prop where
  kindw : (Lit.int .i64 o.kind).wf = true
  mostw : (Lit.int .i64 o.most).wf = true
set_option maxRecDepth 100000 in
theorem open_ask {H : Type} {enc : TypeId × Value → H} {W : World} {fuel : Nat} {cs : List Value} {x : DataW H × List MemPlace} (h : DataW.trod enc Try.prog W 0 (fun _ => true) true fuel 34 cs = some x) :
    ∃ o : AskM, cs = o.cells ∧ o.Ok W := by
  obtain ⟨xs, n, _, rfl, hl, hlen, hf⟩ := DataW.trod_struct Try.underlying34 h
  have c2 : Try.prog.cellsOf 34 = 2 := by kernel_rfl
  rw [c2] at hl
  obtain ⟨v0, v1, rfl⟩ : ∃ v0 v1, cs = [v0, v1] := by
    match cs, hl with
    | [a, b], _ => exact ⟨a, b, rfl⟩
  obtain ⟨y0, y1, rfl⟩ : ∃ y0 y1, xs = [y0, y1] := by
    match xs, hlen with
    | [a, b], _ => exact ⟨a, b, rfl⟩
  have h0 := hf 0 _ rfl
  have h1 := hf 1 _ rfl
  obtain ⟨z0, e0, -, w0⟩ := DataW.trod_int Try.underlying3 h0
  obtain ⟨z1, e1, -, w1⟩ := DataW.trod_int Try.underlying3 h1
  cases e0; cases e1
  exact ⟨⟨z0, z1⟩, rfl, ⟨w0, w1⟩⟩
set_option maxRecDepth 100000 in
/-- What is asked, as it came in. -/
theorem open_asks {H : Type} {enc : TypeId × Value → H} {W : World} {fuel : Nat} {a : Option Addr} {len cap : Nat} {x : DataW H × List MemPlace}
    (h : DataW.trod enc Try.prog W 0 (fun _ => true) true fuel 35 (Value.cells (.slice a len cap)).toList = some x) :
    ∃ os : List AskM, os.length = len ∧ len ≤ cap ∧ (os = [] ∨ ∃ b off, a = some ⟨b, off, none⟩ ∧ ∀ k (h : k < os.length), W.rangeAt b (off + k * 2) os[k].cells) ∧ ∀ o ∈ os, o.Ok W := by
  have c2 : Try.prog.cellsOf 34 = 2 := by kernel_rfl
  rcases open_slice Try.underlying35 h with ⟨hcs, _⟩ | ⟨y, l, c, m, n, D, Pl, hcs, _, hl, hm, hmm, _, hx⟩
  · simp [Value.cells] at hcs
    obtain ⟨rfl, rfl, rfl⟩ := hcs
    exact ⟨[], rfl, Nat.le_refl _, .inl rfl, by simp⟩
  · simp [Value.cells] at hcs
    obtain ⟨rfl, rfl, rfl⟩ := hcs
    simp only [if_true] at hmm
    rw [c2] at hx
    obtain ⟨O, hO⟩ := choose_lt (α := AskM) (n := len) (p := fun i o => W.cells? 0 (y.add (i * 2)) 2 = some o.cells ∧ o.Ok W) (fun i hi => by
      obtain ⟨cs', h1, h2⟩ := hx i (by omega)
      obtain ⟨o, rfl, ho⟩ := open_ask h2
      exact ⟨o, h1, ho⟩)
    refine ⟨(List.range len).map O, by simp, hl, ?_, fun o ho => ?_⟩
    · by_cases h0 : len = 0
      · left; subst h0; rfl
      · right
        obtain ⟨b, off, hb⟩ : ∃ b off, y = ⟨b, off, none⟩ := by
          obtain ⟨_, hlen2, hc2⟩ := World.cells?_some (hO 0 (by omega)).1
          have h1 := hc2 0 (by omega)
          obtain ⟨b, off, s⟩ := y
          have h2 : W.cell? (⟨b, off, s⟩ : Addr) = some (.int .i64 (O 0).kind) := by simpa [Addr.add, AskM.cells] using h1
          have hspot : s = none := World.cell?_spot h2
          exact ⟨b, off, by rw [hspot]⟩
        subst hb
        refine ⟨b, off, rfl, fun k hk j v hv => ?_⟩
        simp at hk
        obtain ⟨_, hlen2, hc2⟩ := World.cells?_some (hO k hk).1
        have hv' : (O k).cells[j]? = some v := by simpa using hv
        have hj : j < 2 := by have := (List.getElem?_eq_some_iff.1 hv').1; simp [AskM.cells] at this; omega
        have h1 := hc2 j hj
        rw [Addr.add_mid, Addr.add_mid, hv'] at h1
        exact h1
    · obtain ⟨i, hi, rfl⟩ := List.mem_map.1 ho
      exact (hO i (List.mem_range.1 hi)).2
/-- One thing that is laid. -/
structure Thing7 where
  kind : Int
  n : Int
  p : Option Addr
  c : Nat
  b : List (BitVec 8)
  s : List (BitVec 8)
instance : Inhabited Thing7 := ⟨⟨0, 0, none, 0, [], []⟩⟩
def Thing7.cells (t : Thing7) : List Value := [.int .i64 t.kind, .int .i64 t.n, .slice t.p t.b.length t.c] ++ bytesV t.s
structure Thing7.Ok (W : World) (t : Thing7) : Prop where
  kindw : (Lit.int .i64 t.kind).wf = true
  nw : (Lit.int .i64 t.n).wf = true
  lies : Lies W t.p t.b
  cap : t.b.length ≤ t.c
  sum : t.s.length = 32
theorem Thing7.cells_length {t : Thing7} (h : t.s.length = 32) : t.cells.length = 35 := by simp [Thing7.cells, bytesV_length, h]
set_option maxRecDepth 100000 in
theorem open_thing7 {H : Type} {enc : TypeId × Value → H} {W : World} {fuel : Nat} {cs : List Value} {x : DataW H × List MemPlace} (h : DataW.trod enc Try.prog W 0 (fun _ => true) true fuel 28 cs = some x) :
    ∃ t : Thing7, cs = t.cells ∧ t.Ok W := by
  obtain ⟨xs, n, _, rfl, hl, hlen, hf⟩ := DataW.trod_struct Try.underlying28 h
  have c35 : Try.prog.cellsOf 28 = 35 := by kernel_rfl
  have cs' : Try.prog.cellsOf 26 = 32 := by kernel_rfl
  have cb : Try.prog.cellsOf 23 = 1 := by kernel_rfl
  have ci : Try.prog.cellsOf 3 = 1 := by kernel_rfl
  rw [c35] at hl
  obtain ⟨y0, y1, y2, y3, rfl⟩ : ∃ y0 y1 y2 y3, xs = [y0, y1, y2, y3] := by
    match xs, hlen with
    | [a, b, c, d], _ => exact ⟨a, b, c, d, rfl⟩
  match cs, hl with
  | v0 :: v1 :: v2 :: r, hl =>
    have h0 : DataW.trod enc Try.prog W 0 (fun _ => true) true n 3 (((v0 :: v1 :: v2 :: r).drop 0).take (Try.prog.cellsOf 3)) = some y0 := hf 0 _ rfl
    have h1 : DataW.trod enc Try.prog W 0 (fun _ => true) true n 3 (((v0 :: v1 :: v2 :: r).drop 1).take (Try.prog.cellsOf 3)) = some y1 := hf 1 _ rfl
    have h2 : DataW.trod enc Try.prog W 0 (fun _ => true) true n 23 (((v0 :: v1 :: v2 :: r).drop 2).take (Try.prog.cellsOf 23)) = some y2 := hf 2 _ rfl
    have h3 : DataW.trod enc Try.prog W 0 (fun _ => true) true n 26 (((v0 :: v1 :: v2 :: r).drop 3).take (Try.prog.cellsOf 26)) = some y3 := hf 3 _ rfl
    rw [ci] at h0 h1
    rw [cb] at h2
    rw [cs'] at h3
    have hr : r.length = 32 := by simpa using hl
    have e3 : ((v0 :: v1 :: v2 :: r).drop 3).take 32 = r := by simp [List.take_of_length_le (Nat.le_of_eq hr)]
    rw [e3] at h3
    obtain ⟨z0, e0, -, w0⟩ := DataW.trod_int Try.underlying3 h0
    obtain ⟨z1, e1, -, w1⟩ := DataW.trod_int Try.underlying3 h1
    have h2' : DataW.trod enc Try.prog W 0 (fun _ => true) true n 23 [v2] = some y2 := h2
    obtain ⟨a2, c2, bs2, rfl, l2, L2⟩ := open_bytes7 h2'
    obtain ⟨sm, s1, rfl⟩ := open_sum7 h3
    simp at e0 e1
    subst e0 e1
    exact ⟨⟨z0, z1, a2, c2, bs2, sm⟩, rfl, ⟨w0, w1, L2, l2, s1⟩⟩
set_option maxRecDepth 100000 in
theorem okWide_thing7 {W : World} {base : Nat} {v : Value} (h : Value.okWide Try.prog W .any base 28 v) : ∃ cs : Array Value, v = .agg cs := by
  simp only [Value.okWide, Try.underlying28] at h
  obtain ⟨cs, h, _⟩ := h
  exact ⟨cs, h⟩
set_option maxRecDepth 100000 in
/-- The things that came in. -/
theorem open_things7 {H : Type} {enc : TypeId × Value → H} {W : World} {fuel : Nat} {a : Option Addr} {len cap : Nat} {x : DataW H × List MemPlace}
    (h : DataW.trod enc Try.prog W 0 (fun _ => true) true fuel 37 (Value.cells (.slice a len cap)).toList = some x) :
    ∃ ts : List Thing7, ts.length = len ∧ len ≤ cap ∧ (ts = [] ∨ ∃ b off, a = some ⟨b, off, none⟩ ∧ ∀ k (h : k < ts.length), W.rangeAt b (off + k * 35) ts[k].cells) ∧ ∀ t ∈ ts, t.Ok W := by
  have c35 : Try.prog.cellsOf 28 = 35 := by kernel_rfl
  rcases open_slice Try.underlying37 h with ⟨hcs, _⟩ | ⟨y, l, c, m, n, D, Pl, hcs, _, hl, hm, hmm, _, hx⟩
  · simp [Value.cells] at hcs
    obtain ⟨rfl, rfl, rfl⟩ := hcs
    exact ⟨[], rfl, Nat.le_refl _, .inl rfl, by simp⟩
  · simp [Value.cells] at hcs
    obtain ⟨rfl, rfl, rfl⟩ := hcs
    simp only [if_true] at hmm
    rw [c35] at hx
    obtain ⟨O, hO⟩ := choose_lt (α := Thing7) (n := len) (p := fun i o => W.cells? 0 (y.add (i * 35)) 35 = some o.cells ∧ o.Ok W) (fun i hi => by
      obtain ⟨cs', h1, h2⟩ := hx i (by omega)
      obtain ⟨o, rfl, ho⟩ := open_thing7 h2
      exact ⟨o, h1, ho⟩)
    refine ⟨(List.range len).map O, by simp, hl, ?_, fun o ho => ?_⟩
    · by_cases h0 : len = 0
      · left; subst h0; rfl
      · right
        obtain ⟨b, off, hb⟩ : ∃ b off, y = ⟨b, off, none⟩ := by
          obtain ⟨_, hlen7, hc7⟩ := World.cells?_some (hO 0 (by omega)).1
          have h1 := hc7 0 (by omega)
          obtain ⟨b, off, s⟩ := y
          obtain ⟨v, hv⟩ : ∃ v, (O 0).cells[0]? = some v := ⟨(O 0).cells[0]'(by omega), List.getElem?_eq_getElem (by omega)⟩
          rw [hv] at h1
          have h2 : W.cell? (⟨b, off, s⟩ : Addr) = some v := by simpa [Addr.add] using h1
          have hspot : s = none := World.cell?_spot h2
          exact ⟨b, off, by rw [hspot]⟩
        subst hb
        refine ⟨b, off, rfl, fun k hk j v hv => ?_⟩
        simp at hk
        obtain ⟨_, hlen7, hc7⟩ := World.cells?_some (hO k hk).1
        have hv' : (O k).cells[j]? = some v := by simpa using hv
        have hj : j < 35 := by have := (List.getElem?_eq_some_iff.1 hv').1; omega
        have h1 := hc7 j hj
        rw [Addr.add_mid, Addr.add_mid, hv'] at h1
        exact h1
    · obtain ⟨i, hi, rfl⟩ := List.mem_map.1 ho
      exact (hO i (List.mem_range.1 hi)).2
end Go.Proofs.Ytadlpidhemjkgaa
