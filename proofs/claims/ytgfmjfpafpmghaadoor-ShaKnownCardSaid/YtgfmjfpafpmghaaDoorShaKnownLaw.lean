/-
  The walk of the law ShaKnown.
-/
import Derived.Test.YtgfmjfpafpmghaaDoorRootsOf
import Derived.Test.YtgfmjfpafpmghaaDoorKitRow
import Derived.Test.YtgfmjfpafpmghaaDoorWhole
import Derived.Test.YtgfmjfpafpmghaaDoorPiecesWalk
import Derived.Test.YtgfmjfpafpmghaaDoorRefBlock
import Derived.Test.YtgfmjfpafpmghaaDoorMet
import Derived.Test.YtgfmjfpafpmghaaDoorTree
namespace Go.Proofs.YtgfmjfpafpmghaaDoor
open Go.RowKit Go.Proofs.ShaWords
theorem sums_small (xs : List (BitVec 8)) (la : Nat) (p : Option Addr) (ca : Nat) (w : World) (hl : xs.length = la) (h : la ≤ 8192) (hL : Lies w p xs) (hk : Consts w) (hs : Starts w) :
    Calls Tryd.prog 9 #[.slice p la ca] w fun e w' => e = .returned (.bool true) ∧ Below w.heap.size w w' := by
  subst hl
  exact sums_main xs p ca w h hL hk hs
theorem run_three {ρ : Operand → Value} {o : Oper} {x y : Operand} {p q : Option Addr} {n m c d : Nat} (ho : o.op = .buildSlice 30 3 #[(0, x), (1, .const (.slice none 0 0)), (2, y)]) (h0 : ∀ u, ρ (.const u) = u) (hx : ρ x = .slice p n c) (hy : ρ y = .slice q m d) (w : World) :
    (execOp ρ o).run Tryd.prog w = .ok (.value (.slice (some ⟨w.heap.size, 0, none⟩) 3 3)) (w.alloc (.cells #[.slice p n c, .slice none 0 0, .slice q m d] 26)) := by
  obtain ⟨dst, op, ty', pos, after, guard⟩ := o
  simp only at ho
  subst ho
  have h1 := h0 (.slice none 0 0)
  go_simp
theorem three_pieces (w : World) (a b : Value) : (w.alloc (.cells #[a, .slice none 0 0, b] 26)).rangeAt w.heap.size 0 [a, .slice none 0 0, b] := fun j v hv => by
  rw [Nat.zero_add, cell_of_row _ _ j _ _ _ (heap_new_at rfl)]
  simpa using hv
theorem pieces_three (n : Nat) (p7 p57 : Option Addr) (c7 : Nat) (row : List (BitVec 8)) (w : World) (q : Option Addr) (cq : Nat) (hrow : row.length = n) (hn : n ≤ 1000) (hq : ∃ b off, q = some ⟨b, off, none⟩ ∧ w.rangeAt b off [.slice p7 (n / 3) c7, .slice none 0 0, .slice p57 (n - n / 3) (c7 - n / 3)])
    (h1 : Lies w p7 row) (h2 : Lies w p57 (row.drop (n / 3))) (hk : Consts w) (hs : Starts w) :
    Calls Tryd.prog 10 #[.slice q 3 cq] w fun e w' => e = .returned (.bool true) ∧ Below w.heap.size w w' := by
  have hn3 : n / 3 ≤ n := Nat.div_le_self n 3
  have l1 : (row.take (n / 3)).length = n / 3 := by rw [List.length_take]; omega
  have l2 : (row.drop (n / 3)).length = n - n / 3 := by rw [List.length_drop, hrow]
  have ht : Lies w p7 (row.take (n / 3)) := by
    rcases h1 with h | ⟨b, off, hp, hr⟩
    · exact Or.inl (by rw [h]; simp)
    · refine Or.inr ⟨b, off, hp, fun j v hv => hr j v ?_⟩
      rw [bytesV_take, List.getElem?_take] at hv
      split at hv
      · exact hv
      · cases hv
  obtain ⟨b, off, hqe, hqr⟩ := hq
  refine pieces_any [(p7, c7, row.take (n / 3)), (none, 0, []), (p57, c7 - n / 3, row.drop (n / 3))] 3 q cq w rfl (by omega) (Or.inr ⟨b, off, hqe, fun k h => ?_⟩) (fun k h => ?_) hk hs
  · refine hqr k _ ?_
    match k, h with
    | 0, _ => simp [pieceV, l1]
    | 1, _ => simp [pieceV]
    | 2, _ => simp [pieceV, l2]
  · match k, h with
    | 0, _ => exact ⟨ht, by show (row.take (n / 3)).length ≤ _; omega⟩
    | 1, _ => exact ⟨Or.inl rfl, by simp⟩
    | 2, _ => exact ⟨h2, by show (row.drop (n / 3)).length ≤ _; omega⟩
def st0 : St := ⟨3820012610#32, 2566659092#32, 2600203464#32, 2574235940#32, 665731556#32, 1687917388#32, 2761267483#32, 2018687061#32⟩
def st1 : St := ⟨613247585#32, 3523623096#32, 3854575251#32, 205414457#32, 2738676825#32, 1694441831#32, 4142722516#32, 433784513#32⟩
def msg56 : List (BitVec 8) := [97#8, 98#8, 99#8, 100#8, 98#8, 99#8, 100#8, 101#8, 99#8, 100#8, 101#8, 102#8, 100#8, 101#8, 102#8, 103#8, 101#8, 102#8, 103#8, 104#8, 102#8, 103#8, 104#8, 105#8, 103#8, 104#8, 105#8, 106#8, 104#8, 105#8, 106#8, 107#8, 105#8, 106#8, 107#8, 108#8, 106#8, 107#8, 108#8, 109#8, 107#8, 108#8, 109#8, 110#8, 108#8, 109#8, 110#8, 111#8, 109#8, 110#8, 111#8, 112#8, 110#8, 111#8, 112#8, 113#8]
theorem sha_empty : shaOf [] = digestOf st0 := by decide +kernel
theorem sha_56 : shaOf msg56 = digestOf st1 := by decide +kernel
theorem st0_vals : (wordsV st0.list).toArray = #[.int .u32 3820012610, .int .u32 2566659092, .int .u32 2600203464, .int .u32 2574235940, .int .u32 665731556, .int .u32 1687917388, .int .u32 2761267483, .int .u32 2018687061] := by kernel_rfl
theorem st1_vals : (wordsV st1.list).toArray = #[.int .u32 613247585, .int .u32 3523623096, .int .u32 3854575251, .int .u32 205414457, .int .u32 2738676825, .int .u32 1694441831, .int .u32 4142722516, .int .u32 433784513] := by kernel_rfl
theorem msg_vals : (bytesV msg56).toArray = #[.int .u8 97, .int .u8 98, .int .u8 99, .int .u8 100, .int .u8 98, .int .u8 99, .int .u8 100, .int .u8 101, .int .u8 99, .int .u8 100, .int .u8 101, .int .u8 102, .int .u8 100, .int .u8 101, .int .u8 102, .int .u8 103, .int .u8 101, .int .u8 102, .int .u8 103, .int .u8 104, .int .u8 102, .int .u8 103, .int .u8 104, .int .u8 105, .int .u8 103, .int .u8 104, .int .u8 105, .int .u8 106, .int .u8 104, .int .u8 105, .int .u8 106, .int .u8 107, .int .u8 105, .int .u8 106, .int .u8 107, .int .u8 108, .int .u8 106, .int .u8 107, .int .u8 108, .int .u8 109, .int .u8 107, .int .u8 108, .int .u8 109, .int .u8 110, .int .u8 108, .int .u8 109, .int .u8 110, .int .u8 111, .int .u8 109, .int .u8 110, .int .u8 111, .int .u8 112, .int .u8 110, .int .u8 111, .int .u8 112, .int .u8 113] := by kernel_rfl
theorem law_0 (w : World) : Calls Tryd.prog 12 #[.agg #[.int .u32 3820012610, .int .u32 2566659092, .int .u32 2600203464, .int .u32 2574235940, .int .u32 665731556, .int .u32 1687917388, .int .u32 2761267483, .int .u32 2018687061]] w fun e w' => e = .returned (.agg (bytesV (digestOf st0)).toArray) ∧ Below w.heap.size w w' := by
  rw [← st0_vals]; exact lawSum_any st0 w
theorem law_1 (w : World) : Calls Tryd.prog 12 #[.agg #[.int .u32 613247585, .int .u32 3523623096, .int .u32 3854575251, .int .u32 205414457, .int .u32 2738676825, .int .u32 1694441831, .int .u32 4142722516, .int .u32 433784513]] w fun e w' => e = .returned (.agg (bytesV (digestOf st1)).toArray) ∧ Below w.heap.size w w' := by
  rw [← st1_vals]; exact lawSum_any st1 w
theorem infoSum (l : List (BitVec 8)) (h : l.length = 32) : (Tryd.prog.info? 33).map (·.size) = some (bytesV l).toArray.size :=
  (show (Tryd.prog.info? 33).map (·.size) = some 32 by kernel_rfl).trans (congrArg some (bytesV_size _ 32 h).symm)
theorem putN (a : Act) (v : Value) : a.put none v = a := rfl
theorem run_56 {ρ : Operand → Value} {o : Oper} (ho : o.op = .buildSlice 26 56 #[(0, .const (.int .u8 97)), (1, .const (.int .u8 98)), (2, .const (.int .u8 99)), (3, .const (.int .u8 100)), (4, .const (.int .u8 98)), (5, .const (.int .u8 99)), (6, .const (.int .u8 100)), (7, .const (.int .u8 101)), (8, .const (.int .u8 99)), (9, .const (.int .u8 100)), (10, .const (.int .u8 101)), (11, .const (.int .u8 102)), (12, .const (.int .u8 100)), (13, .const (.int .u8 101)), (14, .const (.int .u8 102)), (15, .const (.int .u8 103)), (16, .const (.int .u8 101)), (17, .const (.int .u8 102)), (18, .const (.int .u8 103)), (19, .const (.int .u8 104)), (20, .const (.int .u8 102)), (21, .const (.int .u8 103)), (22, .const (.int .u8 104)), (23, .const (.int .u8 105)), (24, .const (.int .u8 103)), (25, .const (.int .u8 104)), (26, .const (.int .u8 105)), (27, .const (.int .u8 106)), (28, .const (.int .u8 104)), (29, .const (.int .u8 105)), (30, .const (.int .u8 106)), (31, .const (.int .u8 107)), (32, .const (.int .u8 105)), (33, .const (.int .u8 106)), (34, .const (.int .u8 107)), (35, .const (.int .u8 108)), (36, .const (.int .u8 106)), (37, .const (.int .u8 107)), (38, .const (.int .u8 108)), (39, .const (.int .u8 109)), (40, .const (.int .u8 107)), (41, .const (.int .u8 108)), (42, .const (.int .u8 109)), (43, .const (.int .u8 110)), (44, .const (.int .u8 108)), (45, .const (.int .u8 109)), (46, .const (.int .u8 110)), (47, .const (.int .u8 111)), (48, .const (.int .u8 109)), (49, .const (.int .u8 110)), (50, .const (.int .u8 111)), (51, .const (.int .u8 112)), (52, .const (.int .u8 110)), (53, .const (.int .u8 111)), (54, .const (.int .u8 112)), (55, .const (.int .u8 113))]) (h0 : ∀ u, ρ (.const u) = u) (w : World) :
    (execOp ρ o).run Tryd.prog w = .ok (.value (.slice (some ⟨w.heap.size, 0, none⟩) 56 56)) (w.alloc (.cells (bytesV msg56).toArray 5)) := by
  rw [msg_vals]
  obtain ⟨dst, op, ty', pos, after, guard⟩ := o
  simp only at ho
  subst ho
  simp only [execOp]
  go_simp
theorem sum_56 (p : Option Addr) (w : World) (hL : Lies w p msg56) (hk : Consts w) (hs : Starts w) :
    Calls Tryd.prog 13 #[.slice p 56 56] w fun e w' => e = .returned (.agg (bytesV (shaOf msg56)).toArray) ∧ Below w.heap.size w w' :=
  shaSum_cap msg56 p 56 w hL (Nat.le_refl _) (by omega) (by show 56 < _; omega) hk hs
/-- The two published sums' blocks. -/
structure TwoS (w : World) (G8 G9 : Nat) (wr : World) : Prop where
  a : BytesAt wr G8 33 (digestOf st0)
  b : BytesAt wr G9 33 (digestOf st1)
  below : Below w.heap.size w wr
theorem TwoS.on {w wr w' : World} {G8 G9 : Nat} (h : TwoS w G8 G9 wr) (hb : Below wr.heap.size wr w') : TwoS w G8 G9 w' := ⟨h.a.keep hb, h.b.keep hb, h.below.trans (hb.mono h.below.size)⟩
attribute [local irreducible] kTable iv kitRow digestOf st0 st1 msg56 shaOf
set_option maxRecDepth 100000 in
set_option maxHeartbeats 2000000 in
theorem shaKnown_any (w : World) (hk : Consts w) (hs : Starts w) :
    Calls Tryd.prog 3 #[] w fun e w' => e = .returned (.bool true) ∧ Below w.heap.size w w' := by
  have hs1 := hk.size
  have HK := Lib.hid hk; clear hk
  have HS := Lib.hid hs; clear hs
  have HKL : Hid (kTable.length = 64) := show _ = _ by unfold kTable; rfl
  have HIL : Hid (iv.list.length = 8) := rfl
  have hkn : kTable ≠ [] := fun h => by have := HKL.out; rw [h] at this; simp at this
  have hin : iv.list ≠ [] := fun h => by have := HIL.out; rw [h] at this; simp at this
  go_enter Tryd.func3, Tryd.ntmps3
  go_wp2_with fail
  refine (constants_any w).mono ?_
  rintro e w1 ⟨v1, rfl, ho1, hb1⟩
  obtain ⟨g1, c1, rfl, -, -, -, hr1⟩ := ho1.form hkn
  have HR1 := Lib.hid hr1; have HB1 := Lib.hid hb1
  rw [HKL.out]
  clear ho1 hr1 hb1
  go_wp2_with fail
  refine (roots64_any w1).mono ?_
  rintro e w2 ⟨v2, rfl, ho2, hb2⟩
  obtain ⟨g2, c2, rfl, -, -, -, hr2⟩ := ho2.form hkn
  have HR2 := Lib.hid hr2; have HB2 := Lib.hid (HB1.out.trans (hb2.mono HB1.out.size))
  rw [HKL.out]
  have HR12 := Lib.hid (range_keep HR1.out hb2)
  clear ho2 hr2 hb2 HR1 HB1
  go_wp2_with fail
  go_loopw [3] (fun i wr => ∃ k : Nat, k ≤ 64 ∧ i = .int .i64 (k : Int) ∧ Below w2.heap.size w2 wr) (fun i _ => 64 - (intOf i).toNat)
  case atStart => exact ⟨0, by omega, rfl, Below.refl _ _⟩
  case round =>
    obtain ⟨k, hk, rfl, hb⟩ := hrel
    by_cases hlt : k < 64
    · have ca := word_at (range_keep HR12.out hb) k (by rw [HKL.out]; exact hlt)
      have cb := word_at (range_keep HR2.out hb) k (by rw [HKL.out]; exact hlt)
      generalize kTable.getD k 0#32 = x at ca cb
      have HB := Lib.hid hb; clear hb
      have k0 : (0 : Int) ≤ (k : Int) := by omega
      have k1 : (k : Int) < 64 := by omega
      go_wp2_with fail
      go_quiet (fail)
      go_wp2_with fail
      go_roundw
      case rel => exact ⟨k + 1, by omega, by go_num, HB.out.trans ⟨rfl, rfl, rfl, Nat.le_refl _, fun _ _ => rfl⟩⟩
      case measure => simp [intOf]; omega
    · have HB3 := Lib.hid (HB2.out.trans (hb.mono HB2.out.size)); clear hb HB2 HR12 HR2
      go_wp2_with fail
      refine (starts_any wr).mono ?_
      rintro e w3 ⟨v3, rfl, ho3, hb3⟩
      obtain ⟨g3, c3, rfl, -, -, -, hr3⟩ := ho3.form hin
      have HR3 := Lib.hid hr3; have HB4 := Lib.hid (HB3.out.trans (hb3.mono HB3.out.size))
      rw [HIL.out]
      clear ho3 hr3 hb3 HB3
      go_wp2_with fail
      refine (roots8_any w3).mono ?_
      rintro e w4 ⟨v4, rfl, ho4, hb4⟩
      obtain ⟨g4, c4, rfl, -, -, -, hr4⟩ := ho4.form hin
      have HR4 := Lib.hid hr4; have HB5 := Lib.hid (HB4.out.trans (hb4.mono HB4.out.size))
      have HR34 := Lib.hid (range_keep HR3.out hb4)
      rw [HIL.out]
      clear ho4 hr4 hb4 HB4 HR3
      go_wp2_with fail
      go_loopw [5] (fun i wr => ∃ k : Nat, k ≤ 8 ∧ i = .int .i64 (k : Int) ∧ Below w4.heap.size w4 wr) (fun i _ => 8 - (intOf i).toNat)
      case atStart => exact ⟨0, by omega, rfl, Below.refl _ _⟩
      case round =>
        obtain ⟨k, hk, rfl, hb⟩ := hrel
        by_cases hlt : k < 8
        · have ca := word_at (range_keep HR34.out hb) k (by rw [HIL.out]; exact hlt)
          have cb := word_at (range_keep HR4.out hb) k (by rw [HIL.out]; exact hlt)
          generalize iv.list.getD k 0#32 = x at ca cb
          have HB := Lib.hid hb; clear hb
          have k0 : (0 : Int) ≤ (k : Int) := by omega
          have k1 : (k : Int) < 8 := by omega
          go_wp2_with fail
          go_quiet (fail)
          go_wp2_with fail
          go_roundw
          case rel => exact ⟨k + 1, by omega, by go_num, HB.out.trans ⟨rfl, rfl, rfl, Nat.le_refl _, fun _ _ => rfl⟩⟩
          case measure => simp [intOf]; omega
        · have HB6 := Lib.hid (HB5.out.trans (hb.mono HB5.out.size)); clear hb HB5 HR34 HR4
          go_wp2_with fail
          go_loopw [6, 7] (fun i _ wr => ∃ k : Nat, k ≤ 200 ∧ i = .int .i64 (k : Int) ∧ Below w.heap.size w wr) (fun i _ _ => 200 - (intOf i).toNat)
          case atStart => exact ⟨0, by omega, rfl, HB6.out⟩
          case round =>
            clear HB6
            obtain ⟨n, hn, rfl, hb⟩ := hrel
            have HB6 := Lib.hid hb; clear hb
            by_cases hlt : n < 200
            · go_wp2_with fail
              refine (kitRow_any n _ (by omega)).mono ?_
              rintro e w5 ⟨v7, rfl, ho7, hb5⟩
              have HO7 := Lib.hid ho7; have HB7 := Lib.hid (HB6.out.trans (hb5.mono HB6.out.size))
              clear ho7 hb5
              have hlk := kitRow_length n
              obtain ⟨p7, c7, hv7, hc7, hm7, hl7⟩ := HO7.out.lies
              rw [hlk] at hv7 hc7
              have hadr : (p7 = none ∧ c7 = 0) ∨ ∃ g off, p7 = some ⟨g, off, none⟩ := by
                rcases HO7.out.2 with ⟨h1, _⟩ | ⟨g, cc, cur, h1, _⟩
                · rw [hv7, Value.slice.injEq] at h1; exact Or.inl ⟨h1.1, h1.2.2⟩
                · rw [hv7, Value.slice.injEq] at h1; exact Or.inr ⟨g, 0, h1.1⟩
              subst hv7
              have hn3 : n / 3 ≤ n := Nat.div_le_self n 3
              obtain ⟨p57, hp57, hl57⟩ : ∃ p57 : Option Addr, ((p7 = none ∧ p57 = none ∧ c7 = 0) ∨ ∃ g off, p7 = some ⟨g, off, none⟩ ∧ (if c7 = n / 3 then some (⟨g, off, none⟩ : Addr) else some ⟨g, off + n / 3, none⟩) = p57) ∧ (∀ wx : World, Lies wx p7 (kitRow n) → Lies wx p57 ((kitRow n).drop (n / 3))) := by
                rcases hadr with ⟨h1, h2⟩ | ⟨g, off, h1⟩
                · refine ⟨none, Or.inl ⟨h1, rfl, h2⟩, fun wx hx => Or.inl (List.drop_of_length_le (by rw [hlk]; omega))⟩
                · by_cases hck : c7 = n / 3
                  · exact ⟨some ⟨g, off, none⟩, Or.inr ⟨g, off, h1, by rw [if_pos hck]⟩, fun wx hx => Or.inl (List.drop_of_length_le (by rw [hlk]; omega))⟩
                  · refine ⟨some ⟨g, off + n / 3, none⟩, Or.inr ⟨g, off, h1, by rw [if_neg hck]⟩, fun wx hx => ?_⟩
                    rcases hx with hx | ⟨b, o2, hp, hr⟩
                    · exact Or.inl (by rw [hx]; simp)
                    · rw [h1] at hp; cases hp
                      exact Or.inr ⟨_, _, rfl, range_drop hr⟩
              have HLK := Lib.hid hlk
              have HL7 : Hid (Lies w5.drew p7 (kitRow n)) := show Lies _ _ _ from hl7.below ((Below.refl _ _).drew)
              have HP57 := Lib.hid hp57
              have HL57 := Lib.hid hl57
              have HB7d : Hid (Below w.heap.size w w5.drew) := show Below _ _ _ from HB7.out.trans (((Below.refl _ _).drew).mono HB7.out.size)
              clear hlk hadr hp57 hl57 hl7 HO7
              unfold maxLen at hm7
              have HCo : Hid (∀ wx : World, Below w.heap.size w wx → Consts wx) := show ∀ wx : World, _ → _ from fun wx h => HK.out.below h hs1
              have HSt : Hid (∀ wx : World, Below w.heap.size w wx → Starts wx) := show ∀ wx : World, _ → _ from fun wx h => HS.out.below h (by omega)
              go_upto_region 19 with fail
              by_cases h9 : n % 9 = 0
              · have HD9 : Hid (decide (n % 9 = 0) = true) := show _ = _ from decide_eq_true h9
                clear h9
                refine region_phase (fun _ => True) (fun _ => True) 1 trivial trivial [(0, .free), (1, .behind), (2, .free), (3, .free), (4, .free), (5, .free), (6, .free), (7, .free), (8, .free), (9, .free), (10, .free), (11, .free), (12, .behind), (13, .behind), (14, .free), (15, .free), (16, .free), (17, .free), (18, .free), (19, .free), (20, .free), (21, .free), (22, .free), (23, .free), (24, .free), (25, .behind), (26, .free), (27, .free), (28, .free)] (by kernel_rfl) (by kernel_rfl) (by kernel_rfl) (by kernel_rfl) (fun ops hops A2 hA => ?_)
                have hsz : A2.tmps.size = 98 := by rw [hA]; rfl
                have base6 : A2.eval (.tmp 6) = .int .i64 (n : Int) := by rw [hA]; rfl
                have base7 : A2.eval (.tmp 7) = .slice p7 n c7 := by rw [hA]; rfl
                have HAA := Lib.hid hA; clear hA
                obtain ⟨o0, po0, q0, d0, gd0⟩ : ∃ o, ops[0]? = some o ∧ o.op = .move (.tmp 7) ∧ o.dst = some 46 ∧ o.guard = none := ⟨_, by rw [hops]; rfl, rfl, rfl, rfl⟩
                obtain ⟨o1, po1, q1, d1, gd1⟩ : ∃ o, ops[1]? = some o ∧ o.op = .call { callee := .value (.func 9), args := #[.tmp 46], argTypes := #[26] } ∧ o.dst = some 47 ∧ o.guard = none := ⟨_, by rw [hops]; rfl, rfl, rfl, rfl⟩
                obtain ⟨o2, po2, q2, d2, gd2⟩ : ∃ o, ops[2]? = some o ∧ o.op = .unOp .not 4 (.tmp 47) ∧ o.dst = some 48 ∧ o.guard = none := ⟨_, by rw [hops]; rfl, rfl, rfl, rfl⟩
                obtain ⟨o3, po3, q3, d3, gd3⟩ : ∃ o, ops[3]? = some o ∧ o.op = .move (.tmp 48) ∧ o.dst = some 49 ∧ o.guard = none := ⟨_, by rw [hops]; rfl, rfl, rfl, rfl⟩
                obtain ⟨o4, po4, q4, d4, gd4⟩ : ∃ o, ops[4]? = some o ∧ o.op = .move (.tmp 7) ∧ o.dst = some 50 ∧ o.guard = some (3, false) := ⟨_, by rw [hops]; rfl, rfl, rfl, rfl⟩
                obtain ⟨o5, po5, q5, d5, gd5⟩ : ∃ o, ops[5]? = some o ∧ o.op = .move (.tmp 6) ∧ o.dst = some 51 ∧ o.guard = some (3, false) := ⟨_, by rw [hops]; rfl, rfl, rfl, rfl⟩
                obtain ⟨o6, po6, q6, d6, gd6⟩ : ∃ o, ops[6]? = some o ∧ o.op = .binOp .quo 3 (.tmp 51) (.const (.int .i64 3)) 3 ∧ o.dst = some 52 ∧ o.guard = some (3, false) := ⟨_, by rw [hops]; rfl, rfl, rfl, rfl⟩
                obtain ⟨o7, po7, q7, d7, gd7⟩ : ∃ o, ops[7]? = some o ∧ o.op = .slice 26 (.tmp 50) none (some (.tmp 52)) none ∧ o.dst = some 53 ∧ o.guard = some (3, false) := ⟨_, by rw [hops]; rfl, rfl, rfl, rfl⟩
                obtain ⟨o8, po8, q8, d8, gd8⟩ : ∃ o, ops[8]? = some o ∧ o.op = .move (.tmp 7) ∧ o.dst = some 54 ∧ o.guard = some (3, false) := ⟨_, by rw [hops]; rfl, rfl, rfl, rfl⟩
                obtain ⟨o9, po9, q9, d9, gd9⟩ : ∃ o, ops[9]? = some o ∧ o.op = .move (.tmp 6) ∧ o.dst = some 55 ∧ o.guard = some (3, false) := ⟨_, by rw [hops]; rfl, rfl, rfl, rfl⟩
                obtain ⟨o10, po10, q10, d10, gd10⟩ : ∃ o, ops[10]? = some o ∧ o.op = .binOp .quo 3 (.tmp 55) (.const (.int .i64 3)) 3 ∧ o.dst = some 56 ∧ o.guard = some (3, false) := ⟨_, by rw [hops]; rfl, rfl, rfl, rfl⟩
                obtain ⟨o11, po11, q11, d11, gd11⟩ : ∃ o, ops[11]? = some o ∧ o.op = .slice 26 (.tmp 54) (some (.tmp 56)) none none ∧ o.dst = some 57 ∧ o.guard = some (3, false) := ⟨_, by rw [hops]; rfl, rfl, rfl, rfl⟩
                obtain ⟨o12, po12, q12, d12, gd12⟩ : ∃ o, ops[12]? = some o ∧ o.op = .buildSlice 30 3 #[(0, (.tmp 53)), (1, (.const (.slice none 0 0))), (2, (.tmp 57))] ∧ o.dst = some 58 ∧ o.guard = some (3, false) := ⟨_, by rw [hops]; rfl, rfl, rfl, rfl⟩
                obtain ⟨o13, po13, q13, d13, gd13⟩ : ∃ o, ops[13]? = some o ∧ o.op = .call { callee := .value (.func 10), args := #[.tmp 58], argTypes := #[30] } ∧ o.dst = some 59 ∧ o.guard = some (3, false) := ⟨_, by rw [hops]; rfl, rfl, rfl, rfl⟩
                obtain ⟨o14, po14, q14, d14, gd14⟩ : ∃ o, ops[14]? = some o ∧ o.op = .unOp .not 4 (.tmp 59) ∧ o.dst = some 60 ∧ o.guard = some (3, false) := ⟨_, by rw [hops]; rfl, rfl, rfl, rfl⟩
                obtain ⟨o15, po15, q15, d15, gd15⟩ : ∃ o, ops[15]? = some o ∧ o.op = .pick (.tmp 49) (.const (.bool true)) (.tmp 60) ∧ o.dst = some 61 ∧ o.guard = none := ⟨_, by rw [hops]; rfl, rfl, rfl, rfl⟩
                obtain ⟨o16, po16, q16, d16, gd16⟩ : ∃ o, ops[16]? = some o ∧ o.op = .move (.tmp 61) ∧ o.dst = some 62 ∧ o.guard = none := ⟨_, by rw [hops]; rfl, rfl, rfl, rfl⟩
                obtain ⟨o17, po17, q17, d17, gd17⟩ : ∃ o, ops[17]? = some o ∧ o.op = .move (.tmp 6) ∧ o.dst = some 63 ∧ o.guard = some (16, false) := ⟨_, by rw [hops]; rfl, rfl, rfl, rfl⟩
                obtain ⟨o18, po18, q18, d18, gd18⟩ : ∃ o, ops[18]? = some o ∧ o.op = .binOp .rem 3 (.tmp 63) (.const (.int .i64 9)) 3 ∧ o.dst = some 64 ∧ o.guard = some (16, false) := ⟨_, by rw [hops]; rfl, rfl, rfl, rfl⟩
                obtain ⟨o19, po19, q19, d19, gd19⟩ : ∃ o, ops[19]? = some o ∧ o.op = .binOp .eql 3 (.tmp 64) (.const (.int .i64 0)) 3 ∧ o.dst = some 65 ∧ o.guard = some (16, false) := ⟨_, by rw [hops]; rfl, rfl, rfl, rfl⟩
                obtain ⟨o20, po20, q20, d20, gd20⟩ : ∃ o, ops[20]? = some o ∧ o.op = .move (.tmp 65) ∧ o.dst = some 66 ∧ o.guard = some (16, false) := ⟨_, by rw [hops]; rfl, rfl, rfl, rfl⟩
                obtain ⟨o21, po21, q21, d21, gd21⟩ : ∃ o, ops[21]? = some o ∧ o.op = .move (.tmp 7) ∧ o.dst = some 67 ∧ o.guard = some (20, true) := ⟨_, by rw [hops]; rfl, rfl, rfl, rfl⟩
                obtain ⟨o22, po22, q22, d22, gd22⟩ : ∃ o, ops[22]? = some o ∧ o.op = .move (.tmp 6) ∧ o.dst = some 68 ∧ o.guard = some (20, true) := ⟨_, by rw [hops]; rfl, rfl, rfl, rfl⟩
                obtain ⟨o23, po23, q23, d23, gd23⟩ : ∃ o, ops[23]? = some o ∧ o.op = .binOp .quo 3 (.tmp 68) (.const (.int .i64 2)) 3 ∧ o.dst = some 69 ∧ o.guard = some (20, true) := ⟨_, by rw [hops]; rfl, rfl, rfl, rfl⟩
                obtain ⟨o24, po24, q24, d24, gd24⟩ : ∃ o, ops[24]? = some o ∧ o.op = .move (.tmp 6) ∧ o.dst = some 70 ∧ o.guard = some (20, true) := ⟨_, by rw [hops]; rfl, rfl, rfl, rfl⟩
                obtain ⟨o25, po25, q25, d25, gd25⟩ : ∃ o, ops[25]? = some o ∧ o.op = .call { callee := .value (.func 11), args := #[.tmp 67, .tmp 69, .tmp 70], argTypes := #[26, 3, 3] } ∧ o.dst = some 71 ∧ o.guard = some (20, true) := ⟨_, by rw [hops]; rfl, rfl, rfl, rfl⟩
                obtain ⟨o26, po26, q26, d26, gd26⟩ : ∃ o, ops[26]? = some o ∧ o.op = .unOp .not 4 (.tmp 71) ∧ o.dst = some 72 ∧ o.guard = some (20, true) := ⟨_, by rw [hops]; rfl, rfl, rfl, rfl⟩
                obtain ⟨o27, po27, q27, d27, gd27⟩ : ∃ o, ops[27]? = some o ∧ o.op = .pick (.tmp 66) (.tmp 72) (.const (.bool false)) ∧ o.dst = some 73 ∧ o.guard = some (16, false) := ⟨_, by rw [hops]; rfl, rfl, rfl, rfl⟩
                obtain ⟨o28, po28, q28, d28, gd28⟩ : ∃ o, ops[28]? = some o ∧ o.op = .pick (.tmp 62) (.const (.bool true)) (.tmp 73) ∧ o.dst = some 74 ∧ o.guard = none := ⟨_, by rw [hops]; rfl, rfl, rfl, rfl⟩
                clear hops
                refine met_free po0 d0 (wanted_of gd0) (fun w' _ => run_move q0 base7 w') ?_
                refine m_enter po1 d1 (wanted_of gd1) (run_callf1 q1 rfl (eval_same _ _ _ (by rw [hsz]; decide)) Tryd.func9 (by kernel_rfl) _) (sums_small (kitRow n) n p7 c7 w5.drew HLK.out (by omega) HL7.out (HCo.out w5.drew HB7d.out) (HSt.out w5.drew HB7d.out)) ?_
                rintro e wa ⟨rfl, hba⟩
                have HBa := Lib.hid (HB7d.out.trans (hba.mono HB7d.out.size))
                have HLa := Lib.hid (HL7.out.below hba)
                clear hba
                refine ⟨_, rfl, trivial, ?_⟩
                refine met_free po2 d2 (wanted_of gd2) (fun w' _ => r_not q2 (eval_same _ _ _ (by simp only [put_size, hsz]; decide)) w') ?_
                refine met_free po3 d3 (wanted_of gd3) (fun w' _ => run_move q3 (eval_same _ _ _ (by simp only [put_size, hsz]; decide)) w') ?_
                refine met_free po4 d4 (w_false gd4 po3 d3 (eval_same _ _ _ (by simp only [put_size, hsz]; decide))) (fun w' _ => run_move q4 ((eval_other _ 49 7 _ (by decide)).trans ((eval_other _ 48 7 _ (by decide)).trans ((eval_other _ 47 7 _ (by decide)).trans ((eval_other _ 46 7 _ (by decide)).trans base7)))) w') ?_
                refine met_free po5 d5 (w_false gd5 po3 d3 ((eval_other _ 50 49 _ (by decide)).trans (eval_same _ _ _ (by simp only [put_size, hsz]; decide)))) (fun w' _ => run_move q5 ((eval_other _ 50 6 _ (by decide)).trans ((eval_other _ 49 6 _ (by decide)).trans ((eval_other _ 48 6 _ (by decide)).trans ((eval_other _ 47 6 _ (by decide)).trans ((eval_other _ 46 6 _ (by decide)).trans base6))))) w') ?_
                refine met_free po6 d6 (w_false gd6 po3 d3 ((eval_other _ 51 49 _ (by decide)).trans ((eval_other _ 50 49 _ (by decide)).trans (eval_same _ _ _ (by simp only [put_size, hsz]; decide))))) (fun w' _ => r_quo (k := 3) q6 (fun _ => rfl) (eval_same _ _ _ (by simp only [put_size, hsz]; decide)) (by omega) (by omega) w') ?_
                refine met_free po7 d7 (w_false gd7 po3 d3 ((eval_other _ 52 49 _ (by decide)).trans ((eval_other _ 51 49 _ (by decide)).trans ((eval_other _ 50 49 _ (by decide)).trans (eval_same _ _ _ (by simp only [put_size, hsz]; decide)))))) (fun w' _ => r_to q7 (by omega) ((eval_other _ 52 50 _ (by decide)).trans ((eval_other _ 51 50 _ (by decide)).trans (eval_same _ _ _ (by simp only [put_size, hsz]; decide)))) (eval_same _ _ _ (by simp only [put_size, hsz]; decide)) w') ?_
                refine met_free po8 d8 (w_false gd8 po3 d3 ((eval_other _ 53 49 _ (by decide)).trans ((eval_other _ 52 49 _ (by decide)).trans ((eval_other _ 51 49 _ (by decide)).trans ((eval_other _ 50 49 _ (by decide)).trans (eval_same _ _ _ (by simp only [put_size, hsz]; decide))))))) (fun w' _ => run_move q8 ((eval_other _ 53 7 _ (by decide)).trans ((eval_other _ 52 7 _ (by decide)).trans ((eval_other _ 51 7 _ (by decide)).trans ((eval_other _ 50 7 _ (by decide)).trans ((eval_other _ 49 7 _ (by decide)).trans ((eval_other _ 48 7 _ (by decide)).trans ((eval_other _ 47 7 _ (by decide)).trans ((eval_other _ 46 7 _ (by decide)).trans base7)))))))) w') ?_
                refine met_free po9 d9 (w_false gd9 po3 d3 ((eval_other _ 54 49 _ (by decide)).trans ((eval_other _ 53 49 _ (by decide)).trans ((eval_other _ 52 49 _ (by decide)).trans ((eval_other _ 51 49 _ (by decide)).trans ((eval_other _ 50 49 _ (by decide)).trans (eval_same _ _ _ (by simp only [put_size, hsz]; decide)))))))) (fun w' _ => run_move q9 ((eval_other _ 54 6 _ (by decide)).trans ((eval_other _ 53 6 _ (by decide)).trans ((eval_other _ 52 6 _ (by decide)).trans ((eval_other _ 51 6 _ (by decide)).trans ((eval_other _ 50 6 _ (by decide)).trans ((eval_other _ 49 6 _ (by decide)).trans ((eval_other _ 48 6 _ (by decide)).trans ((eval_other _ 47 6 _ (by decide)).trans ((eval_other _ 46 6 _ (by decide)).trans base6))))))))) w') ?_
                refine met_free po10 d10 (w_false gd10 po3 d3 ((eval_other _ 55 49 _ (by decide)).trans ((eval_other _ 54 49 _ (by decide)).trans ((eval_other _ 53 49 _ (by decide)).trans ((eval_other _ 52 49 _ (by decide)).trans ((eval_other _ 51 49 _ (by decide)).trans ((eval_other _ 50 49 _ (by decide)).trans (eval_same _ _ _ (by simp only [put_size, hsz]; decide))))))))) (fun w' _ => r_quo (k := 3) q10 (fun _ => rfl) (eval_same _ _ _ (by simp only [put_size, hsz]; decide)) (by omega) (by omega) w') ?_
                refine met_free po11 d11 (w_false gd11 po3 d3 ((eval_other _ 56 49 _ (by decide)).trans ((eval_other _ 55 49 _ (by decide)).trans ((eval_other _ 54 49 _ (by decide)).trans ((eval_other _ 53 49 _ (by decide)).trans ((eval_other _ 52 49 _ (by decide)).trans ((eval_other _ 51 49 _ (by decide)).trans ((eval_other _ 50 49 _ (by decide)).trans (eval_same _ _ _ (by simp only [put_size, hsz]; decide)))))))))) (fun w' _ => r_from q11 (by omega) (by omega) HP57.out ((eval_other _ 56 54 _ (by decide)).trans ((eval_other _ 55 54 _ (by decide)).trans (eval_same _ _ _ (by simp only [put_size, hsz]; decide)))) (eval_same _ _ _ (by simp only [put_size, hsz]; decide)) w') ?_
                refine m_value po12 d12 (w_false gd12 po3 d3 ((eval_other _ 57 49 _ (by decide)).trans ((eval_other _ 56 49 _ (by decide)).trans ((eval_other _ 55 49 _ (by decide)).trans ((eval_other _ 54 49 _ (by decide)).trans ((eval_other _ 53 49 _ (by decide)).trans ((eval_other _ 52 49 _ (by decide)).trans ((eval_other _ 51 49 _ (by decide)).trans ((eval_other _ 50 49 _ (by decide)).trans (eval_same _ _ _ (by simp only [put_size, hsz]; decide))))))))))) (run_three q12 (fun _ => rfl) ((eval_other _ 57 53 _ (by decide)).trans ((eval_other _ 56 53 _ (by decide)).trans ((eval_other _ 55 53 _ (by decide)).trans ((eval_other _ 54 53 _ (by decide)).trans (eval_same _ _ _ (by simp only [put_size, hsz]; decide)))))) (eval_same _ _ _ (by simp only [put_size, hsz]; decide)) _) ⟨trivial, ?_⟩
                have H3 := Lib.hid (three_pieces wa (.slice p7 (n / 3) c7) (.slice p57 (n - n / 3) (c7 - n / 3)))
                have HBb : Hid (Below wa.heap.size wa (wa.alloc (.cells #[.slice p7 (n / 3) c7, .slice none 0 0, .slice p57 (n - n / 3) (c7 - n / 3)] 26))) := show Below _ _ _ from (Below.refl _ _).alloc (Nat.le_refl _) _
                refine m_enter po13 d13 (w_false gd13 po3 d3 ((eval_other _ 58 49 _ (by decide)).trans ((eval_other _ 57 49 _ (by decide)).trans ((eval_other _ 56 49 _ (by decide)).trans ((eval_other _ 55 49 _ (by decide)).trans ((eval_other _ 54 49 _ (by decide)).trans ((eval_other _ 53 49 _ (by decide)).trans ((eval_other _ 52 49 _ (by decide)).trans ((eval_other _ 51 49 _ (by decide)).trans ((eval_other _ 50 49 _ (by decide)).trans (eval_same _ _ _ (by simp only [put_size, hsz]; decide)))))))))))) (run_callf1 q13 rfl (eval_same _ _ _ (by simp only [put_size, hsz]; decide)) Tryd.func10 (by kernel_rfl) _) (pieces_three n p7 p57 c7 (kitRow n) _ (some ⟨wa.heap.size, 0, none⟩) _ HLK.out (by omega) ⟨_, _, rfl, H3.out⟩ (HLa.out.below HBb.out) (HL57.out _ (HLa.out.below HBb.out)) (HCo.out _ (HBa.out.trans (HBb.out.mono HBa.out.size))) (HSt.out _ (HBa.out.trans (HBb.out.mono HBa.out.size)))) ?_
                rintro e wc ⟨rfl, hbc⟩
                have HBc := Lib.hid ((HBa.out.trans (HBb.out.mono HBa.out.size)).trans (hbc.mono (HBa.out.trans (HBb.out.mono HBa.out.size)).size))
                have HLc := Lib.hid ((HLa.out.below HBb.out).below hbc)
                clear hbc H3 HBb
                refine ⟨_, rfl, trivial, ?_⟩
                refine met_free po14 d14 (w_false gd14 po3 d3 ((eval_other _ 59 49 _ (by decide)).trans ((eval_other _ 58 49 _ (by decide)).trans ((eval_other _ 57 49 _ (by decide)).trans ((eval_other _ 56 49 _ (by decide)).trans ((eval_other _ 55 49 _ (by decide)).trans ((eval_other _ 54 49 _ (by decide)).trans ((eval_other _ 53 49 _ (by decide)).trans ((eval_other _ 52 49 _ (by decide)).trans ((eval_other _ 51 49 _ (by decide)).trans ((eval_other _ 50 49 _ (by decide)).trans (eval_same _ _ _ (by simp only [put_size, hsz]; decide))))))))))))) (fun w' _ => r_not q14 (eval_same _ _ _ (by simp only [put_size, hsz]; decide)) w') ?_
                refine met_free po15 d15 (wanted_of gd15) (fun w' _ => r_pickF q15 ((eval_other _ 60 49 _ (by decide)).trans ((eval_other _ 59 49 _ (by decide)).trans ((eval_other _ 58 49 _ (by decide)).trans ((eval_other _ 57 49 _ (by decide)).trans ((eval_other _ 56 49 _ (by decide)).trans ((eval_other _ 55 49 _ (by decide)).trans ((eval_other _ 54 49 _ (by decide)).trans ((eval_other _ 53 49 _ (by decide)).trans ((eval_other _ 52 49 _ (by decide)).trans ((eval_other _ 51 49 _ (by decide)).trans ((eval_other _ 50 49 _ (by decide)).trans (eval_same _ _ _ (by simp only [put_size, hsz]; decide))))))))))))) (eval_same _ _ _ (by simp only [put_size, hsz]; decide)) w') ?_
                refine met_free po16 d16 (wanted_of gd16) (fun w' _ => run_move q16 (eval_same _ _ _ (by simp only [put_size, hsz]; decide)) w') ?_
                refine met_free po17 d17 (w_false gd17 po16 d16 (eval_same _ _ _ (by simp only [put_size, hsz]; decide))) (fun w' _ => run_move q17 ((eval_other _ 62 6 _ (by decide)).trans ((eval_other _ 61 6 _ (by decide)).trans ((eval_other _ 60 6 _ (by decide)).trans ((eval_other _ 59 6 _ (by decide)).trans ((eval_other _ 58 6 _ (by decide)).trans ((eval_other _ 57 6 _ (by decide)).trans ((eval_other _ 56 6 _ (by decide)).trans ((eval_other _ 55 6 _ (by decide)).trans ((eval_other _ 54 6 _ (by decide)).trans ((eval_other _ 53 6 _ (by decide)).trans ((eval_other _ 52 6 _ (by decide)).trans ((eval_other _ 51 6 _ (by decide)).trans ((eval_other _ 50 6 _ (by decide)).trans ((eval_other _ 49 6 _ (by decide)).trans ((eval_other _ 48 6 _ (by decide)).trans ((eval_other _ 47 6 _ (by decide)).trans ((eval_other _ 46 6 _ (by decide)).trans base6))))))))))))))))) w') ?_
                refine met_free po18 d18 (w_false gd18 po16 d16 ((eval_other _ 63 62 _ (by decide)).trans (eval_same _ _ _ (by simp only [put_size, hsz]; decide)))) (fun w' _ => r_rem (k := 9) q18 (fun _ => rfl) (eval_same _ _ _ (by simp only [put_size, hsz]; decide)) (by omega) (by omega) w') ?_
                refine met_free po19 d19 (w_false gd19 po16 d16 ((eval_other _ 64 62 _ (by decide)).trans ((eval_other _ 63 62 _ (by decide)).trans (eval_same _ _ _ (by simp only [put_size, hsz]; decide))))) (fun w' _ => (r_eql0 q19 (fun _ => rfl) (eval_same _ _ _ (by simp only [put_size, hsz]; decide)) w').trans (by rw [HD9.out])) ?_
                refine met_free po20 d20 (w_false gd20 po16 d16 ((eval_other _ 65 62 _ (by decide)).trans ((eval_other _ 64 62 _ (by decide)).trans ((eval_other _ 63 62 _ (by decide)).trans (eval_same _ _ _ (by simp only [put_size, hsz]; decide)))))) (fun w' _ => run_move q20 (eval_same _ _ _ (by simp only [put_size, hsz]; decide)) w') ?_
                refine met_free po21 d21 (wanted_guard gd21 po20 d20 (eval_same _ _ _ (by simp only [put_size, hsz]; decide))) (fun w' _ => run_move q21 ((eval_other _ 66 7 _ (by decide)).trans ((eval_other _ 65 7 _ (by decide)).trans ((eval_other _ 64 7 _ (by decide)).trans ((eval_other _ 63 7 _ (by decide)).trans ((eval_other _ 62 7 _ (by decide)).trans ((eval_other _ 61 7 _ (by decide)).trans ((eval_other _ 60 7 _ (by decide)).trans ((eval_other _ 59 7 _ (by decide)).trans ((eval_other _ 58 7 _ (by decide)).trans ((eval_other _ 57 7 _ (by decide)).trans ((eval_other _ 56 7 _ (by decide)).trans ((eval_other _ 55 7 _ (by decide)).trans ((eval_other _ 54 7 _ (by decide)).trans ((eval_other _ 53 7 _ (by decide)).trans ((eval_other _ 52 7 _ (by decide)).trans ((eval_other _ 51 7 _ (by decide)).trans ((eval_other _ 50 7 _ (by decide)).trans ((eval_other _ 49 7 _ (by decide)).trans ((eval_other _ 48 7 _ (by decide)).trans ((eval_other _ 47 7 _ (by decide)).trans ((eval_other _ 46 7 _ (by decide)).trans base7))))))))))))))))))))) w') ?_
                refine met_free po22 d22 (wanted_guard gd22 po20 d20 ((eval_other _ 67 66 _ (by decide)).trans (eval_same _ _ _ (by simp only [put_size, hsz]; decide)))) (fun w' _ => run_move q22 ((eval_other _ 67 6 _ (by decide)).trans ((eval_other _ 66 6 _ (by decide)).trans ((eval_other _ 65 6 _ (by decide)).trans ((eval_other _ 64 6 _ (by decide)).trans ((eval_other _ 63 6 _ (by decide)).trans ((eval_other _ 62 6 _ (by decide)).trans ((eval_other _ 61 6 _ (by decide)).trans ((eval_other _ 60 6 _ (by decide)).trans ((eval_other _ 59 6 _ (by decide)).trans ((eval_other _ 58 6 _ (by decide)).trans ((eval_other _ 57 6 _ (by decide)).trans ((eval_other _ 56 6 _ (by decide)).trans ((eval_other _ 55 6 _ (by decide)).trans ((eval_other _ 54 6 _ (by decide)).trans ((eval_other _ 53 6 _ (by decide)).trans ((eval_other _ 52 6 _ (by decide)).trans ((eval_other _ 51 6 _ (by decide)).trans ((eval_other _ 50 6 _ (by decide)).trans ((eval_other _ 49 6 _ (by decide)).trans ((eval_other _ 48 6 _ (by decide)).trans ((eval_other _ 47 6 _ (by decide)).trans ((eval_other _ 46 6 _ (by decide)).trans base6)))))))))))))))))))))) w') ?_
                refine met_free po23 d23 (wanted_guard gd23 po20 d20 ((eval_other _ 68 66 _ (by decide)).trans ((eval_other _ 67 66 _ (by decide)).trans (eval_same _ _ _ (by simp only [put_size, hsz]; decide))))) (fun w' _ => r_quo (k := 2) q23 (fun _ => rfl) (eval_same _ _ _ (by simp only [put_size, hsz]; decide)) (by omega) (by omega) w') ?_
                refine met_free po24 d24 (wanted_guard gd24 po20 d20 ((eval_other _ 69 66 _ (by decide)).trans ((eval_other _ 68 66 _ (by decide)).trans ((eval_other _ 67 66 _ (by decide)).trans (eval_same _ _ _ (by simp only [put_size, hsz]; decide)))))) (fun w' _ => run_move q24 ((eval_other _ 69 6 _ (by decide)).trans ((eval_other _ 68 6 _ (by decide)).trans ((eval_other _ 67 6 _ (by decide)).trans ((eval_other _ 66 6 _ (by decide)).trans ((eval_other _ 65 6 _ (by decide)).trans ((eval_other _ 64 6 _ (by decide)).trans ((eval_other _ 63 6 _ (by decide)).trans ((eval_other _ 62 6 _ (by decide)).trans ((eval_other _ 61 6 _ (by decide)).trans ((eval_other _ 60 6 _ (by decide)).trans ((eval_other _ 59 6 _ (by decide)).trans ((eval_other _ 58 6 _ (by decide)).trans ((eval_other _ 57 6 _ (by decide)).trans ((eval_other _ 56 6 _ (by decide)).trans ((eval_other _ 55 6 _ (by decide)).trans ((eval_other _ 54 6 _ (by decide)).trans ((eval_other _ 53 6 _ (by decide)).trans ((eval_other _ 52 6 _ (by decide)).trans ((eval_other _ 51 6 _ (by decide)).trans ((eval_other _ 50 6 _ (by decide)).trans ((eval_other _ 49 6 _ (by decide)).trans ((eval_other _ 48 6 _ (by decide)).trans ((eval_other _ 47 6 _ (by decide)).trans ((eval_other _ 46 6 _ (by decide)).trans base6)))))))))))))))))))))))) w') ?_
                refine m_enter po25 d25 (wanted_guard gd25 po20 d20 ((eval_other _ 70 66 _ (by decide)).trans ((eval_other _ 69 66 _ (by decide)).trans ((eval_other _ 68 66 _ (by decide)).trans ((eval_other _ 67 66 _ (by decide)).trans (eval_same _ _ _ (by simp only [put_size, hsz]; decide))))))) (run_callf3 q25 rfl ((eval_other _ 70 67 _ (by decide)).trans ((eval_other _ 69 67 _ (by decide)).trans ((eval_other _ 68 67 _ (by decide)).trans (eval_same _ _ _ (by simp only [put_size, hsz]; decide))))) ((eval_other _ 70 69 _ (by decide)).trans (eval_same _ _ _ (by simp only [put_size, hsz]; decide))) (eval_same _ _ _ (by simp only [put_size, hsz]; decide)) Tryd.func11 (by kernel_rfl) _) (whole_small (kitRow n) n p7 c7 _ _ wc HLK.out HLc.out (by omega) hc7 (by omega) (HCo.out wc HBc.out) (HSt.out wc HBc.out)) ?_
                rintro e wd ⟨rfl, hbd⟩
                have HBd := Lib.hid (HBc.out.trans (hbd.mono HBc.out.size))
                clear hbd
                refine ⟨_, rfl, trivial, ?_⟩
                refine met_free po26 d26 (wanted_guard gd26 po20 d20 ((eval_other _ 71 66 _ (by decide)).trans ((eval_other _ 70 66 _ (by decide)).trans ((eval_other _ 69 66 _ (by decide)).trans ((eval_other _ 68 66 _ (by decide)).trans ((eval_other _ 67 66 _ (by decide)).trans (eval_same _ _ _ (by simp only [put_size, hsz]; decide)))))))) (fun w' _ => r_not q26 (eval_same _ _ _ (by simp only [put_size, hsz]; decide)) w') ?_
                refine met_free po27 d27 (w_false gd27 po16 d16 ((eval_other _ 72 62 _ (by decide)).trans ((eval_other _ 71 62 _ (by decide)).trans ((eval_other _ 70 62 _ (by decide)).trans ((eval_other _ 69 62 _ (by decide)).trans ((eval_other _ 68 62 _ (by decide)).trans ((eval_other _ 67 62 _ (by decide)).trans ((eval_other _ 66 62 _ (by decide)).trans ((eval_other _ 65 62 _ (by decide)).trans ((eval_other _ 64 62 _ (by decide)).trans ((eval_other _ 63 62 _ (by decide)).trans (eval_same _ _ _ (by simp only [put_size, hsz]; decide))))))))))))) (fun w' _ => run_pick_true q27 ((eval_other _ 72 66 _ (by decide)).trans ((eval_other _ 71 66 _ (by decide)).trans ((eval_other _ 70 66 _ (by decide)).trans ((eval_other _ 69 66 _ (by decide)).trans ((eval_other _ 68 66 _ (by decide)).trans ((eval_other _ 67 66 _ (by decide)).trans (eval_same _ _ _ (by simp only [put_size, hsz]; decide)))))))) (eval_same _ _ _ (by simp only [put_size, hsz]; decide)) w') ?_
                refine met_free po28 d28 (wanted_of gd28) (fun w' _ => r_pickF q28 ((eval_other _ 73 62 _ (by decide)).trans ((eval_other _ 72 62 _ (by decide)).trans ((eval_other _ 71 62 _ (by decide)).trans ((eval_other _ 70 62 _ (by decide)).trans ((eval_other _ 69 62 _ (by decide)).trans ((eval_other _ 68 62 _ (by decide)).trans ((eval_other _ 67 62 _ (by decide)).trans ((eval_other _ 66 62 _ (by decide)).trans ((eval_other _ 65 62 _ (by decide)).trans ((eval_other _ 64 62 _ (by decide)).trans ((eval_other _ 63 62 _ (by decide)).trans (eval_same _ _ _ (by simp only [put_size, hsz]; decide))))))))))))) (eval_same _ _ _ (by simp only [put_size, hsz]; decide)) w') ?_
                show NoPanic _ .normal _ _
                refine NoPanic.normal ?_
                rw [HAA.out]
                go_frame
                clear HAA
                go_wp2_with fail
                go_roundw
                case rel => exact ⟨n + 1, by omega, by go_num, HBd.out⟩
                case measure => simp [intOf]; omega
              · have HD9 : Hid (decide (n % 9 = 0) = false) := show _ = _ from decide_eq_false h9
                clear h9
                refine region_phase (fun _ => True) (fun _ => True) 1 trivial trivial [(0, .free), (1, .behind), (2, .free), (3, .free), (4, .free), (5, .free), (6, .free), (7, .free), (8, .free), (9, .free), (10, .free), (11, .free), (12, .behind), (13, .behind), (14, .free), (15, .free), (16, .free), (17, .free), (18, .free), (19, .free), (20, .free), (21, .free), (22, .free), (23, .free), (24, .free), (25, .behind), (26, .free), (27, .free), (28, .free)] (by kernel_rfl) (by kernel_rfl) (by kernel_rfl) (by kernel_rfl) (fun ops hops A2 hA => ?_)
                have hsz : A2.tmps.size = 98 := by rw [hA]; rfl
                have base6 : A2.eval (.tmp 6) = .int .i64 (n : Int) := by rw [hA]; rfl
                have base7 : A2.eval (.tmp 7) = .slice p7 n c7 := by rw [hA]; rfl
                have HAA := Lib.hid hA; clear hA
                obtain ⟨o0, po0, q0, d0, gd0⟩ : ∃ o, ops[0]? = some o ∧ o.op = .move (.tmp 7) ∧ o.dst = some 46 ∧ o.guard = none := ⟨_, by rw [hops]; rfl, rfl, rfl, rfl⟩
                obtain ⟨o1, po1, q1, d1, gd1⟩ : ∃ o, ops[1]? = some o ∧ o.op = .call { callee := .value (.func 9), args := #[.tmp 46], argTypes := #[26] } ∧ o.dst = some 47 ∧ o.guard = none := ⟨_, by rw [hops]; rfl, rfl, rfl, rfl⟩
                obtain ⟨o2, po2, q2, d2, gd2⟩ : ∃ o, ops[2]? = some o ∧ o.op = .unOp .not 4 (.tmp 47) ∧ o.dst = some 48 ∧ o.guard = none := ⟨_, by rw [hops]; rfl, rfl, rfl, rfl⟩
                obtain ⟨o3, po3, q3, d3, gd3⟩ : ∃ o, ops[3]? = some o ∧ o.op = .move (.tmp 48) ∧ o.dst = some 49 ∧ o.guard = none := ⟨_, by rw [hops]; rfl, rfl, rfl, rfl⟩
                obtain ⟨o4, po4, q4, d4, gd4⟩ : ∃ o, ops[4]? = some o ∧ o.op = .move (.tmp 7) ∧ o.dst = some 50 ∧ o.guard = some (3, false) := ⟨_, by rw [hops]; rfl, rfl, rfl, rfl⟩
                obtain ⟨o5, po5, q5, d5, gd5⟩ : ∃ o, ops[5]? = some o ∧ o.op = .move (.tmp 6) ∧ o.dst = some 51 ∧ o.guard = some (3, false) := ⟨_, by rw [hops]; rfl, rfl, rfl, rfl⟩
                obtain ⟨o6, po6, q6, d6, gd6⟩ : ∃ o, ops[6]? = some o ∧ o.op = .binOp .quo 3 (.tmp 51) (.const (.int .i64 3)) 3 ∧ o.dst = some 52 ∧ o.guard = some (3, false) := ⟨_, by rw [hops]; rfl, rfl, rfl, rfl⟩
                obtain ⟨o7, po7, q7, d7, gd7⟩ : ∃ o, ops[7]? = some o ∧ o.op = .slice 26 (.tmp 50) none (some (.tmp 52)) none ∧ o.dst = some 53 ∧ o.guard = some (3, false) := ⟨_, by rw [hops]; rfl, rfl, rfl, rfl⟩
                obtain ⟨o8, po8, q8, d8, gd8⟩ : ∃ o, ops[8]? = some o ∧ o.op = .move (.tmp 7) ∧ o.dst = some 54 ∧ o.guard = some (3, false) := ⟨_, by rw [hops]; rfl, rfl, rfl, rfl⟩
                obtain ⟨o9, po9, q9, d9, gd9⟩ : ∃ o, ops[9]? = some o ∧ o.op = .move (.tmp 6) ∧ o.dst = some 55 ∧ o.guard = some (3, false) := ⟨_, by rw [hops]; rfl, rfl, rfl, rfl⟩
                obtain ⟨o10, po10, q10, d10, gd10⟩ : ∃ o, ops[10]? = some o ∧ o.op = .binOp .quo 3 (.tmp 55) (.const (.int .i64 3)) 3 ∧ o.dst = some 56 ∧ o.guard = some (3, false) := ⟨_, by rw [hops]; rfl, rfl, rfl, rfl⟩
                obtain ⟨o11, po11, q11, d11, gd11⟩ : ∃ o, ops[11]? = some o ∧ o.op = .slice 26 (.tmp 54) (some (.tmp 56)) none none ∧ o.dst = some 57 ∧ o.guard = some (3, false) := ⟨_, by rw [hops]; rfl, rfl, rfl, rfl⟩
                obtain ⟨o12, po12, q12, d12, gd12⟩ : ∃ o, ops[12]? = some o ∧ o.op = .buildSlice 30 3 #[(0, (.tmp 53)), (1, (.const (.slice none 0 0))), (2, (.tmp 57))] ∧ o.dst = some 58 ∧ o.guard = some (3, false) := ⟨_, by rw [hops]; rfl, rfl, rfl, rfl⟩
                obtain ⟨o13, po13, q13, d13, gd13⟩ : ∃ o, ops[13]? = some o ∧ o.op = .call { callee := .value (.func 10), args := #[.tmp 58], argTypes := #[30] } ∧ o.dst = some 59 ∧ o.guard = some (3, false) := ⟨_, by rw [hops]; rfl, rfl, rfl, rfl⟩
                obtain ⟨o14, po14, q14, d14, gd14⟩ : ∃ o, ops[14]? = some o ∧ o.op = .unOp .not 4 (.tmp 59) ∧ o.dst = some 60 ∧ o.guard = some (3, false) := ⟨_, by rw [hops]; rfl, rfl, rfl, rfl⟩
                obtain ⟨o15, po15, q15, d15, gd15⟩ : ∃ o, ops[15]? = some o ∧ o.op = .pick (.tmp 49) (.const (.bool true)) (.tmp 60) ∧ o.dst = some 61 ∧ o.guard = none := ⟨_, by rw [hops]; rfl, rfl, rfl, rfl⟩
                obtain ⟨o16, po16, q16, d16, gd16⟩ : ∃ o, ops[16]? = some o ∧ o.op = .move (.tmp 61) ∧ o.dst = some 62 ∧ o.guard = none := ⟨_, by rw [hops]; rfl, rfl, rfl, rfl⟩
                obtain ⟨o17, po17, q17, d17, gd17⟩ : ∃ o, ops[17]? = some o ∧ o.op = .move (.tmp 6) ∧ o.dst = some 63 ∧ o.guard = some (16, false) := ⟨_, by rw [hops]; rfl, rfl, rfl, rfl⟩
                obtain ⟨o18, po18, q18, d18, gd18⟩ : ∃ o, ops[18]? = some o ∧ o.op = .binOp .rem 3 (.tmp 63) (.const (.int .i64 9)) 3 ∧ o.dst = some 64 ∧ o.guard = some (16, false) := ⟨_, by rw [hops]; rfl, rfl, rfl, rfl⟩
                obtain ⟨o19, po19, q19, d19, gd19⟩ : ∃ o, ops[19]? = some o ∧ o.op = .binOp .eql 3 (.tmp 64) (.const (.int .i64 0)) 3 ∧ o.dst = some 65 ∧ o.guard = some (16, false) := ⟨_, by rw [hops]; rfl, rfl, rfl, rfl⟩
                obtain ⟨o20, po20, q20, d20, gd20⟩ : ∃ o, ops[20]? = some o ∧ o.op = .move (.tmp 65) ∧ o.dst = some 66 ∧ o.guard = some (16, false) := ⟨_, by rw [hops]; rfl, rfl, rfl, rfl⟩
                obtain ⟨o21, po21, q21, d21, gd21⟩ : ∃ o, ops[21]? = some o ∧ o.op = .move (.tmp 7) ∧ o.dst = some 67 ∧ o.guard = some (20, true) := ⟨_, by rw [hops]; rfl, rfl, rfl, rfl⟩
                obtain ⟨o22, po22, q22, d22, gd22⟩ : ∃ o, ops[22]? = some o ∧ o.op = .move (.tmp 6) ∧ o.dst = some 68 ∧ o.guard = some (20, true) := ⟨_, by rw [hops]; rfl, rfl, rfl, rfl⟩
                obtain ⟨o23, po23, q23, d23, gd23⟩ : ∃ o, ops[23]? = some o ∧ o.op = .binOp .quo 3 (.tmp 68) (.const (.int .i64 2)) 3 ∧ o.dst = some 69 ∧ o.guard = some (20, true) := ⟨_, by rw [hops]; rfl, rfl, rfl, rfl⟩
                obtain ⟨o24, po24, q24, d24, gd24⟩ : ∃ o, ops[24]? = some o ∧ o.op = .move (.tmp 6) ∧ o.dst = some 70 ∧ o.guard = some (20, true) := ⟨_, by rw [hops]; rfl, rfl, rfl, rfl⟩
                obtain ⟨o25, po25, q25, d25, gd25⟩ : ∃ o, ops[25]? = some o ∧ o.op = .call { callee := .value (.func 11), args := #[.tmp 67, .tmp 69, .tmp 70], argTypes := #[26, 3, 3] } ∧ o.dst = some 71 ∧ o.guard = some (20, true) := ⟨_, by rw [hops]; rfl, rfl, rfl, rfl⟩
                obtain ⟨o26, po26, q26, d26, gd26⟩ : ∃ o, ops[26]? = some o ∧ o.op = .unOp .not 4 (.tmp 71) ∧ o.dst = some 72 ∧ o.guard = some (20, true) := ⟨_, by rw [hops]; rfl, rfl, rfl, rfl⟩
                obtain ⟨o27, po27, q27, d27, gd27⟩ : ∃ o, ops[27]? = some o ∧ o.op = .pick (.tmp 66) (.tmp 72) (.const (.bool false)) ∧ o.dst = some 73 ∧ o.guard = some (16, false) := ⟨_, by rw [hops]; rfl, rfl, rfl, rfl⟩
                obtain ⟨o28, po28, q28, d28, gd28⟩ : ∃ o, ops[28]? = some o ∧ o.op = .pick (.tmp 62) (.const (.bool true)) (.tmp 73) ∧ o.dst = some 74 ∧ o.guard = none := ⟨_, by rw [hops]; rfl, rfl, rfl, rfl⟩
                clear hops
                refine met_free po0 d0 (wanted_of gd0) (fun w' _ => run_move q0 base7 w') ?_
                refine m_enter po1 d1 (wanted_of gd1) (run_callf1 q1 rfl (eval_same _ _ _ (by rw [hsz]; decide)) Tryd.func9 (by kernel_rfl) _) (sums_small (kitRow n) n p7 c7 w5.drew HLK.out (by omega) HL7.out (HCo.out w5.drew HB7d.out) (HSt.out w5.drew HB7d.out)) ?_
                rintro e wa ⟨rfl, hba⟩
                have HBa := Lib.hid (HB7d.out.trans (hba.mono HB7d.out.size))
                have HLa := Lib.hid (HL7.out.below hba)
                clear hba
                refine ⟨_, rfl, trivial, ?_⟩
                refine met_free po2 d2 (wanted_of gd2) (fun w' _ => r_not q2 (eval_same _ _ _ (by simp only [put_size, hsz]; decide)) w') ?_
                refine met_free po3 d3 (wanted_of gd3) (fun w' _ => run_move q3 (eval_same _ _ _ (by simp only [put_size, hsz]; decide)) w') ?_
                refine met_free po4 d4 (w_false gd4 po3 d3 (eval_same _ _ _ (by simp only [put_size, hsz]; decide))) (fun w' _ => run_move q4 ((eval_other _ 49 7 _ (by decide)).trans ((eval_other _ 48 7 _ (by decide)).trans ((eval_other _ 47 7 _ (by decide)).trans ((eval_other _ 46 7 _ (by decide)).trans base7)))) w') ?_
                refine met_free po5 d5 (w_false gd5 po3 d3 ((eval_other _ 50 49 _ (by decide)).trans (eval_same _ _ _ (by simp only [put_size, hsz]; decide)))) (fun w' _ => run_move q5 ((eval_other _ 50 6 _ (by decide)).trans ((eval_other _ 49 6 _ (by decide)).trans ((eval_other _ 48 6 _ (by decide)).trans ((eval_other _ 47 6 _ (by decide)).trans ((eval_other _ 46 6 _ (by decide)).trans base6))))) w') ?_
                refine met_free po6 d6 (w_false gd6 po3 d3 ((eval_other _ 51 49 _ (by decide)).trans ((eval_other _ 50 49 _ (by decide)).trans (eval_same _ _ _ (by simp only [put_size, hsz]; decide))))) (fun w' _ => r_quo (k := 3) q6 (fun _ => rfl) (eval_same _ _ _ (by simp only [put_size, hsz]; decide)) (by omega) (by omega) w') ?_
                refine met_free po7 d7 (w_false gd7 po3 d3 ((eval_other _ 52 49 _ (by decide)).trans ((eval_other _ 51 49 _ (by decide)).trans ((eval_other _ 50 49 _ (by decide)).trans (eval_same _ _ _ (by simp only [put_size, hsz]; decide)))))) (fun w' _ => r_to q7 (by omega) ((eval_other _ 52 50 _ (by decide)).trans ((eval_other _ 51 50 _ (by decide)).trans (eval_same _ _ _ (by simp only [put_size, hsz]; decide)))) (eval_same _ _ _ (by simp only [put_size, hsz]; decide)) w') ?_
                refine met_free po8 d8 (w_false gd8 po3 d3 ((eval_other _ 53 49 _ (by decide)).trans ((eval_other _ 52 49 _ (by decide)).trans ((eval_other _ 51 49 _ (by decide)).trans ((eval_other _ 50 49 _ (by decide)).trans (eval_same _ _ _ (by simp only [put_size, hsz]; decide))))))) (fun w' _ => run_move q8 ((eval_other _ 53 7 _ (by decide)).trans ((eval_other _ 52 7 _ (by decide)).trans ((eval_other _ 51 7 _ (by decide)).trans ((eval_other _ 50 7 _ (by decide)).trans ((eval_other _ 49 7 _ (by decide)).trans ((eval_other _ 48 7 _ (by decide)).trans ((eval_other _ 47 7 _ (by decide)).trans ((eval_other _ 46 7 _ (by decide)).trans base7)))))))) w') ?_
                refine met_free po9 d9 (w_false gd9 po3 d3 ((eval_other _ 54 49 _ (by decide)).trans ((eval_other _ 53 49 _ (by decide)).trans ((eval_other _ 52 49 _ (by decide)).trans ((eval_other _ 51 49 _ (by decide)).trans ((eval_other _ 50 49 _ (by decide)).trans (eval_same _ _ _ (by simp only [put_size, hsz]; decide)))))))) (fun w' _ => run_move q9 ((eval_other _ 54 6 _ (by decide)).trans ((eval_other _ 53 6 _ (by decide)).trans ((eval_other _ 52 6 _ (by decide)).trans ((eval_other _ 51 6 _ (by decide)).trans ((eval_other _ 50 6 _ (by decide)).trans ((eval_other _ 49 6 _ (by decide)).trans ((eval_other _ 48 6 _ (by decide)).trans ((eval_other _ 47 6 _ (by decide)).trans ((eval_other _ 46 6 _ (by decide)).trans base6))))))))) w') ?_
                refine met_free po10 d10 (w_false gd10 po3 d3 ((eval_other _ 55 49 _ (by decide)).trans ((eval_other _ 54 49 _ (by decide)).trans ((eval_other _ 53 49 _ (by decide)).trans ((eval_other _ 52 49 _ (by decide)).trans ((eval_other _ 51 49 _ (by decide)).trans ((eval_other _ 50 49 _ (by decide)).trans (eval_same _ _ _ (by simp only [put_size, hsz]; decide))))))))) (fun w' _ => r_quo (k := 3) q10 (fun _ => rfl) (eval_same _ _ _ (by simp only [put_size, hsz]; decide)) (by omega) (by omega) w') ?_
                refine met_free po11 d11 (w_false gd11 po3 d3 ((eval_other _ 56 49 _ (by decide)).trans ((eval_other _ 55 49 _ (by decide)).trans ((eval_other _ 54 49 _ (by decide)).trans ((eval_other _ 53 49 _ (by decide)).trans ((eval_other _ 52 49 _ (by decide)).trans ((eval_other _ 51 49 _ (by decide)).trans ((eval_other _ 50 49 _ (by decide)).trans (eval_same _ _ _ (by simp only [put_size, hsz]; decide)))))))))) (fun w' _ => r_from q11 (by omega) (by omega) HP57.out ((eval_other _ 56 54 _ (by decide)).trans ((eval_other _ 55 54 _ (by decide)).trans (eval_same _ _ _ (by simp only [put_size, hsz]; decide)))) (eval_same _ _ _ (by simp only [put_size, hsz]; decide)) w') ?_
                refine m_value po12 d12 (w_false gd12 po3 d3 ((eval_other _ 57 49 _ (by decide)).trans ((eval_other _ 56 49 _ (by decide)).trans ((eval_other _ 55 49 _ (by decide)).trans ((eval_other _ 54 49 _ (by decide)).trans ((eval_other _ 53 49 _ (by decide)).trans ((eval_other _ 52 49 _ (by decide)).trans ((eval_other _ 51 49 _ (by decide)).trans ((eval_other _ 50 49 _ (by decide)).trans (eval_same _ _ _ (by simp only [put_size, hsz]; decide))))))))))) (run_three q12 (fun _ => rfl) ((eval_other _ 57 53 _ (by decide)).trans ((eval_other _ 56 53 _ (by decide)).trans ((eval_other _ 55 53 _ (by decide)).trans ((eval_other _ 54 53 _ (by decide)).trans (eval_same _ _ _ (by simp only [put_size, hsz]; decide)))))) (eval_same _ _ _ (by simp only [put_size, hsz]; decide)) _) ⟨trivial, ?_⟩
                have H3 := Lib.hid (three_pieces wa (.slice p7 (n / 3) c7) (.slice p57 (n - n / 3) (c7 - n / 3)))
                have HBb : Hid (Below wa.heap.size wa (wa.alloc (.cells #[.slice p7 (n / 3) c7, .slice none 0 0, .slice p57 (n - n / 3) (c7 - n / 3)] 26))) := show Below _ _ _ from (Below.refl _ _).alloc (Nat.le_refl _) _
                refine m_enter po13 d13 (w_false gd13 po3 d3 ((eval_other _ 58 49 _ (by decide)).trans ((eval_other _ 57 49 _ (by decide)).trans ((eval_other _ 56 49 _ (by decide)).trans ((eval_other _ 55 49 _ (by decide)).trans ((eval_other _ 54 49 _ (by decide)).trans ((eval_other _ 53 49 _ (by decide)).trans ((eval_other _ 52 49 _ (by decide)).trans ((eval_other _ 51 49 _ (by decide)).trans ((eval_other _ 50 49 _ (by decide)).trans (eval_same _ _ _ (by simp only [put_size, hsz]; decide)))))))))))) (run_callf1 q13 rfl (eval_same _ _ _ (by simp only [put_size, hsz]; decide)) Tryd.func10 (by kernel_rfl) _) (pieces_three n p7 p57 c7 (kitRow n) _ (some ⟨wa.heap.size, 0, none⟩) _ HLK.out (by omega) ⟨_, _, rfl, H3.out⟩ (HLa.out.below HBb.out) (HL57.out _ (HLa.out.below HBb.out)) (HCo.out _ (HBa.out.trans (HBb.out.mono HBa.out.size))) (HSt.out _ (HBa.out.trans (HBb.out.mono HBa.out.size)))) ?_
                rintro e wc ⟨rfl, hbc⟩
                have HBc := Lib.hid ((HBa.out.trans (HBb.out.mono HBa.out.size)).trans (hbc.mono (HBa.out.trans (HBb.out.mono HBa.out.size)).size))
                have HLc := Lib.hid ((HLa.out.below HBb.out).below hbc)
                clear hbc H3 HBb
                refine ⟨_, rfl, trivial, ?_⟩
                refine met_free po14 d14 (w_false gd14 po3 d3 ((eval_other _ 59 49 _ (by decide)).trans ((eval_other _ 58 49 _ (by decide)).trans ((eval_other _ 57 49 _ (by decide)).trans ((eval_other _ 56 49 _ (by decide)).trans ((eval_other _ 55 49 _ (by decide)).trans ((eval_other _ 54 49 _ (by decide)).trans ((eval_other _ 53 49 _ (by decide)).trans ((eval_other _ 52 49 _ (by decide)).trans ((eval_other _ 51 49 _ (by decide)).trans ((eval_other _ 50 49 _ (by decide)).trans (eval_same _ _ _ (by simp only [put_size, hsz]; decide))))))))))))) (fun w' _ => r_not q14 (eval_same _ _ _ (by simp only [put_size, hsz]; decide)) w') ?_
                refine met_free po15 d15 (wanted_of gd15) (fun w' _ => r_pickF q15 ((eval_other _ 60 49 _ (by decide)).trans ((eval_other _ 59 49 _ (by decide)).trans ((eval_other _ 58 49 _ (by decide)).trans ((eval_other _ 57 49 _ (by decide)).trans ((eval_other _ 56 49 _ (by decide)).trans ((eval_other _ 55 49 _ (by decide)).trans ((eval_other _ 54 49 _ (by decide)).trans ((eval_other _ 53 49 _ (by decide)).trans ((eval_other _ 52 49 _ (by decide)).trans ((eval_other _ 51 49 _ (by decide)).trans ((eval_other _ 50 49 _ (by decide)).trans (eval_same _ _ _ (by simp only [put_size, hsz]; decide))))))))))))) (eval_same _ _ _ (by simp only [put_size, hsz]; decide)) w') ?_
                refine met_free po16 d16 (wanted_of gd16) (fun w' _ => run_move q16 (eval_same _ _ _ (by simp only [put_size, hsz]; decide)) w') ?_
                refine met_free po17 d17 (w_false gd17 po16 d16 (eval_same _ _ _ (by simp only [put_size, hsz]; decide))) (fun w' _ => run_move q17 ((eval_other _ 62 6 _ (by decide)).trans ((eval_other _ 61 6 _ (by decide)).trans ((eval_other _ 60 6 _ (by decide)).trans ((eval_other _ 59 6 _ (by decide)).trans ((eval_other _ 58 6 _ (by decide)).trans ((eval_other _ 57 6 _ (by decide)).trans ((eval_other _ 56 6 _ (by decide)).trans ((eval_other _ 55 6 _ (by decide)).trans ((eval_other _ 54 6 _ (by decide)).trans ((eval_other _ 53 6 _ (by decide)).trans ((eval_other _ 52 6 _ (by decide)).trans ((eval_other _ 51 6 _ (by decide)).trans ((eval_other _ 50 6 _ (by decide)).trans ((eval_other _ 49 6 _ (by decide)).trans ((eval_other _ 48 6 _ (by decide)).trans ((eval_other _ 47 6 _ (by decide)).trans ((eval_other _ 46 6 _ (by decide)).trans base6))))))))))))))))) w') ?_
                refine met_free po18 d18 (w_false gd18 po16 d16 ((eval_other _ 63 62 _ (by decide)).trans (eval_same _ _ _ (by simp only [put_size, hsz]; decide)))) (fun w' _ => r_rem (k := 9) q18 (fun _ => rfl) (eval_same _ _ _ (by simp only [put_size, hsz]; decide)) (by omega) (by omega) w') ?_
                refine met_free po19 d19 (w_false gd19 po16 d16 ((eval_other _ 64 62 _ (by decide)).trans ((eval_other _ 63 62 _ (by decide)).trans (eval_same _ _ _ (by simp only [put_size, hsz]; decide))))) (fun w' _ => (r_eql0 q19 (fun _ => rfl) (eval_same _ _ _ (by simp only [put_size, hsz]; decide)) w').trans (by rw [HD9.out])) ?_
                refine met_free po20 d20 (w_false gd20 po16 d16 ((eval_other _ 65 62 _ (by decide)).trans ((eval_other _ 64 62 _ (by decide)).trans ((eval_other _ 63 62 _ (by decide)).trans (eval_same _ _ _ (by simp only [put_size, hsz]; decide)))))) (fun w' _ => run_move q20 (eval_same _ _ _ (by simp only [put_size, hsz]; decide)) w') ?_
                refine m_unwanted po21 d21 (w_not gd21 po20 d20 (eval_same _ _ _ (by simp only [put_size, hsz]; decide))) ?_
                refine m_unwanted po22 d22 (w_not gd22 po20 d20 ((eval_other _ 67 66 _ (by decide)).trans (eval_same _ _ _ (by simp only [put_size, hsz]; decide)))) ?_
                refine m_unwanted po23 d23 (w_not gd23 po20 d20 ((eval_other _ 68 66 _ (by decide)).trans ((eval_other _ 67 66 _ (by decide)).trans (eval_same _ _ _ (by simp only [put_size, hsz]; decide))))) ?_
                refine m_unwanted po24 d24 (w_not gd24 po20 d20 ((eval_other _ 69 66 _ (by decide)).trans ((eval_other _ 68 66 _ (by decide)).trans ((eval_other _ 67 66 _ (by decide)).trans (eval_same _ _ _ (by simp only [put_size, hsz]; decide)))))) ?_
                refine m_skipped po25 d25 (w_not gd25 po20 d20 ((eval_other _ 70 66 _ (by decide)).trans ((eval_other _ 69 66 _ (by decide)).trans ((eval_other _ 68 66 _ (by decide)).trans ((eval_other _ 67 66 _ (by decide)).trans (eval_same _ _ _ (by simp only [put_size, hsz]; decide))))))) ⟨trivial, ?_⟩
                refine m_unwanted po26 d26 (w_not gd26 po20 d20 ((eval_other _ 71 66 _ (by decide)).trans ((eval_other _ 70 66 _ (by decide)).trans ((eval_other _ 69 66 _ (by decide)).trans ((eval_other _ 68 66 _ (by decide)).trans ((eval_other _ 67 66 _ (by decide)).trans (eval_same _ _ _ (by simp only [put_size, hsz]; decide)))))))) ?_
                refine met_free po27 d27 (w_false gd27 po16 d16 ((eval_other _ 72 62 _ (by decide)).trans ((eval_other _ 71 62 _ (by decide)).trans ((eval_other _ 70 62 _ (by decide)).trans ((eval_other _ 69 62 _ (by decide)).trans ((eval_other _ 68 62 _ (by decide)).trans ((eval_other _ 67 62 _ (by decide)).trans ((eval_other _ 66 62 _ (by decide)).trans ((eval_other _ 65 62 _ (by decide)).trans ((eval_other _ 64 62 _ (by decide)).trans ((eval_other _ 63 62 _ (by decide)).trans (eval_same _ _ _ (by simp only [put_size, hsz]; decide))))))))))))) (fun w' _ => r_pickF q27 ((eval_other _ 72 66 _ (by decide)).trans ((eval_other _ 71 66 _ (by decide)).trans ((eval_other _ 70 66 _ (by decide)).trans ((eval_other _ 69 66 _ (by decide)).trans ((eval_other _ 68 66 _ (by decide)).trans ((eval_other _ 67 66 _ (by decide)).trans (eval_same _ _ _ (by simp only [put_size, hsz]; decide)))))))) rfl w') ?_
                refine met_free po28 d28 (wanted_of gd28) (fun w' _ => r_pickF q28 ((eval_other _ 73 62 _ (by decide)).trans ((eval_other _ 72 62 _ (by decide)).trans ((eval_other _ 71 62 _ (by decide)).trans ((eval_other _ 70 62 _ (by decide)).trans ((eval_other _ 69 62 _ (by decide)).trans ((eval_other _ 68 62 _ (by decide)).trans ((eval_other _ 67 62 _ (by decide)).trans ((eval_other _ 66 62 _ (by decide)).trans ((eval_other _ 65 62 _ (by decide)).trans ((eval_other _ 64 62 _ (by decide)).trans ((eval_other _ 63 62 _ (by decide)).trans (eval_same _ _ _ (by simp only [put_size, hsz]; decide))))))))))))) (eval_same _ _ _ (by simp only [put_size, hsz]; decide)) w') ?_
                show NoPanic _ .normal _ _
                refine NoPanic.normal ?_
                rw [HAA.out]
                go_frame
                clear HAA
                go_wp2_with fail
                go_roundw
                case rel => exact ⟨n + 1, by omega, by go_num, HBc.out⟩
                case measure => simp [intOf]; omega
            · have HDL : Hid (∀ s, (digestOf s).length = 32) := digestOf_length
              have HZS : Hid (∀ l : List (BitVec 8), l.length = 32 → (#[Value.int .u8 0, Value.int .u8 0, Value.int .u8 0, Value.int .u8 0, Value.int .u8 0, Value.int .u8 0, Value.int .u8 0, Value.int .u8 0, Value.int .u8 0, Value.int .u8 0, Value.int .u8 0, Value.int .u8 0, Value.int .u8 0, Value.int .u8 0, Value.int .u8 0, Value.int .u8 0, Value.int .u8 0, Value.int .u8 0, Value.int .u8 0, Value.int .u8 0, Value.int .u8 0, Value.int .u8 0, Value.int .u8 0, Value.int .u8 0, Value.int .u8 0, Value.int .u8 0, Value.int .u8 0, Value.int .u8 0, Value.int .u8 0, Value.int .u8 0, Value.int .u8 0, Value.int .u8 0] : Array Value).size = (bytesV l).toArray.size) := show ∀ l : List (BitVec 8), _ → _ = _ from fun l h => by rw [bytesV_size _ 32 h]; rfl
              have HIS := Lib.hid infoSum
              have HE0 := Lib.hid sha_empty
              have HE1 := Lib.hid sha_56
              go_wp2_with fail
              refine (law_0 wr).mono ?_
              rintro e wa ⟨rfl, hba⟩
              have HBa := Lib.hid (HB6.out.trans (hba.mono HB6.out.size))
              clear hba HB6
              go_upto_region 22 with (refine wpList_store_new rfl 33 (.tmp 8) (.tmp 76) rfl wa.heap.size rfl (bytesV (digestOf st0)).toArray rfl rfl (HIS.out _ (HDL.out _)) (HZS.out _ (HDL.out _)) (bytesV_one _) ?_; intro wb hb bb; have HN8 := Lib.hid (show BytesAt wb wa.heap.size 33 (digestOf st0) from hb); have HBb := Lib.hid (HBa.out.trans (bb.mono HBa.out.size)); clear hb bb)
              rw [putN]
              clear HBa
              generalize wa.heap.size = G8 at HN8 ⊢
              go_wp2_with fail
              refine (law_1 wb).mono ?_
              rintro e wc ⟨rfl, hbc⟩
              have HNc := Lib.hid (HN8.out.keep hbc)
              have HBc := Lib.hid (HBb.out.trans (hbc.mono HBb.out.size))
              clear hbc HN8 HBb
              go_upto_region 23 with (refine wpList_store_new rfl 33 (.tmp 9) (.tmp 78) rfl wc.heap.size rfl (bytesV (digestOf st1)).toArray rfl rfl (HIS.out _ (HDL.out _)) (HZS.out _ (HDL.out _)) (bytesV_one _) ?_; intro wd hd bd; have HN9 := Lib.hid (show BytesAt wd wc.heap.size 33 (digestOf st1) from hd); have HBd := Lib.hid (HBc.out.trans (bd.mono HBc.out.size)); have HNd := Lib.hid (HNc.out.keep bd); clear hd bd)
              rw [putN]
              clear HBc HNc
              generalize wc.heap.size = G9 at HN9 ⊢
              have HSD : Hid (TwoS w G8 G9 wd.drew) := show TwoS _ _ _ _ from TwoS.on ⟨HNd.out, HN9.out, HBd.out⟩ ((Below.refl _ _).drew)
              have HCo : Hid (∀ wx : World, Below w.heap.size w wx → Consts wx) := show ∀ wx : World, _ → _ from fun wx h => HK.out.below h hs1
              have HSt : Hid (∀ wx : World, Below w.heap.size w wx → Starts wx) := show ∀ wx : World, _ → _ from fun wx h => HS.out.below h (by omega)
              clear HNd HN9 HBd
              refine region_phase (TwoS w G8 G9) (fun _ => True) 0 HSD.out trivial [(1, .free), (0, .behind), (2, .free), (3, .free), (6, .free), (4, .behind), (5, .behind), (7, .free), (8, .free), (9, .free), (13, .free), (10, .behind), (11, .behind), (12, .behind), (14, .free), (15, .free), (16, .free), (17, .behind), (18, .free), (19, .free)] (by kernel_rfl) (by kernel_rfl) (by kernel_rfl) (by kernel_rfl) (fun ops hops A2 hA => ?_)
              have hsz : A2.tmps.size = 98 := by rw [hA]; rfl
              have base8 : A2.eval (.tmp 8) = .pointer (some ⟨G8, 0, none⟩) := by rw [hA]; rfl
              have base9 : A2.eval (.tmp 9) = .pointer (some ⟨G9, 0, none⟩) := by rw [hA]; rfl
              have HAA := Lib.hid hA; clear hA
              obtain ⟨o0, po0, q0, d0, gd0⟩ : ∃ o, ops[0]? = some o ∧ o.op = .call { callee := .value (.func 13), args := #[.const (.slice none 0 0)], argTypes := #[26] } ∧ o.dst = some 79 ∧ o.guard = none := ⟨_, by rw [hops]; rfl, rfl, rfl, rfl⟩
              obtain ⟨o1, po1, q1, d1, gd1⟩ : ∃ o, ops[1]? = some o ∧ o.op = .load 33 (.tmp 8) ∧ o.dst = some 80 ∧ o.guard = none := ⟨_, by rw [hops]; rfl, rfl, rfl, rfl⟩
              obtain ⟨o2, po2, q2, d2, gd2⟩ : ∃ o, ops[2]? = some o ∧ o.op = .binOp .eql 33 (.tmp 79) (.tmp 80) 33 ∧ o.dst = some 81 ∧ o.guard = none := ⟨_, by rw [hops]; rfl, rfl, rfl, rfl⟩
              obtain ⟨o3, po3, q3, d3, gd3⟩ : ∃ o, ops[3]? = some o ∧ o.op = .move (.tmp 81) ∧ o.dst = some 82 ∧ o.guard = none := ⟨_, by rw [hops]; rfl, rfl, rfl, rfl⟩
              obtain ⟨o4, po4, q4, d4, gd4⟩ : ∃ o, ops[4]? = some o ∧ o.op = .call { callee := .value (.func 14), args := #[], argTypes := #[] } ∧ o.dst = some 83 ∧ o.guard = some (3, true) := ⟨_, by rw [hops]; rfl, rfl, rfl, rfl⟩
              obtain ⟨o5, po5, q5, d5, gd5⟩ : ∃ o, ops[5]? = some o ∧ o.op = .call { callee := .value (.func 15), args := #[.tmp 83], argTypes := #[37] } ∧ o.dst = some 84 ∧ o.guard = some (3, true) := ⟨_, by rw [hops]; rfl, rfl, rfl, rfl⟩
              obtain ⟨o6, po6, q6, d6, gd6⟩ : ∃ o, ops[6]? = some o ∧ o.op = .load 33 (.tmp 8) ∧ o.dst = some 85 ∧ o.guard = some (3, true) := ⟨_, by rw [hops]; rfl, rfl, rfl, rfl⟩
              obtain ⟨o7, po7, q7, d7, gd7⟩ : ∃ o, ops[7]? = some o ∧ o.op = .binOp .eql 33 (.tmp 84) (.tmp 85) 33 ∧ o.dst = some 86 ∧ o.guard = some (3, true) := ⟨_, by rw [hops]; rfl, rfl, rfl, rfl⟩
              obtain ⟨o8, po8, q8, d8, gd8⟩ : ∃ o, ops[8]? = some o ∧ o.op = .pick (.tmp 82) (.tmp 86) (.const (.bool false)) ∧ o.dst = some 87 ∧ o.guard = none := ⟨_, by rw [hops]; rfl, rfl, rfl, rfl⟩
              obtain ⟨o9, po9, q9, d9, gd9⟩ : ∃ o, ops[9]? = some o ∧ o.op = .move (.tmp 87) ∧ o.dst = some 88 ∧ o.guard = none := ⟨_, by rw [hops]; rfl, rfl, rfl, rfl⟩
              obtain ⟨o10, po10, q10, d10, gd10⟩ : ∃ o, ops[10]? = some o ∧ o.op = .buildSlice 26 56 #[(0, (.const (.int .u8 97))), (1, (.const (.int .u8 98))), (2, (.const (.int .u8 99))), (3, (.const (.int .u8 100))), (4, (.const (.int .u8 98))), (5, (.const (.int .u8 99))), (6, (.const (.int .u8 100))), (7, (.const (.int .u8 101))), (8, (.const (.int .u8 99))), (9, (.const (.int .u8 100))), (10, (.const (.int .u8 101))), (11, (.const (.int .u8 102))), (12, (.const (.int .u8 100))), (13, (.const (.int .u8 101))), (14, (.const (.int .u8 102))), (15, (.const (.int .u8 103))), (16, (.const (.int .u8 101))), (17, (.const (.int .u8 102))), (18, (.const (.int .u8 103))), (19, (.const (.int .u8 104))), (20, (.const (.int .u8 102))), (21, (.const (.int .u8 103))), (22, (.const (.int .u8 104))), (23, (.const (.int .u8 105))), (24, (.const (.int .u8 103))), (25, (.const (.int .u8 104))), (26, (.const (.int .u8 105))), (27, (.const (.int .u8 106))), (28, (.const (.int .u8 104))), (29, (.const (.int .u8 105))), (30, (.const (.int .u8 106))), (31, (.const (.int .u8 107))), (32, (.const (.int .u8 105))), (33, (.const (.int .u8 106))), (34, (.const (.int .u8 107))), (35, (.const (.int .u8 108))), (36, (.const (.int .u8 106))), (37, (.const (.int .u8 107))), (38, (.const (.int .u8 108))), (39, (.const (.int .u8 109))), (40, (.const (.int .u8 107))), (41, (.const (.int .u8 108))), (42, (.const (.int .u8 109))), (43, (.const (.int .u8 110))), (44, (.const (.int .u8 108))), (45, (.const (.int .u8 109))), (46, (.const (.int .u8 110))), (47, (.const (.int .u8 111))), (48, (.const (.int .u8 109))), (49, (.const (.int .u8 110))), (50, (.const (.int .u8 111))), (51, (.const (.int .u8 112))), (52, (.const (.int .u8 110))), (53, (.const (.int .u8 111))), (54, (.const (.int .u8 112))), (55, (.const (.int .u8 113)))] ∧ o.dst = some 89 ∧ o.guard = some (9, true) := ⟨_, by rw [hops]; rfl, rfl, rfl, rfl⟩
              obtain ⟨o11, po11, q11, d11, gd11⟩ : ∃ o, ops[11]? = some o ∧ o.op = .convert 26 26 (.tmp 89) ∧ o.dst = some 90 ∧ o.guard = some (9, true) := ⟨_, by rw [hops]; rfl, rfl, rfl, rfl⟩
              obtain ⟨o12, po12, q12, d12, gd12⟩ : ∃ o, ops[12]? = some o ∧ o.op = .call { callee := .value (.func 13), args := #[.tmp 90], argTypes := #[26] } ∧ o.dst = some 91 ∧ o.guard = some (9, true) := ⟨_, by rw [hops]; rfl, rfl, rfl, rfl⟩
              obtain ⟨o13, po13, q13, d13, gd13⟩ : ∃ o, ops[13]? = some o ∧ o.op = .load 33 (.tmp 9) ∧ o.dst = some 92 ∧ o.guard = some (9, true) := ⟨_, by rw [hops]; rfl, rfl, rfl, rfl⟩
              obtain ⟨o14, po14, q14, d14, gd14⟩ : ∃ o, ops[14]? = some o ∧ o.op = .binOp .eql 33 (.tmp 91) (.tmp 92) 33 ∧ o.dst = some 93 ∧ o.guard = some (9, true) := ⟨_, by rw [hops]; rfl, rfl, rfl, rfl⟩
              obtain ⟨o15, po15, q15, d15, gd15⟩ : ∃ o, ops[15]? = some o ∧ o.op = .pick (.tmp 88) (.tmp 93) (.const (.bool false)) ∧ o.dst = some 94 ∧ o.guard = none := ⟨_, by rw [hops]; rfl, rfl, rfl, rfl⟩
              obtain ⟨o16, po16, q16, d16, gd16⟩ : ∃ o, ops[16]? = some o ∧ o.op = .move (.tmp 94) ∧ o.dst = some 95 ∧ o.guard = none := ⟨_, by rw [hops]; rfl, rfl, rfl, rfl⟩
              obtain ⟨o17, po17, q17, d17, gd17⟩ : ∃ o, ops[17]? = some o ∧ o.op = .call { callee := .value (.func 16), args := #[], argTypes := #[] } ∧ o.dst = some 96 ∧ o.guard = some (16, true) := ⟨_, by rw [hops]; rfl, rfl, rfl, rfl⟩
              obtain ⟨o18, po18, q18, d18, gd18⟩ : ∃ o, ops[18]? = some o ∧ o.op = .pick (.tmp 95) (.tmp 96) (.const (.bool false)) ∧ o.dst = some 97 ∧ o.guard = none := ⟨_, by rw [hops]; rfl, rfl, rfl, rfl⟩
              obtain ⟨o19, po19, q19, d19, gd19⟩ : ∃ o, ops[19]? = some o ∧ o.op = .assign (.tmp 97) ∧ o.dst = some 0 ∧ o.guard = none := ⟨_, by rw [hops]; rfl, rfl, rfl, rfl⟩
              clear hops
              refine met_free po1 d1 (wanted_of gd1) (fun w' h' => run_load_sum q1 base8 (HDL.out _) (range_bytesV h'.a)) ?_
              refine m_enter po0 d0 (wanted_of gd0) (run_callf1 q0 rfl rfl Tryd.func13 (by kernel_rfl) _) (shaSum_cap [] none 0 _ (Or.inl rfl) (Nat.le_refl _) (by omega) (by simp) (HCo.out _ HSD.out.below) (HSt.out _ HSD.out.below)) ?_
              rintro e x0 ⟨rfl, hb⟩
              have H0 := Lib.hid (HSD.out.on hb); clear hb
              rw [HE0.out]
              refine ⟨_, rfl, H0.out, ?_⟩
              refine met_free po2 d2 (wanted_of gd2) (fun w' _ => run_eql_sum q2 (HDL.out _) (eval_same _ _ _ (by simp only [put_size, hsz]; decide)) ((eval_other _ 79 80 _ (by decide)).trans (eval_same _ _ _ (by rw [hsz]; decide))) w') ?_
              refine met_free po3 d3 (wanted_of gd3) (fun w' _ => run_move q3 (eval_same _ _ _ (by simp only [put_size, hsz]; decide)) w') ?_
              refine met_free po6 d6 (wanted_guard gd6 po3 d3 (eval_same _ _ _ (by simp only [put_size, hsz]; decide))) (fun w' h' => run_load_sum q6 ((eval_other _ 82 8 _ (by decide)).trans ((eval_other _ 81 8 _ (by decide)).trans ((eval_other _ 79 8 _ (by decide)).trans ((eval_other _ 80 8 _ (by decide)).trans base8)))) (HDL.out _) (range_bytesV h'.a)) ?_
              refine m_enter po4 d4 (wanted_guard gd4 po3 d3 ((eval_other _ 85 82 _ (by decide)).trans (eval_same _ _ _ (by simp only [put_size, hsz]; decide)))) (run_callf0 q4 rfl Tryd.func14 (by kernel_rfl) _) (new_any _ (HSt.out _ H0.out.below)) ?_
              rintro e x4 ⟨rfl, hh, hb⟩
              have H4 := Lib.hid (H0.out.on hb); have HH := Lib.hid hh; clear hb hh
              refine ⟨_, rfl, H4.out, ?_⟩
              refine m_enter po5 d5 (wanted_guard gd5 po3 d3 ((eval_other _ 83 82 _ (by decide)).trans ((eval_other _ 85 82 _ (by decide)).trans (eval_same _ _ _ (by simp only [put_size, hsz]; decide))))) (run_callf1 q5 rfl (eval_same _ _ _ (by simp only [put_size, hsz]; decide)) Tryd.func15 (by kernel_rfl) _) (sum_fresh _ _ HH.out (HCo.out _ H4.out.below)) ?_
              rintro e x5 ⟨rfl, hb⟩
              have H5 := Lib.hid (H4.out.on hb); clear hb
              rw [HE0.out]
              refine ⟨_, rfl, H5.out, ?_⟩
              refine met_free po7 d7 (wanted_guard gd7 po3 d3 ((eval_other _ 84 82 _ (by decide)).trans ((eval_other _ 83 82 _ (by decide)).trans ((eval_other _ 85 82 _ (by decide)).trans (eval_same _ _ _ (by simp only [put_size, hsz]; decide)))))) (fun w' _ => run_eql_sum q7 (HDL.out _) (eval_same _ _ _ (by simp only [put_size, hsz]; decide)) ((eval_other _ 84 85 _ (by decide)).trans ((eval_other _ 83 85 _ (by decide)).trans (eval_same _ _ _ (by simp only [put_size, hsz]; decide)))) w') ?_
              refine met_free po8 d8 (wanted_of gd8) (fun w' _ => run_pick_true q8 ((eval_other _ 86 82 _ (by decide)).trans ((eval_other _ 84 82 _ (by decide)).trans ((eval_other _ 83 82 _ (by decide)).trans ((eval_other _ 85 82 _ (by decide)).trans (eval_same _ _ _ (by simp only [put_size, hsz]; decide)))))) (eval_same _ _ _ (by simp only [put_size, hsz]; decide)) w') ?_
              refine met_free po9 d9 (wanted_of gd9) (fun w' _ => run_move q9 (eval_same _ _ _ (by simp only [put_size, hsz]; decide)) w') ?_
              refine met_free po13 d13 (wanted_guard gd13 po9 d9 (eval_same _ _ _ (by simp only [put_size, hsz]; decide))) (fun w' h' => run_load_sum q13 ((eval_other _ 88 9 _ (by decide)).trans ((eval_other _ 87 9 _ (by decide)).trans ((eval_other _ 86 9 _ (by decide)).trans ((eval_other _ 84 9 _ (by decide)).trans ((eval_other _ 83 9 _ (by decide)).trans ((eval_other _ 85 9 _ (by decide)).trans ((eval_other _ 82 9 _ (by decide)).trans ((eval_other _ 81 9 _ (by decide)).trans ((eval_other _ 79 9 _ (by decide)).trans ((eval_other _ 80 9 _ (by decide)).trans base9)))))))))) (HDL.out _) (range_bytesV h'.b)) ?_
              refine m_value po10 d10 (wanted_guard gd10 po9 d9 ((eval_other _ 92 88 _ (by decide)).trans (eval_same _ _ _ (by simp only [put_size, hsz]; decide)))) (run_56 q10 (fun _ => rfl) _) ?_
              have H10 := Lib.hid (H5.out.on ((Below.refl _ _).alloc (Nat.le_refl _) (.cells (bytesV msg56).toArray 5)))
              refine ⟨H10.out, ?_⟩
              refine m_value po11 d11 (wanted_guard gd11 po9 d9 ((eval_other _ 89 88 _ (by decide)).trans ((eval_other _ 92 88 _ (by decide)).trans (eval_same _ _ _ (by simp only [put_size, hsz]; decide))))) (run_conv q11 (bytesV msg56).toArray 56 56 x5 (eval_same _ _ _ (by simp only [put_size, hsz]; decide))) ?_
              have H11 := Lib.hid (H5.out.on ((Below.refl _ _).alloc (Nat.le_refl _) (.cells (bytesV msg56).toArray 5 ((bytesV msg56).toArray.size, (bytesV msg56).toArray.size + 1))))
              have HLM : Hid (Lies (x5.alloc (.cells (bytesV msg56).toArray 5 ((bytesV msg56).toArray.size, (bytesV msg56).toArray.size + 1))) (some ⟨x5.heap.size, 0, none⟩) msg56) := show Lies _ _ _ from Or.inr ⟨_, _, rfl, range_bytesV (heap_new_at rfl)⟩
              refine ⟨H11.out, ?_⟩
              refine m_enter po12 d12 (wanted_guard gd12 po9 d9 ((eval_other _ 90 88 _ (by decide)).trans ((eval_other _ 89 88 _ (by decide)).trans ((eval_other _ 92 88 _ (by decide)).trans (eval_same _ _ _ (by simp only [put_size, hsz]; decide)))))) (run_callf1 q12 rfl (eval_same _ _ _ (by simp only [put_size, hsz]; decide)) Tryd.func13 (by kernel_rfl) _) (sum_56 _ _ HLM.out (HCo.out _ H11.out.below) (HSt.out _ H11.out.below)) ?_
              rintro e x12 ⟨rfl, hb⟩
              have H12 := Lib.hid (H11.out.on hb); clear hb
              rw [HE1.out]
              refine ⟨_, rfl, H12.out, ?_⟩
              refine met_free po14 d14 (wanted_guard gd14 po9 d9 ((eval_other _ 91 88 _ (by decide)).trans ((eval_other _ 90 88 _ (by decide)).trans ((eval_other _ 89 88 _ (by decide)).trans ((eval_other _ 92 88 _ (by decide)).trans (eval_same _ _ _ (by simp only [put_size, hsz]; decide))))))) (fun w' _ => run_eql_sum q14 (HDL.out _) (eval_same _ _ _ (by simp only [put_size, hsz]; decide)) ((eval_other _ 91 92 _ (by decide)).trans ((eval_other _ 90 92 _ (by decide)).trans ((eval_other _ 89 92 _ (by decide)).trans (eval_same _ _ _ (by simp only [put_size, hsz]; decide))))) w') ?_
              refine met_free po15 d15 (wanted_of gd15) (fun w' _ => run_pick_true q15 ((eval_other _ 93 88 _ (by decide)).trans ((eval_other _ 91 88 _ (by decide)).trans ((eval_other _ 90 88 _ (by decide)).trans ((eval_other _ 89 88 _ (by decide)).trans ((eval_other _ 92 88 _ (by decide)).trans (eval_same _ _ _ (by simp only [put_size, hsz]; decide))))))) (eval_same _ _ _ (by simp only [put_size, hsz]; decide)) w') ?_
              refine met_free po16 d16 (wanted_of gd16) (fun w' _ => run_move q16 (eval_same _ _ _ (by simp only [put_size, hsz]; decide)) w') ?_
              refine m_enter po17 d17 (wanted_guard gd17 po16 d16 (eval_same _ _ _ (by simp only [put_size, hsz]; decide))) (run_callf0 q17 rfl Tryd.func16 (by kernel_rfl) _) (works_any _ (HCo.out _ H12.out.below) (HSt.out _ H12.out.below)) ?_
              rintro e x17 ⟨rfl, hb⟩
              have H17 := Lib.hid (H12.out.on hb); clear hb
              refine ⟨_, rfl, H17.out, ?_⟩
              refine met_free po18 d18 (wanted_of gd18) (fun w' _ => run_pick_true q18 ((eval_other _ 96 95 _ (by decide)).trans (eval_same _ _ _ (by simp only [put_size, hsz]; decide))) (eval_same _ _ _ (by simp only [put_size, hsz]; decide)) w') ?_
              refine met_free po19 d19 (wanted_of gd19) (fun w' _ => run_assign q19 (eval_same _ _ _ (by simp only [put_size, hsz]; decide)) w') ?_
              show NoPanic _ .normal _ _
              refine NoPanic.normal ?_
              rw [HAA.out]
              go_frame
              clear HAA
              go_wp2_with fail
              go_ret
              exact ⟨rfl, H17.out.below⟩
end Go.Proofs.YtgfmjfpafpmghaaDoor
