/-
  The walk of the closed law PolyKnown: it returns true, and nothing that was there changes.
-/
import Derived.Test.YtgfmjfpafpmghaaPoOneTag
import Derived.Test.YtgfmjfpafpmghaaPoGoesLaw
import Derived.Test.YtgfmjfpafpmghaaOwnBytes
import Derived.Test.YtgfmjfpafpmghaaAppendList
namespace Go.Proofs.Ytgfmjfpafpmghaa
open Go.RowKit Go.Proofs.ShaWords
theorem wpList_make_bytes {ops : Array Oper} {rest : List Oper} {o : Oper} {a : Act} {w : World} {Q : Exit → Act → World → Prop} (hg : o.guard = none) (l c : Operand) (hop : o.op = Op.makeSlice 24 l c) (n : Nat) (L : Int)
    (hl : a.eval l = .int .i64 L) (hc : a.eval c = .int .i64 L) (hL : L = (n : Int)) (b2 : n ≤ 281474976710656)
    (hK : ∀ w', BytesAt w' w.heap.size 5 (noughts n) → Below w.heap.size w w' → wpList Try.prog ops Q rest (a.put o.dst (.slice (some ⟨w.heap.size, 0, none⟩) n n)) w') : wpList Try.prog ops Q (o :: rest) a w := by
  obtain ⟨i, hi, hz, hsz, hby⟩ := info5'
  exact wpList_make_any hg l c 24 hop 5 i (.int .u8 0) Try.underlying24 hi hz hsz hby .i64 .i64 L L n n hl hc hL hL (Nat.le_refl _) b2 _ (made_noughts n) hK
theorem wpList_eql_g {ops : Array Oper} {rest : List Oper} {o : Oper} {a : Act} {w : World} {Q : Exit → Act → World → Prop} (hw : Region.wanted o (yielded ops a.tmps) = true) (x y : Operand) (ty : TypeId) (ho : o.op = .binOp .eql 28 x y ty) (l : List (BitVec 8)) (hl : l.length = 16)
    (hx : a.eval x = .agg (bytesV l).toArray) (hy : a.eval y = .agg (bytesV l).toArray) (h : wpList Try.prog ops Q rest (a.put o.dst (.bool true)) w) : wpList Try.prog ops Q (o :: rest) a w := by
  unfold wpList
  rw [if_pos hw]
  refine .inl ?_
  unfold Oper.wp
  rw [run_eql_tag ho hl hx hy w, Oper.upon_value]
  exact h
def onesK : Nat → List (BitVec 8)
  | 0 => noughts 16
  | k + 1 => (onesK k).set k 255#8
theorem onesK_succ (k : Nat) : onesK (k + 1) = (onesK k).set k 255#8 := rfl
theorem onesK_length (k : Nat) : (onesK k).length = 16 := by
  induction k with
  | zero => rfl
  | succ k ih => rw [onesK_succ, List.length_set, ih]
def ones16 : List (BitVec 8) := List.replicate 16 255#8
theorem onesK_full : onesK 16 = ones16 := by decide
def head16 (x : BitVec 8) : List (BitVec 8) := x :: List.replicate 15 0#8
def nearB : List (BitVec 8) := (ones16 ++ ones16).set 16 240#8
theorem known_a : polyTag (head16 2#8 ++ zeros16) ones16 = head16 3#8 := by decide +kernel
theorem known_b : polyTag (head16 2#8 ++ ones16) (head16 2#8) = head16 3#8 := by decide +kernel
theorem known_c : polyTag (head16 1#8 ++ zeros16) (nearB ++ head16 17#8) = head16 5#8 := by decide +kernel
theorem known_d : polyTag zeros32 ones16 = zeros16 := by decide +kernel
theorem head2_eq : (bytesV (head16 2#8)).toArray = #[Value.int .u8 2, Value.int .u8 0, Value.int .u8 0, Value.int .u8 0, Value.int .u8 0, Value.int .u8 0, Value.int .u8 0, Value.int .u8 0, Value.int .u8 0, Value.int .u8 0, Value.int .u8 0, Value.int .u8 0, Value.int .u8 0, Value.int .u8 0, Value.int .u8 0, Value.int .u8 0] := rfl
theorem head1_eq : (bytesV (head16 1#8)).toArray = #[Value.int .u8 1, Value.int .u8 0, Value.int .u8 0, Value.int .u8 0, Value.int .u8 0, Value.int .u8 0, Value.int .u8 0, Value.int .u8 0, Value.int .u8 0, Value.int .u8 0, Value.int .u8 0, Value.int .u8 0, Value.int .u8 0, Value.int .u8 0, Value.int .u8 0, Value.int .u8 0] := rfl
theorem head3_eq : (bytesV (head16 3#8)).toArray = #[Value.int .u8 3, Value.int .u8 0, Value.int .u8 0, Value.int .u8 0, Value.int .u8 0, Value.int .u8 0, Value.int .u8 0, Value.int .u8 0, Value.int .u8 0, Value.int .u8 0, Value.int .u8 0, Value.int .u8 0, Value.int .u8 0, Value.int .u8 0, Value.int .u8 0, Value.int .u8 0] := rfl
theorem head5_eq : (bytesV (head16 5#8)).toArray = #[Value.int .u8 5, Value.int .u8 0, Value.int .u8 0, Value.int .u8 0, Value.int .u8 0, Value.int .u8 0, Value.int .u8 0, Value.int .u8 0, Value.int .u8 0, Value.int .u8 0, Value.int .u8 0, Value.int .u8 0, Value.int .u8 0, Value.int .u8 0, Value.int .u8 0, Value.int .u8 0] := rfl
theorem with_a (w : World) : Calls Try.prog 14 #[.agg #[Value.int .u8 2, Value.int .u8 0, Value.int .u8 0, Value.int .u8 0, Value.int .u8 0, Value.int .u8 0, Value.int .u8 0, Value.int .u8 0, Value.int .u8 0, Value.int .u8 0, Value.int .u8 0, Value.int .u8 0, Value.int .u8 0, Value.int .u8 0, Value.int .u8 0, Value.int .u8 0], .agg #[Value.int .u8 0, Value.int .u8 0, Value.int .u8 0, Value.int .u8 0, Value.int .u8 0, Value.int .u8 0, Value.int .u8 0, Value.int .u8 0, Value.int .u8 0, Value.int .u8 0, Value.int .u8 0, Value.int .u8 0, Value.int .u8 0, Value.int .u8 0, Value.int .u8 0, Value.int .u8 0]] w fun e w' => e = .returned (.agg (bytesV (head16 2#8 ++ zeros16)).toArray) ∧ Below w.heap.size w w' := by
  rw [← head2_eq, ← zeros16_eq]
  exact with_any (head16 2#8) zeros16 w rfl rfl
theorem with_b (s : List (BitVec 8)) (w : World) (hs : s.length = 16) : Calls Try.prog 14 #[.agg #[Value.int .u8 2, Value.int .u8 0, Value.int .u8 0, Value.int .u8 0, Value.int .u8 0, Value.int .u8 0, Value.int .u8 0, Value.int .u8 0, Value.int .u8 0, Value.int .u8 0, Value.int .u8 0, Value.int .u8 0, Value.int .u8 0, Value.int .u8 0, Value.int .u8 0, Value.int .u8 0], .agg (bytesV s).toArray] w fun e w' => e = .returned (.agg (bytesV (head16 2#8 ++ s)).toArray) ∧ Below w.heap.size w w' := by
  rw [← head2_eq]
  exact with_any (head16 2#8) s w rfl hs
theorem with_c (w : World) : Calls Try.prog 14 #[.agg #[Value.int .u8 1, Value.int .u8 0, Value.int .u8 0, Value.int .u8 0, Value.int .u8 0, Value.int .u8 0, Value.int .u8 0, Value.int .u8 0, Value.int .u8 0, Value.int .u8 0, Value.int .u8 0, Value.int .u8 0, Value.int .u8 0, Value.int .u8 0, Value.int .u8 0, Value.int .u8 0], .agg #[Value.int .u8 0, Value.int .u8 0, Value.int .u8 0, Value.int .u8 0, Value.int .u8 0, Value.int .u8 0, Value.int .u8 0, Value.int .u8 0, Value.int .u8 0, Value.int .u8 0, Value.int .u8 0, Value.int .u8 0, Value.int .u8 0, Value.int .u8 0, Value.int .u8 0, Value.int .u8 0]] w fun e w' => e = .returned (.agg (bytesV (head16 1#8 ++ zeros16)).toArray) ∧ Below w.heap.size w w' := by
  rw [← head1_eq, ← zeros16_eq]
  exact with_any (head16 1#8) zeros16 w rfl rfl
theorem sum_none (bs : List (BitVec 8)) (m : Nat) (p : Option Addr) (cap : Nat) (w : World) (hm : bs.length = m) (hc : m ≤ cap) (hcm : cap ≤ 140737488355328) (hL : Lies w p bs) :
    Calls Try.prog 10 #[.agg #[Value.int .u8 0, Value.int .u8 0, Value.int .u8 0, Value.int .u8 0, Value.int .u8 0, Value.int .u8 0, Value.int .u8 0, Value.int .u8 0, Value.int .u8 0, Value.int .u8 0, Value.int .u8 0, Value.int .u8 0, Value.int .u8 0, Value.int .u8 0, Value.int .u8 0, Value.int .u8 0, Value.int .u8 0, Value.int .u8 0, Value.int .u8 0, Value.int .u8 0, Value.int .u8 0, Value.int .u8 0, Value.int .u8 0, Value.int .u8 0, Value.int .u8 0, Value.int .u8 0, Value.int .u8 0, Value.int .u8 0, Value.int .u8 0, Value.int .u8 0, Value.int .u8 0, Value.int .u8 0], .slice p m cap] w fun e w' => e = .returned (.agg (bytesV (polyTag zeros32 bs)).toArray) ∧ Below w.heap.size w w' := by
  rw [← zeros32_eq]
  exact polySum_any zeros32 bs m p cap w rfl hm hc hcm hL
attribute [local irreducible] polyTag zeros16 zeros32 ones16 head16 nearB onesK
set_option maxRecDepth 100000 in
set_option maxHeartbeats 8000000 in
theorem knowns_any (w : World) : Calls Try.prog 7 #[] w fun e w' => e = .returned (.bool true) ∧ Below w.heap.size w w' := by
  have HZL : Hid (zeros16.length = 16) := show _ = _ by unfold zeros16; rfl
  have HOL : Hid (ones16.length = 16) := show _ = _ by unfold ones16; rfl
  have HHL : Hid (∀ x, (head16 x).length = 16) := show ∀ x, _ = _ from fun x => by unfold head16; rfl
  have HNL : Hid (nearB.length = 32) := show _ = _ by unfold nearB ones16; rfl
  have HA := Lib.hid known_a
  have HB := Lib.hid known_b
  have HC := Lib.hid known_c
  have HD := Lib.hid known_d
  have HIT := Lib.hid (fun l h => infoTag l h)
  have HT0 : Hid (∀ l : List (BitVec 8), l.length = 16 → (#[Value.int .u8 0, Value.int .u8 0, Value.int .u8 0, Value.int .u8 0, Value.int .u8 0, Value.int .u8 0, Value.int .u8 0, Value.int .u8 0, Value.int .u8 0, Value.int .u8 0, Value.int .u8 0, Value.int .u8 0, Value.int .u8 0, Value.int .u8 0, Value.int .u8 0, Value.int .u8 0] : Array Value).size = (bytesV l).toArray.size) := show ∀ l : List (BitVec 8), _ → _ = _ from fun l h => by rw [bytesV_size _ 16 h]; rfl
  go_enter Try.func7, Try.ntmps7
  go_wp2_with (at_make; refine wpList_make_bytes rfl _ _ rfl 16 _ rfl rfl rfl (by omega) ?_; intro w1 h1 b1; have HF := Lib.hid (show BytesAt w1 w.heap.size 5 (onesK 0) by unfold onesK; exact h1); have HBF := Lib.hid b1; clear h1 b1)
  go_loopw [2] (fun i wr => ∃ k : Nat, k ≤ 16 ∧ i = .int .i64 (k : Int) ∧ BytesAt wr w.heap.size 5 (onesK k) ∧ Below w.heap.size w wr) (fun i _ => 16 - (intOf i).toNat)
  case atStart => exact ⟨0, by omega, rfl, HF.out, HBF.out⟩
  case round =>
    clear HF HBF
    obtain ⟨k, hk, rfl, hf, hb⟩ := hrel
    by_cases hlt : k < 16
    · have c0 := hf.cell k (by rw [onesK_length]; omega)
      have cf := hf.frozenAt k
      have HS := Lib.hid (onesK_succ k)
      have HF := Lib.hid hf
      have HBF := Lib.hid hb
      clear hf hb
      generalize (onesK k).getD k 0#8 = u at c0
      have q0 : (k : Int) < 16 := by omega
      have q1 : 0 ≤ (k : Int) := by omega
      have q2 : (k : Int).toNat = k := by omega
      go_wp2_with fail
      go_roundw
      case rel =>
        refine ⟨k + 1, by omega, by go_num, ?_, HBF.out.setCell (Nat.le_refl _) _⟩
        rw [HS.out]; exact HF.out.put k 255#8
      case measure => simp [intOf]; omega
    · obtain rfl : k = 16 := by omega
      have e16 := onesK_full
      rw [e16] at hf
      have H0 : Hid (Has w [(w.heap.size, 5, ones16)] wr) := show Has _ _ _ from Has.add (L := []) ⟨hb, fun i g t l e => by cases e⟩ hf (Nat.le_refl _)
      clear hf hb e16
      go_upto_region 7 with (fail)
      refine wp_gen (fun w1 => BytesAt w1 wr.heap.size 28 zeros16 ∧ Below wr.heap.size wr w1) ⟨?_, (Below.refl _ _).alloc (Nat.le_refl _) _⟩ ?_
      · show _ = some (Obj.cells (bytesV zeros16).toArray _ _); rw [zeros16_eq]; exact heap_new_at rfl
      rintro w1 ⟨hz1, hb1⟩
      have HZ1 := Lib.hid hz1
      have HB1 := Lib.hid hb1
      clear hz1 hb1
      have H1 := Lib.hid (H0.out.on HB1.out)
      have HLO := Lib.hid (show Lies w1 (some ⟨w.heap.size, 0, none⟩) ones16 from Or.inr ⟨_, _, rfl, (H1.out.all 0 _ _ _ rfl).1.range⟩)
      go_upto_region 8 with (refine wpList_copy_bytes rfl (.tmp 18) (.tmp 19) rfl wr.heap.size 16 16 28 zeros16 ones16 _ 16 16 rfl rfl HZ1.out HZL.out HLO.out HOL.out (by omega) ?_; intro w2 h2 g2; have HZ2 := Lib.hid h2; have HG2 := Lib.hid g2; clear h2 g2)
      go_frame
      have e2 : splice zeros16 0 ones16 = ones16 := splice_full _ _ (HZL.out.trans HOL.out.symm)
      have hb2 : Below wr.heap.size wr w2 := HB1.out.grown HG2.out HB1.out.size (fun k hk => by cases hk; exact Nat.le_refl _)
      rw [e2] at HZ2
      have H2 : Hid (Has w [(wr.heap.size, 28, ones16), (w.heap.size, 5, ones16)] w2) := show Has _ _ _ from (H0.out.on hb2).add HZ2.out H0.out.below.size
      clear e2 hb2 HZ1 HB1 H1 HLO HZ2 HG2 H0
      generalize wr.heap.size = G3 at H2 ⊢
      go_upto_region 9 with (at_make; refine wpList_make_bytes rfl _ _ rfl 16 _ rfl rfl rfl (by omega) ?_; intro w3 h3 b3; have HF := Lib.hid h3; have HBF := Lib.hid b3; clear h3 b3)
      have c0 := HF.out.cell 0 (by rw [noughts_length]; omega)
      have cf := HF.out.frozenAt 0
      have hgs : w.heap.size ≤ w2.heap.size := H2.out.below.size
      go_upto_region 10 with (fail)
      have H3 : Hid (Has w [(w2.heap.size, 5, head16 2#8), (G3, 28, ones16), (w.heap.size, 5, ones16)] (w3.setCell ⟨w2.heap.size, 0, none⟩ (.int .u8 2))) := show Has _ _ _ from
        (H2.out.on (HBF.out.setCell (Nat.le_refl _) _)).add (by unfold head16; exact HF.out.put 0 2#8) hgs
      clear HF HBF c0 cf H2 hgs
      generalize w3.setCell ⟨w2.heap.size, 0, none⟩ (.int .u8 2) = w4 at H3 ⊢
      generalize w2.heap.size = G4 at H3 ⊢
      go_wp2_with fail
      refine (with_a w4).mono ?_
      rintro e w5 ⟨rfl, hb5⟩
      have H5 := Lib.hid (H3.out.on hb5); clear hb5 H3
      go_wp2_with fail
      refine (polySum_any (head16 2#8 ++ zeros16) ones16 16 _ 16 w5 (by rw [List.length_append, HHL.out, HZL.out]) HOL.out (by omega) (by omega) (Or.inr ⟨_, _, rfl, (H5.out.all 2 _ _ _ rfl).1.range⟩)).mono ?_
      rintro e w6 ⟨rfl, hb6⟩
      rw [HA.out]
      have H6 := Lib.hid (H5.out.on hb6); clear hb6 H5
      go_upto_region 11 with (refine wpList_store_new rfl 28 (.tmp 5) (.tmp 28) rfl w6.heap.size rfl (bytesV (head16 3#8)).toArray rfl rfl (HIT.out _ (HHL.out _)) (HT0.out _ (HHL.out _)) (bytesV_one _) ?_; intro w7 h7 b7; have HN := Lib.hid h7; have HBN := Lib.hid b7; clear h7 b7)
      rw [put_none]
      have H7 : Hid (Has w [(w6.heap.size, 28, head16 3#8), (G4, 5, head16 2#8), (G3, 28, ones16), (w.heap.size, 5, ones16)] w7) := show Has _ _ _ from (H6.out.on HBN.out).add HN.out H6.out.below.size
      clear HN HBN H6
      generalize w6.heap.size = G5 at H7 ⊢
      have HR3 := Lib.hid (show w7.heap[G3]? = some (.cells (bytesV ones16).toArray 28 (0, 0)) from (H7.out.all 2 _ _ _ rfl).1)
      have HIO := Lib.hid (infoTag ones16 HOL.out)
      go_wp2_with (refine wpList_load_row rfl 28 (.tmp 3) rfl G3 rfl 28 _ (0, 0) _ HR3.out Try.underlying28 rfl HIO.out ?_)
      refine (with_b ones16 w7 HOL.out).mono ?_
      rintro e w8 ⟨rfl, hb8⟩
      have H8 := Lib.hid (H7.out.on hb8); clear hb8 H7 HR3
      go_wp2_with fail
      refine (polySum_any (head16 2#8 ++ ones16) (head16 2#8) 16 _ 16 w8 (by rw [List.length_append, HHL.out, HOL.out]) (HHL.out _) (by omega) (by omega) (Or.inr ⟨_, _, rfl, (H8.out.all 1 _ _ _ rfl).1.range⟩)).mono ?_
      rintro e w9 ⟨rfl, hb9⟩
      rw [HB.out]
      have H9 := Lib.hid (H8.out.on hb9); clear hb9 H8
      go_upto_region 12 with (refine wpList_store_new rfl 28 (.tmp 6) (.tmp 33) rfl w9.heap.size rfl (bytesV (head16 3#8)).toArray rfl rfl (HIT.out _ (HHL.out _)) (HT0.out _ (HHL.out _)) (bytesV_one _) ?_; intro wA hA bA; have HN := Lib.hid hA; have HBN := Lib.hid bA; clear hA bA)
      rw [put_none]
      have H10 : Hid (Has w [(w9.heap.size, 28, head16 3#8), (G5, 28, head16 3#8), (w.heap.size, 5, ones16)] wA) := show Has _ _ _ from
        ⟨H9.out.below.trans (HBN.out.mono H9.out.below.size), fun i g t l e => ((H9.out.on HBN.out).add HN.out H9.out.below.size).all (if i = 2 then 4 else i) g t l (by
          match i, e with
          | 0, e => exact e
          | 1, e => exact e
          | 2, e => exact e)⟩
      clear HN HBN H9
      generalize w9.heap.size = G6 at H10 ⊢
      have hcp := copy_any ones16 (some ⟨w.heap.size, 0, none⟩) 16 wA (by rw [HOL.out]; omega) (Or.inr ⟨_, _, rfl, (H10.out.all 2 _ _ _ rfl).1.range⟩)
      rw [HOL.out] at hcp
      have HCP := Lib.hid hcp; clear hcp
      go_wp2_with fail
      refine HCP.out.mono ?_
      rintro e wB ⟨v, rfl, ho, hb⟩
      have HOB := Lib.hid ho
      have HBB := Lib.hid hb
      clear ho hb HCP
      have HLB := Lib.hid (show Lies wB (some ⟨w.heap.size, 0, none⟩) ones16 from Or.inr ⟨_, _, rfl, ((H10.out.on HBB.out).all 2 _ _ _ rfl).1.range⟩)
      have H32 : Hid ((ones16 ++ ones16).length = 32) := show _ = _ by rw [List.length_append, HOL.out]
      go_upto_region 13 with (at_builtin; refine wpList_append_list rfl (.tmp 35) (.tmp 36) rfl wA.heap.size v ones16 ones16 (some ⟨w.heap.size, 0, none⟩) 16 rfl HOB.out (by rw [HOL.out]; rfl) HLB.out (by rw [HOL.out]; omega) HBB.out.size ?_; intro v2 wC ho2 hb2; have HOC := Lib.hid ho2; have HBC := Lib.hid (HBB.out.trans hb2); clear ho2 hb2)
      clear HOB HBB HLB
      obtain ⟨g7, c7, hv2, hg7, hl7, hn7, hm7, hcell, hfroz⟩ := HOC.out.form8 (by rw [H32.out]; omega)
      subst hv2
      rw [H32.out] at HOC hn7 ⊢
      have c16 := hcell 16 (by rw [H32.out]; omega)
      have f16 := hfroz 16
      clear hcell hfroz
      generalize (ones16 ++ ones16).getD 16 0#8 = u at c16
      go_upto_region 14 with (fail)
      have HO7 : Hid (Own wA.heap.size (wC.setCell ⟨g7, 16, none⟩ (.int .u8 240)) nearB (.slice (some ⟨g7, 0, none⟩) 32 c7)) := show Own _ _ _ _ by unfold nearB; exact HOC.out.put 16 240#8
      have HB7 : Hid (Below wA.heap.size wA (wC.setCell ⟨g7, 16, none⟩ (.int .u8 240))) := show Below _ _ _ from HBC.out.setCell hg7 _
      clear HOC HBC c16 f16 hl7
      generalize wC.setCell ⟨g7, 16, none⟩ (.int .u8 240) = wD at HO7 HB7 ⊢
      go_upto_region 15 with (at_make; refine wpList_make_bytes rfl _ _ rfl 16 _ rfl rfl rfl (by omega) ?_; intro w3 h3 b3; have HF := Lib.hid h3; have HBF := Lib.hid b3; clear h3 b3)
      have c0 := HF.out.cell 0 (by rw [noughts_length]; omega)
      have cf := HF.out.frozenAt 0
      go_upto_region 16 with (fail)
      have hbl : Below wD.heap.size wD (w3.setCell ⟨wD.heap.size, 0, none⟩ (.int .u8 17)) := HBF.out.setCell (Nat.le_refl _) _
      have HL8 : Hid (BytesAt (w3.setCell ⟨wD.heap.size, 0, none⟩ (.int .u8 17)) wD.heap.size 5 (head16 17#8)) := show BytesAt _ _ _ _ by unfold head16; exact HF.out.put 0 17#8
      have HO8 := Lib.hid (HO7.out.below hbl)
      have HB8 := Lib.hid (HB7.out.trans (hbl.mono HB7.out.size))
      have hg8 : wA.heap.size ≤ wD.heap.size := HB7.out.size
      clear HF HBF c0 cf hbl HO7 HB7
      generalize w3.setCell ⟨wD.heap.size, 0, none⟩ (.int .u8 17) = wE at HL8 HO8 HB8 ⊢
      generalize wD.heap.size = G8 at HL8 hg8 ⊢
      go_wp2_with fail
      refine (with_c wE).mono ?_
      rintro e wF ⟨rfl, hbF⟩
      have HLF := Lib.hid (show Lies wF (some ⟨G8, 0, none⟩) (head16 17#8) from Or.inr ⟨_, _, rfl, (HL8.out.keep hbF).range⟩)
      have HOF := Lib.hid (HO8.out.below hbF)
      have HBF := Lib.hid (HB8.out.trans (hbF.mono HB8.out.size))
      clear hbF HL8 HO8 HB8
      have H48 : Hid ((nearB ++ head16 17#8).length = 48) := show _ = _ by rw [List.length_append, HNL.out, HHL.out]
      go_wp2_with (at_builtin; refine wpList_append_list rfl (.tmp 46) (.tmp 47) rfl wA.heap.size _ nearB (head16 17#8) (some ⟨G8, 0, none⟩) 16 rfl HOF.out (by rw [HHL.out]; rfl) HLF.out (by rw [HNL.out, HHL.out]; omega) HBF.out.size ?_; intro v3 wG ho3 hb3; obtain ⟨p3, c3, hv3, hc3, hm3, hl3⟩ := ho3.lies; have HLG := Lib.hid hl3; have HBG := Lib.hid (HBF.out.trans hb3); rw [H48.out] at hv3 hc3; subst hv3; clear ho3 hb3 hl3)
      clear HLF HOF HBF
      refine (polySum_wide (head16 1#8 ++ zeros16) (nearB ++ head16 17#8) 48 p3 c3 wG (by rw [List.length_append, HHL.out, HZL.out]) H48.out hc3 (by unfold maxLen at hm3; omega) HLG.out).mono ?_
      rintro e wH ⟨rfl, hbH⟩
      rw [HC.out]
      have HBH := Lib.hid (HBG.out.trans (hbH.mono HBG.out.size)); clear hbH HBG HLG
      go_upto_region 17 with (refine wpList_store_new rfl 28 (.tmp 9) (.tmp 49) rfl wH.heap.size rfl (bytesV (head16 5#8)).toArray rfl rfl (HIT.out _ (HHL.out _)) (HT0.out _ (HHL.out _)) (bytesV_one _) ?_; intro wI hI bI; have HN := Lib.hid hI; have HBN := Lib.hid (HBH.out.trans (bI.mono HBH.out.size)); clear hI bI)
      rw [put_none]
      have H11 : Hid (Has w [(wH.heap.size, 28, head16 5#8), (G6, 28, head16 3#8), (G5, 28, head16 3#8), (w.heap.size, 5, ones16)] wI) := show Has _ _ _ from (H10.out.on HBN.out).add HN.out (Nat.le_trans H10.out.below.size HBH.out.size)
      clear HN HBN HBH H10
      generalize wH.heap.size = G9 at H11 ⊢
      have HR5 := Lib.hid (show wI.heap[G5]? = some (.cells (bytesV (head16 3#8)).toArray 28 (0, 0)) from (H11.out.all 2 _ _ _ rfl).1)
      have HR6 := Lib.hid (show wI.heap[G6]? = some (.cells (bytesV (head16 3#8)).toArray 28 (0, 0)) from (H11.out.all 1 _ _ _ rfl).1)
      have HR9 := Lib.hid (show wI.heap[G9]? = some (.cells (bytesV (head16 5#8)).toArray 28 (0, 0)) from (H11.out.all 0 _ _ _ rfl).1)
      have HI3 := Lib.hid (infoTag (head16 3#8) (HHL.out _))
      have HI5 := Lib.hid (infoTag (head16 5#8) (HHL.out _))
      go_wp2_with (first
        | (refine wpList_load_g (by rfl) 28 (.tmp 5) rfl G5 rfl 28 _ (0, 0) _ HR5.out Try.underlying28 rfl HI3.out ?_)
        | (refine wpList_load_g (by rfl) 28 (.tmp 6) rfl G6 rfl 28 _ (0, 0) _ HR6.out Try.underlying28 rfl HI3.out ?_)
        | (refine wpList_load_g (by rfl) 28 (.tmp 9) rfl G9 rfl 28 _ (0, 0) _ HR9.out Try.underlying28 rfl HI5.out ?_)
        | (refine wpList_eql_g (by rfl) (.tmp 50) (.tmp 51) 28 rfl (head16 3#8) (HHL.out _) rfl (by rw [head3_eq]; rfl) ?_)
        | (refine wpList_eql_g (by rfl) (.tmp 54) (.tmp 55) 28 rfl (head16 3#8) (HHL.out _) rfl (by rw [head3_eq]; rfl) ?_)
        | (refine wpList_eql_g (by rfl) (.tmp 59) (.tmp 60) 28 rfl (head16 5#8) (HHL.out _) rfl (by rw [head5_eq]; rfl) ?_))
      refine (sum_none ones16 16 _ 16 wI HOL.out (by omega) (by omega) (Or.inr ⟨_, _, rfl, (H11.out.all 3 _ _ _ rfl).1.range⟩)).mono ?_
      rintro e wJ ⟨rfl, hbJ⟩
      rw [HD.out]
      have HBJ := Lib.hid (H11.out.on hbJ).below; clear hbJ H11 HR5 HR6 HR9
      go_wp2_with (refine wpList_eql_g (by rfl) (.tmp 66) (.tmp 67) 28 rfl zeros16 HZL.out rfl (by rw [zeros16_eq]; rfl) ?_)
      refine (known_any wJ).mono ?_
      rintro e wK ⟨rfl, hbK⟩
      have HBK := Lib.hid (HBJ.out.trans (hbK.mono HBJ.out.size)); clear hbK HBJ
      go_wp2_with fail
      go_ret
      exact ⟨rfl, HBK.out⟩
end Go.Proofs.Ytgfmjfpafpmghaa
