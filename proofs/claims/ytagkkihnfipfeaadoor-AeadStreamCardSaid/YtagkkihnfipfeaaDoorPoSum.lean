/-
  The contract of poly.Sum: for any key and any bytes; nothing that was there changes.
-/
import Derived.Test.YtagkkihnfipfeaaDoorPoOps
import Derived.Test.YtagkkihnfipfeaaDoorPoCleared
import Derived.Test.YtagkkihnfipfeaaDoorPoReduced
import Derived.Test.YtagkkihnfipfeaaDoorPoProduct
import Derived.Test.YtagkkihnfipfeaaDoorPoBytesOf
import Derived.Test.YtagkkihnfipfeaaDoorCcBlock
namespace Go.Proofs.YtagkkihnfipfeaaDoor
open Go.RowKit Go.Proofs.ShaWords
set_option maxRecDepth 20000 in
theorem run_min16 {ρ : Operand → Value} {o : Oper} {x : Operand} {n k : Nat} (ho : o.op = .call { callee := .builtin .min, args := #[x, .const (.int .i64 16)], argTypes := #[3, 3] }) (h0 : ρ (.const (.int .i64 16)) = .int .i64 16) (hx : ρ x = .int .i64 (n : Int)) (hk : k = min n 16) (w : World) :
    (execOp ρ o).run Tryd.prog w = .ok (.value (.int .i64 (k : Int))) w := by
  obtain ⟨dst, op, ty', pos, after, guard⟩ := o
  simp only at ho
  subst ho
  by_cases h : 16 < n
  · have q : (16 : Int) < (n : Int) := by omega
    obtain rfl : k = 16 := by omega
    clear hk h
    go_simp
  · have q : ¬ (16 : Int) < (n : Int) := by omega
    obtain rfl : k = n := by omega
    clear hk h
    go_simp
theorem wpList_min16 {ops : Array Oper} {rest : List Oper} {o : Oper} {a : Act} {w : World} {Q : Exit → Act → World → Prop} (hg : o.guard = none) (x : Operand) (ho : o.op = .call { callee := .builtin .min, args := #[x, .const (.int .i64 16)], argTypes := #[3, 3] }) (n k : Nat)
    (hx : a.eval x = .int .i64 (n : Int)) (hk : k = min n 16) (h : wpList Tryd.prog ops Q rest (a.put o.dst (.int .i64 (k : Int))) w) : wpList Tryd.prog ops Q (o :: rest) a w := by
  refine wpList_plain hg fun K hK => ?_
  unfold Oper.wp
  rw [run_min16 ho rfl hx hk w, Oper.upon_value]
  exact hK _ _ h
/-- A block's number taken in. -/
def accStep (rr acc : List (BitVec 64)) (blk : List (BitVec 8)) : List (BitVec 64) := redOf (mulL (addL acc (numOf (blk ++ [1#8])) 5) rr 5)
/-- The first j blocks taken in. -/
def accK (rr : List (BitVec 64)) (bs : List (BitVec 8)) : Nat → List (BitVec 64)
  | 0 => nought5
  | j + 1 => accStep rr (accK rr bs j) ((bs.drop (16 * j)).take 16)
theorem accStep_length (rr acc : List (BitVec 64)) (blk : List (BitVec 8)) : (accStep rr acc blk).length = 5 := redOf_length _ (mulL_length _ _ _)
theorem accK_length (rr : List (BitVec 64)) (bs : List (BitVec 8)) (j : Nat) : (accK rr bs j).length = 5 := by
  cases j with
  | zero => rfl
  | succ j => exact accStep_length _ _ _
theorem accK_zero (rr : List (BitVec 64)) (bs : List (BitVec 8)) : accK rr bs 0 = nought5 := rfl
theorem accK_succ (rr : List (BitVec 64)) (bs : List (BitVec 8)) (j : Nat) : accK rr bs (j + 1) = accStep rr (accK rr bs j) ((bs.drop (16 * j)).take 16) := rfl
/-- The tag. -/
def polyTag (key bs : List (BitVec 8)) : List (BitVec 8) := tagOf (addL (accK (numOf (clrOf key)) bs ((bs.length + 15) / 16)) (numOf (key.drop 16)) 5)
theorem polyTag_length (key bs : List (BitVec 8)) : (polyTag key bs).length = 16 := tagOf_length _
/-- What poly.Sum has in memory. -/
structure KeyW (w : World) (key : List (BitVec 8)) (wr : World) : Prop where
  key : BytesAt wr w.heap.size 23 key
  res : BytesAt wr (w.heap.size + 1) 46 zeros16
  below : Below w.heap.size w wr
theorem KeyW.on {w wr w' : World} {key : List (BitVec 8)} (h : KeyW w key wr) (hb : Below wr.heap.size wr w') : KeyW w key w' := ⟨h.key.keep hb, h.res.keep hb, h.below.trans (hb.mono h.below.size)⟩
structure SumS (w : World) (key : List (BitVec 8)) (R A : Nat) (rr acc : List (BitVec 64)) (wr : World) : Prop where
  k : KeyW w key wr
  r : LimbsAt wr R tNum rr
  a : LimbsAt wr A tNum acc
  later : w.heap.size + 1 < R ∧ R < A
theorem SumS.on {w wr w' : World} {key : List (BitVec 8)} {R A : Nat} {rr acc : List (BitVec 64)} (h : SumS w key R A rr acc wr) (hb : Below wr.heap.size wr w') : SumS w key R A rr acc w' := ⟨h.k.on hb, h.r.keep hb, h.a.keep hb, h.later⟩
theorem SumS.row {w wr : World} {key : List (BitVec 8)} {R A : Nat} {rr acc acc' : List (BitVec 64)} (h : SumS w key R A rr acc wr) : SumS w key R A rr acc' (wr.setRow A (limbsV acc').toArray) := by
  have := h.later
  exact ⟨⟨h.k.key.past (grown_setRow _ _ _) (by omega), h.k.res.past (grown_setRow _ _ _) (by omega), below_setRow h.k.below (show w.heap.size ≤ A by omega) _⟩, h.r.past (grown_setRow _ _ _) (by omega), setRow_heap _ _ _ _ _ _ h.a, h.later⟩
theorem one_range (w : World) : (w.alloc (.cells #[.int .u8 1] 5)).rangeAt w.heap.size 0 (bytesV [1#8]) := range_bytesV (l := [1#8]) (t := 5) (fr := (0, 0)) (heap_new_at rfl)
attribute [local irreducible] accK nought5 numOf clrOf tagOf redOf mulL addL zeros16
set_option maxRecDepth 100000 in
set_option maxHeartbeats 4000000 in
theorem polySum_wide (key bs : List (BitVec 8)) (m : Nat) (p : Option Addr) (cap : Nat) (w : World) (hk : key.length = 32) (hm : bs.length = m) (hc : m ≤ cap) (hcm : cap ≤ 9223372036854775807) (hL : Lies w p bs) :
    Calls Tryd.prog 32 #[.agg (bytesV key).toArray, .slice p m cap] w fun e w' => e = .returned (.agg (bytesV (polyTag key bs)).toArray) ∧ Below w.heap.size w w' := by
  have HKL := Lib.hid hk; clear hk
  have HM := Lib.hid hm; clear hm
  have HL := Lib.hid hL; clear hL
  have HIK := Lib.hid (infoKey key HKL.out)
  go_enter Tryd.func32, Tryd.ntmps32
  go_upto_region 1 with (fail)
  refine wp_gen (KeyW w key) ?_ ?_
  · exact ⟨BytesAt.keep (w := w.alloc _) (heap_alloc_new w _) ((Below.refl _ _).alloc (Nat.le_refl _) _), by show _ = some (Obj.cells (bytesV zeros16).toArray _ _); rw [zeros16_eq]; exact heap_new_at (by simp), ((Below.refl _ _).alloc (Nat.le_refl _) _).alloc (by simp) _⟩
  intro w0 hw0
  have HROW := Lib.hid hw0.key
  have HW0 := Lib.hid hw0; clear hw0
  go_wp2_with (refine wpList_load_row rfl 23 (.tmp 2) rfl w.heap.size rfl 23 _ (0, 0) _ HROW.out Tryd.underlying23 rfl HIK.out ?_)
  refine (cleared_any key w0 HKL.out).mono ?_
  rintro e w1 ⟨rfl, hb⟩
  have HW1 := Lib.hid (HW0.out.on hb); clear hb HW0 HROW
  obtain ⟨rr, hrr⟩ : ∃ rr, rr = numOf (clrOf key) := ⟨_, rfl⟩
  rw [← hrr]
  have HRL := Lib.hid (show rr.length = 5 by rw [hrr]; exact numOf_length _)
  have HRR := Lib.hid hrr; clear hrr
  have HIR := Lib.hid (info5n rr HRL.out)
  have HRS := Lib.hid (show (#[Value.int .u64 0, Value.int .u64 0, Value.int .u64 0, Value.int .u64 0, Value.int .u64 0] : Array Value).size = (limbsV rr).toArray.size by rw [limbsV_size _ 5 HRL.out]; rfl)
  have HRO := Lib.hid (limbsV_one rr)
  go_upto_region 2 with (refine wpList_store_new rfl 71 (.tmp 5) (.tmp 10) rfl w1.heap.size rfl (limbsV rr).toArray rfl rfl HIR.out HRS.out HRO.out ?_; intro w2 h2 hb2; have HW2 := Lib.hid (HW1.out.on hb2); have HR2 := Lib.hid (show LimbsAt w2 w1.heap.size tNum rr from h2); clear h2 hb2)
  obtain ⟨R, hR⟩ : ∃ R, R = w1.heap.size := ⟨_, rfl⟩
  rw [← hR] at HR2 ⊢
  have HRlt : Hid (w.heap.size + 1 < R) := show _ < R by rw [hR]; exact HW1.out.res.size
  clear hR HW1 HIR HRS HRO
  go_wp2_with fail
  refine wp_gen (SumS w key R w2.heap.size rr (accK rr bs 0)) ?_ ?_
  · have hb2 : Below w2.heap.size w2 (w2.alloc (.cells (limbsV nought5).toArray tNum)) := (Below.refl _ _).alloc (Nat.le_refl _) _
    rw [accK_zero]
    have e : (limbsV nought5).toArray = #[Value.int .u64 0, Value.int .u64 0, Value.int .u64 0, Value.int .u64 0, Value.int .u64 0] := nought5_eq
    rw [e] at hb2
    exact ⟨HW2.out.on hb2, HR2.out.keep hb2, by show _ = some (Obj.cells (limbsV nought5).toArray _ _); rw [nought5_eq]; exact heap_new_at rfl, HRlt.out, HR2.out.size⟩
  generalize w2.heap.size = A
  intro w3 hw3
  have HW3 := Lib.hid hw3
  clear hw3 HR2 HW2 HRlt
  go_loopw [1, 7, 8] (fun b _ _ wr => ∃ (j : Nat) (q : Option Addr) (c : Nat), 16 * j < m + 16 ∧ b = .slice q (m - 16 * j) c ∧ m - 16 * j ≤ c ∧ c ≤ 9223372036854775807 ∧ Lies w q (bs.drop (16 * j)) ∧ SumS w key R A rr (accK rr bs j) wr) (fun b _ _ _ => match b with | .slice _ n _ => n | _ => 0)
  case atStart => exact ⟨0, p, cap, by omega, rfl, hc, hcm, by rw [Nat.mul_zero, List.drop_zero]; exact HL.out, HW3.out⟩
  case round =>
    clear HW3 hc hcm
    obtain ⟨j, q, c, hj, rfl, hc1, hc2, hl, hs⟩ := hrel
    by_cases hlt : 16 * j < m
    · obtain ⟨n, hn⟩ : ∃ n, n = m - 16 * j := ⟨_, rfl⟩
      rw [← hn] at hc1 ⊢
      have hbl : (bs.drop (16 * j)).length = n := by rw [List.length_drop, HM.out, hn]
      obtain ⟨b, off, rfl, hr⟩ : ∃ b off, q = some ⟨b, off, none⟩ ∧ w.rangeAt b off (bytesV (bs.drop (16 * j))) := by
        rcases hl with h | h
        · rw [h] at hbl; simp at hbl; omega
        · exact h
      obtain ⟨k, hk⟩ : ∃ k, k = min n 16 := ⟨_, rfl⟩
      have hk1 : 0 < k := by omega
      have hk2 : k ≤ 16 := by omega
      have hk3 : k ≤ n := by omega
      have n0 : 0 < (n : Int) := by omega
      have kc : (k : Int) ≤ (c : Int) := by omega
      have HRG := Lib.hid hr
      have HBL := Lib.hid hbl
      have HS := Lib.hid hs
      have HN := Lib.hid hn
      have HK := Lib.hid hk
      have HC := Lib.hid hc1
      clear hr hbl hs hn hk hl hc1
      go_upto_region 6 with (refine wpList_min16 rfl (.tmp 15) rfl n k rfl HK.out ?_)
      have HSD : Hid (SumS w key R A rr (accK rr bs j) wr.drew) := show SumS _ _ _ _ _ _ _ from HS.out.on ((Below.refl _ _).drew)
      have HSU := Lib.hid (accK_succ rr bs j)
      have HAL := Lib.hid (accK_length rr bs j)
      generalize accK rr bs j = acc at HSD HSU HAL
      obtain ⟨blk, hblk⟩ : ∃ blk, blk = (bs.drop (16 * j)).take 16 := ⟨_, rfl⟩
      have HBK : Hid (blk.length = k) := show _ = _ by rw [hblk, List.length_take, HBL.out, HK.out]; omega
      have HBD : Hid (wr.drew.rangeAt b off (bytesV blk)) := show World.rangeAt _ _ _ _ by
        intro i v hv
        refine range_keep HRG.out HSD.out.k.below i v ?_
        rw [hblk, bytesV_take, List.getElem?_take] at hv
        split at hv
        · exact hv
        · cases hv
      rw [← hblk] at HSU
      have HBL2 : Hid ((blk ++ [1#8]).length = k + 1) := show _ = _ by rw [List.length_append, HBK.out]; rfl
      have HAE : Hid (redOf (mulL (addL acc (numOf (blk ++ [1#8])) 5) rr 5) = accStep rr acc blk) := show _ = _ from rfl
      have HIA := Lib.hid (info5n _ (accStep_length rr acc blk))
      have HAO := Lib.hid (show (limbsV acc).toArray.size = (limbsV (accStep rr acc blk)).toArray.size by rw [limbsV_size _ 5 HAL.out, limbsV_size _ 5 (accStep_length rr acc blk)])
      clear hblk HS
      refine region_phase (fun w1 => LimbsAt w1 R tNum rr) (fun w1 => LimbsAt w1 A tNum acc) 9 HSD.out.r HSD.out.a [(0, .early), (1, .free), (6, .free), (2, .before), (3, .before), (4, .before), (5, .before), (7, .before), (8, .before), (9, .behind)] (by kernel_rfl) (by kernel_rfl) (by kernel_rfl) (by kernel_rfl) (fun ops hops A2 hA => ?_)
      have hsz : A2.tmps.size = 38 := by rw [hA]; rfl
      have base5 : A2.eval (.tmp 5) = .pointer (some ⟨R, 0, none⟩) := by rw [hA]; rfl
      have base6 : A2.eval (.tmp 6) = .pointer (some ⟨A, 0, none⟩) := by rw [hA]; rfl
      have base8 : A2.eval (.tmp 8) = .slice (some ⟨b, off, none⟩) k k := by rw [hA]; rfl
      have HAA := Lib.hid hA; clear hA
      obtain ⟨o0, po0, q0, d0, gd0⟩ : ∃ o, ops[0]? = some o ∧ o.op = .load 71 (.tmp 6) ∧ o.dst = some 21 ∧ o.guard = none := ⟨_, by rw [hops]; rfl, rfl, rfl, rfl⟩
      obtain ⟨o1, po1, q1, d1, gd1⟩ : ∃ o, ops[1]? = some o ∧ o.op = .move (.tmp 8) ∧ o.dst = some 22 ∧ o.guard = none := ⟨_, by rw [hops]; rfl, rfl, rfl, rfl⟩
      obtain ⟨o2, po2, q2, d2, gd2⟩ : ∃ o, ops[2]? = some o ∧ o.op = .buildSlice 26 1 #[(0, (.const (.int .u8 1)))] ∧ o.dst = some 23 ∧ o.guard = none := ⟨_, by rw [hops]; rfl, rfl, rfl, rfl⟩
      obtain ⟨o3, po3, q3, d3, gd3⟩ : ∃ o, ops[3]? = some o ∧ o.op = .call { callee := .builtin .append, args := #[.tmp 22, .tmp 23], argTypes := #[26, 26] } ∧ o.dst = some 24 ∧ o.guard = none := ⟨_, by rw [hops]; rfl, rfl, rfl, rfl⟩
      obtain ⟨o4, po4, q4, d4, gd4⟩ : ∃ o, ops[4]? = some o ∧ o.op = .call { callee := .value (.func 44), args := #[.tmp 24], argTypes := #[26] } ∧ o.dst = some 25 ∧ o.guard = none := ⟨_, by rw [hops]; rfl, rfl, rfl, rfl⟩
      obtain ⟨o5, po5, q5, d5, gd5⟩ : ∃ o, ops[5]? = some o ∧ o.op = .call { callee := .value (.func 43), args := #[.tmp 21, .tmp 25], argTypes := #[71, 71] } ∧ o.dst = some 26 ∧ o.guard = none := ⟨_, by rw [hops]; rfl, rfl, rfl, rfl⟩
      obtain ⟨o6, po6, q6, d6, gd6⟩ : ∃ o, ops[6]? = some o ∧ o.op = .load 71 (.tmp 5) ∧ o.dst = some 27 ∧ o.guard = none := ⟨_, by rw [hops]; rfl, rfl, rfl, rfl⟩
      obtain ⟨o7, po7, q7, d7, gd7⟩ : ∃ o, ops[7]? = some o ∧ o.op = .call { callee := .value (.func 42), args := #[.tmp 26, .tmp 27], argTypes := #[71, 71] } ∧ o.dst = some 28 ∧ o.guard = none := ⟨_, by rw [hops]; rfl, rfl, rfl, rfl⟩
      obtain ⟨o8, po8, q8, d8, gd8⟩ : ∃ o, ops[8]? = some o ∧ o.op = .call { callee := .value (.func 41), args := #[.tmp 28], argTypes := #[71] } ∧ o.dst = some 29 ∧ o.guard = none := ⟨_, by rw [hops]; rfl, rfl, rfl, rfl⟩
      obtain ⟨o9, po9, q9, d9, gd9⟩ : ∃ o, ops[9]? = some o ∧ o.op = .store 71 (.tmp 6) (.tmp 29) ∧ o.dst = none ∧ o.guard = none := ⟨_, by rw [hops]; rfl, rfl, rfl, rfl⟩
      clear hops
      refine met_early po0 d0 (wanted_of gd0) (fun w' _ h' => run_loadNum q0 base6 HAL.out h') ?_
      refine met_free po1 d1 (wanted_of gd1) (fun w' _ => run_move q1 ((eval_other _ 21 8 _ (by decide)).trans base8) w') ?_
      refine met_free po6 d6 (wanted_of gd6) (fun w' h' => run_loadNum q6 ((eval_other _ 22 5 _ (by decide)).trans ((eval_other _ 21 5 _ (by decide)).trans base5)) HRL.out h') ?_
      refine met_valueB po2 d2 (wanted_of gd2) (run_build1 q2 rfl _) ?_
      have H1 := Lib.hid (HSD.out.on ((Below.refl _ _).alloc (Nat.le_refl _) (.cells #[.int .u8 1] 5)))
      have HO1 := Lib.hid (one_range wr.drew)
      have HB1 := Lib.hid (range_keep HBD.out (((Below.refl _ _).alloc (Nat.le_refl _) (.cells #[.int .u8 1] 5)) : Below wr.drew.heap.size wr.drew _))
      refine ⟨⟨H1.out.r, H1.out.a⟩, ?_⟩
      refine met_before po3 (wanted_of gd3) (wp_append_grow (.tmp 22) (.tmp 23) q3 blk [1#8] b off _ 0 k 1 1 ((eval_other _ 23 22 _ (by decide)).trans ((eval_other _ 27 22 _ (by decide)).trans (eval_same _ _ _ (by simp only [put_size, hsz]; decide)))) HBK.out HB1.out (eval_same _ _ _ (by simp only [put_size, hsz]; decide)) rfl HO1.out (by omega) (by omega) ?_)
      intro v2 w2 ho2 hb2
      obtain ⟨p2, c2, rfl, hc2', hl2⟩ := own_lies ho2
      have H2 := Lib.hid (H1.out.on hb2)
      have HL2 := Lib.hid hl2
      clear ho2 hb2 hl2 hc2'
      rw [d3, HBL2.out]
      refine ⟨⟨H2.out.r, H2.out.a⟩, ?_⟩
      refine met_enterB po4 d4 (wanted_of gd4) (run_callf1 q4 rfl (eval_same _ _ _ (by simp only [put_size, hsz]; decide)) Tryd.func44 (by kernel_rfl) _) (numberOf_any (blk ++ [1#8]) (k + 1) p2 c2 w2 HBL2.out (by omega) HL2.out) ?_
      rintro e w3 ⟨rfl, hb3⟩
      have H3 := Lib.hid (H2.out.on hb3); clear hb3
      refine ⟨_, rfl, ⟨H3.out.r, H3.out.a⟩, ?_⟩
      refine met_enterB po5 d5 (wanted_of gd5) (run_callf2 q5 rfl ((eval_other _ 25 21 _ (by decide)).trans ((eval_other _ 24 21 _ (by decide)).trans ((eval_other _ 23 21 _ (by decide)).trans ((eval_other _ 27 21 _ (by decide)).trans ((eval_other _ 22 21 _ (by decide)).trans (eval_same _ _ _ (by rw [hsz]; decide))))))) (eval_same _ _ _ (by simp only [put_size, hsz]; decide)) Tryd.func43 (by kernel_rfl) _) (plus_any acc (numOf (blk ++ [1#8])) w3 HAL.out (numOf_length _)) ?_
      rintro e w4 ⟨rfl, hb4⟩
      have H4 := Lib.hid (H3.out.on hb4); clear hb4
      refine ⟨_, rfl, ⟨H4.out.r, H4.out.a⟩, ?_⟩
      refine met_enterB po7 d7 (wanted_of gd7) (run_callf2 q7 rfl (eval_same _ _ _ (by simp only [put_size, hsz]; decide)) ((eval_other _ 26 27 _ (by decide)).trans ((eval_other _ 25 27 _ (by decide)).trans ((eval_other _ 24 27 _ (by decide)).trans ((eval_other _ 23 27 _ (by decide)).trans (eval_same _ _ _ (by simp only [put_size, hsz]; decide)))))) Tryd.func42 (by kernel_rfl) _) (product_any (addL acc (numOf (blk ++ [1#8])) 5) rr w4 ((addL_length _ _ _).trans HAL.out) HRL.out) ?_
      rintro e w5 ⟨rfl, hb5⟩
      have H5 := Lib.hid (H4.out.on hb5); clear hb5
      refine ⟨_, rfl, ⟨H5.out.r, H5.out.a⟩, ?_⟩
      refine met_enterB po8 d8 (wanted_of gd8) (run_callf1 q8 rfl (eval_same _ _ _ (by simp only [put_size, hsz]; decide)) Tryd.func41 (by kernel_rfl) _) (reduced_any (mulL (addL acc (numOf (blk ++ [1#8])) 5) rr 5) w5 (mulL_length _ _ _)) ?_
      rintro e w6 ⟨rfl, hb6⟩
      have H6 := Lib.hid (H5.out.on hb6); clear hb6
      refine ⟨_, rfl, ⟨H6.out.r, H6.out.a⟩, ?_⟩
      rw [HAE.out]
      refine met_behind po9 (wanted_of gd9) (wp_store_row tNum (.tmp 6) (.tmp 29) q9 A (limbsV (accStep rr acc blk)).toArray ((eval_other _ 29 6 _ (by decide)).trans ((eval_other _ 28 6 _ (by decide)).trans ((eval_other _ 26 6 _ (by decide)).trans ((eval_other _ 25 6 _ (by decide)).trans ((eval_other _ 24 6 _ (by decide)).trans ((eval_other _ 23 6 _ (by decide)).trans ((eval_other _ 27 6 _ (by decide)).trans ((eval_other _ 22 6 _ (by decide)).trans ((eval_other _ 21 6 _ (by decide)).trans base6))))))))) (eval_same _ _ _ (by simp only [put_size, hsz]; decide)) tNum _ H6.out.a HIA.out HAO.out (limbsV_one _) ?_)
      have H7 := Lib.hid (H6.out.row (acc' := accStep rr acc blk))
      rw [d9]
      refine ⟨H7.out.r, ?_⟩
      show NoPanic _ .normal _ _
      refine NoPanic.normal ?_
      rw [HAA.out]
      go_frame
      clear HAA
      clear H1 H2 H3 H4 H5 H6 HO1 HB1 HL2 HIA HAO HAE HBL2 HBD HSD
      obtain ⟨p3, hsl, hp3⟩ : ∃ p3 : Option Addr, (if c = k then some (⟨b, off, none⟩ : Addr) else some ⟨b, off + k, none⟩) = p3 ∧ (∀ w8 : World, w8.rangeAt b off (bytesV (bs.drop (16 * j))) → Lies w8 p3 (bs.drop (16 * (j + 1)))) := by
        have hmj := HM.out
        have hnj := HN.out
        have hkj := HK.out
        by_cases hck : c = k
        · exact ⟨some ⟨b, off, none⟩, by rw [if_pos hck], fun _ _ => Or.inl (List.drop_of_length_le (by have := HC.out; omega))⟩
        · refine ⟨some ⟨b, off + k, none⟩, by rw [if_neg hck], fun w8 hw8 => ?_⟩
          by_cases h16 : k = 16
          · refine Or.inr ⟨b, off + k, rfl, ?_⟩
            have := range_drop (k := k) hw8
            rw [List.drop_drop, h16] at this
            rw [h16, show 16 * (j + 1) = 16 * j + 16 by omega]; exact this
          · exact Or.inl (List.drop_of_length_le (by omega))
      have HP3 := Lib.hid hp3; clear hp3
      have kn : (k : Int) ≤ (n : Int) := by omega
      have nc : (n : Int) ≤ (c : Int) := by have := HC.out; omega
      go_wp2_with fail
      go_roundw
      case rel =>
        have hnj := HN.out
        have hkj := HK.out
        have hcj := HC.out
        refine ⟨j + 1, p3, c - k, by omega, by rw [show m - 16 * (j + 1) = n - k by omega], by omega, by omega, HP3.out _ HRG.out, ?_⟩
        rw [HSU.out]; exact H7.out
      case measure =>
        show n - k < n
        omega
    · have hz : m - 16 * j = 0 := by omega
      rw [hz] at hc1 ⊢
      clear hz hl hc1
      have HS := Lib.hid hs; clear hs
      have HNB : Hid (j = (bs.length + 15) / 16) := show _ = _ by rw [HM.out]; omega
      go_upto_region 8 with (fail)
      have HSD : Hid (SumS w key R A rr (accK rr bs j) wr.drew) := show SumS _ _ _ _ _ _ _ from HS.out.on ((Below.refl _ _).drew)
      have HAL := Lib.hid (accK_length rr bs j)
      have HTE : Hid (tagOf (addL (accK rr bs j) (numOf (key.drop 16)) 5) = polyTag key bs) := show _ = _ by rw [HNB.out, HRR.out]; rfl
      generalize accK rr bs j = acc at HSD HAL HTE
      have HKD : Hid ((key.drop 16).length = 16) := show _ = _ by rw [List.length_drop, HKL.out]
      have HKLie : Hid (Lies wr.drew (some ⟨w.heap.size, 16, none⟩) (key.drop 16)) := show Lies _ _ _ from Or.inr ⟨_, _, rfl, by
        have := range_drop (k := 16) HSD.out.k.key.range
        rw [Nat.zero_add] at this; exact this⟩
      have HIT := Lib.hid (infoTag _ (polyTag_length key bs))
      have HTO := Lib.hid (show (bytesV zeros16).toArray.size = (bytesV (polyTag key bs)).toArray.size by rw [bytesV_size _ 16 (polyTag_length key bs)]; unfold zeros16; rfl)
      clear HS
      refine region_phase (fun w1 => LimbsAt w1 A tNum acc) (fun _ => True) 2 HSD.out.a trivial [(0, .free), (1, .free), (2, .behind), (3, .behind), (4, .behind), (5, .behind)] (by kernel_rfl) (by kernel_rfl) (by kernel_rfl) (by kernel_rfl) (fun ops hops A2 hA => ?_)
      have hsz : A2.tmps.size = 38 := by rw [hA]; rfl
      have base2 : A2.eval (.tmp 2) = .pointer (some ⟨w.heap.size, 0, none⟩) := by rw [hA]; rfl
      have base4 : A2.eval (.tmp 4) = .pointer (some ⟨w.heap.size + 1, 0, none⟩) := by rw [hA]; rfl
      have base6 : A2.eval (.tmp 6) = .pointer (some ⟨A, 0, none⟩) := by rw [hA]; rfl
      have HAA := Lib.hid hA; clear hA
      obtain ⟨o0, po0, q0, d0, gd0⟩ : ∃ o, ops[0]? = some o ∧ o.op = .load 71 (.tmp 6) ∧ o.dst = some 33 ∧ o.guard = none := ⟨_, by rw [hops]; rfl, rfl, rfl, rfl⟩
      obtain ⟨o1, po1, q1, d1, gd1⟩ : ∃ o, ops[1]? = some o ∧ o.op = .slice 23 (.tmp 2) (some (.const (.int .i64 16))) none none ∧ o.dst = some 34 ∧ o.guard = none := ⟨_, by rw [hops]; rfl, rfl, rfl, rfl⟩
      obtain ⟨o2, po2, q2, d2, gd2⟩ : ∃ o, ops[2]? = some o ∧ o.op = .call { callee := .value (.func 44), args := #[.tmp 34], argTypes := #[26] } ∧ o.dst = some 35 ∧ o.guard = none := ⟨_, by rw [hops]; rfl, rfl, rfl, rfl⟩
      obtain ⟨o3, po3, q3, d3, gd3⟩ : ∃ o, ops[3]? = some o ∧ o.op = .call { callee := .value (.func 43), args := #[.tmp 33, .tmp 35], argTypes := #[71, 71] } ∧ o.dst = some 36 ∧ o.guard = none := ⟨_, by rw [hops]; rfl, rfl, rfl, rfl⟩
      obtain ⟨o4, po4, q4, d4, gd4⟩ : ∃ o, ops[4]? = some o ∧ o.op = .call { callee := .value (.func 45), args := #[.tmp 36], argTypes := #[71] } ∧ o.dst = some 37 ∧ o.guard = none := ⟨_, by rw [hops]; rfl, rfl, rfl, rfl⟩
      obtain ⟨o5, po5, q5, d5, gd5⟩ : ∃ o, ops[5]? = some o ∧ o.op = .store 46 (.tmp 4) (.tmp 37) ∧ o.dst = none ∧ o.guard = none := ⟨_, by rw [hops]; rfl, rfl, rfl, rfl⟩
      clear hops
      refine met_free po0 d0 (wanted_of gd0) (fun w' h' => run_loadNum q0 base6 HAL.out h') ?_
      refine met_free po1 d1 (wanted_of gd1) (fun w' _ => run_key16 q1 (fun _ => rfl) ((eval_other _ 33 2 _ (by decide)).trans base2) w') ?_
      refine met_enterA po2 d2 (wanted_of gd2) (run_callf1 q2 rfl (eval_same _ _ _ (by simp only [put_size, hsz]; decide)) Tryd.func44 (by kernel_rfl) _) (numberOf_any (key.drop 16) 16 _ _ _ HKD.out (by omega) HKLie.out) ?_
      rintro e w4 ⟨rfl, hb4⟩
      have H4 := Lib.hid (HSD.out.on hb4); clear hb4
      refine ⟨_, rfl, H4.out.a, ?_⟩
      refine met_enterA po3 d3 (wanted_of gd3) (run_callf2 q3 rfl ((eval_other _ 35 33 _ (by decide)).trans ((eval_other _ 34 33 _ (by decide)).trans (eval_same _ _ _ (by rw [hsz]; decide)))) (eval_same _ _ _ (by simp only [put_size, hsz]; decide)) Tryd.func43 (by kernel_rfl) _) (plus_any acc (numOf (key.drop 16)) w4 HAL.out (numOf_length _)) ?_
      rintro e w5 ⟨rfl, hb5⟩
      have H5 := Lib.hid (H4.out.on hb5); clear hb5
      refine ⟨_, rfl, H5.out.a, ?_⟩
      refine met_enterA po4 d4 (wanted_of gd4) (run_callf1 q4 rfl (eval_same _ _ _ (by simp only [put_size, hsz]; decide)) Tryd.func45 (by kernel_rfl) _) (bytesOf_any (addL acc (numOf (key.drop 16)) 5) w5 ((addL_length _ _ _).trans HAL.out)) ?_
      rintro e w6 ⟨rfl, hb6⟩
      have H6 := Lib.hid (H5.out.on hb6); clear hb6
      refine ⟨_, rfl, H6.out.a, ?_⟩
      rw [HTE.out]
      refine met_behind po5 (wanted_of gd5) (wp_store_row 46 (.tmp 4) (.tmp 37) q5 (w.heap.size + 1) (bytesV (polyTag key bs)).toArray ((eval_other _ 37 4 _ (by decide)).trans ((eval_other _ 36 4 _ (by decide)).trans ((eval_other _ 35 4 _ (by decide)).trans ((eval_other _ 34 4 _ (by decide)).trans ((eval_other _ 33 4 _ (by decide)).trans base4))))) (eval_same _ _ _ (by simp only [put_size, hsz]; decide)) 46 _ H6.out.k.res HIT.out HTO.out (bytesV_one _) ?_)
      have h7 : LimbsAt (w6.setRow (w.heap.size + 1) (bytesV (polyTag key bs)).toArray) A tNum acc := H6.out.a.past (grown_setRow _ _ _) (by have := H6.out.later; omega)
      rw [d5]
      refine ⟨h7, ?_⟩
      show NoPanic _ .normal _ _
      refine NoPanic.normal ?_
      rw [HAA.out]
      go_frame
      clear HAA h7
      have hrow := setRow_heap w6 (w.heap.size + 1) _ (bytesV (polyTag key bs)).toArray 46 _ H6.out.k.res
      have hbel := below_setRow H6.out.k.below (show w.heap.size ≤ w.heap.size + 1 by omega) (bytesV (polyTag key bs)).toArray
      clear H4 H5 H6 HSD HTE HTO HKLie HKD
      generalize hfe : (bytesV (polyTag key bs)).toArray = full at hrow hbel HIT ⊢
      have HFE := Lib.hid hfe; clear hfe
      generalize w6.setRow (w.heap.size + 1) full = wz at hrow hbel ⊢
      have hres : ∀ tmps : Array Value, tmps.getD 4 undef = .pointer (some ⟨w.heap.size + 1, 0, none⟩) → Sem.run Tryd.prog (results Tryd.f32 tmps) wz = .ok (.agg full) wz := fun tmps h =>
        results_cell_row (P := Tryd.prog) (p := 4) (ty := 46) Tryd.results32 tmps wz (w.heap.size + 1) 46 full (0, 0) _ h hrow Tryd.underlying46 rfl HIT.out
      go_wp2_with fail
      exact bodyPost_ret (v := .agg full) (hres _ rfl) rfl ⟨by rw [HFE.out], hbel⟩
theorem polySum_any (key bs : List (BitVec 8)) (m : Nat) (p : Option Addr) (cap : Nat) (w : World) (hk : key.length = 32) (hm : bs.length = m) (hc : m ≤ cap) (hcm : cap ≤ 140737488355328) (hL : Lies w p bs) :
    Calls Tryd.prog 32 #[.agg (bytesV key).toArray, .slice p m cap] w fun e w' => e = .returned (.agg (bytesV (polyTag key bs)).toArray) ∧ Below w.heap.size w w' :=
  polySum_wide key bs m p cap w hk hm hc (by omega) hL
end Go.Proofs.YtagkkihnfipfeaaDoor
