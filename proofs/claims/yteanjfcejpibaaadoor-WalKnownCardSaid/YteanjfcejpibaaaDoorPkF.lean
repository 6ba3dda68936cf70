/-
  What other texts lean on: FrRefSum, FrRefPut, FrRefGet, FrSame.
-/
import Derived.Test.YteanjfcejpibaaaDoorPkA
import Derived.Test.YteanjfcejpibaaaDoorPkD
import Derived.Laws.Rows
/-
  The document's checksum and its numbers of four bytes.
-/
namespace Go.Proofs.YteanjfcejpibaaaDoor
open Go.RowKit Go.Proofs.ShaWords
theorem bitN_step (k : Nat) (r : BitVec 32) : bit1 (bitN k r) = bitN (k + 1) r := (bitN_succ k r).symm
theorem not32_end (x : BitVec 32) : bits .xor .u32 (n32 x) 4294967295 = n32 (~~~ x) := by
  have h := xor32 x 4294967295#32
  rw [show ~~~ x = x ^^^ 4294967295#32 by
    rw [show (4294967295#32 : BitVec 32) = BitVec.allOnes 32 by decide, BitVec.xor_allOnes]]
  exact h
theorem crcR_takeE {l : List (BitVec 8)} {k : Nat} (h : k < l.length) (r : BitVec 32) : crcR r (l.take (k + 1)) = bitN 8 (crcR r (l.take k) ^^^ ext l[k]) := by
  rw [List.take_succ_eq_append_getElem h, crcR_append]
  rfl
theorem tmod2_32 (r : BitVec 32) : (n32 r).tmod (2 : Int) = if r.getLsbD 0 then 1 else 0 := by
  rw [Int.tmod_eq_emod_of_nonneg (n32_nonneg r), mod2_32]
theorem tdiv2_32 (r : BitVec 32) : (n32 r).tdiv (2 : Int) % (4294967296 : Int) = n32 (r >>> 1) := by
  rw [Int.tdiv_eq_ediv_of_nonneg (n32_nonneg r)]
  unfold n32
  rw [BitVec.toNat_ushiftRight, Nat.shiftRight_eq_div_pow]
  have := r.isLt
  omega
theorem xorP (r : BitVec 32) : bits .xor .u32 (n32 r) 3988292384 = n32 (r ^^^ 3988292384#32) := xor32 r 3988292384#32
attribute [local go_sem] xor32 wrap32_n8 not32_end xorP tdiv2_32
end Go.Proofs.YteanjfcejpibaaaDoor

/-
  The document's answer of what is put.
-/
namespace Go.Proofs.YteanjfcejpibaaaDoor
open Go.RowKit Go.Proofs.ShaWords
theorem four24 (x : BitVec 32) : (n32 x).tdiv (16777216 : Int) % (4294967296 : Int) = n32 (x >>> 24) := by
  rw [Int.tdiv_eq_ediv_of_nonneg (n32_nonneg x)]
  unfold n32
  rw [BitVec.toNat_ushiftRight, Nat.shiftRight_eq_div_pow]
  have := x.isLt
  omega
theorem four16 (x : BitVec 32) : (n32 x).tdiv (65536 : Int) % (4294967296 : Int) = n32 (x >>> 16) := by
  rw [Int.tdiv_eq_ediv_of_nonneg (n32_nonneg x)]
  unfold n32
  rw [BitVec.toNat_ushiftRight, Nat.shiftRight_eq_div_pow]
  have := x.isLt
  omega
theorem four8 (x : BitVec 32) : (n32 x).tdiv (256 : Int) % (4294967296 : Int) = n32 (x >>> 8) := by
  rw [Int.tdiv_eq_ediv_of_nonneg (n32_nonneg x)]
  unfold n32
  rw [BitVec.toNat_ushiftRight, Nat.shiftRight_eq_div_pow]
  have := x.isLt
  omega
theorem rem256 (x : BitVec 32) : IntKind.u8.wrap ((n32 x).tmod (256 : Int)) = n8 (lo8 x) := by
  rw [Int.tmod_eq_emod_of_nonneg (n32_nonneg x), ← wrap8_n32, IntKind.wrap_u8', IntKind.wrap_u8']
  omega
theorem own_four (x : BitVec 32) (w w' : World) (h : w'.heap[w.heap.size]? = some (.cells (bytesV (be4 x)).toArray 5 (0, 0))) : Own w.heap.size w' (be4 x) (.slice (some ⟨w.heap.size, 0, none⟩) 4 4) :=
  ⟨rfl, .inr ⟨w.heap.size, 4, _, rfl, Nat.le_refl _, h, Nat.le_refl _, by unfold maxLen; omega, rfl, rfl⟩⟩
theorem own_one (x : BitVec 8) (w w' : World) (h : w'.heap[w.heap.size]? = some (.cells (bytesV [x]).toArray 5 (0, 0))) : Own w.heap.size w' [x] (.slice (some ⟨w.heap.size, 0, none⟩) 1 1) :=
  ⟨rfl, .inr ⟨w.heap.size, 1, _, rfl, Nat.le_refl _, h, Nat.le_refl _, by unfold maxLen; omega, rfl, rfl⟩⟩
attribute [local go_sem] wrap8_n32 four24 four16 four8 rem256
end Go.Proofs.YteanjfcejpibaaaDoor

/-
  The document's answer of what is got.
-/
namespace Go.Proofs.YteanjfcejpibaaaDoor
open Go.RowKit Go.Proofs.ShaWords
/-- The length as the document adds it up. -/
def lenTo (l : List (BitVec 8)) : Nat → Nat
  | 0 => 0
  | k + 1 => lenTo l k * 256 + (l.getD (k + 1) 0#8).toNat
theorem w4_num (a b c d : BitVec 8) : (w4 [a, b, c, d]).toNat = a.toNat * 16777216 + b.toNat * 65536 + c.toNat * 256 + d.toNat := by
  have h := lo8_w4 a b c d
  generalize w4 [a, b, c, d] = x at h
  unfold be4 at h
  simp only [List.cons.injEq, and_true] at h
  obtain ⟨h1, h2, h3, h4⟩ := h
  have e : ∀ (y : BitVec 32), (lo8 y).toNat = y.toNat % 256 := fun y => by unfold lo8; rw [BitVec.toNat_setWidth]
  have s : ∀ (y : BitVec 32) (k : Nat), (y >>> k).toNat = y.toNat / 2 ^ k := fun y k => by rw [BitVec.toNat_ushiftRight, Nat.shiftRight_eq_div_pow]
  have g1 := congrArg BitVec.toNat h1
  have g2 := congrArg BitVec.toNat h2
  have g3 := congrArg BitVec.toNat h3
  have g4 := congrArg BitVec.toNat h4
  rw [e, s] at g1 g2 g3
  rw [e] at g4
  have := x.isLt
  omega
theorem lenTo_four (l : List (BitVec 8)) : lenTo l 4 = len4 l := by
  unfold len4
  have e : ∀ j, (l.drop 1).getD j 0#8 = l.getD (j + 1) 0#8 := fun j => by simp only [List.getD, List.getElem?_drop]; rw [Nat.add_comm 1 j]
  have h : w4 (l.drop 1) = w4 [l.getD 1 0#8, l.getD 2 0#8, l.getD 3 0#8, l.getD 4 0#8] := by
    unfold w4
    rw [e, e, e, e]
    rfl
  rw [h, w4_num]
  show (((0 * 256 + (l.getD 1 0#8).toNat) * 256 + (l.getD 2 0#8).toNat) * 256 + (l.getD 3 0#8).toNat) * 256 + (l.getD 4 0#8).toNat = _
  omega
theorem lenTo_lt (l : List (BitVec 8)) : ∀ k, lenTo l k < 256 ^ k
  | 0 => by show 0 < 1; decide
  | k + 1 => by
    have := lenTo_lt l k
    have h := (l.getD (k + 1) 0#8).isLt
    show lenTo l k * 256 + _ < _
    rw [Nat.pow_succ]
    omega
/-- The frame that was put of what is there is what is there just if the sum is right. -/
theorem put_same {l : List (BitVec 8)} (h1 : ¬ l.length < 5) (h2 : ¬ l.getD 0 0#8 = 0#8) (h3 : ¬ 2039 < len4 l) (h4 : ¬ l.length < len4 l + 9) : l.take (len4 l + 9) = frameB (l.getD 0 0#8) (getB l) ↔ w4 (l.drop (len4 l + 5)) = crcOf (l.take (len4 l + 5)) := by
  have hgl : (getB l).length = len4 l := by unfold getB; rw [List.length_take, List.length_drop]; omega
  constructor
  · intro h
    have e : l = frameB (l.getD 0 0#8) (getB l) ++ l.drop (len4 l + 9) := by rw [← h, List.take_append_drop]
    have g : getE l = 0 := by rw [e]; exact getE_frame _ _ _ h2 (by omega)
    exact (getE_zero g).2.2.2.2
  · intro h
    have g := (getE_form (getE_ok h1 h2 h3 h4 h)).1
    have hfl := frameB_length (l.getD 0 0#8) (getB l)
    rw [hgl] at hfl
    have t := congrArg (List.take (len4 l + 9)) g
    rwa [List.take_append_of_le_length (by omega), List.take_of_length_le (l := frameB _ _) (by omega)] at t
section
variable {ρ : Operand → Value} {o : Oper} {x y z : Operand}
theorem r_addC {n C : Nat} (ho : o.op = .binOp .add 3 (.const (.int .i64 (C : Int))) x 3) (h0 : ρ (.const (.int .i64 (C : Int))) = .int .i64 (C : Int)) (hx : ρ x = .int .i64 (n : Int)) (hb : n + C < 1000000000) (w : World) : (execOp ρ o).run Tryd.prog w = .ok (.value (.int .i64 ((n + C : Nat) : Int))) w := by
  obtain ⟨dst, op, ty', pos, after, guard⟩ := o
  simp only at ho
  subst ho
  have h : IntKind.i64.wrap ((C : Int) + (n : Int)) = ((n + C : Nat) : Int) := by rw [IntKind.wrap_i64]; omega
  go_simp
theorem r_addD {n C : Nat} (ho : o.op = .binOp .add 3 x (.const (.int .i64 (C : Int))) 3) (h0 : ρ (.const (.int .i64 (C : Int))) = .int .i64 (C : Int)) (hx : ρ x = .int .i64 (n : Int)) (hb : n + C < 1000000000) (w : World) : (execOp ρ o).run Tryd.prog w = .ok (.value (.int .i64 ((n + C : Nat) : Int))) w := by
  obtain ⟨dst, op, ty', pos, after, guard⟩ := o
  simp only at ho
  subst ho
  have h : IntKind.i64.wrap ((n : Int) + (C : Int)) = ((n + C : Nat) : Int) := by rw [IntKind.wrap_i64]; omega
  go_simp
theorem run_fromTo {b off n c k m : Nat} (ho : o.op = .slice 41 x (some y) (some z) none) (hx : ρ x = .slice (some ⟨b, off, none⟩) n c) (hy : ρ y = .int .i64 (k : Int)) (hz : ρ z = .int .i64 ((m + k : Nat) : Int)) (hm : m + k ≤ c) (hk : k < c) (w : World) :
    (execOp ρ o).run Tryd.prog w = .ok (.value (.slice (some ⟨b, off + k, none⟩) m (c - k))) w := by
  obtain ⟨dst, op, ty', pos, after, guard⟩ := o
  simp only at ho
  subst ho
  have q1 : (k : Int) ≤ ((m + k : Nat) : Int) := by omega
  have q2 : ((m + k : Nat) : Int) ≤ (c : Int) := by omega
  have q3 : ¬ c = k := by omega
  have q4 : (m : Int) + (k : Int) ≤ (c : Int) := by omega
  have q5 : m + k - k = m := by omega
  have q6 : ((m : Int) + (k : Int)).toNat = m + k := by omega
  have q7 : (0 : Int) ≤ (m : Int) + (k : Int) := by omega
  go_simp
theorem run_buildFr {a : Int} {p : Option Addr} {n c : Nat} (ho : o.op = .build 46 #[(0, x), (1, y)]) (hx : ρ x = .int .i64 a) (hy : ρ y = .slice p n c) (w : World) : (execOp ρ o).run Tryd.prog w = .ok (.value (.agg #[.int .i64 a, .slice p n c])) w := by
  obtain ⟨dst, op, ty', pos, after, guard⟩ := o
  simp only at ho
  subst ho
  go_simp
theorem run_storeFr {T n c : Nat} {z : Int} {p : Option Addr} {u v : Value} {w : World} (ho : o.op = .store 46 x y) (hx : ρ x = .pointer (some ⟨T, 0, none⟩)) (hy : ρ y = .agg #[.int .i64 z, .slice p n c]) (hC : FrC w T u v) : (execOp ρ o).run Tryd.prog w = .ok .skip ((w.setCell ⟨T, 0, none⟩ (.int .i64 z)).setCell ⟨T, 1, none⟩ (.slice p n c)) := by
  obtain ⟨dst, op, ty', pos, after, guard⟩ := o
  simp only at ho
  subst ho
  obtain ⟨c0, c1, cf⟩ := hC.cells
  go_simp
end
end Go.Proofs.YteanjfcejpibaaaDoor

/-
  The kit's SameFrames, SpoilFrames and SpoilFramesDeep.
-/
namespace Go.Proofs.YteanjfcejpibaaaDoor
open Go.RowKit Go.Proofs.ShaWords
theorem run_eqKind {ρ : Operand → Value} {o : Oper} {x y : Operand} {n : Int} {ty : TypeId} (ho : o.op = .binOp .eql 3 x y ty) (hx : ρ x = .int .i64 n) (hy : ρ y = .int .i64 n) (w : World) : (execOp ρ o).run Tryd.prog w = .ok (.value (.bool true)) w := by
  obtain ⟨dst, op, ty', pos, after, guard⟩ := o
  simp only at ho
  subst ho
  go_simp
set_option maxRecDepth 100000 in
set_option maxHeartbeats 4000000 in
theorem sameFrames_any (fs : List Fr9) (vs us : List Value) (hv hu : Value) (B C : Nat) (w : World) (hlen : fs.length ≤ 100000) (hb : ∀ f ∈ fs, f.2.length < 100000) (h1 : FrL B w hv vs fs) (h2 : FrL C w hu us fs) :
    Calls Tryd.prog 12 #[hv, hu] w fun e w' => e = .returned (.bool true) ∧ Below w.heap.size w w' := by
  obtain ⟨N, hN⟩ : ∃ N, fs.length = N := ⟨_, rfl⟩
  obtain ⟨qx, cx, rfl, -⟩ := h1.sl9 hN
  obtain ⟨qy, cy, rfl, -⟩ := h2.sl9 hN
  rw [hN] at hlen
  have HNN := Lib.hid hN
  have H1 := Lib.hid h1
  have H2 := Lib.hid h2
  have HBB := Lib.hid hb
  clear h1 h2 hb hN
  go_enter Tryd.func12, Tryd.ntmps12
  go_wp2_with fail
  go_loopw [5] (fun i wr => ∃ k : Nat, k ≤ N ∧ i = .int .i64 (k : Int) ∧ Below w.heap.size w wr) (fun i _ => N - (intOf i).toNat)
  case atStart => exact ⟨0, Nat.zero_le _, rfl, Below.refl _ _⟩
  case round =>
    obtain ⟨k, hk, rfl, hb⟩ := hrel
    have HB := Lib.hid hb
    by_cases hlt : k < N
    · have q1 : (k : Int) < (N : Int) := by omega
      have hkl : k < fs.length := by rw [HNN.out]; exact hlt
      obtain ⟨f, hf⟩ : ∃ f, fs[k]? = some f := ⟨_, List.getElem?_eq_getElem hkl⟩
      obtain ⟨v, hvk⟩ : ∃ v, vs[k]? = some v := ⟨_, List.getElem?_eq_getElem (by rw [H1.out.len]; exact hkl)⟩
      obtain ⟨u, huk⟩ : ∃ u, us[k]? = some u := ⟨_, List.getElem?_eq_getElem (by rw [H2.out.len]; exact hkl)⟩
      obtain ⟨ga, ca, ea, -, hga, -, hca⟩ := H1.out.cell (by omega)
      obtain ⟨gb, cb, eb, -, hgb, -, hcb⟩ := H2.out.cell (by omega)
      rw [HNN.out] at ea eb
      cases ea
      cases eb
      obtain ⟨a1, a2⟩ := hca k f v hf hvk
      obtain ⟨b1, b2⟩ := hcb k f u hf huk
      obtain ⟨qa, sa, rfl, -, -, la⟩ := (H1.out.each k v f hvk hf).slN (n := f.2.length) rfl
      obtain ⟨qb, sb, rfl, -, -, lb⟩ := (H2.out.each k u f huk hf).slN (n := f.2.length) rfl
      have HA1 : Hid (∀ w', Below w.heap.size w w' → w'.cell? ⟨ga, 0 + k * 2 + 0, none⟩ = some (.int .i64 (n8 f.1))) := show _ from fun w' h => by rw [Nat.zero_add]; exact (h.cell (p := ⟨ga, k * 2, none⟩) hga).trans a1
      have HA2 : Hid (∀ w', Below w.heap.size w w' → w'.cell? ⟨ga, 0 + k * 2 + 1, none⟩ = some (.slice qa f.2.length sa)) := show _ from fun w' h => by rw [Nat.zero_add]; exact (h.cell (p := ⟨ga, k * 2 + 1, none⟩) hga).trans a2
      have HB1 : Hid (∀ w', Below w.heap.size w w' → w'.cell? ⟨gb, 0 + k * 2 + 0, none⟩ = some (.int .i64 (n8 f.1))) := show _ from fun w' h => by rw [Nat.zero_add]; exact (h.cell (p := ⟨gb, k * 2, none⟩) hgb).trans b1
      have HB2 : Hid (∀ w', Below w.heap.size w w' → w'.cell? ⟨gb, 0 + k * 2 + 1, none⟩ = some (.slice qb f.2.length sb)) := show _ from fun w' h => by rw [Nat.zero_add]; exact (h.cell (p := ⟨gb, k * 2 + 1, none⟩) hgb).trans b2
      have HLA := Lib.hid la
      have HLB := Lib.hid lb
      have hfl := HBB.out f (List.mem_of_getElem? hf)
      clear hb a1 a2 b1 b2 la lb hf hvk huk hkl hca hcb
      go_upto_region 6 with (fail)
      have HD : Hid (Below w.heap.size w wr.drew) := show Below _ _ _ from HB.out.trans ((Below.refl wr.heap.size wr).drew.mono HB.out.size)
      refine region_phase (fun w' => Below w.heap.size w w') (fun _ => True) 22 (HD.out) trivial [(0, .free), (1, .free), (2, .free), (3, .free), (4, .free), (5, .free), (6, .free), (7, .free), (8, .free), (9, .free), (10, .free), (11, .free), (12, .free), (13, .free), (14, .free), (15, .free), (16, .free), (17, .free), (18, .free), (19, .free), (20, .free), (21, .free), (22, .behind), (23, .free), (24, .free)] (by kernel_rfl) (by kernel_rfl) (by kernel_rfl) (by kernel_rfl) (fun ops hops A hA => ?_)
      have hsz : A.tmps.size = 42 := by rw [hA]; rfl
      have base0 : A.eval (.tmp 0) = .slice (some ⟨ga, 0, none⟩) N cx := by rw [hA]; rfl
      have base1 : A.eval (.tmp 1) = .slice (some ⟨gb, 0, none⟩) N cy := by rw [hA]; rfl
      have base5 : A.eval (.tmp 5) = .int .i64 (k : Int) := by rw [hA]; rfl
      have HAA := Lib.hid hA; clear hA
      obtain ⟨o0, po0, q0, d0, gd0⟩ : ∃ o, ops[0]? = some o ∧ o.op = .move (.tmp 0) ∧ o.dst = some 17 ∧ o.guard = none := ⟨_, by rw [hops]; rfl, rfl, rfl, rfl⟩
      obtain ⟨o1, po1, q1, d1, gd1⟩ : ∃ o, ops[1]? = some o ∧ o.op = .move (.tmp 5) ∧ o.dst = some 18 ∧ o.guard = none := ⟨_, by rw [hops]; rfl, rfl, rfl, rfl⟩
      obtain ⟨o2, po2, q2, d2, gd2⟩ : ∃ o, ops[2]? = some o ∧ o.op = .indexAddr 26 (.tmp 17) (.tmp 18) ∧ o.dst = some 19 ∧ o.guard = none := ⟨_, by rw [hops]; rfl, rfl, rfl, rfl⟩
      obtain ⟨o3, po3, q3, d3, gd3⟩ : ∃ o, ops[3]? = some o ∧ o.op = .fieldAddr 46 (.tmp 19) 0 ∧ o.dst = some 20 ∧ o.guard = none := ⟨_, by rw [hops]; rfl, rfl, rfl, rfl⟩
      obtain ⟨o4, po4, q4, d4, gd4⟩ : ∃ o, ops[4]? = some o ∧ o.op = .load 3 (.tmp 20) ∧ o.dst = some 21 ∧ o.guard = none := ⟨_, by rw [hops]; rfl, rfl, rfl, rfl⟩
      obtain ⟨o5, po5, q5, d5, gd5⟩ : ∃ o, ops[5]? = some o ∧ o.op = .move (.tmp 1) ∧ o.dst = some 22 ∧ o.guard = none := ⟨_, by rw [hops]; rfl, rfl, rfl, rfl⟩
      obtain ⟨o6, po6, q6, d6, gd6⟩ : ∃ o, ops[6]? = some o ∧ o.op = .move (.tmp 5) ∧ o.dst = some 23 ∧ o.guard = none := ⟨_, by rw [hops]; rfl, rfl, rfl, rfl⟩
      obtain ⟨o7, po7, q7, d7, gd7⟩ : ∃ o, ops[7]? = some o ∧ o.op = .indexAddr 26 (.tmp 22) (.tmp 23) ∧ o.dst = some 24 ∧ o.guard = none := ⟨_, by rw [hops]; rfl, rfl, rfl, rfl⟩
      obtain ⟨o8, po8, q8, d8, gd8⟩ : ∃ o, ops[8]? = some o ∧ o.op = .fieldAddr 46 (.tmp 24) 0 ∧ o.dst = some 25 ∧ o.guard = none := ⟨_, by rw [hops]; rfl, rfl, rfl, rfl⟩
      obtain ⟨o9, po9, q9, d9, gd9⟩ : ∃ o, ops[9]? = some o ∧ o.op = .load 3 (.tmp 25) ∧ o.dst = some 26 ∧ o.guard = none := ⟨_, by rw [hops]; rfl, rfl, rfl, rfl⟩
      obtain ⟨o10, po10, q10, d10, gd10⟩ : ∃ o, ops[10]? = some o ∧ o.op = .binOp .eql 3 (.tmp 21) (.tmp 26) 3 ∧ o.dst = some 27 ∧ o.guard = none := ⟨_, by rw [hops]; rfl, rfl, rfl, rfl⟩
      obtain ⟨o11, po11, q11, d11, gd11⟩ : ∃ o, ops[11]? = some o ∧ o.op = .move (.tmp 27) ∧ o.dst = some 28 ∧ o.guard = none := ⟨_, by rw [hops]; rfl, rfl, rfl, rfl⟩
      obtain ⟨o12, po12, q12, d12, gd12⟩ : ∃ o, ops[12]? = some o ∧ o.op = .move (.tmp 0) ∧ o.dst = some 29 ∧ o.guard = some (11, true) := ⟨_, by rw [hops]; rfl, rfl, rfl, rfl⟩
      obtain ⟨o13, po13, q13, d13, gd13⟩ : ∃ o, ops[13]? = some o ∧ o.op = .move (.tmp 5) ∧ o.dst = some 30 ∧ o.guard = some (11, true) := ⟨_, by rw [hops]; rfl, rfl, rfl, rfl⟩
      obtain ⟨o14, po14, q14, d14, gd14⟩ : ∃ o, ops[14]? = some o ∧ o.op = .indexAddr 26 (.tmp 29) (.tmp 30) ∧ o.dst = some 31 ∧ o.guard = some (11, true) := ⟨_, by rw [hops]; rfl, rfl, rfl, rfl⟩
      obtain ⟨o15, po15, q15, d15, gd15⟩ : ∃ o, ops[15]? = some o ∧ o.op = .fieldAddr 46 (.tmp 31) 1 ∧ o.dst = some 32 ∧ o.guard = some (11, true) := ⟨_, by rw [hops]; rfl, rfl, rfl, rfl⟩
      obtain ⟨o16, po16, q16, d16, gd16⟩ : ∃ o, ops[16]? = some o ∧ o.op = .load 41 (.tmp 32) ∧ o.dst = some 33 ∧ o.guard = some (11, true) := ⟨_, by rw [hops]; rfl, rfl, rfl, rfl⟩
      obtain ⟨o17, po17, q17, d17, gd17⟩ : ∃ o, ops[17]? = some o ∧ o.op = .move (.tmp 1) ∧ o.dst = some 34 ∧ o.guard = some (11, true) := ⟨_, by rw [hops]; rfl, rfl, rfl, rfl⟩
      obtain ⟨o18, po18, q18, d18, gd18⟩ : ∃ o, ops[18]? = some o ∧ o.op = .move (.tmp 5) ∧ o.dst = some 35 ∧ o.guard = some (11, true) := ⟨_, by rw [hops]; rfl, rfl, rfl, rfl⟩
      obtain ⟨o19, po19, q19, d19, gd19⟩ : ∃ o, ops[19]? = some o ∧ o.op = .indexAddr 26 (.tmp 34) (.tmp 35) ∧ o.dst = some 36 ∧ o.guard = some (11, true) := ⟨_, by rw [hops]; rfl, rfl, rfl, rfl⟩
      obtain ⟨o20, po20, q20, d20, gd20⟩ : ∃ o, ops[20]? = some o ∧ o.op = .fieldAddr 46 (.tmp 36) 1 ∧ o.dst = some 37 ∧ o.guard = some (11, true) := ⟨_, by rw [hops]; rfl, rfl, rfl, rfl⟩
      obtain ⟨o21, po21, q21, d21, gd21⟩ : ∃ o, ops[21]? = some o ∧ o.op = .load 41 (.tmp 37) ∧ o.dst = some 38 ∧ o.guard = some (11, true) := ⟨_, by rw [hops]; rfl, rfl, rfl, rfl⟩
      obtain ⟨o22, po22, q22, d22, gd22⟩ : ∃ o, ops[22]? = some o ∧ o.op = .call { callee := .value (.func 29), args := #[.tmp 33, .tmp 38], argTypes := #[41, 41] } ∧ o.dst = some 39 ∧ o.guard = some (11, true) := ⟨_, by rw [hops]; rfl, rfl, rfl, rfl⟩
      obtain ⟨o23, po23, q23, d23, gd23⟩ : ∃ o, ops[23]? = some o ∧ o.op = .pick (.tmp 28) (.tmp 39) (.const (.bool false)) ∧ o.dst = some 40 ∧ o.guard = none := ⟨_, by rw [hops]; rfl, rfl, rfl, rfl⟩
      obtain ⟨o24, po24, q24, d24, gd24⟩ : ∃ o, ops[24]? = some o ∧ o.op = .unOp .not 4 (.tmp 40) ∧ o.dst = some 41 ∧ o.guard = none := ⟨_, by rw [hops]; rfl, rfl, rfl, rfl⟩
      clear hops
      refine met_free po0 d0 (wanted_of gd0) (fun w' h' => run_move q0 base0 w') ?_
      refine met_free po1 d1 (wanted_of gd1) (fun w' h' => run_move q1 ((eval_other _ 17 5 _ (by decide)).trans base5) w') ?_
      refine met_free po2 d2 (wanted_of gd2) (fun w' h' => run_ixFr q2 ((eval_other _ 18 17 _ (by decide)).trans (eval_same _ _ _ (by rw [hsz]; decide))) (eval_same _ _ _ (by simp only [put_size, hsz]; decide)) hlt w') ?_
      refine met_free po3 d3 (wanted_of gd3) (fun w' h' => run_fieldFr q3 (by decide) (eval_same _ _ _ (by simp only [put_size, hsz]; decide)) w') ?_
      refine met_free po4 d4 (wanted_of gd4) (fun w' h' => run_loadKind q4 (eval_same _ _ _ (by simp only [put_size, hsz]; decide)) (HA1.out _ h')) ?_
      refine met_free po5 d5 (wanted_of gd5) (fun w' h' => run_move q5 ((eval_other _ 21 1 _ (by decide)).trans ((eval_other _ 20 1 _ (by decide)).trans ((eval_other _ 19 1 _ (by decide)).trans ((eval_other _ 18 1 _ (by decide)).trans ((eval_other _ 17 1 _ (by decide)).trans base1))))) w') ?_
      refine met_free po6 d6 (wanted_of gd6) (fun w' h' => run_move q6 ((eval_other _ 22 5 _ (by decide)).trans ((eval_other _ 21 5 _ (by decide)).trans ((eval_other _ 20 5 _ (by decide)).trans ((eval_other _ 19 5 _ (by decide)).trans ((eval_other _ 18 5 _ (by decide)).trans ((eval_other _ 17 5 _ (by decide)).trans base5)))))) w') ?_
      refine met_free po7 d7 (wanted_of gd7) (fun w' h' => run_ixFr q7 ((eval_other _ 23 22 _ (by decide)).trans (eval_same _ _ _ (by simp only [put_size, hsz]; decide))) (eval_same _ _ _ (by simp only [put_size, hsz]; decide)) hlt w') ?_
      refine met_free po8 d8 (wanted_of gd8) (fun w' h' => run_fieldFr q8 (by decide) (eval_same _ _ _ (by simp only [put_size, hsz]; decide)) w') ?_
      refine met_free po9 d9 (wanted_of gd9) (fun w' h' => run_loadKind q9 (eval_same _ _ _ (by simp only [put_size, hsz]; decide)) (HB1.out _ h')) ?_
      refine met_free po10 d10 (wanted_of gd10) (fun w' h' => run_eqKind q10 ((eval_other _ 26 21 _ (by decide)).trans ((eval_other _ 25 21 _ (by decide)).trans ((eval_other _ 24 21 _ (by decide)).trans ((eval_other _ 23 21 _ (by decide)).trans ((eval_other _ 22 21 _ (by decide)).trans (eval_same _ _ _ (by simp only [put_size, hsz]; decide))))))) (eval_same _ _ _ (by simp only [put_size, hsz]; decide)) w') ?_
      refine met_free po11 d11 (wanted_of gd11) (fun w' h' => run_move q11 (eval_same _ _ _ (by simp only [put_size, hsz]; decide)) w') ?_
      refine met_free po12 d12 (wanted_guard gd12 po11 d11 (eval_same _ _ _ (by simp only [put_size, hsz]; decide))) (fun w' h' => run_move q12 ((eval_other _ 28 0 _ (by decide)).trans ((eval_other _ 27 0 _ (by decide)).trans ((eval_other _ 26 0 _ (by decide)).trans ((eval_other _ 25 0 _ (by decide)).trans ((eval_other _ 24 0 _ (by decide)).trans ((eval_other _ 23 0 _ (by decide)).trans ((eval_other _ 22 0 _ (by decide)).trans ((eval_other _ 21 0 _ (by decide)).trans ((eval_other _ 20 0 _ (by decide)).trans ((eval_other _ 19 0 _ (by decide)).trans ((eval_other _ 18 0 _ (by decide)).trans ((eval_other _ 17 0 _ (by decide)).trans base0)))))))))))) w') ?_
      refine met_free po13 d13 (wanted_guard gd13 po11 d11 ((eval_other _ 29 28 _ (by decide)).trans (eval_same _ _ _ (by simp only [put_size, hsz]; decide)))) (fun w' h' => run_move q13 ((eval_other _ 29 5 _ (by decide)).trans ((eval_other _ 28 5 _ (by decide)).trans ((eval_other _ 27 5 _ (by decide)).trans ((eval_other _ 26 5 _ (by decide)).trans ((eval_other _ 25 5 _ (by decide)).trans ((eval_other _ 24 5 _ (by decide)).trans ((eval_other _ 23 5 _ (by decide)).trans ((eval_other _ 22 5 _ (by decide)).trans ((eval_other _ 21 5 _ (by decide)).trans ((eval_other _ 20 5 _ (by decide)).trans ((eval_other _ 19 5 _ (by decide)).trans ((eval_other _ 18 5 _ (by decide)).trans ((eval_other _ 17 5 _ (by decide)).trans base5))))))))))))) w') ?_
      refine met_free po14 d14 (wanted_guard gd14 po11 d11 ((eval_other _ 30 28 _ (by decide)).trans ((eval_other _ 29 28 _ (by decide)).trans (eval_same _ _ _ (by simp only [put_size, hsz]; decide))))) (fun w' h' => run_ixFr q14 ((eval_other _ 30 29 _ (by decide)).trans (eval_same _ _ _ (by simp only [put_size, hsz]; decide))) (eval_same _ _ _ (by simp only [put_size, hsz]; decide)) hlt w') ?_
      refine met_free po15 d15 (wanted_guard gd15 po11 d11 ((eval_other _ 31 28 _ (by decide)).trans ((eval_other _ 30 28 _ (by decide)).trans ((eval_other _ 29 28 _ (by decide)).trans (eval_same _ _ _ (by simp only [put_size, hsz]; decide)))))) (fun w' h' => run_fieldFr q15 (by decide) (eval_same _ _ _ (by simp only [put_size, hsz]; decide)) w') ?_
      refine met_free po16 d16 (wanted_guard gd16 po11 d11 ((eval_other _ 32 28 _ (by decide)).trans ((eval_other _ 31 28 _ (by decide)).trans ((eval_other _ 30 28 _ (by decide)).trans ((eval_other _ 29 28 _ (by decide)).trans (eval_same _ _ _ (by simp only [put_size, hsz]; decide))))))) (fun w' h' => run_loadSlice q16 (eval_same _ _ _ (by simp only [put_size, hsz]; decide)) (HA2.out _ h')) ?_
      refine met_free po17 d17 (wanted_guard gd17 po11 d11 ((eval_other _ 33 28 _ (by decide)).trans ((eval_other _ 32 28 _ (by decide)).trans ((eval_other _ 31 28 _ (by decide)).trans ((eval_other _ 30 28 _ (by decide)).trans ((eval_other _ 29 28 _ (by decide)).trans (eval_same _ _ _ (by simp only [put_size, hsz]; decide)))))))) (fun w' h' => run_move q17 ((eval_other _ 33 1 _ (by decide)).trans ((eval_other _ 32 1 _ (by decide)).trans ((eval_other _ 31 1 _ (by decide)).trans ((eval_other _ 30 1 _ (by decide)).trans ((eval_other _ 29 1 _ (by decide)).trans ((eval_other _ 28 1 _ (by decide)).trans ((eval_other _ 27 1 _ (by decide)).trans ((eval_other _ 26 1 _ (by decide)).trans ((eval_other _ 25 1 _ (by decide)).trans ((eval_other _ 24 1 _ (by decide)).trans ((eval_other _ 23 1 _ (by decide)).trans ((eval_other _ 22 1 _ (by decide)).trans ((eval_other _ 21 1 _ (by decide)).trans ((eval_other _ 20 1 _ (by decide)).trans ((eval_other _ 19 1 _ (by decide)).trans ((eval_other _ 18 1 _ (by decide)).trans ((eval_other _ 17 1 _ (by decide)).trans base1))))))))))))))))) w') ?_
      refine met_free po18 d18 (wanted_guard gd18 po11 d11 ((eval_other _ 34 28 _ (by decide)).trans ((eval_other _ 33 28 _ (by decide)).trans ((eval_other _ 32 28 _ (by decide)).trans ((eval_other _ 31 28 _ (by decide)).trans ((eval_other _ 30 28 _ (by decide)).trans ((eval_other _ 29 28 _ (by decide)).trans (eval_same _ _ _ (by simp only [put_size, hsz]; decide))))))))) (fun w' h' => run_move q18 ((eval_other _ 34 5 _ (by decide)).trans ((eval_other _ 33 5 _ (by decide)).trans ((eval_other _ 32 5 _ (by decide)).trans ((eval_other _ 31 5 _ (by decide)).trans ((eval_other _ 30 5 _ (by decide)).trans ((eval_other _ 29 5 _ (by decide)).trans ((eval_other _ 28 5 _ (by decide)).trans ((eval_other _ 27 5 _ (by decide)).trans ((eval_other _ 26 5 _ (by decide)).trans ((eval_other _ 25 5 _ (by decide)).trans ((eval_other _ 24 5 _ (by decide)).trans ((eval_other _ 23 5 _ (by decide)).trans ((eval_other _ 22 5 _ (by decide)).trans ((eval_other _ 21 5 _ (by decide)).trans ((eval_other _ 20 5 _ (by decide)).trans ((eval_other _ 19 5 _ (by decide)).trans ((eval_other _ 18 5 _ (by decide)).trans ((eval_other _ 17 5 _ (by decide)).trans base5)))))))))))))))))) w') ?_
      refine met_free po19 d19 (wanted_guard gd19 po11 d11 ((eval_other _ 35 28 _ (by decide)).trans ((eval_other _ 34 28 _ (by decide)).trans ((eval_other _ 33 28 _ (by decide)).trans ((eval_other _ 32 28 _ (by decide)).trans ((eval_other _ 31 28 _ (by decide)).trans ((eval_other _ 30 28 _ (by decide)).trans ((eval_other _ 29 28 _ (by decide)).trans (eval_same _ _ _ (by simp only [put_size, hsz]; decide)))))))))) (fun w' h' => run_ixFr q19 ((eval_other _ 35 34 _ (by decide)).trans (eval_same _ _ _ (by simp only [put_size, hsz]; decide))) (eval_same _ _ _ (by simp only [put_size, hsz]; decide)) hlt w') ?_
      refine met_free po20 d20 (wanted_guard gd20 po11 d11 ((eval_other _ 36 28 _ (by decide)).trans ((eval_other _ 35 28 _ (by decide)).trans ((eval_other _ 34 28 _ (by decide)).trans ((eval_other _ 33 28 _ (by decide)).trans ((eval_other _ 32 28 _ (by decide)).trans ((eval_other _ 31 28 _ (by decide)).trans ((eval_other _ 30 28 _ (by decide)).trans ((eval_other _ 29 28 _ (by decide)).trans (eval_same _ _ _ (by simp only [put_size, hsz]; decide))))))))))) (fun w' h' => run_fieldFr q20 (by decide) (eval_same _ _ _ (by simp only [put_size, hsz]; decide)) w') ?_
      refine met_free po21 d21 (wanted_guard gd21 po11 d11 ((eval_other _ 37 28 _ (by decide)).trans ((eval_other _ 36 28 _ (by decide)).trans ((eval_other _ 35 28 _ (by decide)).trans ((eval_other _ 34 28 _ (by decide)).trans ((eval_other _ 33 28 _ (by decide)).trans ((eval_other _ 32 28 _ (by decide)).trans ((eval_other _ 31 28 _ (by decide)).trans ((eval_other _ 30 28 _ (by decide)).trans ((eval_other _ 29 28 _ (by decide)).trans (eval_same _ _ _ (by simp only [put_size, hsz]; decide)))))))))))) (fun w' h' => run_loadSlice q21 (eval_same _ _ _ (by simp only [put_size, hsz]; decide)) (HB2.out _ h')) ?_
      refine m_enter po22 d22 (wanted_guard gd22 po11 d11 ((eval_other _ 38 28 _ (by decide)).trans ((eval_other _ 37 28 _ (by decide)).trans ((eval_other _ 36 28 _ (by decide)).trans ((eval_other _ 35 28 _ (by decide)).trans ((eval_other _ 34 28 _ (by decide)).trans ((eval_other _ 33 28 _ (by decide)).trans ((eval_other _ 32 28 _ (by decide)).trans ((eval_other _ 31 28 _ (by decide)).trans ((eval_other _ 30 28 _ (by decide)).trans ((eval_other _ 29 28 _ (by decide)).trans (eval_same _ _ _ (by simp only [put_size, hsz]; decide))))))))))))) (run_callf2 q22 rfl ((eval_other _ 38 33 _ (by decide)).trans ((eval_other _ 37 33 _ (by decide)).trans ((eval_other _ 36 33 _ (by decide)).trans ((eval_other _ 35 33 _ (by decide)).trans ((eval_other _ 34 33 _ (by decide)).trans (eval_same _ _ _ (by simp only [put_size, hsz]; decide))))))) (eval_same _ _ _ (by simp only [put_size, hsz]; decide)) Tryd.func29 (by kernel_rfl) _) (same_big f.2 f.2.length qa qb sa sb _ rfl (by omega) (HLA.out.below HD.out) (HLB.out.below HD.out)) ?_
      rintro e w9 ⟨rfl, hb9⟩
      have HB9 : Hid (Below w.heap.size w w9) := show Below _ _ _ from HD.out.trans (hb9.mono HD.out.size)
      clear hb9
      refine ⟨_, rfl, HB9.out, ?_⟩
      refine met_free po23 d23 (wanted_of gd23) (fun w' h' => run_pick_true q23 ((eval_other _ 39 28 _ (by decide)).trans ((eval_other _ 38 28 _ (by decide)).trans ((eval_other _ 37 28 _ (by decide)).trans ((eval_other _ 36 28 _ (by decide)).trans ((eval_other _ 35 28 _ (by decide)).trans ((eval_other _ 34 28 _ (by decide)).trans ((eval_other _ 33 28 _ (by decide)).trans ((eval_other _ 32 28 _ (by decide)).trans ((eval_other _ 31 28 _ (by decide)).trans ((eval_other _ 30 28 _ (by decide)).trans ((eval_other _ 29 28 _ (by decide)).trans (eval_same _ _ _ (by simp only [put_size, hsz]; decide))))))))))))) (eval_same _ _ _ (by simp only [put_size, hsz]; decide)) w') ?_
      refine met_free po24 d24 (wanted_of gd24) (fun w' h' => r_not q24 (eval_same _ _ _ (by simp only [put_size, hsz]; decide)) w') ?_
      show NoPanic _ .normal _ _
      refine NoPanic.normal ?_
      rw [HAA.out]
      go_frame
      clear HAA
      clear po0 q0 d0 gd0 po1 q1 d1 gd1 po2 q2 d2 gd2 po3 q3 d3 gd3 po4 q4 d4 gd4 po5 q5 d5 gd5 po6 q6 d6 gd6 po7 q7 d7 gd7 po8 q8 d8 gd8 po9 q9 d9 gd9 po10 q10 d10 gd10 po11 q11 d11 gd11 po12 q12 d12 gd12 po13 q13 d13 gd13 po14 q14 d14 gd14 po15 q15 d15 gd15 po16 q16 d16 gd16 po17 q17 d17 gd17 po18 q18 d18 gd18 po19 q19 d19 gd19 po20 q20 d20 gd20 po21 q21 d21 gd21 po22 q22 d22 gd22 po23 q23 d23 gd23 po24 q24 d24 gd24
      clear base0 base1 base5 hsz
      go_wp2_with fail
      go_roundw
      case rel => exact ⟨k + 1, by omega, by go_num, HB9.out⟩
      case measure => simp [intOf]; omega
    · have q1 : ¬ (k : Int) < (N : Int) := by omega
      clear hb
      go_wp2_with fail
      go_ret
      exact ⟨rfl, HB.out⟩
theorem results_row9 {fn : Func} {p : Tmp} (h : fn.results = #[.cell p 46]) {tmps : Array Value} {w : World} {T : Nat} {a b : Value} (hp : tmps.getD p undef = .pointer (some ⟨T, 0, none⟩)) (hC : FrC w T a b) : (results fn tmps).run Tryd.prog w = .ok (.agg #[a, b]) w :=
  results_cell_row h tmps w T 46 _ (0, 0) _ hp hC Tryd.underlying46 rfl sizeFrame
/-- A row of frames, whatever they are. -/
def FrRow (w : World) (g cap : Nat) : Prop := ∃ cur : Array Value, w.heap[g]? = some (.cells cur 46 (0, 0)) ∧ cur.size = cap * 2
theorem FrRow.cells {w : World} {g cap : Nat} (h : FrRow w g cap) {i : Nat} (hi : i < cap) : (∃ a b, w.cell? ⟨g, i * 2, none⟩ = some a ∧ w.cell? ⟨g, i * 2 + 1, none⟩ = some b) ∧ ∀ j, w.frozen? ⟨g, j, none⟩ = false := by
  obtain ⟨cur, hh, hs⟩ := h
  refine ⟨⟨cur[i * 2]'(by omega), cur[i * 2 + 1]'(by omega), ?_, ?_⟩, fun j => frozen_of_row _ _ _ _ _ hh⟩
  · rw [cell_of_row w g _ cur _ (0, 0) hh]; exact Array.getElem?_eq_getElem _
  · rw [cell_of_row w g _ cur _ (0, 0) hh]; exact Array.getElem?_eq_getElem _
theorem FrRow.put {w : World} {g cap : Nat} (h : FrRow w g cap) (j : Nat) (v : Value) : FrRow (w.setCell ⟨g, j, none⟩ v) g cap := by
  obtain ⟨cur, hh, hs⟩ := h
  exact ⟨_, heap_setCell_same _ _ _ _ _ _ hh, by rw [Array.size_setIfInBounds]; exact hs⟩
theorem FrRow.below {w w' : World} {g cap : Nat} (h : FrRow w g cap) (hb : Below w.heap.size w w') : FrRow w' g cap := by
  obtain ⟨cur, hh, hs⟩ := h
  exact ⟨cur, (hb.block _ (Array.getElem?_eq_some_iff.1 hh).1).trans hh, hs⟩
end Go.Proofs.YteanjfcejpibaaaDoor
