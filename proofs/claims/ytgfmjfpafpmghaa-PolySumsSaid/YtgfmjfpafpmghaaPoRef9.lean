/-
  The reference's Sum: the document's tag.
-/
import Derived.Test.YtgfmjfpafpmghaaPoRef6
import Derived.Test.YtgfmjfpafpmghaaPoRef7
import Derived.Test.YtgfmjfpafpmghaaPoRef8
import Derived.Test.YtgfmjfpafpmghaaPoTags
import Derived.Test.YtgfmjfpafpmghaaAppendList
namespace Go.Proofs.Ytgfmjfpafpmghaa
open Go.RowKit Go.Proofs.ShaWords
theorem run_min2 {ρ : Operand → Value} {o : Oper} {x y : Operand} {n m k : Nat} (ho : o.op = .call { callee := .builtin .min, args := #[x, y], argTypes := #[3, 3] }) (hx : ρ x = .int .i64 (n : Int)) (hy : ρ y = .int .i64 (m : Int)) (hk : k = min n m) (w : World) :
    (execOp ρ o).run Try.prog w = .ok (.value (.int .i64 (k : Int))) w := by
  obtain ⟨dst, op, ty', pos, after, guard⟩ := o
  simp only at ho
  subst ho
  by_cases h : n < m
  · have q : (n : Int) < (m : Int) := by omega
    have q2 : ¬ (m : Int) < (n : Int) := by omega
    obtain rfl : k = n := by omega
    clear hk h
    go_simp
  · by_cases h2 : m < n
    · have q : ¬ (n : Int) < (m : Int) := by omega
      have q2 : (m : Int) < (n : Int) := by omega
      obtain rfl : k = m := by omega
      clear hk h h2
      go_simp
    · obtain rfl : n = m := by omega
      obtain rfl : k = n := by omega
      clear hk h h2
      go_simp
theorem wpList_min2 {ops : Array Oper} {rest : List Oper} {o : Oper} {a : Act} {w : World} {Q : Exit → Act → World → Prop} (hg : o.guard = none) (x y : Operand) (ho : o.op = .call { callee := .builtin .min, args := #[x, y], argTypes := #[3, 3] }) (n m k : Nat)
    (hx : a.eval x = .int .i64 (n : Int)) (hy : a.eval y = .int .i64 (m : Int)) (hk : k = min n m) (h : wpList Try.prog ops Q rest (a.put o.dst (.int .i64 (k : Int))) w) : wpList Try.prog ops Q (o :: rest) a w := by
  refine wpList_plain hg fun K hK => ?_
  unfold Oper.wp
  rw [run_min2 ho hx hy hk w, Oper.upon_value]
  exact hK _ _ h
theorem own_empty (w : World) (g : Nat) (B : Nat) (hg : w.heap[g]? = some (.cells #[] 5 (0, 0))) (hB : B ≤ g) : Own B w [] (.slice (some ⟨g, 0, none⟩) 0 0) :=
  ⟨by simp [bytesV], .inr ⟨g, 0, #[], rfl, hB, hg, Nat.le_refl _, Nat.zero_le _, rfl, rfl⟩⟩
/-- Four digits are a byte. -/
theorem four_digits (L : List Nat) (V i : Nat) (hd : ∀ i, L.getD i 0 < 4) (hv : d4 L = V) : L.getD (4 * i) 0 + 4 * L.getD (4 * i + 1) 0 + 16 * L.getD (4 * i + 2) 0 + 64 * L.getD (4 * i + 3) 0 = V / 256 ^ i % 256 := by
  have h1 := d4_split L (4 * i)
  have h2 := d4_take_lt L (4 * i) hd
  rw [pow4] at h1 h2
  have h3 : d4 (L.drop (4 * i)) = V / 256 ^ i := by
    rw [← hv, h1, Nat.add_mul_div_left _ _ (Nat.pow_pos (by omega)), Nat.div_eq_of_lt h2, Nat.zero_add]
  have h4 := d4_split (L.drop (4 * i)) 4
  have h5 : d4 ((L.drop (4 * i)).take 4) = L.getD (4 * i) 0 + 4 * L.getD (4 * i + 1) 0 + 16 * L.getD (4 * i + 2) 0 + 64 * L.getD (4 * i + 3) 0 := by
    have e : ∀ k, (L.drop (4 * i)).getD k 0 = L.getD (4 * i + k) 0 := fun k => by simp [List.getD, List.getElem?_drop]
    rw [show (4 : Nat) = 3 + 1 from rfl, d4_take_succ, show (3 : Nat) = 2 + 1 from rfl, d4_take_succ, show (2 : Nat) = 1 + 1 from rfl, d4_take_succ, show (1 : Nat) = 0 + 1 from rfl, d4_take_succ]
    simp only [List.take_zero, e]
    simp [d4]
  have a0 := hd (4 * i); have a1 := hd (4 * i + 1); have a2 := hd (4 * i + 2); have a3 := hd (4 * i + 3)
  rw [h3] at h4
  rw [h4, h5]
  omega
def fillB (V : Nat) : Nat → List (BitVec 8)
  | 0 => zeros16
  | k + 1 => (fillB V k).set k (BitVec.ofNat 8 (V / 256 ^ k % 256))
theorem fillB_zero (V : Nat) : fillB V 0 = zeros16 := rfl
theorem fillB_succ (V k : Nat) : fillB V (k + 1) = (fillB V k).set k (BitVec.ofNat 8 (V / 256 ^ k % 256)) := rfl
theorem fillB_length (V k : Nat) : (fillB V k).length = 16 := by
  induction k with
  | zero => rfl
  | succ k ih => rw [fillB_succ, List.length_set, ih]
theorem fillB_get (V k i : Nat) (hk : k ≤ 16) (hi : i < k) : (fillB V k).getD i 0#8 = BitVec.ofNat 8 (V / 256 ^ i) := by
  induction k with
  | zero => omega
  | succ k ih =>
    rw [fillB_succ, getD_set _ _ _ _ (by rw [fillB_length]; omega)]
    by_cases h : i = k
    · subst h; rw [if_pos rfl]
      apply BitVec.eq_of_toNat_eq
      rw [BitVec.toNat_ofNat, BitVec.toNat_ofNat]; omega
    · rw [if_neg h]; exact ih (by omega) (by omega)
theorem fillB_all (V : Nat) : fillB V 16 = leB V := by
  apply ext_getD _ _ (by rw [fillB_length, leB_length])
  intro i hi
  rw [fillB_length] at hi
  rw [fillB_get V 16 i (Nat.le_refl _) hi, leB_get V i hi]
/-- What the reference's Sum has in memory. -/
structure RefS (w : World) (key : List (BitVec 8)) (pr : Option Addr) (Lr : List Nat) (wr : World) : Prop where
  key : BytesAt wr w.heap.size 23 key
  res : BytesAt wr (w.heap.size + 1) 28 zeros16
  r : LiesI wr pr Lr
  below : Below w.heap.size w wr
theorem RefS.on {w wr w' : World} {key : List (BitVec 8)} {pr : Option Addr} {Lr : List Nat} (h : RefS w key pr Lr wr) (hb : Below wr.heap.size wr w') : RefS w key pr Lr w' := ⟨h.key.keep hb, h.res.keep hb, h.r.below hb, h.below.trans (hb.mono h.below.size)⟩
theorem LieW.on {N M : Nat} {L : List Nat} {p : Option Addr} {n c : Nat} {w w' : World} (h : LieW N M L p n c w) (hb : Below w.heap.size w w') : LieW N M L p n c w' := ⟨h.lies.below hb, h.len, h.cap, h.most, h.dig, h.val⟩
theorem DigW.lie {B N M : Nat} {L : List Nat} {v : Value} {w : World} (h : DigW B N M L v w) : ∃ p c, v = .slice p L.length c ∧ LieW N M L p L.length c w := by
  obtain ⟨p, c, hv, hc, hl⟩ := h.own.lies
  exact ⟨p, c, hv, hl, rfl, hc, h.len, h.dig, h.val⟩
attribute [local go_sem] wrap8_nat
attribute [local irreducible] zeros16 accN fillB
set_option maxRecDepth 100000 in
set_option maxHeartbeats 8000000 in
theorem refSum_any (key bs : List (BitVec 8)) (m : Nat) (p : Option Addr) (cap : Nat) (w : World) (hk : key.length = 32) (hm : bs.length = m) (hl : m ≤ 1024) (hc : m ≤ cap) (hL : Lies w p bs) :
    Calls Try.prog 11 #[.agg (bytesV key).toArray, .slice p m cap] w fun e w' => e = .returned (.agg (bytesV (polyTag key bs)).toArray) ∧ Below w.heap.size w w' := by
  have HKL := Lib.hid hk
  have HPT := Lib.hid (polyTag_num key bs hk); clear hk
  have HM := Lib.hid hm; clear hm
  have HL := Lib.hid hL; clear hL
  have HIK := Lib.hid (infoKey key HKL.out)
  have HCL := Lib.hid (clrOf_length key HKL.out)
  have HA0 : Hid (accN (leN (clrOf key)) bs 0 = 0) := show _ = _ by unfold accN; rfl
  have HAS := Lib.hid (accN_succ (leN (clrOf key)) bs)
  go_enter Try.func11, Try.ntmps11
  go_upto_region 1 with (fail)
  refine wp_gen (KeyW w key) ?_ ?_
  · exact ⟨BytesAt.keep (w := w.alloc _) (heap_alloc_new w _) ((Below.refl _ _).alloc (Nat.le_refl _) _), by show _ = some (Obj.cells (bytesV zeros16).toArray _ _); rw [zeros16_eq]; exact heap_new_at (by simp), ((Below.refl _ _).alloc (Nat.le_refl _) _).alloc (by simp) _⟩
  intro w0 hw0
  have HROW := Lib.hid hw0.key
  have HW0 := Lib.hid hw0; clear hw0
  go_wp2_with (refine wpList_load_row rfl 23 (.tmp 2) rfl w.heap.size rfl 23 _ (0, 0) _ HROW.out Try.underlying23 rfl HIK.out ?_)
  refine (clamp_any key w0 HKL.out).mono ?_
  rintro e w1 ⟨v1, rfl, ho1, hb1⟩
  obtain ⟨p1, c1, hv1, hc1, hl1⟩ := own_lies ho1
  rw [HCL.out] at hv1 hc1
  subst hv1
  have HW1 := Lib.hid (HW0.out.on hb1)
  have HL1 := Lib.hid hl1
  clear ho1 hb1 hl1 HW0 HROW
  go_wp2_with fail
  refine (digits_any (clrOf key) 16 p1 c1 w1 HCL.out (by omega) HL1.out).mono ?_
  rintro e w2 ⟨Lr, v2, rfl, hd2, hb2⟩
  obtain ⟨pr, cr, hv2, hlr⟩ := hd2.lie
  subst hv2
  have HR : Hid (LieW (leN (clrOf key)) 64 Lr pr Lr.length cr w2) := hlr
  have HW2 : Hid (RefS w key pr Lr w2) := show RefS _ _ _ _ _ from ⟨(HW1.out.on hb2).key, (HW1.out.on hb2).res, hlr.lies, (HW1.out.on hb2).below⟩
  have HRD := Lib.hid hlr.dig
  have HRV := Lib.hid hlr.val
  have hrm := hlr.most
  have hrl := hlr.len
  clear hd2 hb2 hlr HW1 HL1 HR
  generalize hrn : Lr.length = nr at hrm hrl
  have HRN := Lib.hid hrn
  clear hrl hrn
  go_wp2_with fail
  go_loopw [6, 7, 8] (fun av iv _ wr => ∃ (j : Nat) (L : List Nat) (q : Option Addr) (n c : Nat), 16 * j < m + 16 ∧ iv = .int .i64 ((16 * j : Nat) : Int) ∧ av = .slice q n c ∧ LieW (accN (leN (clrOf key)) bs j) 65 L q n c wr ∧ RefS w key pr Lr wr) (fun _ iv _ _ => m + 16 - (intOf iv).toNat)
  case atStart => exact ⟨0, [], none, 0, 0, by omega, rfl, rfl, ⟨Or.inl rfl, rfl, Nat.le_refl _, Nat.zero_le _, fun i => by simp, by rw [HA0.out]; rfl⟩, HW2.out⟩
  case round =>
    clear HW2
    obtain ⟨j, L, q, n, c, hj, rfl, rfl, hw, hs⟩ := hrel
    have HW := Lib.hid hw
    have HS := Lib.hid hs
    clear hw hs
    by_cases hlt : 16 * j < m
    · obtain ⟨b, off, hq, hr⟩ : ∃ b off, p = some ⟨b, off, none⟩ ∧ w.rangeAt b off (bytesV bs) := by
        rcases HL.out with h | h
        · have := HM.out; rw [h] at this; simp at this; omega
        · exact h
      subst hq
      obtain ⟨i, hi⟩ : ∃ i, i = 16 * j := ⟨_, rfl⟩
      obtain ⟨f, hf⟩ : ∃ f, f = i + 16 := ⟨_, rfl⟩
      obtain ⟨e, he⟩ : ∃ e, e = min f m := ⟨_, rfl⟩
      obtain ⟨blk, hblk⟩ : ∃ blk, blk = (bs.drop (16 * j)).take 16 := ⟨_, rfl⟩
      have hbl : blk.length = e - i := by rw [hblk, List.length_take, List.length_drop, HM.out]; omega
      have hrb : w.rangeAt b (off + i) (bytesV blk) := by
        have h := range_drop (k := i) hr
        intro t v hv
        refine h t v ?_
        rw [hblk, bytesV_take, List.getElem?_take] at hv
        split at hv
        · rw [hi]; exact hv
        · cases hv
      have HAJ : Hid (accN (leN (clrOf key)) bs (j + 1) = (accN (leN (clrOf key)) bs j + blkN blk) * leN (clrOf key) % P130) := show _ = _ by rw [hblk]; exact HAS.out j
      have HBL := Lib.hid hbl
      have HRB := Lib.hid hrb
      rw [← hi]
      have HEM := Lib.hid he
      have q0 : (i : Int) < (m : Int) := by omega
      have q1 : 0 ≤ (i : Int) := by omega
      have q2 : IntKind.i64.wrap ((i : Int) + 16) = (f : Int) := by rw [IntWalk.i64_in _ (by omega)]; omega
      have q2b : (i : Int) + 16 = (f : Int) := by omega
      have q3 : (e : Int) ≤ (cap : Int) := by omega
      have q4 : (i : Int) ≤ (e : Int) := by omega
      have q5 : ¬ cap = i := by omega
      have q6 : (i : Int).toNat = i := by omega
      have q7 : (e : Int).toNat = e := by omega
      have q8 : 0 ≤ (e : Int) := by omega
      have q9 : i < m := by omega
      have hei : e - i ≤ 16 := by omega
      have hsz0 := HS.out.below.size
      have hnm := HW.out.most
      clear hbl hrb hr hblk he
      have HI := Lib.hid hi
      clear hi hf hj
      go_upto_region 7 with (first
        | (refine wpList_min2 rfl (.tmp 24) (.tmp 26) rfl f m e rfl rfl HEM.out ?_)
        | (at_builtin; refine wpList_append_list rfl (.tmp 20) (.tmp 28) rfl wr.heap.size _ [] blk (some ⟨b, off + i, none⟩) _ rfl (own_empty _ wr.heap.size wr.heap.size (heap_new_at rfl) (Nat.le_refl _)) (by rw [HBL.out]; rfl) (Or.inr ⟨_, _, rfl, range_keep (HRB.out) (HS.out.below.alloc hsz0 _)⟩) (by rw [HBL.out]; simp; omega) (by rw [size_alloc]; omega) ?_; intro v3 w3 ho3 hb3; have HO3 := Lib.hid ho3; have HB3 := Lib.hid (((Below.refl wr.heap.size wr).alloc (Nat.le_refl _) (.cells #[] 5)).trans hb3); clear ho3 hb3))
      clear q0 q1 q2 q2b q3 q4 q5 q6 q7 q8 HRB HEM
      rw [List.nil_append] at HO3
      have hs3 := HB3.out.size
      go_upto_region 8 with (at_builtin; refine wpList_append_byte rfl (.tmp 30) (.tmp 31) rfl wr.heap.size v3 blk 1#8 rfl HO3.out rfl (by rw [HBL.out]; omega) hs3 ?_; intro v4 w4 ho4 hb4; have HO4 := Lib.hid ho4; have HB4 := Lib.hid (HB3.out.trans hb4); clear ho4 hb4)
      clear HO3 HB3 hs3
      obtain ⟨p4, c4, hv4, hc4, hl4⟩ := own_lies HO4.out
      subst hv4
      have hln : (blk ++ [1#8]).length = e - i + 1 := by rw [List.length_append, HBL.out]; rfl
      rw [hln] at hc4 ⊢
      have HLN := Lib.hid hln
      have HL4 := Lib.hid hl4
      have hs4 := HB4.out.size
      clear hl4 hln HO4
      go_wp2_with fail
      refine (digits_any (blk ++ [1#8]) (e - i + 1) p4 c4 w4 HLN.out (by omega) HL4.out).mono ?_
      rintro e5 w5 ⟨L5, v5, rfl, hd5, hb5⟩
      obtain ⟨p5, c5, hv5, hw5⟩ := hd5.lie
      subst hv5
      have hm5 := hw5.most
      have H5 := Lib.hid hw5
      have HB5 := Lib.hid (HB4.out.trans (hb5.mono hs4))
      have hs5 := HB5.out.size
      clear hd5 hb5 hw5 HL4 HB4
      generalize hn5 : L5.length = n5 at H5 hm5
      clear hn5
      go_wp2_with fail
      refine (rplus_any L L5 n n5 q p5 c c5 w5 HW.out.len H5.out.len (by omega) (by omega) HW.out.dig H5.out.dig (HW.out.lies.below HB5.out) H5.out.lies).mono ?_
      rintro e6 w6 ⟨L6, v6, rfl, hd6, hb6⟩
      have hv6 := hd6.val
      rw [HW.out.val, H5.out.val, blk_one] at hv6
      have HV6 := Lib.hid hv6
      obtain ⟨p6, c6, hv6', hw6⟩ := hd6.lie
      subst hv6'
      have hm6 := hw6.most
      have H6 := Lib.hid hw6
      have HB6 := Lib.hid (HB5.out.trans (hb6.mono hs5))
      have hs6 := HB6.out.size
      clear hd6 hb6 hw6 hv6 H5 HB5
      generalize hn6 : L6.length = n6 at H6 hm6
      clear hn6
      go_wp2_with fail
      refine (times_any L6 Lr n6 nr p6 pr c6 cr w6 H6.out.len HRN.out (by omega) (by omega) H6.out.dig HRD.out H6.out.lies (HS.out.r.below HB6.out)).mono ?_
      rintro e7 w7 ⟨L7, v7, rfl, hd7, hb7⟩
      have hv7 := hd7.val
      rw [HV6.out, HRV.out] at hv7
      obtain ⟨p7, c7, hv7', hw7⟩ := hd7.lie
      subst hv7'
      have HV7 := Lib.hid hv7
      have hm7 := hw7.most
      have H7 := Lib.hid hw7
      have HB7 := Lib.hid (HB6.out.trans (hb7.mono hs6))
      have hs7 := HB7.out.size
      clear hd7 hb7 hw7 hv7 H6 HB6 HV6
      generalize hn7 : L7.length = n7 at H7 hm7
      clear hn7
      go_wp2_with fail
      refine (rest_any L7 n7 p7 c7 w7 H7.out.len (by omega) H7.out.cap H7.out.dig H7.out.lies).mono ?_
      rintro e8 w8 ⟨L8, q8, n8', c8, rfl, hw8, hb8⟩
      rw [HV7.out, ← HAJ.out] at hw8
      have H8 := Lib.hid hw8
      have HS8 := Lib.hid (HS.out.on (HB7.out.trans (hb8.mono hs7)))
      clear hw8 hb8 H7 HB7 HV7
      obtain ⟨i2, hi2⟩ : ∃ i2, i2 = i + 16 := ⟨_, rfl⟩
      have qa : IntKind.i64.wrap ((i : Int) + 16) = (i2 : Int) := by rw [IntWalk.i64_in _ (by omega)]; omega
      have qb : (i : Int) + 16 = (i2 : Int) := by omega
      have HI2 : Hid (i2 = 16 * (j + 1)) := show _ = _ by rw [hi2, HI.out]; omega
      have HI3 := Lib.hid hi2
      clear hi2
      go_wp2_with fail
      go_roundw
      case rel => exact ⟨j + 1, L8, q8, n8', c8, by have := HI.out; omega, by rw [HI2.out], rfl, H8.out, HS8.out⟩
      case measure => have := HI3.out; simp [intOf]; omega
    · have hj2 : j = (bs.length + 15) / 16 := by rw [HM.out]; omega
      have HJ := Lib.hid hj2
      have q0 : ¬ ((16 * j : Nat) : Int) < (m : Int) := by omega
      have q1 : ¬ 16 * (j : Int) < (m : Int) := by omega
      have HKD : Hid ((key.drop 16).length = 16) := show _ = _ by rw [List.length_drop, HKL.out]
      have HKLie : Hid (Lies wr (some ⟨w.heap.size, 16, none⟩) (key.drop 16)) := show Lies _ _ _ from Or.inr ⟨_, _, rfl, by
        have := range_drop (k := 16) HS.out.key.range
        rw [Nat.zero_add] at this; exact this⟩
      have hnm := HW.out.most
      clear hj2
      go_wp2_with fail
      refine (digits_any (key.drop 16) 16 _ _ wr HKD.out (by omega) HKLie.out).mono ?_
      rintro e5 w5 ⟨L5, v5, rfl, hd5, hb5⟩
      obtain ⟨p5, c5, hv5, hw5⟩ := hd5.lie
      subst hv5
      have hm5 := hw5.most
      have H5 := Lib.hid hw5
      have HB5 := Lib.hid hb5
      clear hd5 hb5 hw5
      generalize hn5 : L5.length = n5 at H5 hm5
      clear hn5
      go_wp2_with fail
      refine (rplus_any L L5 n n5 q p5 c c5 w5 HW.out.len H5.out.len (by omega) (by omega) HW.out.dig H5.out.dig (HW.out.lies.below HB5.out) H5.out.lies).mono ?_
      rintro e6 w6 ⟨L6, v6, rfl, hd6, hb6⟩
      have hv6 := hd6.val
      rw [HW.out.val, H5.out.val] at hv6
      obtain ⟨p6, c6, hv6', hw6⟩ := hd6.lie
      subst hv6'
      have hm6 := hw6.most
      have HS6 := Lib.hid ((HS.out.on HB5.out).on hb6)
      obtain ⟨V, hV⟩ : ∃ V, V = accN (leN (clrOf key)) bs j + leN (key.drop 16) := ⟨_, rfl⟩
      have HT : Hid (polyTag key bs = leB V) := show _ = _ by rw [HPT.out, ← HJ.out, hV]
      have H6 : Hid (LieW V 94 L6 p6 L6.length c6 w6) := show LieW _ _ _ _ _ _ _ from ⟨hw6.lies, rfl, hw6.cap, by omega, hw6.dig, by rw [hv6, hV]⟩
      clear hd6 hb6 hw6 hv6 hV H5 HB5 HKLie
      generalize hn6 : L6.length = n6 at H6 hm6
      clear hn6
      go_upto_region 11 with (fail)
      refine wp_gen (fun w7 => BytesAt w7 w6.heap.size 28 (fillB V 0) ∧ Below w6.heap.size w6 w7) ⟨?_, (Below.refl _ _).alloc (Nat.le_refl _) _⟩ ?_
      · rw [fillB_zero]; show _ = some (Obj.cells (bytesV zeros16).toArray _ _); rw [zeros16_eq]; exact heap_new_at rfl
      have hG6 : w.heap.size + 1 < w6.heap.size := HS6.out.res.size
      obtain ⟨G, hG⟩ : ∃ G, G = w6.heap.size := ⟨_, rfl⟩
      rw [← hG] at hG6 ⊢
      rintro w7 ⟨ht7, hb7⟩
      have HT7 := Lib.hid ht7
      have HB7 := Lib.hid hb7
      have HG := Lib.hid hG
      clear ht7 hb7 hG q0 q1
      have HFL := Lib.hid (fillB_length V)
      have hsw := HS6.out.below.size
      go_wp2_with fail
      go_loopw [10] (fun iv wi => ∃ k : Nat, k ≤ 16 ∧ iv = .int .i64 (k : Int) ∧ BytesAt wi G 28 (fillB V k) ∧ Below G w6 wi) (fun iv _ => 16 - (intOf iv).toNat)
      case atStart => exact ⟨0, by omega, rfl, HT7.out, HB7.out⟩
      case round =>
        clear HT7 HB7
        obtain ⟨k, hk, rfl, ht, hb⟩ := hrel
        have hbw : Below w6.heap.size w6 wr := by rw [← HG.out]; exact hb
        by_cases hlk : k < 16
        · have hf4 := four_digits L6 V k H6.out.dig H6.out.val
          have HFS : Hid (fillB V (k + 1) = (fillB V k).set k (BitVec.ofNat 8 (L6.getD (4 * k) 0 + 4 * L6.getD (4 * k + 1) 0 + 16 * L6.getD (4 * k + 2) 0 + 64 * L6.getD (4 * k + 3) 0))) := show _ = _ by rw [hf4]; exact fillB_succ V k
          have c0 := ht.cell k (by rw [HFL.out]; omega)
          have cf := ht.frozenAt k
          have b0 := H6.out.dig (4 * k)
          have b1 := H6.out.dig (4 * k + 1)
          have b2 := H6.out.dig (4 * k + 2)
          have b3 := H6.out.dig (4 * k + 3)
          have hlw := H6.out.lies.below hbw
          have hn6 := H6.out.most
          have HD := Lib.hid (fun (i : Nat) (hi : i < 1000) (w9 : World) (h9 : w9 = wr) => digit_any L6 n6 i p6 c6 w9 H6.out.len (by omega) (by omega) (by rw [h9]; exact hlw))
          have HTK := Lib.hid ht
          have HBK := Lib.hid hb
          clear hf4 ht hb hbw hlw hn6
          obtain ⟨a0, ha0⟩ : ∃ a, a = 4 * k := ⟨_, rfl⟩
          obtain ⟨a1, ha1⟩ : ∃ a, a = 4 * k + 1 := ⟨_, rfl⟩
          obtain ⟨a2, ha2⟩ : ∃ a, a = 4 * k + 2 := ⟨_, rfl⟩
          obtain ⟨a3, ha3⟩ : ∃ a, a = 4 * k + 3 := ⟨_, rfl⟩
          rw [← ha1, ← ha2, ← ha3, ← ha0] at HFS
          rw [← ha0] at b0
          rw [← ha1] at b1
          rw [← ha2] at b2
          rw [← ha3] at b3
          have D0 := Lib.hid (HD.out a0 (by omega))
          have D1 := Lib.hid (HD.out a1 (by omega))
          have D2 := Lib.hid (HD.out a2 (by omega))
          have D3 := Lib.hid (HD.out a3 (by omega))
          clear HD
          have g0 : 4 * (k : Int) = (a0 : Int) := by omega
          have g0w : IntKind.i64.wrap (4 * (k : Int)) = (a0 : Int) := by rw [IntWalk.i64_in _ (by omega)]; omega
          have g0v : IntKind.i64.wrap (a0 : Int) = (a0 : Int) := IntWalk.i64_in _ (by omega)
          have g1 : (a0 : Int) + 1 = (a1 : Int) := by omega
          have g1w : IntKind.i64.wrap ((a0 : Int) + 1) = (a1 : Int) := by rw [IntWalk.i64_in _ (by omega)]; omega
          have g1v : IntKind.i64.wrap (a1 : Int) = (a1 : Int) := IntWalk.i64_in _ (by omega)
          have g2 : (a0 : Int) + 2 = (a2 : Int) := by omega
          have g2w : IntKind.i64.wrap ((a0 : Int) + 2) = (a2 : Int) := by rw [IntWalk.i64_in _ (by omega)]; omega
          have g2v : IntKind.i64.wrap (a2 : Int) = (a2 : Int) := IntWalk.i64_in _ (by omega)
          have g3 : (a0 : Int) + 3 = (a3 : Int) := by omega
          have g3w : IntKind.i64.wrap ((a0 : Int) + 3) = (a3 : Int) := by rw [IntWalk.i64_in _ (by omega)]; omega
          have g3v : IntKind.i64.wrap (a3 : Int) = (a3 : Int) := IntWalk.i64_in _ (by omega)
          generalize L6.getD a0 0 = x0 at D0 b0 HFS
          generalize L6.getD a1 0 = x1 at D1 b1 HFS
          generalize L6.getD a2 0 = x2 at D2 b2 HFS
          generalize L6.getD a3 0 = x3 at D3 b3 HFS
          obtain ⟨t1, ht1⟩ : ∃ t, t = 4 * x1 := ⟨_, rfl⟩
          obtain ⟨t2, ht2⟩ : ∃ t, t = 16 * x2 := ⟨_, rfl⟩
          obtain ⟨t3, ht3⟩ : ∃ t, t = 64 * x3 := ⟨_, rfl⟩
          rw [← ht1, ← ht2, ← ht3] at HFS
          obtain ⟨s1, hs1⟩ : ∃ t, t = x0 + t1 := ⟨_, rfl⟩
          rw [← hs1] at HFS
          obtain ⟨s2, hs2⟩ : ∃ t, t = s1 + t2 := ⟨_, rfl⟩
          rw [← hs2] at HFS
          obtain ⟨s3, hs3⟩ : ∃ t, t = s2 + t3 := ⟨_, rfl⟩
          rw [← hs3] at HFS
          have e1 : 4 * (x1 : Int) = (t1 : Int) := by omega
          have e1w : IntKind.i64.wrap (4 * (x1 : Int)) = (t1 : Int) := by rw [IntWalk.i64_in _ (by omega)]; omega
          have e1v : IntKind.i64.wrap (t1 : Int) = (t1 : Int) := IntWalk.i64_in _ (by omega)
          have e2 : 16 * (x2 : Int) = (t2 : Int) := by omega
          have e2w : IntKind.i64.wrap (16 * (x2 : Int)) = (t2 : Int) := by rw [IntWalk.i64_in _ (by omega)]; omega
          have e2v : IntKind.i64.wrap (t2 : Int) = (t2 : Int) := IntWalk.i64_in _ (by omega)
          have e3 : 64 * (x3 : Int) = (t3 : Int) := by omega
          have e3w : IntKind.i64.wrap (64 * (x3 : Int)) = (t3 : Int) := by rw [IntWalk.i64_in _ (by omega)]; omega
          have e3v : IntKind.i64.wrap (t3 : Int) = (t3 : Int) := IntWalk.i64_in _ (by omega)
          have f1 : (x0 : Int) + (t1 : Int) = (s1 : Int) := by omega
          have f1w : IntKind.i64.wrap ((x0 : Int) + (t1 : Int)) = (s1 : Int) := by rw [IntWalk.i64_in _ (by omega)]; omega
          have f1v : IntKind.i64.wrap (s1 : Int) = (s1 : Int) := IntWalk.i64_in _ (by omega)
          have f2 : (s1 : Int) + (t2 : Int) = (s2 : Int) := by omega
          have f2w : IntKind.i64.wrap ((s1 : Int) + (t2 : Int)) = (s2 : Int) := by rw [IntWalk.i64_in _ (by omega)]; omega
          have f2v : IntKind.i64.wrap (s2 : Int) = (s2 : Int) := IntWalk.i64_in _ (by omega)
          have f3 : (s2 : Int) + (t3 : Int) = (s3 : Int) := by omega
          have f3w : IntKind.i64.wrap ((s2 : Int) + (t3 : Int)) = (s3 : Int) := by rw [IntWalk.i64_in _ (by omega)]; omega
          have f3v : IntKind.i64.wrap (s3 : Int) = (s3 : Int) := IntWalk.i64_in _ (by omega)
          have q0 : (k : Int) < 16 := by omega
          have q1 : 0 ≤ (k : Int) := by omega
          have q2 : (k : Int).toNat = k := by omega
          clear ha0 ha1 ha2 ha3 ht1 ht2 ht3 hs1 hs2 hs3 b0 b1 b2 b3
          generalize (fillB V k).getD k 0#8 = u at c0
          go_wp2_with fail
          refine (D0.out wr rfl).mono ?_
          rintro e w' ⟨rfl, rfl⟩
          go_wp2_with fail
          refine (D1.out _ rfl).mono ?_
          rintro e w' ⟨rfl, rfl⟩
          go_wp2_with fail
          refine (D2.out _ rfl).mono ?_
          rintro e w' ⟨rfl, rfl⟩
          go_wp2_with fail
          refine (D3.out _ rfl).mono ?_
          rintro e w' ⟨rfl, rfl⟩
          go_wp2_with fail
          go_roundw
          case rel => exact ⟨k + 1, by omega, by go_num, by rw [HFS.out]; exact HTK.out.put k _, HBK.out.setCell (Nat.le_refl _) _⟩
          case measure => simp [intOf]; omega
        · obtain rfl : k = 16 := by omega
          have hfin : fillB V 16 = polyTag key bs := by rw [fillB_all, HT.out]
          rw [hfin] at ht
          have HROW := Lib.hid (show wr.heap[G]? = some (.cells (bytesV (polyTag key bs)).toArray 28 (0, 0)) from ht)
          have HRES := Lib.hid (show wr.heap[w.heap.size + 1]? = some (.cells (bytesV zeros16).toArray 28 (0, 0)) from (HS6.out.on hbw).res)
          have HBE := Lib.hid (HS6.out.on hbw).below
          have HIT := Lib.hid (infoTag _ (polyTag_length key bs))
          have HTO := Lib.hid (show (bytesV zeros16).toArray.size = (bytesV (polyTag key bs)).toArray.size by rw [bytesV_size _ 16 (polyTag_length key bs)]; unfold zeros16; rfl)
          have HTE := Lib.hid (bytesV_one (polyTag key bs))
          clear ht hb hbw hfin HT HS6 H6
          generalize hfe : (bytesV (polyTag key bs)).toArray = full at HIT HTO HTE HROW ⊢
          have HFE := Lib.hid hfe; clear hfe
          go_wp2_with (first
            | (refine wpList_load_row rfl 28 (.tmp 9) rfl G rfl 28 full (0, 0) _ HROW.out Try.underlying28 rfl HIT.out ?_)
            | (refine wpList_store_row rfl 28 (.tmp 4) (.tmp 76) rfl (w.heap.size + 1) full rfl rfl 28 _ HRES.out HIT.out HTO.out HTE.out ?_))
          have hrow := setRow_heap wr (w.heap.size + 1) _ full 28 _ HRES.out
          have hbel := below_setRow HBE.out (show w.heap.size ≤ w.heap.size + 1 by omega) full
          generalize wr.setRow (w.heap.size + 1) full = wz at hrow hbel ⊢
          have hres : ∀ tmps : Array Value, tmps.getD 4 undef = .pointer (some ⟨w.heap.size + 1, 0, none⟩) → Sem.run Try.prog (results Try.f11 tmps) wz = .ok (.agg full) wz := fun tmps h =>
            results_cell_row (P := Try.prog) (p := 4) (ty := 28) Try.results11 tmps wz (w.heap.size + 1) 28 full (0, 0) _ h hrow Try.underlying28 rfl HIT.out
          exact bodyPost_ret (v := .agg full) (hres _ rfl) rfl ⟨by rw [HFE.out], hbel⟩
end Go.Proofs.Ytgfmjfpafpmghaa
