/-
  The reference's rest: a number modulo 2^130 - 5.
-/
import Derived.Test.YtgfmjfpafpmghaaPoRef5
import Derived.Test.YtgfmjfpafpmghaaPoOps
namespace Go.Proofs.Ytgfmjfpafpmghaa
open Go.RowKit Go.Proofs.ShaWords
/-- The number that a slice of digits holds, read off memory. -/
def cellN (w : World) (b off : Nat) (i : Nat) : Nat := match w.cell? ⟨b, off + i, none⟩ with | some (.int _ z) => z.toNat | _ => 0
def memN (v : Value) (w : World) : Nat := match v with | .slice (some ⟨b, off, _⟩) n _ => d4 ((List.range n).map (cellN w b off)) | _ => 0
theorem memN_eq {w : World} {p : Option Addr} {L : List Nat} {n c : Nat} (h : LiesI w p L) (hn : L.length = n) (h0 : 0 < n) : memN (.slice p n c) w = d4 L := by
  rcases h with h | ⟨b, off, rfl, hr⟩
  · subst h; simp at hn; omega
  · show d4 _ = _
    congr 1
    apply List.ext_getElem (by simp [hn])
    intro i h1 h2
    have hc := rangeI_cell hr i h2
    simp only [List.getElem_map, List.getElem_range]
    unfold cellN
    rw [hc]
    simp [List.getD, h2]
theorem memN_small {w : World} {p : Option Addr} {L : List Nat} {n c : Nat} (h : LiesI w p L) (hn : L.length = n) : memN (.slice p n c) w ≤ d4 L := by
  by_cases h0 : 0 < n
  · rw [memN_eq h hn h0]; exact Nat.le_refl _
  · have : n = 0 := by omega
    subst this
    cases p with
    | none => exact Nat.zero_le _
    | some a => obtain ⟨b, off, pl⟩ := a; exact Nat.zero_le _
/-- Digits that lie somewhere. -/
structure LieW (N M : Nat) (L : List Nat) (p : Option Addr) (n cap : Nat) (w : World) : Prop where
  lies : LiesI w p L
  len : L.length = n
  cap : n ≤ cap
  most : n ≤ M
  dig : ∀ i, L.getD i 0 < 4
  val : d4 L = N
theorem lies_front {w : World} {p : Option Addr} {L : List Nat} (h : LiesI w p L) (k : Nat) : LiesI w p (L.take k) := by
  rcases h with h | ⟨b, off, hp, hr⟩
  · exact Or.inl (by rw [h]; simp)
  · refine Or.inr ⟨b, off, hp, fun j v hv => hr j v ?_⟩
    simp only [numsV, List.map_take, List.getElem?_take] at hv
    split at hv
    · exact hv
    · cases hv
theorem range_dropI {w : World} {b off : Nat} {L : List Nat} (h : w.rangeAt b off (numsV L)) (k : Nat) : w.rangeAt b (off + k) (numsV (L.drop k)) := fun j v hv => by
  rw [Nat.add_assoc]
  refine h (k + j) v ?_
  simp only [numsV, List.map_drop, List.getElem?_drop] at hv
  exact hv
theorem dig_take (L : List Nat) (k : Nat) (h : ∀ i, L.getD i 0 < 4) (i : Nat) : (L.take k).getD i 0 < 4 := by
  rw [getD_takeN]; split
  · exact h i
  · omega
theorem dig_drop (L : List Nat) (k : Nat) (h : ∀ i, L.getD i 0 < 4) (i : Nat) : (L.drop k).getD i 0 < 4 := by
  have := h (k + i)
  simpa [List.getD, List.getElem?_drop] using this
theorem trimmed_take {w : World} {p : Option Addr} {L : List Nat} {m n cap N M : Nat} (h : LieW N M L p m cap w) (hn : n ≤ m) (hv : d4 (L.take n) = d4 L) : LieW N M (L.take n) p n cap w :=
  ⟨lies_front h.lies n, by rw [List.length_take, h.len]; omega, by have := h.cap; omega, by have := h.most; omega, dig_take L n h.dig, by rw [hv, h.val]⟩
theorem big_of (L : List Nat) (n : Nat) (hn : L.length = n) (h65 : 65 < n) (hz : L.getD (n - 1) 0 ≠ 0) : 1361129467683753853853498429727072845824 ≤ d4 L := by
  rw [d4_split L (n - 1)]
  obtain ⟨k, rfl⟩ : ∃ k, n = k + 1 := ⟨n - 1, by omega⟩
  rw [Nat.add_sub_cancel] at hz ⊢
  have h1 : 1 ≤ d4 (L.drop k) := by
    have e : L.drop k = L.getD k 0 :: L.drop (k + 1) := by
      rw [List.drop_eq_getElem_cons (by omega)]
      simp [List.getD, show k < L.length by omega]
    rw [e, d4]; omega
  have h2 : 4 ^ 65 ≤ 4 ^ k := Nat.pow_le_pow_right (by omega) (by omega)
  have h3 : 4 ^ k * 1 ≤ 4 ^ k * d4 (L.drop k) := Nat.mul_le_mul_left _ h1
  omega
theorem small_of (L : List Nat) (n : Nat) (hn : L.length = n) (h65 : n ≤ 65) (hd : ∀ i, L.getD i 0 < 4) : d4 L < 1361129467683753853853498429727072845824 := by
  have h1 := d4_lt L hd
  have h2 : 4 ^ L.length ≤ 4 ^ 65 := Nat.pow_le_pow_right (by omega) (by omega)
  omega
theorem parts65 (L : List Nat) (hd : ∀ i, L.getD i 0 < 4) : d4 (L.take 65) = d4 L % 1361129467683753853853498429727072845824 ∧ d4 (L.drop 65) = d4 L / 1361129467683753853853498429727072845824 := by
  have h1 := d4_split L 65
  have h2 := d4_take_lt L 65 hd
  omega
theorem ones_dig (i : Nat) : ([1, 1] : List Nat).getD i 0 < 4 := by
  match i with
  | 0 => decide
  | 1 => decide
  | i + 2 => simp
theorem two_ones (w : World) : LiesI (w.alloc (.cells #[.int .i64 1, .int .i64 1] 3)) (some ⟨w.heap.size, 0, none⟩) [1, 1] :=
  Or.inr ⟨_, _, rfl, fun j v hv => by
    rw [Nat.zero_add, cell_of_row _ _ j _ _ _ (heap_new_at rfl)]
    simpa [numsV] using hv⟩
section
variable {ρ : Operand → Value} {o : Oper} {x y : Operand} {w : World}
theorem run_to65 {p : Option Addr} {n c : Nat} (ho : o.op = .slice 47 x none (some (.const (.int .i64 65))) none) (h0 : ∀ u, ρ (.const u) = u) (hx : ρ x = .slice p n c) (hc : 65 ≤ c) (w : World) : (execOp ρ o).run Try.prog w = .ok (.value (.slice p 65 c)) w := by
  obtain ⟨dst, op, ty', pos, after, guard⟩ := o
  simp only at ho
  subst ho
  have h1 := h0 (.int .i64 65)
  have q : (65 : Int) ≤ (c : Int) := by omega
  go_simp
theorem run_from65 {b off n c : Nat} (ho : o.op = .slice 47 x (some (.const (.int .i64 65))) none none) (h0 : ∀ u, ρ (.const u) = u) (hx : ρ x = .slice (some ⟨b, off, none⟩) n c) (hn : 65 < n) (hc : n ≤ c) (w : World) :
    (execOp ρ o).run Try.prog w = .ok (.value (.slice (some ⟨b, off + 65, none⟩) (n - 65) (c - 65))) w := by
  obtain ⟨dst, op, ty', pos, after, guard⟩ := o
  simp only at ho
  subst ho
  have h1 := h0 (.int .i64 65)
  have q : (65 : Int) ≤ (n : Int) := by omega
  have q2 : (n : Int) ≤ (c : Int) := by omega
  have q3 : ¬ c = 65 := by omega
  have q4 : ¬ c - 65 = 0 := by omega
  go_simp
theorem run_build11 (ho : o.op = .buildSlice 47 2 #[(0, .const (.int .i64 1)), (1, .const (.int .i64 1))]) (h0 : ∀ u, ρ (.const u) = u) (w : World) :
    (execOp ρ o).run Try.prog w = .ok (.value (.slice (some ⟨w.heap.size, 0, none⟩) 2 2)) (w.alloc (.cells #[.int .i64 1, .int .i64 1] 3)) := by
  obtain ⟨dst, op, ty', pos, after, guard⟩ := o
  simp only at ho
  subst ho
  have h1 := h0 (.int .i64 1)
  go_simp
end
section
variable {P : Program} {ops : Array Oper} {Q : Exit → Act → World → Prop} {S E : World → Prop} {r : List (Nat × Met)} {i : Nat} {o : Oper} {d : Option Tmp} {v : Value} {a : Act} {w w' : World}
theorem met_value (ho : ops[i]? = some o) (hd : o.dst = d) (hw : Region.wanted o (yielded ops a.tmps) = true) (hr : (execOp a.eval o).run P w = .ok (.value v) w')
    (h : S w' ∧ wpE P ops Q S E r (a.put d v) w') : wpE P ops Q S E ((i, .behind) :: r) a w := by
  refine met_behind ho hw ?_
  unfold Oper.wp
  rw [hr, Oper.upon_value, hd]
  exact h
end
set_option maxRecDepth 100000 in
set_option maxHeartbeats 8000000 in
theorem rest_any (l : List Nat) (m : Nat) (p : Option Addr) (cap : Nat) (w : World) (hm : l.length = m) (hl : m ≤ 260) (hcap : m ≤ cap) (hd : ∀ i, l.getD i 0 < 4) (hL : LiesI w p l) :
    Calls Try.prog 27 #[.slice p m cap] w fun e w' => ∃ L q n c, e = .returned (.slice q n c) ∧ LieW (d4 l % P130) 65 L q n c w' ∧ Below w.heap.size w w' := by
  obtain ⟨N0, hN0⟩ : ∃ N0, N0 = d4 l := ⟨_, rfl⟩
  have H00 : Hid (LieW N0 260 l p m cap w) := ⟨hL, hm, hcap, hl, hd, hN0.symm⟩
  rw [← hN0]
  clear hL hm hd hN0
  go_enter Try.func27, Try.ntmps27
  go_wp2_with fail
  refine (trimmed_any l m p cap w H00.out.len (by omega) hcap H00.out.lies).mono ?_
  rintro e w0 ⟨n0, rfl, hn0, hz0, hv0, rfl⟩
  have H0 := Lib.hid (trimmed_take H00.out hn0 hv0)
  have HZ0 : Hid (n0 = 0 ∨ (l.take n0).getD (n0 - 1) 0 ≠ 0) := show _ ∨ _ by
    rcases hz0 with h | h
    · exact Or.inl h
    · by_cases h0 : n0 = 0
      · exact Or.inl h0
      · exact Or.inr (by rw [getD_takeN, if_pos (by omega)]; exact h)
  clear hn0 hz0 hv0 H00 hl hcap
  go_wp2_with fail
  go_loopw [0] (fun v wr => ∃ (N : Nat) (L : List Nat) (q : Option Addr) (n c : Nat), v = .slice q n c ∧ LieW N 260 L q n c wr ∧ (n = 0 ∨ L.getD (n - 1) 0 ≠ 0) ∧ N % P130 = N0 % P130 ∧ Below w.heap.size w wr) (fun v wr => memN v wr)
  case atStart => exact ⟨N0, _, p, n0, cap, rfl, H0.out, HZ0.out, rfl, Below.refl _ _⟩
  case round =>
    clear H0 HZ0
    obtain ⟨N, L, q, n, cp, rfl, hw, hz, hN, hb⟩ := hrel
    by_cases h65 : 65 < n
    · obtain ⟨b, off, hq, hr⟩ : ∃ b off, q = some ⟨b, off, none⟩ ∧ wr.rangeAt b off (numsV L) := by
        rcases hw.lies with h | h
        · have := hw.len; rw [h] at this; simp at this; omega
        · exact h
      subst hq
      have hmost := hw.most
      have hcp := hw.cap
      have HBIG := Lib.hid (big_of L n hw.len h65 (by rcases hz with h | h; omega; exact h))
      have HPT := Lib.hid (parts65 L hw.dig)
      have HMM := Lib.hid (memN_eq (c := cp) hw.lies hw.len (by omega))
      have HW := Lib.hid hw
      have HDL : Hid ((L.drop 65).length = n - 65) := show _ = _ by rw [List.length_drop, hw.len]
      have HTL : Hid ((L.take 65).length = 65) := show _ = _ by rw [List.length_take, hw.len]; omega
      have HDD := Lib.hid (dig_drop L 65 hw.dig)
      have HTD := Lib.hid (dig_take L 65 hw.dig)
      have HDI : Hid (LiesI wr.drew (some ⟨b, off + 65, none⟩) (L.drop 65)) := show LiesI _ _ _ from Or.inr ⟨_, _, rfl, range_dropI hr 65⟩
      have HTI : Hid (LiesI wr.drew (some ⟨b, off, none⟩) (L.take 65)) := show LiesI _ _ _ from lies_front (Or.inr ⟨_, _, rfl, hr⟩) 65
      have HN := Lib.hid hN
      have HB := Lib.hid hb
      have q0 : (65 : Int) < (n : Int) := by omega
      clear hw hz hN hb hr
      go_upto_region 3 with (fail)
      refine region_phase (fun _ => True) (fun _ => True) 4 trivial trivial [(0, .free), (1, .free), (2, .free), (3, .free), (4, .behind), (5, .behind), (6, .behind), (7, .behind), (8, .free)] (by kernel_rfl) (by kernel_rfl) (by kernel_rfl) (by kernel_rfl) (fun ops hops A2 hA => ?_)
      have hsz : A2.tmps.size = 30 := by rw [hA]; rfl
      have base0 : A2.eval (.tmp 0) = .slice (some ⟨b, off, none⟩) n cp := by rw [hA]; rfl
      have HAA := Lib.hid hA; clear hA
      obtain ⟨o0, po0, q0, d0, gd0⟩ : ∃ o, ops[0]? = some o ∧ o.op = .move (.tmp 0) ∧ o.dst = some 8 ∧ o.guard = none := ⟨_, by rw [hops]; rfl, rfl, rfl, rfl⟩
      obtain ⟨o1, po1, q1, d1, gd1⟩ : ∃ o, ops[1]? = some o ∧ o.op = .slice 47 (.tmp 8) none (some (.const (.int .i64 65))) none ∧ o.dst = some 9 ∧ o.guard = none := ⟨_, by rw [hops]; rfl, rfl, rfl, rfl⟩
      obtain ⟨o2, po2, q2, d2, gd2⟩ : ∃ o, ops[2]? = some o ∧ o.op = .move (.tmp 0) ∧ o.dst = some 10 ∧ o.guard = none := ⟨_, by rw [hops]; rfl, rfl, rfl, rfl⟩
      obtain ⟨o3, po3, q3, d3, gd3⟩ : ∃ o, ops[3]? = some o ∧ o.op = .slice 47 (.tmp 10) (some (.const (.int .i64 65))) none none ∧ o.dst = some 11 ∧ o.guard = none := ⟨_, by rw [hops]; rfl, rfl, rfl, rfl⟩
      obtain ⟨o4, po4, q4, dd4, gd4⟩ : ∃ o, ops[4]? = some o ∧ o.op = .buildSlice 47 2 #[(0, (.const (.int .i64 1))), (1, (.const (.int .i64 1)))] ∧ o.dst = some 12 ∧ o.guard = none := ⟨_, by rw [hops]; rfl, rfl, rfl, rfl⟩
      obtain ⟨o5, po5, q5, d5, gd5⟩ : ∃ o, ops[5]? = some o ∧ o.op = .call { callee := .value (.func 28), args := #[.tmp 11, .tmp 12], argTypes := #[47, 47] } ∧ o.dst = some 13 ∧ o.guard = none := ⟨_, by rw [hops]; rfl, rfl, rfl, rfl⟩
      obtain ⟨o6, po6, q6, d6, gd6⟩ : ∃ o, ops[6]? = some o ∧ o.op = .call { callee := .value (.func 29), args := #[.tmp 9, .tmp 13], argTypes := #[47, 47] } ∧ o.dst = some 14 ∧ o.guard = none := ⟨_, by rw [hops]; rfl, rfl, rfl, rfl⟩
      obtain ⟨o7, po7, q7, d7, gd7⟩ : ∃ o, ops[7]? = some o ∧ o.op = .call { callee := .value (.func 33), args := #[.tmp 14], argTypes := #[47] } ∧ o.dst = some 15 ∧ o.guard = none := ⟨_, by rw [hops]; rfl, rfl, rfl, rfl⟩
      obtain ⟨o8, po8, q8, d8, gd8⟩ : ∃ o, ops[8]? = some o ∧ o.op = .assign (.tmp 15) ∧ o.dst = some 0 ∧ o.guard = none := ⟨_, by rw [hops]; rfl, rfl, rfl, rfl⟩
      clear hops
      refine met_free po0 d0 (wanted_of gd0) (fun w' _ => run_move q0 base0 w') ?_
      refine met_free po1 d1 (wanted_of gd1) (fun w' _ => run_to65 q1 (fun _ => rfl) (eval_same _ _ _ (by rw [hsz]; decide)) (by omega) w') ?_
      refine met_free po2 d2 (wanted_of gd2) (fun w' _ => run_move q2 ((eval_other _ 9 0 _ (by decide)).trans ((eval_other _ 8 0 _ (by decide)).trans base0)) w') ?_
      refine met_free po3 d3 (wanted_of gd3) (fun w' _ => run_from65 q3 (fun _ => rfl) (eval_same _ _ _ (by simp only [put_size, hsz]; decide)) (by omega) (by omega) w') ?_
      refine met_value po4 dd4 (wanted_of gd4) (run_build11 q4 (fun _ => rfl) _) ⟨trivial, ?_⟩
      have H1 := Lib.hid (two_ones wr.drew)
      have HB1 := Lib.hid (show Below wr.drew.heap.size wr.drew (wr.drew.alloc (.cells #[.int .i64 1, .int .i64 1] 3)) from (Below.refl _ _).alloc (Nat.le_refl _) _)
      refine met_enterA po5 d5 (wanted_of gd5) (run_callf2 q5 rfl ((eval_other _ 12 11 _ (by decide)).trans (eval_same _ _ _ (by simp only [put_size, hsz]; decide))) (eval_same _ _ _ (by simp only [put_size, hsz]; decide)) Try.func28 (by kernel_rfl) _) (times_any (L.drop 65) [1, 1] (n - 65) 2 _ _ _ _ _ HDL.out rfl (by omega) (by omega) HDD.out ones_dig (HDI.out.below HB1.out) H1.out) ?_
      rintro e w2 ⟨L2, v2, rfl, hd2, hb2⟩
      obtain ⟨p2, c2, hv2, hc2, hl2⟩ := hd2.own.lies
      subst hv2
      have HD2 := Lib.hid hd2
      have HB2 := Lib.hid (HB1.out.trans (hb2.mono HB1.out.size))
      have HL2 := Lib.hid hl2
      have hm2 := hd2.len
      clear hd2 hb2 hl2
      refine ⟨_, rfl, trivial, ?_⟩
      refine met_enterA po6 d6 (wanted_of gd6) (run_callf2 q6 rfl ((eval_other _ 13 9 _ (by decide)).trans ((eval_other _ 12 9 _ (by decide)).trans ((eval_other _ 11 9 _ (by decide)).trans ((eval_other _ 10 9 _ (by decide)).trans (eval_same _ _ _ (by simp only [put_size, hsz]; decide)))))) (eval_same _ _ _ (by simp only [put_size, hsz]; decide)) Try.func29 (by kernel_rfl) _) (rplus_any (L.take 65) L2 65 L2.length _ p2 _ c2 w2 HTL.out rfl (by omega) (by omega) HTD.out HD2.out.dig (HTI.out.below HB2.out) HL2.out) ?_
      rintro e w3 ⟨L3, v3, rfl, hd3, hb3⟩
      obtain ⟨p3, c3, hv3, hc3, hl3⟩ := hd3.own.lies
      subst hv3
      have HD3 := Lib.hid hd3
      have HB3 := Lib.hid (HB2.out.trans (hb3.mono HB2.out.size))
      have HL3 := Lib.hid hl3
      have HC3 := Lib.hid hc3
      have hm3 := hd3.len
      clear hd3 hb3 hl3 hc3
      refine ⟨_, rfl, trivial, ?_⟩
      refine met_enterA po7 d7 (wanted_of gd7) (run_callf1 q7 rfl (eval_same _ _ _ (by simp only [put_size, hsz]; decide)) Try.func33 (by kernel_rfl) _) (trimmed_any L3 L3.length p3 c3 w3 rfl (by omega) HC3.out HL3.out) ?_
      rintro e w4 ⟨n4, rfl, hn4, hz4, hv4, rfl⟩
      refine ⟨_, rfl, trivial, ?_⟩
      refine met_free po8 d8 (wanted_of gd8) (fun w' _ => run_assign q8 (eval_same _ _ _ (by simp only [put_size, hsz]; decide)) w') ?_
      show NoPanic _ .normal _ _
      refine NoPanic.normal ?_
      rw [HAA.out]
      go_frame
      clear HAA
      have H3 : Hid (LieW (d4 (L.take 65) + d4 L2) 260 L3 p3 L3.length c3 w3) := ⟨HL3.out, rfl, HC3.out, by omega, HD3.out.dig, HD3.out.val⟩
      have H4 := Lib.hid (trimmed_take H3.out hn4 hv4)
      have HZ4 : Hid (n4 = 0 ∨ (L3.take n4).getD (n4 - 1) 0 ≠ 0) := show _ ∨ _ by
        rcases hz4 with h | h
        · exact Or.inl h
        · by_cases h0 : n4 = 0
          · exact Or.inl h0
          · exact Or.inr (by rw [getD_takeN, if_pos (by omega)]; exact h)
      have hval : d4 (L.take 65) + d4 L2 = N % 1361129467683753853853498429727072845824 + N / 1361129467683753853853498429727072845824 * 5 := by
        rw [HPT.out.1, HD2.out.val, HPT.out.2, HW.out.val]
        show _ + _ * (1 + 4 * (1 + 4 * 0)) = _
        omega
      have HVAL := Lib.hid hval
      have hbig := HBIG.out
      rw [HW.out.val] at hbig
      clear hval hn4 hz4 hv4 H3 HL3 HC3 HD3 HL2 HD2 H1
      go_wp2_with fail
      go_roundw
      case rel =>
        refine ⟨_, _, _, _, _, rfl, H4.out, HZ4.out, ?_, HB.out.trans ((((Below.refl _ wr).drew).trans (HB3.out.mono (Nat.le_refl _))).mono HB.out.size)⟩
        rw [HVAL.out, ← HN.out, show P130 = 1361129467683753853853498429727072845819 from rfl]
        omega
      case measure =>
        refine Nat.lt_of_le_of_lt (memN_small H4.out.lies H4.out.len) ?_
        rw [H4.out.val, HVAL.out]
        show _ < memN _ _
        rw [HMM.out, HW.out.val]
        omega
    · have H1 : Hid (LieW N 65 L q n cp wr) := ⟨hw.lies, hw.len, hw.cap, by omega, hw.dig, hw.val⟩
      have HN := Lib.hid hN
      have HB := Lib.hid hb
      have q0 : ¬ (65 : Int) < (n : Int) := by omega
      clear hw hz hN hb
      go_wp2_with fail
      clear q0
      go_loopw [0] (fun v wi => ∃ (N : Nat) (L : List Nat) (q : Option Addr) (n c : Nat), v = .slice q n c ∧ LieW N 65 L q n c wi ∧ N % P130 = N0 % P130 ∧ Below w.heap.size w wi) (fun v wi => memN v wi)
      case atStart => exact ⟨N, L, q, n, cp, rfl, H1.out, HN.out, HB.out⟩
      case round =>
        clear H1 HN HB h65
        obtain ⟨N, L, q, n, cp, rfl, hw, hN, hb⟩ := hrel
        have HW := Lib.hid hw
        have HN := Lib.hid hN
        have HB := Lib.hid hb
        clear hw hN hb
        by_cases hlt : N < P130
        · have HV : Hid (decide (d4 L < P130) = true) := show _ = _ by rw [HW.out.val]; exact decide_eq_true hlt
          have HR : Hid (LieW (N0 % P130) 65 L q n cp wr) := show LieW _ _ _ _ _ _ _ by
            have := HW.out
            exact ⟨this.lies, this.len, this.cap, this.most, this.dig, by rw [this.val, ← HN.out, Nat.mod_eq_of_lt hlt]⟩
          clear hlt
          go_wp2_with fail
          refine (below_any L n q cp wr HW.out.len (by have := HW.out.most; omega) HW.out.dig HW.out.lies).mono ?_
          rintro e w1 ⟨rfl, hb1⟩
          rw [HV.out]
          have HR1 : Hid (LieW (N0 % P130) 65 L q n cp w1) := show LieW _ _ _ _ _ _ _ by
            have := HR.out
            exact ⟨this.lies.below hb1, this.len, this.cap, this.most, this.dig, this.val⟩
          have HB1 := Lib.hid (HB.out.trans (hb1.mono HB.out.size))
          clear hb1 HR HB
          go_wp2_with fail
          go_ret
          exact ⟨L, q, n, cp, rfl, HR1.out, HB1.out⟩
        · have HV : Hid (decide (d4 L < P130) = false) := show _ = _ by rw [HW.out.val]; exact decide_eq_false hlt
          have hsm := small_of L n HW.out.len HW.out.most HW.out.dig
          rw [HW.out.val] at hsm
          have hge : 1361129467683753853853498429727072845819 ≤ N := Nat.le_of_not_lt hlt
          have hnm := HW.out.most
          clear hlt
          go_wp2_with fail
          refine (below_any L n q cp wr HW.out.len (by omega) HW.out.dig HW.out.lies).mono ?_
          rintro e w1 ⟨rfl, hb1⟩
          rw [HV.out]
          have HLB := Lib.hid (HW.out.lies.below hb1)
          have HB1 := Lib.hid hb1
          clear hb1
          have h0n : 0 < n := by
            apply Nat.pos_of_ne_zero
            intro h0
            have h1 := HW.out.len
            have h2 := HW.out.val
            rw [h0] at h1
            rw [List.length_eq_zero_iff.1 h1] at h2
            simp [d4] at h2
            omega
          have HMM := Lib.hid (memN_eq (c := cp) HW.out.lies HW.out.len h0n)
          go_wp2_with fail
          refine calls_gen (fun w2 => LiesI w2 (some ⟨w1.heap.size, 0, none⟩) [1, 1] ∧ Below w1.heap.size w1 w2) ⟨two_ones w1, (Below.refl _ _).alloc (Nat.le_refl _) _⟩ ?_
          rintro w2 ⟨hl2, hb2⟩
          refine (rplus_any L [1, 1] n 2 q _ cp _ w2 HW.out.len rfl (by omega) (by omega) HW.out.dig ones_dig (HLB.out.below hb2) hl2).mono ?_
          rintro e w3 ⟨L3, v3, rfl, hd3, hb3⟩
          obtain ⟨p3, c3, hv3, hc3, hl3⟩ := hd3.own.lies
          subst hv3
          have hm3 := hd3.len
          have HB3 := Lib.hid ((HB1.out.trans (hb2.mono HB1.out.size)).trans (hb3.mono (Nat.le_trans HB1.out.size hb2.size)))
          have H3 : Hid (LieW (N + 5) 91 L3 p3 L3.length c3 w3) := ⟨hl3, rfl, hc3, by omega, hd3.dig, by rw [hd3.val, HW.out.val]; rfl⟩
          clear hl2 hb2 hd3 hb3 hl3 hc3 HLB HB1
          go_wp2_with fail
          refine (trimmed_any L3 L3.length p3 c3 w3 rfl (by omega) H3.out.cap H3.out.lies).mono ?_
          rintro e w4 ⟨n4, rfl, hn4, hz4, hv4, rfl⟩
          have H4 := Lib.hid (trimmed_take H3.out hn4 hv4)
          have hn65 : 65 < n4 := by
            apply Nat.lt_of_not_le
            intro hle
            have h1 := small_of _ n4 H4.out.len hle H4.out.dig
            rw [H4.out.val] at h1
            omega
          have h4c := H4.out.cap
          clear hz4 hv4 H3 hn4
          have q0 : (65 : Int) < (n4 : Int) := by omega
          have q1 : (65 : Int) ≤ (c3 : Int) := by omega
          have q2 : 65 < n4 := hn65
          have H5 : Hid (LieW ((N + 5) % 1361129467683753853853498429727072845824) 65 ((L3.take n4).take 65) p3 65 c3 w3) := show LieW _ _ _ _ _ _ _ from
            ⟨lies_front H4.out.lies 65, by rw [List.length_take, H4.out.len]; omega, by omega, Nat.le_refl _, dig_take _ 65 H4.out.dig, by rw [(parts65 _ H4.out.dig).1, H4.out.val]⟩
          clear H4
          go_wp2_with fail
          refine (trimmed_any _ 65 p3 c3 _ H5.out.len (by omega) H5.out.cap H5.out.lies).mono ?_
          rintro e w6 ⟨n6, rfl, hn6, hz6, hv6, rfl⟩
          have H6 := Lib.hid (trimmed_take H5.out hn6 hv6)
          clear hz6 hv6 H5 hn6
          go_wp2_with fail
          go_roundw
          case rel =>
            refine ⟨_, _, _, _, _, rfl, H6.out, ?_, HB.out.trans (HB3.out.mono HB.out.size)⟩
            rw [← HN.out, show P130 = 1361129467683753853853498429727072845819 from rfl]
            omega
          case measure =>
            refine Nat.lt_of_le_of_lt (memN_small H6.out.lies H6.out.len) ?_
            rw [H6.out.val]
            show _ < memN _ _
            rw [HMM.out, HW.out.val]
            omega
end Go.Proofs.Ytgfmjfpafpmghaa
