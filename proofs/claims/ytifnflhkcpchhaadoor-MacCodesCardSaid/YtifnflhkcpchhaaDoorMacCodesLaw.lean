/-
  The walk of the law MacCodes: for any key, any bytes and any code it returns true, and nothing that was there changes.
-/
import Derived.Test.YtifnflhkcpchhaaDoorRefMacOf
import Derived.Test.YtifnflhkcpchhaaDoorTree
namespace Go.Proofs.YtifnflhkcpchhaaDoor
open Go.RowKit Go.Proofs.ShaWords

theorem run_slice_to {ρ : Operand → Value} {o : Oper} {x y : Operand} {p : Option Addr} {n c k : Nat} (ho : o.op = .slice 26 x none (some y) none) (hk : k ≤ c) (hx : ρ x = .slice p n c) (hy : ρ y = .int .i64 (k : Int)) (w : World) :
    (execOp ρ o).run Tryd.prog w = .ok (.value (.slice p k c)) w := by
  obtain ⟨dst, op, ty, pos, after, guard⟩ := o
  simp only at ho
  subst ho
  have h0 : (0 : Int) ≤ (k : Int) := by omega
  have h1 : (k : Int) ≤ (c : Int) := by omega
  go_simp
theorem run_alloc32 {ρ : Operand → Value} {o : Oper} (ho : o.op = .alloc 31) (w : World) :
    (execOp ρ o).run Tryd.prog w = .ok (.value (.pointer (some ⟨w.heap.size, 0, none⟩))) (w.alloc (.cells (bytesV (noughts 32)).toArray 31)) := by
  obtain ⟨dst, op, ty, pos, after, guard⟩ := o
  simp only at ho
  subst ho
  show _ = Result.ok _ (w.alloc (Obj.cells (bytesV (List.replicate 32 0#8)).toArray _))
  rw [noughts32]
  go_simp
theorem Lies.front {w : World} {p : Option Addr} {l r : List (BitVec 8)} (h : Lies w p (l ++ r)) : Lies w p l := by
  rcases h with h | ⟨b, off, hp, hr⟩
  · exact Or.inl (List.append_eq_nil_iff.1 h).1
  · exact Or.inr ⟨b, off, hp, range_front hr⟩
/-- A store into a block that has just been made. -/
theorem store_fresh (w : World) (X : List (BitVec 8)) (_hX : X.length = 32) : BytesAt ((w.alloc (.cells (bytesV (noughts 32)).toArray 31)).setRow w.heap.size (bytesV X).toArray) w.heap.size 31 X ∧
    Below w.heap.size w ((w.alloc (.cells (bytesV (noughts 32)).toArray 31)).setRow w.heap.size (bytesV X).toArray) :=
  ⟨setRow_heap _ _ _ _ _ _ (heap_alloc_new w _), below_setRow ((Below.refl _ _).alloc (Nat.le_refl _) _) (Nat.le_refl _) _⟩
theorem store_old (w : World) (g : Nat) (X : List (BitVec 8)) (_hX : X.length = 32) (hg : BytesAt w g 31 (noughts 32)) : BytesAt (w.setRow g (bytesV X).toArray) g 31 X ∧ Below g w (w.setRow g (bytesV X).toArray) :=
  ⟨setRow_heap _ _ _ _ _ _ hg, below_setRow (Below.refl _ _) (Nat.le_refl _) _⟩
structure CW (w : World) (key bs s : List (BitVec 8)) (p7 p8 : Option Addr) (wr : World) : Prop where
  z : BytesAt wr w.heap.size 31 s
  k7 : Lies wr p7 (key ++ marks 5)
  b8 : Lies wr p8 (bs ++ marks 5)
  below : Below w.heap.size w wr
theorem CW.on {w wr w' : World} {key bs s : List (BitVec 8)} {p7 p8 : Option Addr} (h : CW w key bs s p7 p8 wr) (hb : Below wr.heap.size wr w') : CW w key bs s p7 p8 w' :=
  ⟨h.z.keep hb, h.k7.below hb, h.b8.below hb, h.below.trans (hb.mono h.below.size)⟩
theorem CW.drewOn {w wr : World} {key bs s : List (BitVec 8)} {p7 p8 : Option Addr} (h : CW w key bs s p7 p8 wr) : CW w key bs s p7 p8 wr.drew := h.on ((Below.refl _ _).drew)
attribute [local irreducible] macOf
set_option maxRecDepth 100000 in
set_option maxHeartbeats 2000000 in
theorem codes_main (key bs s : List (BitVec 8)) (p q : Option Addr) (ck cb : Nat) (w : World) (hlk : key.length ≤ 4096) (hlb : bs.length ≤ 4096) (hsl : s.length = 32) (hrk : Lies w p key) (hrb : Lies w q bs)
    (hk : Consts w) (hs : Starts w) :
    Calls Tryd.prog 5 #[.slice p key.length ck, .slice q bs.length cb, .agg (bytesV s).toArray] w fun e w' => e = .returned (.bool true) ∧ Below w.heap.size w w' := by
  have hs1 := hk.size
  have HK := Lib.hid hk; clear hk
  have HS := Lib.hid hs; clear hs
  have HRK := Lib.hid hrk; clear hrk
  have HRB := Lib.hid hrb; clear hrb
  have HSL := Lib.hid hsl; clear hsl
  go_enter Tryd.func5, Tryd.ntmps5
  go_wp2_with fail
  refine calls_gen (fun w0 => BytesAt w0 w.heap.size 31 s ∧ Below w.heap.size w w0) ⟨heap_alloc_new w _, (Below.refl _ _).alloc (Nat.le_refl _) _⟩ ?_
  rintro w0 ⟨hz0, bel0⟩
  have sz0 := hz0.size
  refine (lent_any key p ck w0 (by omega) (HRK.out.below bel0)).mono ?_
  rintro e w1 ⟨v7, rfl, ho7, hb1⟩
  have HB1 := Lib.hid (bel0.trans (hb1.mono (by omega)))
  have HZ1 := Lib.hid (hz0.keep hb1)
  have HO7 := Lib.hid ho7
  have sz1 := HZ1.out.size
  clear hz0 bel0 hb1 ho7
  go_wp2_with fail
  refine (lent_any bs q cb w1 (by omega) (HRB.out.below HB1.out)).mono ?_
  rintro e w2 ⟨v8, rfl, ho8, hb2⟩
  have HB2 := Lib.hid (HB1.out.trans (hb2.mono (by omega)))
  have HZ2 := Lib.hid (HZ1.out.keep hb2)
  have HO72 := Lib.hid (HO7.out.below hb2)
  have HO8 := Lib.hid ho8
  have sz2 := HZ2.out.size
  clear hb2 ho8 HB1 HZ1 HO7
  obtain ⟨p7, c7, hv7, hc7, hm7, hl7⟩ := HO72.out.lies
  obtain ⟨p8, c8, hv8, hc8, hm8, hl8⟩ := HO8.out.lies
  have hl5 : (key ++ marks 5).length = key.length + 5 := by rw [List.length_append, marks_length]
  have hl6 : (bs ++ marks 5).length = bs.length + 5 := by rw [List.length_append, marks_length]
  rw [hl5] at hv7 hc7
  rw [hl6] at hv8 hc8
  subst hv7; subst hv8
  unfold maxLen at hm7 hm8
  have HCW : Hid (CW w key bs s p7 p8 w2) := ⟨HZ2.out, hl7, hl8, HB2.out⟩
  clear hl5 hl6 hl7 hl8 HZ2 HO72 HO8 HB2
  have j7 : key.length ≤ c7 := by omega
  have j8 : bs.length ≤ c8 := by omega
  go_upto_region 5 with fail
  go_cut [5, 7, 8, 9] (fun s5 s7 s8 s9 wx => s5 = .pointer (some ⟨w.heap.size, 0, none⟩) ∧ s7 = .slice p7 (key.length + 5) c7 ∧ s8 = .slice p8 (bs.length + 5) c8 ∧ ∃ G : Nat, s9 = .pointer (some ⟨G, 0, none⟩) ∧ BytesAt wx G 31 (macOf key bs) ∧ CW w key bs s p7 p8 wx)
  case first =>
    refine region_tree (Keeps w2.drew) (Below.refl _ _) (.pure 0 (.pure 1 (.pure 2 (.pure 3 (.pure 4 (.pure 5 (.pure 6 (.pure 7 (.two 8 9 (.one 9 (.one 10 .nil)) (.one 8 (.one 10 .nil))))))))))) (by kernel_rfl) (by kernel_rfl) (by kernel_rfl) (fun ops hops A hA => ?_)
    have hsz : A.tmps.size = 64 := by rw [hA]; rfl
    have base0 : A.eval (.tmp 0) = .slice p key.length ck := by rw [hA]; rfl
    have base1 : A.eval (.tmp 1) = .slice q bs.length cb := by rw [hA]; rfl
    have base7 : A.eval (.tmp 7) = .slice p7 (key.length + 5) c7 := by rw [hA]; rfl
    have base8 : A.eval (.tmp 8) = .slice p8 (bs.length + 5) c8 := by rw [hA]; rfl
    have HAA := Lib.hid hA; clear hA
    obtain ⟨o0, po0, q0, d0, gd0⟩ : ∃ o, ops[0]? = some o ∧ o.op = .move (.tmp 7) ∧ o.dst = some 24 ∧ o.guard = none := ⟨_, by rw [hops]; rfl, rfl, rfl, rfl⟩
    obtain ⟨o1, po1, q1, d1, gd1⟩ : ∃ o, ops[1]? = some o ∧ o.op = .move (.tmp 0) ∧ o.dst = some 25 ∧ o.guard = none := ⟨_, by rw [hops]; rfl, rfl, rfl, rfl⟩
    obtain ⟨o2, po2, q2, d2, gd2⟩ : ∃ o, ops[2]? = some o ∧ o.op = .call { callee := .builtin .len, args := #[.tmp 25], argTypes := #[26] } ∧ o.dst = some 26 ∧ o.guard = none := ⟨_, by rw [hops]; rfl, rfl, rfl, rfl⟩
    obtain ⟨o3, po3, q3, d3, gd3⟩ : ∃ o, ops[3]? = some o ∧ o.op = .slice 26 (.tmp 24) none (some (.tmp 26)) none ∧ o.dst = some 27 ∧ o.guard = none := ⟨_, by rw [hops]; rfl, rfl, rfl, rfl⟩
    obtain ⟨o4, po4, q4, d4, gd4⟩ : ∃ o, ops[4]? = some o ∧ o.op = .move (.tmp 8) ∧ o.dst = some 28 ∧ o.guard = none := ⟨_, by rw [hops]; rfl, rfl, rfl, rfl⟩
    obtain ⟨o5, po5, q5, d5, gd5⟩ : ∃ o, ops[5]? = some o ∧ o.op = .move (.tmp 1) ∧ o.dst = some 29 ∧ o.guard = none := ⟨_, by rw [hops]; rfl, rfl, rfl, rfl⟩
    obtain ⟨o6, po6, q6, d6, gd6⟩ : ∃ o, ops[6]? = some o ∧ o.op = .call { callee := .builtin .len, args := #[.tmp 29], argTypes := #[26] } ∧ o.dst = some 30 ∧ o.guard = none := ⟨_, by rw [hops]; rfl, rfl, rfl, rfl⟩
    obtain ⟨o7, po7, q7, d7, gd7⟩ : ∃ o, ops[7]? = some o ∧ o.op = .slice 26 (.tmp 28) none (some (.tmp 30)) none ∧ o.dst = some 31 ∧ o.guard = none := ⟨_, by rw [hops]; rfl, rfl, rfl, rfl⟩
    obtain ⟨o8, po8, q8, d8, gd8⟩ : ∃ o, ops[8]? = some o ∧ o.op = .call { callee := .value (.func 26), args := #[.tmp 27, .tmp 31], argTypes := #[26, 26] } ∧ o.dst = some 32 ∧ o.guard = none := ⟨_, by rw [hops]; rfl, rfl, rfl, rfl⟩
    obtain ⟨o9, po9, q9, d9, gd9⟩ : ∃ o, ops[9]? = some o ∧ o.op = .alloc 31 ∧ o.dst = some 9 ∧ o.guard = none := ⟨_, by rw [hops]; rfl, rfl, rfl, rfl⟩
    obtain ⟨o10, po10, q10, d10, gd10⟩ : ∃ o, ops[10]? = some o ∧ o.op = .store 31 (.tmp 9) (.tmp 32) ∧ o.dst = none ∧ o.guard = none := ⟨_, by rw [hops]; rfl, rfl, rfl, rfl⟩
    clear hops
    refine Tr.takes po0 d0 (wanted_of gd0) (fun w' _ => run_move q0 base7 w') ?_
    refine Tr.takes po1 d1 (wanted_of gd1) (fun w' _ => run_move q1 ((eval_other _ 24 0 _ (by decide)).trans base0) w') ?_
    refine Tr.takes po2 d2 (wanted_of gd2) (fun w' _ => run_len26 q2 (eval_same _ _ _ (by simp only [put_size, hsz]; decide)) w') ?_
    refine Tr.takes po3 d3 (wanted_of gd3) (fun w' _ => run_slice_to q3 j7 ((eval_other _ 26 24 _ (by decide)).trans ((eval_other _ 25 24 _ (by decide)).trans (eval_same _ _ _ (by rw [hsz]; decide)))) (eval_same _ _ _ (by simp only [put_size, hsz]; decide)) w') ?_
    refine Tr.takes po4 d4 (wanted_of gd4) (fun w' _ => run_move q4 ((eval_other _ 27 8 _ (by decide)).trans ((eval_other _ 26 8 _ (by decide)).trans ((eval_other _ 25 8 _ (by decide)).trans ((eval_other _ 24 8 _ (by decide)).trans base8)))) w') ?_
    refine Tr.takes po5 d5 (wanted_of gd5) (fun w' _ => run_move q5 ((eval_other _ 28 1 _ (by decide)).trans ((eval_other _ 27 1 _ (by decide)).trans ((eval_other _ 26 1 _ (by decide)).trans ((eval_other _ 25 1 _ (by decide)).trans ((eval_other _ 24 1 _ (by decide)).trans base1))))) w') ?_
    refine Tr.takes po6 d6 (wanted_of gd6) (fun w' _ => run_len26 q6 (eval_same _ _ _ (by simp only [put_size, hsz]; decide)) w') ?_
    refine Tr.takes po7 d7 (wanted_of gd7) (fun w' _ => run_slice_to q7 j8 ((eval_other _ 30 28 _ (by decide)).trans ((eval_other _ 29 28 _ (by decide)).trans (eval_same _ _ _ (by simp only [put_size, hsz]; decide)))) (eval_same _ _ _ (by simp only [put_size, hsz]; decide)) w') ?_
    refine ⟨?_, ?_⟩
    · refine at_call po8 d8 (wanted_of gd8) (run_callf2 q8 rfl ((eval_other _ 31 27 _ (by decide)).trans ((eval_other _ 30 27 _ (by decide)).trans ((eval_other _ 29 27 _ (by decide)).trans ((eval_other _ 28 27 _ (by decide)).trans (eval_same _ _ _ (by simp only [put_size, hsz]; decide)))))) (eval_same _ _ _ (by simp only [put_size, hsz]; decide)) Tryd.func26 (by kernel_rfl) _) (of_eq (macOf key bs) key.length bs.length key bs p7 p8 c7 c8 w2.drew rfl rfl rfl HCW.out.drewOn.k7.front HCW.out.drewOn.b8.front j7 hm7 (by omega) j8 hm8 (by omega) (HK.out.below HCW.out.drewOn.below hs1) (HS.out.below HCW.out.drewOn.below (by omega))) (fun wa ha => ⟨ha, ?_⟩)
      refine at_op po9 d9 (wanted_of gd9) (run_alloc32 q9 wa) ⟨ha.alloc ha.size _, ?_⟩
      have hx := store_fresh wa (macOf key bs) (macOf_length key bs)
      refine at_wp po10 (wanted_of gd10) (wp_store_row 31 (.tmp 9) (.tmp 32) q10 wa.heap.size (bytesV (macOf key bs)).toArray (eval_same _ _ _ (by simp only [put_size, hsz]; decide)) ((eval_other _ 9 32 _ (by decide)).trans (eval_same _ _ _ (by simp only [put_size, hsz]; decide))) 31 _ (heap_alloc_new wa _) (info32 _ (macOf_length key bs)) (by rw [bytesV_size _ 32 (macOf_length key bs), bytesV_size _ 32 (noughts_length 32)]) (bytesV_one _) ⟨ha.trans (hx.2.mono ha.size), ?_⟩)
      rw [d10]
      have HC2 := Lib.hid (HCW.out.drewOn.on (ha.trans (hx.2.mono ha.size)))
      have HX2 := Lib.hid hx.1
      clear hx
      show NoPanic _ .normal _ _
      refine NoPanic.normal ?_
      rw [HAA.out]
      go_frame
      go_wp2_with fail
      go_meet
      exact ⟨rfl, rfl, rfl, _, rfl, HX2.out, HC2.out⟩
    · refine at_op po9 d9 (wanted_of gd9) (run_alloc32 q9 w2.drew) ⟨(Below.refl _ _).alloc (Nat.le_refl _) _, ?_⟩
      have hal : Below w2.drew.heap.size w2.drew (w2.drew.alloc (.cells (bytesV (noughts 32)).toArray 31)) := (Below.refl _ _).alloc (Nat.le_refl _) _
      have hnz := show BytesAt (w2.drew.alloc (.cells (bytesV (noughts 32)).toArray 31)) w2.drew.heap.size 31 (noughts 32) from heap_alloc_new _ _
      generalize w2.drew.alloc (.cells (bytesV (noughts 32)).toArray 31) = wb at hal hnz ⊢
      refine at_call po8 d8 (wanted_of gd8) (run_callf2 q8 rfl ((eval_other _ 9 27 _ (by decide)).trans ((eval_other _ 31 27 _ (by decide)).trans ((eval_other _ 30 27 _ (by decide)).trans ((eval_other _ 29 27 _ (by decide)).trans ((eval_other _ 28 27 _ (by decide)).trans (eval_same _ _ _ (by simp only [put_size, hsz]; decide))))))) ((eval_other _ 9 31 _ (by decide)).trans (eval_same _ _ _ (by simp only [put_size, hsz]; decide))) Tryd.func26 (by kernel_rfl) _) (of_eq (macOf key bs) key.length bs.length key bs p7 p8 c7 c8 wb rfl rfl rfl (HCW.out.drewOn.on hal).k7.front (HCW.out.drewOn.on hal).b8.front j7 hm7 (by omega) j8 hm8 (by omega) (HK.out.below (HCW.out.drewOn.on hal).below hs1) (HS.out.below (HCW.out.drewOn.on hal).below (by omega))) (fun wa ha => ⟨hal.trans (ha.mono hal.size), ?_⟩)
      have hx := store_old wa w2.drew.heap.size (macOf key bs) (macOf_length key bs) (hnz.keep ha)
      refine at_wp po10 (wanted_of gd10) (wp_store_row 31 (.tmp 9) (.tmp 32) q10 w2.drew.heap.size (bytesV (macOf key bs)).toArray ((eval_other _ 32 9 _ (by decide)).trans (eval_same _ _ _ (by simp only [put_size, hsz]; decide))) (eval_same _ _ _ (by simp only [put_size, hsz]; decide)) 31 _ (hnz.keep ha) (info32 _ (macOf_length key bs)) (by rw [bytesV_size _ 32 (macOf_length key bs), bytesV_size _ 32 (noughts_length 32)]) (bytesV_one _) ⟨(hal.trans (ha.mono hal.size)).trans (hx.2.mono (Nat.le_refl _)), ?_⟩)
      rw [d10]
      have HC2 := Lib.hid (HCW.out.drewOn.on ((hal.trans (ha.mono hal.size)).trans (hx.2.mono (Nat.le_refl _))))
      have HX2 := Lib.hid hx.1
      clear hx
      show NoPanic _ .normal _ _
      refine NoPanic.normal ?_
      rw [HAA.out]
      go_frame
      go_wp2_with fail
      go_meet
      exact ⟨rfl, rfl, rfl, _, rfl, HX2.out, HC2.out⟩
  case rest =>
    clear HCW
    obtain ⟨rfl, rfl, rfl, G, rfl, hX, hcw⟩ := hcut
    have HCW := Lib.hid hcw; have HX := Lib.hid hX
    clear hcw hX
    go_upto_region 6 with fail
    go_cut [5, 7, 8, 9, 10] (fun s5 s7 s8 s9 s10 wx => s5 = .pointer (some ⟨w.heap.size, 0, none⟩) ∧ s7 = .slice p7 (key.length + 5) c7 ∧ s8 = .slice p8 (bs.length + 5) c8 ∧ s9 = .pointer (some ⟨G, 0, none⟩) ∧ ∃ G2 : Nat, s10 = .pointer (some ⟨G2, 0, none⟩) ∧ BytesAt wx G 31 (macOf key bs) ∧ BytesAt wx G2 31 (macOf s bs) ∧ CW w key bs s p7 p8 wx)
    case first =>
      refine region_tree (Keeps wc.drew) (Below.refl _ _) (.pure 0 (.pure 1 (.pure 2 (.pure 3 (.pure 4 (.two 5 6 (.one 6 (.one 7 .nil)) (.one 5 (.one 7 .nil)))))))) (by kernel_rfl) (by kernel_rfl) (by kernel_rfl) (fun ops hops A hA => ?_)
      have hsz : A.tmps.size = 64 := by rw [hA]; rfl
      have base1 : A.eval (.tmp 1) = .slice q bs.length cb := by rw [hA]; rfl
      have base5 : A.eval (.tmp 5) = .pointer (some ⟨w.heap.size, 0, none⟩) := by rw [hA]; rfl
      have base8 : A.eval (.tmp 8) = .slice p8 (bs.length + 5) c8 := by rw [hA]; rfl
      have HAA := Lib.hid hA; clear hA
      obtain ⟨o0, po0, q0, d0, gd0⟩ : ∃ o, ops[0]? = some o ∧ o.op = .load 31 (.tmp 5) ∧ o.dst = some 33 ∧ o.guard = none := ⟨_, by rw [hops]; rfl, rfl, rfl, rfl⟩
      obtain ⟨o1, po1, q1, d1, gd1⟩ : ∃ o, ops[1]? = some o ∧ o.op = .move (.tmp 8) ∧ o.dst = some 34 ∧ o.guard = none := ⟨_, by rw [hops]; rfl, rfl, rfl, rfl⟩
      obtain ⟨o2, po2, q2, d2, gd2⟩ : ∃ o, ops[2]? = some o ∧ o.op = .move (.tmp 1) ∧ o.dst = some 35 ∧ o.guard = none := ⟨_, by rw [hops]; rfl, rfl, rfl, rfl⟩
      obtain ⟨o3, po3, q3, d3, gd3⟩ : ∃ o, ops[3]? = some o ∧ o.op = .call { callee := .builtin .len, args := #[.tmp 35], argTypes := #[26] } ∧ o.dst = some 36 ∧ o.guard = none := ⟨_, by rw [hops]; rfl, rfl, rfl, rfl⟩
      obtain ⟨o4, po4, q4, d4, gd4⟩ : ∃ o, ops[4]? = some o ∧ o.op = .slice 26 (.tmp 34) none (some (.tmp 36)) none ∧ o.dst = some 37 ∧ o.guard = none := ⟨_, by rw [hops]; rfl, rfl, rfl, rfl⟩
      obtain ⟨o5, po5, q5, d5, gd5⟩ : ∃ o, ops[5]? = some o ∧ o.op = .call { callee := .value (.func 27), args := #[.tmp 33, .tmp 37], argTypes := #[31, 26] } ∧ o.dst = some 38 ∧ o.guard = none := ⟨_, by rw [hops]; rfl, rfl, rfl, rfl⟩
      obtain ⟨o6, po6, q6, d6, gd6⟩ : ∃ o, ops[6]? = some o ∧ o.op = .alloc 31 ∧ o.dst = some 10 ∧ o.guard = none := ⟨_, by rw [hops]; rfl, rfl, rfl, rfl⟩
      obtain ⟨o7, po7, q7, d7, gd7⟩ : ∃ o, ops[7]? = some o ∧ o.op = .store 31 (.tmp 10) (.tmp 38) ∧ o.dst = none ∧ o.guard = none := ⟨_, by rw [hops]; rfl, rfl, rfl, rfl⟩
      clear hops
      refine Tr.takes po0 d0 (wanted_of gd0) (fun w' hw' => run_load_sum q0 base5 HSL.out (range_keep (w := wc.drew) HCW.out.drewOn.z.range hw')) ?_
      refine Tr.takes po1 d1 (wanted_of gd1) (fun w' _ => run_move q1 ((eval_other _ 33 8 _ (by decide)).trans base8) w') ?_
      refine Tr.takes po2 d2 (wanted_of gd2) (fun w' _ => run_move q2 ((eval_other _ 34 1 _ (by decide)).trans ((eval_other _ 33 1 _ (by decide)).trans base1)) w') ?_
      refine Tr.takes po3 d3 (wanted_of gd3) (fun w' _ => run_len26 q3 (eval_same _ _ _ (by simp only [put_size, hsz]; decide)) w') ?_
      refine Tr.takes po4 d4 (wanted_of gd4) (fun w' _ => run_slice_to q4 j8 ((eval_other _ 36 34 _ (by decide)).trans ((eval_other _ 35 34 _ (by decide)).trans (eval_same _ _ _ (by simp only [put_size, hsz]; decide)))) (eval_same _ _ _ (by simp only [put_size, hsz]; decide)) w') ?_
      refine ⟨?_, ?_⟩
      · refine at_call po5 d5 (wanted_of gd5) (run_callf2 q5 rfl ((eval_other _ 37 33 _ (by decide)).trans ((eval_other _ 36 33 _ (by decide)).trans ((eval_other _ 35 33 _ (by decide)).trans ((eval_other _ 34 33 _ (by decide)).trans (eval_same _ _ _ (by rw [hsz]; decide)))))) (eval_same _ _ _ (by simp only [put_size, hsz]; decide)) Tryd.func27 (by kernel_rfl) _) (chain_eq (macOf s bs) bs.length s bs p8 c8 wc.drew rfl HSL.out rfl HCW.out.drewOn.b8.front j8 hm8 (by omega) (HK.out.below HCW.out.drewOn.below hs1) (HS.out.below HCW.out.drewOn.below (by omega))) (fun wa ha => ⟨ha, ?_⟩)
        refine at_op po6 d6 (wanted_of gd6) (run_alloc32 q6 wa) ⟨ha.alloc ha.size _, ?_⟩
        have hx := store_fresh wa (macOf s bs) (macOf_length s bs)
        refine at_wp po7 (wanted_of gd7) (wp_store_row 31 (.tmp 10) (.tmp 38) q7 wa.heap.size (bytesV (macOf s bs)).toArray (eval_same _ _ _ (by simp only [put_size, hsz]; decide)) ((eval_other _ 10 38 _ (by decide)).trans (eval_same _ _ _ (by simp only [put_size, hsz]; decide))) 31 _ (heap_alloc_new wa _) (info32 _ (macOf_length s bs)) (by rw [bytesV_size _ 32 (macOf_length s bs), bytesV_size _ 32 (noughts_length 32)]) (bytesV_one _) ⟨ha.trans (hx.2.mono ha.size), ?_⟩)
        rw [d7]
        have HC2 := Lib.hid (HCW.out.drewOn.on (ha.trans (hx.2.mono ha.size)))
        have HXO := Lib.hid (BytesAt.keep (w := wc.drew) HX.out (ha.trans (hx.2.mono ha.size)))
        have HX2 := Lib.hid hx.1
        clear hx
        show NoPanic _ .normal _ _
        refine NoPanic.normal ?_
        rw [HAA.out]
        go_frame
        go_wp2_with fail
        go_meet
        exact ⟨rfl, rfl, rfl, rfl, _, rfl, HXO.out, HX2.out, HC2.out⟩
      · refine at_op po6 d6 (wanted_of gd6) (run_alloc32 q6 wc.drew) ⟨(Below.refl _ _).alloc (Nat.le_refl _) _, ?_⟩
        have hal : Below wc.drew.heap.size wc.drew (wc.drew.alloc (.cells (bytesV (noughts 32)).toArray 31)) := (Below.refl _ _).alloc (Nat.le_refl _) _
        have hnz := show BytesAt (wc.drew.alloc (.cells (bytesV (noughts 32)).toArray 31)) wc.drew.heap.size 31 (noughts 32) from heap_alloc_new _ _
        generalize wc.drew.alloc (.cells (bytesV (noughts 32)).toArray 31) = wb at hal hnz ⊢
        refine at_call po5 d5 (wanted_of gd5) (run_callf2 q5 rfl ((eval_other _ 10 33 _ (by decide)).trans ((eval_other _ 37 33 _ (by decide)).trans ((eval_other _ 36 33 _ (by decide)).trans ((eval_other _ 35 33 _ (by decide)).trans ((eval_other _ 34 33 _ (by decide)).trans (eval_same _ _ _ (by rw [hsz]; decide))))))) ((eval_other _ 10 37 _ (by decide)).trans (eval_same _ _ _ (by simp only [put_size, hsz]; decide))) Tryd.func27 (by kernel_rfl) _) (chain_eq (macOf s bs) bs.length s bs p8 c8 wb rfl HSL.out rfl (HCW.out.drewOn.on hal).b8.front j8 hm8 (by omega) (HK.out.below (HCW.out.drewOn.on hal).below hs1) (HS.out.below (HCW.out.drewOn.on hal).below (by omega))) (fun wa ha => ⟨hal.trans (ha.mono hal.size), ?_⟩)
        have hx := store_old wa wc.drew.heap.size (macOf s bs) (macOf_length s bs) (hnz.keep ha)
        refine at_wp po7 (wanted_of gd7) (wp_store_row 31 (.tmp 10) (.tmp 38) q7 wc.drew.heap.size (bytesV (macOf s bs)).toArray ((eval_other _ 38 10 _ (by decide)).trans (eval_same _ _ _ (by simp only [put_size, hsz]; decide))) (eval_same _ _ _ (by simp only [put_size, hsz]; decide)) 31 _ (hnz.keep ha) (info32 _ (macOf_length s bs)) (by rw [bytesV_size _ 32 (macOf_length s bs), bytesV_size _ 32 (noughts_length 32)]) (bytesV_one _) ⟨(hal.trans (ha.mono hal.size)).trans (hx.2.mono (Nat.le_refl _)), ?_⟩)
        rw [d7]
        have HC2 := Lib.hid (HCW.out.drewOn.on ((hal.trans (ha.mono hal.size)).trans (hx.2.mono (Nat.le_refl _))))
        have HXO := Lib.hid (BytesAt.keep (w := wc.drew) HX.out ((hal.trans (ha.mono hal.size)).trans (hx.2.mono (Nat.le_refl _))))
        have HX2 := Lib.hid hx.1
        clear hx
        show NoPanic _ .normal _ _
        refine NoPanic.normal ?_
        rw [HAA.out]
        go_frame
        go_wp2_with fail
        go_meet
        exact ⟨rfl, rfl, rfl, rfl, _, rfl, HXO.out, HX2.out, HC2.out⟩
    case rest =>
      clear HCW HX
      obtain ⟨rfl, rfl, rfl, rfl, G2, rfl, hX, hY, hcw⟩ := hcut
      have HCW := Lib.hid hcw; have HX := Lib.hid hX; have HY := Lib.hid hY
      clear hcw hX hY
      have hw0 := HCW.out.below.size
      go_wp2_with fail
      refine region_sched [(0, true), (1, true), (2, true), (3, false), (4, true), (5, true), (6, true), (7, true), (8, true), (9, false), (10, true), (11, true), (12, true), (13, true), (14, true), (15, false), (16, true), (17, true), (18, true), (19, true), (20, false), (21, true), (22, true), (23, false), (24, true), (25, true)] (by kernel_rfl) (by kernel_rfl) (by kernel_rfl) (by kernel_rfl) (fun ops hops A hA => ?_)
      have hsz : A.tmps.size = 64 := by rw [hA]; rfl
      have base0 : A.eval (.tmp 0) = .slice p key.length ck := by rw [hA]; rfl
      have base1 : A.eval (.tmp 1) = .slice q bs.length cb := by rw [hA]; rfl
      have base5 : A.eval (.tmp 5) = .pointer (some ⟨w.heap.size, 0, none⟩) := by rw [hA]; rfl
      have base7 : A.eval (.tmp 7) = .slice p7 (key.length + 5) c7 := by rw [hA]; rfl
      have base8 : A.eval (.tmp 8) = .slice p8 (bs.length + 5) c8 := by rw [hA]; rfl
      have base9 : A.eval (.tmp 9) = .pointer (some ⟨G, 0, none⟩) := by rw [hA]; rfl
      have base10 : A.eval (.tmp 10) = .pointer (some ⟨G2, 0, none⟩) := by rw [hA]; rfl
      have HAA := Lib.hid hA; clear hA
      obtain ⟨o0, po0, q0, d0, gd0⟩ : ∃ o, ops[0]? = some o ∧ o.op = .load 31 (.tmp 9) ∧ o.dst = some 39 ∧ o.guard = none := ⟨_, by rw [hops]; rfl, rfl, rfl, rfl⟩
      obtain ⟨o1, po1, q1, d1, gd1⟩ : ∃ o, ops[1]? = some o ∧ o.op = .move (.tmp 0) ∧ o.dst = some 40 ∧ o.guard = none := ⟨_, by rw [hops]; rfl, rfl, rfl, rfl⟩
      obtain ⟨o2, po2, q2, d2, gd2⟩ : ∃ o, ops[2]? = some o ∧ o.op = .move (.tmp 1) ∧ o.dst = some 41 ∧ o.guard = none := ⟨_, by rw [hops]; rfl, rfl, rfl, rfl⟩
      obtain ⟨o3, po3, q3, d3, gd3⟩ : ∃ o, ops[3]? = some o ∧ o.op = .call { callee := .value (.func 28), args := #[.tmp 40, .tmp 41], argTypes := #[26, 26] } ∧ o.dst = some 42 ∧ o.guard = none := ⟨_, by rw [hops]; rfl, rfl, rfl, rfl⟩
      obtain ⟨o4, po4, q4, d4, gd4⟩ : ∃ o, ops[4]? = some o ∧ o.op = .binOp .eql 31 (.tmp 39) (.tmp 42) 31 ∧ o.dst = some 43 ∧ o.guard = none := ⟨_, by rw [hops]; rfl, rfl, rfl, rfl⟩
      obtain ⟨o5, po5, q5, d5, gd5⟩ : ∃ o, ops[5]? = some o ∧ o.op = .move (.tmp 43) ∧ o.dst = some 44 ∧ o.guard = none := ⟨_, by rw [hops]; rfl, rfl, rfl, rfl⟩
      obtain ⟨o6, po6, q6, d6, gd6⟩ : ∃ o, ops[6]? = some o ∧ o.op = .load 31 (.tmp 10) ∧ o.dst = some 45 ∧ o.guard = some (5, true) := ⟨_, by rw [hops]; rfl, rfl, rfl, rfl⟩
      obtain ⟨o7, po7, q7, d7, gd7⟩ : ∃ o, ops[7]? = some o ∧ o.op = .load 31 (.tmp 5) ∧ o.dst = some 46 ∧ o.guard = some (5, true) := ⟨_, by rw [hops]; rfl, rfl, rfl, rfl⟩
      obtain ⟨o8, po8, q8, d8, gd8⟩ : ∃ o, ops[8]? = some o ∧ o.op = .move (.tmp 1) ∧ o.dst = some 47 ∧ o.guard = some (5, true) := ⟨_, by rw [hops]; rfl, rfl, rfl, rfl⟩
      obtain ⟨o9, po9, q9, d9, gd9⟩ : ∃ o, ops[9]? = some o ∧ o.op = .call { callee := .value (.func 29), args := #[.tmp 46, .tmp 47], argTypes := #[31, 26] } ∧ o.dst = some 48 ∧ o.guard = some (5, true) := ⟨_, by rw [hops]; rfl, rfl, rfl, rfl⟩
      obtain ⟨o10, po10, q10, d10, gd10⟩ : ∃ o, ops[10]? = some o ∧ o.op = .binOp .eql 31 (.tmp 45) (.tmp 48) 31 ∧ o.dst = some 49 ∧ o.guard = some (5, true) := ⟨_, by rw [hops]; rfl, rfl, rfl, rfl⟩
      obtain ⟨o11, po11, q11, d11, gd11⟩ : ∃ o, ops[11]? = some o ∧ o.op = .pick (.tmp 44) (.tmp 49) (.const (.bool false)) ∧ o.dst = some 50 ∧ o.guard = none := ⟨_, by rw [hops]; rfl, rfl, rfl, rfl⟩
      obtain ⟨o12, po12, q12, d12, gd12⟩ : ∃ o, ops[12]? = some o ∧ o.op = .move (.tmp 50) ∧ o.dst = some 51 ∧ o.guard = none := ⟨_, by rw [hops]; rfl, rfl, rfl, rfl⟩
      obtain ⟨o13, po13, q13, d13, gd13⟩ : ∃ o, ops[13]? = some o ∧ o.op = .move (.tmp 7) ∧ o.dst = some 52 ∧ o.guard = some (12, true) := ⟨_, by rw [hops]; rfl, rfl, rfl, rfl⟩
      obtain ⟨o14, po14, q14, d14, gd14⟩ : ∃ o, ops[14]? = some o ∧ o.op = .move (.tmp 0) ∧ o.dst = some 53 ∧ o.guard = some (12, true) := ⟨_, by rw [hops]; rfl, rfl, rfl, rfl⟩
      obtain ⟨o15, po15, q15, d15, gd15⟩ : ∃ o, ops[15]? = some o ∧ o.op = .call { callee := .value (.func 13), args := #[.tmp 52, .tmp 53], argTypes := #[26, 26] } ∧ o.dst = some 54 ∧ o.guard = some (12, true) := ⟨_, by rw [hops]; rfl, rfl, rfl, rfl⟩
      obtain ⟨o16, po16, q16, d16, gd16⟩ : ∃ o, ops[16]? = some o ∧ o.op = .pick (.tmp 51) (.tmp 54) (.const (.bool false)) ∧ o.dst = some 55 ∧ o.guard = none := ⟨_, by rw [hops]; rfl, rfl, rfl, rfl⟩
      obtain ⟨o17, po17, q17, d17, gd17⟩ : ∃ o, ops[17]? = some o ∧ o.op = .move (.tmp 55) ∧ o.dst = some 56 ∧ o.guard = none := ⟨_, by rw [hops]; rfl, rfl, rfl, rfl⟩
      obtain ⟨o18, po18, q18, d18, gd18⟩ : ∃ o, ops[18]? = some o ∧ o.op = .move (.tmp 8) ∧ o.dst = some 57 ∧ o.guard = some (17, true) := ⟨_, by rw [hops]; rfl, rfl, rfl, rfl⟩
      obtain ⟨o19, po19, q19, d19, gd19⟩ : ∃ o, ops[19]? = some o ∧ o.op = .move (.tmp 1) ∧ o.dst = some 58 ∧ o.guard = some (17, true) := ⟨_, by rw [hops]; rfl, rfl, rfl, rfl⟩
      obtain ⟨o20, po20, q20, d20, gd20⟩ : ∃ o, ops[20]? = some o ∧ o.op = .call { callee := .value (.func 13), args := #[.tmp 57, .tmp 58], argTypes := #[26, 26] } ∧ o.dst = some 59 ∧ o.guard = some (17, true) := ⟨_, by rw [hops]; rfl, rfl, rfl, rfl⟩
      obtain ⟨o21, po21, q21, d21, gd21⟩ : ∃ o, ops[21]? = some o ∧ o.op = .pick (.tmp 56) (.tmp 59) (.const (.bool false)) ∧ o.dst = some 60 ∧ o.guard = none := ⟨_, by rw [hops]; rfl, rfl, rfl, rfl⟩
      obtain ⟨o22, po22, q22, d22, gd22⟩ : ∃ o, ops[22]? = some o ∧ o.op = .move (.tmp 60) ∧ o.dst = some 61 ∧ o.guard = none := ⟨_, by rw [hops]; rfl, rfl, rfl, rfl⟩
      obtain ⟨o23, po23, q23, d23, gd23⟩ : ∃ o, ops[23]? = some o ∧ o.op = .call { callee := .value (.func 25), args := #[], argTypes := #[] } ∧ o.dst = some 62 ∧ o.guard = some (22, true) := ⟨_, by rw [hops]; rfl, rfl, rfl, rfl⟩
      obtain ⟨o24, po24, q24, d24, gd24⟩ : ∃ o, ops[24]? = some o ∧ o.op = .pick (.tmp 61) (.tmp 62) (.const (.bool false)) ∧ o.dst = some 63 ∧ o.guard = none := ⟨_, by rw [hops]; rfl, rfl, rfl, rfl⟩
      obtain ⟨o25, po25, q25, d25, gd25⟩ : ∃ o, ops[25]? = some o ∧ o.op = .assign (.tmp 63) ∧ o.dst = some 6 ∧ o.guard = none := ⟨_, by rw [hops]; rfl, rfl, rfl, rfl⟩
      clear hops
      refine step_pure po0 d0 (wanted_of gd0) (fun w' hw' => run_load_sum q0 base9 (macOf_length key bs) (range_keep (w := wc.drew) (BytesAt.range (w := wc.drew) HX.out) hw')) ?_
      refine step_pure po1 d1 (wanted_of gd1) (fun w' _ => run_move q1 ((eval_other _ 39 0 _ (by decide)).trans base0) w') ?_
      refine step_pure po2 d2 (wanted_of gd2) (fun w' _ => run_move q2 ((eval_other _ 40 1 _ (by decide)).trans ((eval_other _ 39 1 _ (by decide)).trans base1)) w') ?_
      refine step_call po3 d3 (wanted_of gd3) (run_callf2 q3 rfl ((eval_other _ 41 40 _ (by decide)).trans (eval_same _ _ _ (by simp only [put_size, hsz]; decide))) (eval_same _ _ _ (by simp only [put_size, hsz]; decide)) Tryd.func28 (by kernel_rfl) _) (refOf_any key bs p q ck cb wc.drew (HRK.out.below HCW.out.drewOn.below) (HRB.out.below HCW.out.drewOn.below) (by omega) (by omega)) (fun w' hR => hR) ?_
      intro wz1 hz1
      refine step_pure po4 d4 (wanted_of gd4) (fun w' _ => run_eql_sum q4 (macOf_length key bs) ((eval_other _ 42 39 _ (by decide)).trans ((eval_other _ 41 39 _ (by decide)).trans ((eval_other _ 40 39 _ (by decide)).trans (eval_same _ _ _ (by rw [hsz]; decide))))) (eval_same _ _ _ (by simp only [put_size, hsz]; decide)) w') ?_
      refine step_pure po5 d5 (wanted_of gd5) (fun w' _ => run_move q5 (eval_same _ _ _ (by simp only [put_size, hsz]; decide)) w') ?_
      refine step_pure po6 d6 (wanted_guard gd6 po5 d5 (eval_same _ _ _ (by simp only [put_size, hsz]; decide))) (fun w' hw' => run_load_sum q6 ((eval_other _ 44 10 _ (by decide)).trans ((eval_other _ 43 10 _ (by decide)).trans ((eval_other _ 42 10 _ (by decide)).trans ((eval_other _ 41 10 _ (by decide)).trans ((eval_other _ 40 10 _ (by decide)).trans ((eval_other _ 39 10 _ (by decide)).trans base10)))))) (macOf_length s bs) (range_keep (w := wc.drew) (BytesAt.range (w := wc.drew) HY.out) hw')) ?_
      refine step_pure po7 d7 (wanted_guard gd7 po5 d5 ((eval_other _ 45 44 _ (by decide)).trans (eval_same _ _ _ (by simp only [put_size, hsz]; decide)))) (fun w' hw' => run_load_sum q7 ((eval_other _ 45 5 _ (by decide)).trans ((eval_other _ 44 5 _ (by decide)).trans ((eval_other _ 43 5 _ (by decide)).trans ((eval_other _ 42 5 _ (by decide)).trans ((eval_other _ 41 5 _ (by decide)).trans ((eval_other _ 40 5 _ (by decide)).trans ((eval_other _ 39 5 _ (by decide)).trans base5))))))) HSL.out (range_keep (w := wc.drew) (BytesAt.range (w := wc.drew) HCW.out.z) hw')) ?_
      refine step_pure po8 d8 (wanted_guard gd8 po5 d5 ((eval_other _ 46 44 _ (by decide)).trans ((eval_other _ 45 44 _ (by decide)).trans (eval_same _ _ _ (by simp only [put_size, hsz]; decide))))) (fun w' _ => run_move q8 ((eval_other _ 46 1 _ (by decide)).trans ((eval_other _ 45 1 _ (by decide)).trans ((eval_other _ 44 1 _ (by decide)).trans ((eval_other _ 43 1 _ (by decide)).trans ((eval_other _ 42 1 _ (by decide)).trans ((eval_other _ 41 1 _ (by decide)).trans ((eval_other _ 40 1 _ (by decide)).trans ((eval_other _ 39 1 _ (by decide)).trans base1)))))))) w') ?_
      refine step_call po9 d9 (wanted_guard gd9 po5 d5 ((eval_other _ 47 44 _ (by decide)).trans ((eval_other _ 46 44 _ (by decide)).trans ((eval_other _ 45 44 _ (by decide)).trans (eval_same _ _ _ (by simp only [put_size, hsz]; decide)))))) (run_callf2 q9 rfl ((eval_other _ 47 46 _ (by decide)).trans (eval_same _ _ _ (by simp only [put_size, hsz]; decide))) (eval_same _ _ _ (by simp only [put_size, hsz]; decide)) Tryd.func29 (by kernel_rfl) _) (refChain_any s bs q cb wz1 HSL.out (HRB.out.below (HCW.out.drewOn.on hz1).below) (by omega)) (fun w' hR => hz1.trans (hR.mono hz1.size)) ?_
      intro wz2 hz2
      replace hz2 := hz1.trans (hz2.mono hz1.size)
      refine step_pure po10 d10 (wanted_guard gd10 po5 d5 ((eval_other _ 48 44 _ (by decide)).trans ((eval_other _ 47 44 _ (by decide)).trans ((eval_other _ 46 44 _ (by decide)).trans ((eval_other _ 45 44 _ (by decide)).trans (eval_same _ _ _ (by simp only [put_size, hsz]; decide))))))) (fun w' _ => run_eql_sum q10 (macOf_length s bs) ((eval_other _ 48 45 _ (by decide)).trans ((eval_other _ 47 45 _ (by decide)).trans ((eval_other _ 46 45 _ (by decide)).trans (eval_same _ _ _ (by simp only [put_size, hsz]; decide))))) (eval_same _ _ _ (by simp only [put_size, hsz]; decide)) w') ?_
      refine step_pure po11 d11 (wanted_of gd11) (fun w' _ => run_pick_true q11 ((eval_other _ 49 44 _ (by decide)).trans ((eval_other _ 48 44 _ (by decide)).trans ((eval_other _ 47 44 _ (by decide)).trans ((eval_other _ 46 44 _ (by decide)).trans ((eval_other _ 45 44 _ (by decide)).trans (eval_same _ _ _ (by simp only [put_size, hsz]; decide))))))) (eval_same _ _ _ (by simp only [put_size, hsz]; decide)) w') ?_
      refine step_pure po12 d12 (wanted_of gd12) (fun w' _ => run_move q12 (eval_same _ _ _ (by simp only [put_size, hsz]; decide)) w') ?_
      refine step_pure po13 d13 (wanted_guard gd13 po12 d12 (eval_same _ _ _ (by simp only [put_size, hsz]; decide))) (fun w' _ => run_move q13 ((eval_other _ 51 7 _ (by decide)).trans ((eval_other _ 50 7 _ (by decide)).trans ((eval_other _ 49 7 _ (by decide)).trans ((eval_other _ 48 7 _ (by decide)).trans ((eval_other _ 47 7 _ (by decide)).trans ((eval_other _ 46 7 _ (by decide)).trans ((eval_other _ 45 7 _ (by decide)).trans ((eval_other _ 44 7 _ (by decide)).trans ((eval_other _ 43 7 _ (by decide)).trans ((eval_other _ 42 7 _ (by decide)).trans ((eval_other _ 41 7 _ (by decide)).trans ((eval_other _ 40 7 _ (by decide)).trans ((eval_other _ 39 7 _ (by decide)).trans base7))))))))))))) w') ?_
      refine step_pure po14 d14 (wanted_guard gd14 po12 d12 ((eval_other _ 52 51 _ (by decide)).trans (eval_same _ _ _ (by simp only [put_size, hsz]; decide)))) (fun w' _ => run_move q14 ((eval_other _ 52 0 _ (by decide)).trans ((eval_other _ 51 0 _ (by decide)).trans ((eval_other _ 50 0 _ (by decide)).trans ((eval_other _ 49 0 _ (by decide)).trans ((eval_other _ 48 0 _ (by decide)).trans ((eval_other _ 47 0 _ (by decide)).trans ((eval_other _ 46 0 _ (by decide)).trans ((eval_other _ 45 0 _ (by decide)).trans ((eval_other _ 44 0 _ (by decide)).trans ((eval_other _ 43 0 _ (by decide)).trans ((eval_other _ 42 0 _ (by decide)).trans ((eval_other _ 41 0 _ (by decide)).trans ((eval_other _ 40 0 _ (by decide)).trans ((eval_other _ 39 0 _ (by decide)).trans base0)))))))))))))) w') ?_
      refine step_call po15 d15 (wanted_guard gd15 po12 d12 ((eval_other _ 53 51 _ (by decide)).trans ((eval_other _ 52 51 _ (by decide)).trans (eval_same _ _ _ (by simp only [put_size, hsz]; decide))))) (run_callf2 q15 rfl ((eval_other _ 53 52 _ (by decide)).trans (eval_same _ _ _ (by simp only [put_size, hsz]; decide))) (eval_same _ _ _ (by simp only [put_size, hsz]; decide)) Tryd.func13 (by kernel_rfl) _) (kept_any key key.length (key.length + 5) p7 p c7 ck wz2 rfl (Nat.le_refl _) (Nat.le_refl _) (by omega) hc7 (HCW.out.drewOn.on hz2).k7 (HRK.out.below (HCW.out.drewOn.on hz2).below)) (fun w' hR => hz2.trans (hR.mono hz2.size)) ?_
      intro wz3 hz3
      replace hz3 := hz2.trans (hz3.mono hz2.size)
      refine step_pure po16 d16 (wanted_of gd16) (fun w' _ => run_pick_true q16 ((eval_other _ 54 51 _ (by decide)).trans ((eval_other _ 53 51 _ (by decide)).trans ((eval_other _ 52 51 _ (by decide)).trans (eval_same _ _ _ (by simp only [put_size, hsz]; decide))))) (eval_same _ _ _ (by simp only [put_size, hsz]; decide)) w') ?_
      refine step_pure po17 d17 (wanted_of gd17) (fun w' _ => run_move q17 (eval_same _ _ _ (by simp only [put_size, hsz]; decide)) w') ?_
      refine step_pure po18 d18 (wanted_guard gd18 po17 d17 (eval_same _ _ _ (by simp only [put_size, hsz]; decide))) (fun w' _ => run_move q18 ((eval_other _ 56 8 _ (by decide)).trans ((eval_other _ 55 8 _ (by decide)).trans ((eval_other _ 54 8 _ (by decide)).trans ((eval_other _ 53 8 _ (by decide)).trans ((eval_other _ 52 8 _ (by decide)).trans ((eval_other _ 51 8 _ (by decide)).trans ((eval_other _ 50 8 _ (by decide)).trans ((eval_other _ 49 8 _ (by decide)).trans ((eval_other _ 48 8 _ (by decide)).trans ((eval_other _ 47 8 _ (by decide)).trans ((eval_other _ 46 8 _ (by decide)).trans ((eval_other _ 45 8 _ (by decide)).trans ((eval_other _ 44 8 _ (by decide)).trans ((eval_other _ 43 8 _ (by decide)).trans ((eval_other _ 42 8 _ (by decide)).trans ((eval_other _ 41 8 _ (by decide)).trans ((eval_other _ 40 8 _ (by decide)).trans ((eval_other _ 39 8 _ (by decide)).trans base8)))))))))))))))))) w') ?_
      refine step_pure po19 d19 (wanted_guard gd19 po17 d17 ((eval_other _ 57 56 _ (by decide)).trans (eval_same _ _ _ (by simp only [put_size, hsz]; decide)))) (fun w' _ => run_move q19 ((eval_other _ 57 1 _ (by decide)).trans ((eval_other _ 56 1 _ (by decide)).trans ((eval_other _ 55 1 _ (by decide)).trans ((eval_other _ 54 1 _ (by decide)).trans ((eval_other _ 53 1 _ (by decide)).trans ((eval_other _ 52 1 _ (by decide)).trans ((eval_other _ 51 1 _ (by decide)).trans ((eval_other _ 50 1 _ (by decide)).trans ((eval_other _ 49 1 _ (by decide)).trans ((eval_other _ 48 1 _ (by decide)).trans ((eval_other _ 47 1 _ (by decide)).trans ((eval_other _ 46 1 _ (by decide)).trans ((eval_other _ 45 1 _ (by decide)).trans ((eval_other _ 44 1 _ (by decide)).trans ((eval_other _ 43 1 _ (by decide)).trans ((eval_other _ 42 1 _ (by decide)).trans ((eval_other _ 41 1 _ (by decide)).trans ((eval_other _ 40 1 _ (by decide)).trans ((eval_other _ 39 1 _ (by decide)).trans base1))))))))))))))))))) w') ?_
      refine step_call po20 d20 (wanted_guard gd20 po17 d17 ((eval_other _ 58 56 _ (by decide)).trans ((eval_other _ 57 56 _ (by decide)).trans (eval_same _ _ _ (by simp only [put_size, hsz]; decide))))) (run_callf2 q20 rfl ((eval_other _ 58 57 _ (by decide)).trans (eval_same _ _ _ (by simp only [put_size, hsz]; decide))) (eval_same _ _ _ (by simp only [put_size, hsz]; decide)) Tryd.func13 (by kernel_rfl) _) (kept_any bs bs.length (bs.length + 5) p8 q c8 cb wz3 rfl (Nat.le_refl _) (Nat.le_refl _) (by omega) hc8 (HCW.out.drewOn.on hz3).b8 (HRB.out.below (HCW.out.drewOn.on hz3).below)) (fun w' hR => hz3.trans (hR.mono hz3.size)) ?_
      intro wz4 hz4
      replace hz4 := hz3.trans (hz4.mono hz3.size)
      refine step_pure po21 d21 (wanted_of gd21) (fun w' _ => run_pick_true q21 ((eval_other _ 59 56 _ (by decide)).trans ((eval_other _ 58 56 _ (by decide)).trans ((eval_other _ 57 56 _ (by decide)).trans (eval_same _ _ _ (by simp only [put_size, hsz]; decide))))) (eval_same _ _ _ (by simp only [put_size, hsz]; decide)) w') ?_
      refine step_pure po22 d22 (wanted_of gd22) (fun w' _ => run_move q22 (eval_same _ _ _ (by simp only [put_size, hsz]; decide)) w') ?_
      refine step_call po23 d23 (wanted_guard gd23 po22 d22 (eval_same _ _ _ (by simp only [put_size, hsz]; decide))) (run_callf0 q23 rfl Tryd.func25 (by kernel_rfl) _) (known_any wz4 (HK.out.below (HCW.out.drewOn.on hz4).below hs1) (HS.out.below (HCW.out.drewOn.on hz4).below (by omega))) (fun w' hR => hz4.trans (hR.mono hz4.size)) ?_
      intro wz5 hz5
      replace hz5 := hz4.trans (hz5.mono hz4.size)
      refine step_pure po24 d24 (wanted_of gd24) (fun w' _ => run_pick_true q24 ((eval_other _ 62 61 _ (by decide)).trans (eval_same _ _ _ (by simp only [put_size, hsz]; decide))) (eval_same _ _ _ (by simp only [put_size, hsz]; decide)) w') ?_
      refine step_pure po25 d25 (wanted_of gd25) (fun w' _ => run_assign q25 (eval_same _ _ _ (by simp only [put_size, hsz]; decide)) w') ?_
      have HFIN := Lib.hid ((HCW.out.drewOn.on hz5).below)
      show NoPanic _ .normal _ _
      refine NoPanic.normal ?_
      rw [HAA.out]
      go_frame
      go_wp2_with fail
      go_ret
      exact ⟨rfl, HFIN.out⟩
set_option maxRecDepth 100000 in
set_option maxHeartbeats 400000 in
theorem codes_long (la lb : Nat) (pa pb : Option Addr) (ca cb : Nat) (s : List (BitVec 8)) (w : World) (h : 4096 < la ∨ 4096 < lb) (hla : la ≤ 140737488351232) (hlb : lb ≤ 140737488351232) (hk : Consts w) (hs : Starts w) :
    Calls Tryd.prog 5 #[.slice pa la ca, .slice pb lb cb, .agg (bytesV s).toArray] w fun e w' => e = .returned (.bool true) ∧ Below w.heap.size w w' := by
  have hs1 := hk.size
  have HB0 := Lib.hid ((Below.refl w.heap.size w).alloc (Nat.le_refl _) (.cells (bytesV s).toArray 31))
  have HK := Lib.hid hk; clear hk
  have HS := Lib.hid hs; clear hs
  by_cases h1 : 4096 < la
  · clear h
    go_enter Tryd.func5, Tryd.ntmps5
    go_wp2_with fail
    refine (known_any _ (HK.out.below HB0.out hs1) (HS.out.below HB0.out (by omega))).mono ?_
    rintro e w' ⟨rfl, hb⟩
    have HB := Lib.hid (HB0.out.trans (hb.mono (by rw [size_alloc]; omega))); clear hb
    go_wp2_with fail
    go_ret
    exact ⟨rfl, HB.out⟩
  · have h2 : 4096 < lb := by omega
    clear h
    go_enter Tryd.func5, Tryd.ntmps5
    go_wp2_with fail
    refine (known_any _ (HK.out.below HB0.out hs1) (HS.out.below HB0.out (by omega))).mono ?_
    rintro e w' ⟨rfl, hb⟩
    have HB := Lib.hid (HB0.out.trans (hb.mono (by rw [size_alloc]; omega))); clear hb
    go_wp2_with fail
    go_ret
    exact ⟨rfl, HB.out⟩
theorem codes_any (key bs s : List (BitVec 8)) (lk lb : Nat) (p q : Option Addr) (ck cb : Nat) (w : World) (hk1 : key.length = lk) (hb1 : bs.length = lb) (hsl : s.length = 32) (hrk : Lies w p key) (hrb : Lies w q bs)
    (hlk : lk ≤ 140737488351232) (hlb : lb ≤ 140737488351232) (hk : Consts w) (hs : Starts w) :
    Calls Tryd.prog 5 #[.slice p lk ck, .slice q lb cb, .agg (bytesV s).toArray] w fun e w' => e = .returned (.bool true) ∧ Below w.heap.size w w' := by
  subst hk1; subst hb1
  by_cases h : 4096 < key.length ∨ 4096 < bs.length
  · exact codes_long key.length bs.length p q ck cb s w h hlk hlb hk hs
  · exact codes_main key bs s p q ck cb w (by omega) (by omega) hsl hrk hrb hk hs
end Go.Proofs.YtifnflhkcpchhaaDoor
