/-
  The document's Xor: each byte combined with the keystream's at its index, in new memory.
-/
import Derived.Test.YtgfmjfpafpmghaaDoorCcRefBlock
import Derived.Test.YtgfmjfpafpmghaaDoorAppendOps
import Derived.Deep.CutRange
namespace Go.Proofs.YtgfmjfpafpmghaaDoor
open Go.RowKit Go.Shelf Go.Proofs.ShaWords
attribute [local go_sem] add32

theorem run_rem64 {ρ : Operand → Value} {o : Oper} {x : Operand} {i : Nat} (ho : o.op = .binOp .rem 3 x (.const (.int .i64 64)) 3) (h0 : ∀ u, ρ (.const u) = u) (hx : ρ x = .int .i64 (i : Int)) (hi : i ≤ 1000000) (w : World) :
    (execOp ρ o).run Tryd.prog w = .ok (.value (.int .i64 ((i % 64 : Nat) : Int))) w := by
  obtain ⟨dst, op, ty', pos, after, guard⟩ := o
  simp only at ho
  subst ho
  have hc := h0 (.int .i64 64)
  have t1 : (i : Int).tmod 64 = ((i % 64 : Nat) : Int) := by rw [Int.tmod_eq_emod_of_nonneg (by omega)]; rfl
  have t2 : IntKind.i64.wrap ((i % 64 : Nat) : Int) = ((i % 64 : Nat) : Int) := IntWalk.i64_in _ (by omega)
  generalize i % 64 = m at t1 t2 ⊢
  go_simp
theorem run_ix64 {ρ : Operand → Value} {o : Oper} {x y : Operand} {g j : Nat} (ho : o.op = .indexAddr 42 x y) (hx : ρ x = .pointer (some ⟨g, 0, none⟩)) (hy : ρ y = .int .i64 (j : Int)) (hj : j < 64) (w : World) :
    (execOp ρ o).run Tryd.prog w = .ok (.value (.pointer (some ⟨g, j, none⟩))) w := by
  obtain ⟨dst, op, ty', pos, after, guard⟩ := o
  simp only at ho
  subst ho
  have q : (j : Int) < 64 := by omega
  go_simp

theorem Own.base' {B B' : Nat} {w : World} {l : List (BitVec 8)} {v : Value} (h : Own B w l v) (hb : B' ≤ B) : Own B' w l v :=
  ⟨h.1, h.2.imp id (fun ⟨g, cap, cur, a, b, r⟩ => ⟨g, cap, cur, a, Nat.le_trans hb b, r⟩)⟩
/-- What the document's Xor has in memory: its boxes, a block of the stream, the bytes so far. -/
structure RX (w : World) (key nonce : List (BitVec 8)) (D B : Nat) (P l : List (BitVec 8)) (v : Value) (wr : World) : Prop where
  two : TwoW w key nonce wr
  part : BytesAt wr D 42 P
  own : Own B wr l v
  le : B ≤ wr.heap.size
  lo : w.heap.size + 1 < D
  hi : D < B
theorem RX.on {w wr w' : World} {key nonce : List (BitVec 8)} {D B : Nat} {P l : List (BitVec 8)} {v : Value} (h : RX w key nonce D B P l v wr) (hb : Below wr.heap.size wr w') : RX w key nonce D B P l v w' :=
  ⟨h.two.on hb, h.part.keep hb, h.own.below hb, Nat.le_trans h.le hb.size, h.lo, h.hi⟩
theorem RX.next {w wr w' : World} {key nonce : List (BitVec 8)} {D B : Nat} {P l l' : List (BitVec 8)} {v v' : Value} (h : RX w key nonce D B P l v wr) (ho : Own B w' l' v') (hb : Below B wr w') : RX w key nonce D B P l' v' w' :=
  ⟨⟨(hb.block _ (by have := h.hi; have := h.lo; omega)).trans h.two.key, (hb.block _ (by have := h.hi; have := h.lo; omega)).trans h.two.nonce, h.two.below.trans (hb.mono (by have := h.hi; have := h.lo; omega))⟩,
    (hb.block _ h.hi).trans h.part, ho, Nat.le_trans h.le hb.size, h.lo, h.hi⟩
theorem RX.row {w wr : World} {key nonce : List (BitVec 8)} {D B : Nat} {P l P' : List (BitVec 8)} {v : Value} (h : RX w key nonce D B P l v wr) : RX w key nonce D B P' l v (wr.setRow D (bytesV P').toArray) :=
  ⟨⟨(setRow_other _ _ _ _ (by have := h.lo; omega)).trans h.two.key, (setRow_other _ _ _ _ (by have := h.lo; omega)).trans h.two.nonce, below_setRow h.two.below (by have := h.lo; omega) _⟩,
    setRow_heap _ _ _ _ _ _ h.part, World.ownsRow.kept h.own (grown_setRow _ _ _) (by
      rcases h.own.2 with ⟨rfl, _⟩ | ⟨g, _, _, rfl, hg, _⟩
      · exact Or.inl rfl
      · exact Or.inr (by simp [Value.ownBlock]; have := h.hi; omega)), by rw [size_setRow]; exact h.le, h.lo, h.hi⟩
attribute [local irreducible] ccBlock xorKs
set_option maxRecDepth 100000 in
set_option maxHeartbeats 1000000 in
theorem refXor_any (key nonce bs : List (BitVec 8)) (n : Nat) (c : BitVec 32) (p : Option Addr) (cap : Nat) (w : World) (hbn : bs.length = n) (hl : n ≤ 1000000) (hk : key.length = 32) (hn : nonce.length = 12) (hL : Lies w p bs) :
    Calls Tryd.prog 42 #[.agg (bytesV key).toArray, .int .u32 (n32 c), .agg (bytesV nonce).toArray, .slice p n cap] w
      fun e w' => ∃ v, e = .returned v ∧ Own w.heap.size w' (xorKs key c nonce bs) v ∧ Below w.heap.size w w' := by
  have HKL := Lib.hid hk; clear hk
  have HNL := Lib.hid hn; clear hn
  have HL := Lib.hid hL; clear hL
  have HBN := Lib.hid hbn; clear hbn
  have HIK := Lib.hid (infoKey key HKL.out)
  have HIN := Lib.hid (infoNonce nonce HNL.out)
  have HZL : Hid ((xorKs key c nonce bs).length = n) := show _ = _ by rw [xorKs_length]; exact HBN.out
  have HZG := Lib.hid (xorKs_get key c nonce bs)
  generalize hz : xorKs key c nonce bs = Z at HZL HZG
  clear hz
  go_enter Tryd.func42, Tryd.ntmps42
  go_upto_region 1 with (fail)
  refine wp_gen (TwoW w key nonce) (two_start w key nonce) ?_
  intro w0 hw0
  have HW0 := Lib.hid hw0; clear hw0
  go_upto_region 4 with (fail)
  have hx0 : RX w key nonce w0.heap.size (w0.heap.size + 1) (noughts 64) (Z.take 0) (.slice none 0 0) (w0.alloc (.cells (bytesV (noughts 64)).toArray 42)) :=
    ⟨HW0.out.on ((Below.refl _ _).alloc (Nat.le_refl _) _), heap_new_at rfl, Own.nil _ _, by rw [size_alloc]; exact Nat.le_refl _, HW0.out.nonce.size, by omega⟩
  refine wp_gen (RX w key nonce w0.heap.size (w0.heap.size + 1) (noughts 64) (Z.take 0) (.slice none 0 0)) (by exact hx0) ?_
  clear hx0
  intro w1 hw1
  have HW1 := Lib.hid hw1; clear hw1 HW0
  generalize w0.heap.size + 1 = B at HW1
  generalize w0.heap.size = D at HW1 ⊢
  go_loopw [9, 11] (fun v iv wr => ∃ (i : Nat) (P : List (BitVec 8)), i ≤ n ∧ iv = .int .i64 (i : Int) ∧ P.length = 64 ∧ (¬ i % 64 = 0 → P = ccBlock key (c + BitVec.ofNat 32 (i / 64)) nonce) ∧ RX w key nonce D B P (Z.take i) v wr) (fun _ iv _ => n - (intOf iv).toNat)
  case atStart => exact ⟨0, noughts 64, by omega, rfl, noughts_length 64, fun h => absurd rfl h, HW1.out⟩
  case round =>
    clear HW1
    obtain ⟨i, P, hi, rfl, hP, hPb, hr⟩ := hrel
    have HP := Lib.hid hP; clear hP
    have HPB := Lib.hid hPb; clear hPb
    have HR := Lib.hid hr; clear hr
    by_cases hlt : i < n
    · obtain ⟨b, off, rfl, hbw, hsrc⟩ : ∃ b off, p = some ⟨b, off, none⟩ ∧ b < w.heap.size ∧ ∀ w', Below w.heap.size w w' → w'.cell? ⟨b, off + i, none⟩ = some (.int .u8 (n8 (bs.getD i 0#8))) := by
        rcases HL.out with h0 | ⟨b, off, rfl, hr⟩
        · have := HBN.out; rw [h0] at this; simp at this; omega
        · have hb := World.block_lt_of_cell? w _ (range_cell hr i (by rw [HBN.out]; exact hlt))
          exact ⟨b, off, rfl, hb, fun w' h => (h.cell (p := ⟨b, off + i, none⟩) hb).trans (range_cell hr i (by rw [HBN.out]; exact hlt))⟩
      have hq0 : (i : Int) < (n : Int) := by omega
      have t1 : (i : Int).tmod 64 = ((i % 64 : Nat) : Int) := by rw [Int.tmod_eq_emod_of_nonneg (by omega)]; rfl
      have h64l : i % 64 < 64 := by omega
      have HLEN : Hid ((Z.take i).length + 1 < 1099511627776) := show _ < _ by rw [List.length_take]; omega
      have HTK := Lib.hid (take_getD8 Z i (by rw [HZL.out]; exact hlt))
      have HZI := Lib.hid (HZG.out i (by rw [HBN.out]; exact hlt))
      have hks : ksAt key c nonce i = (ccBlock key (c + BitVec.ofNat 32 (i / 64)) nonce).getD (i % 64) 0#8 := rfl
      rw [HZI.out, hks] at HTK
      clear HZI hks
      generalize bs.getD i 0#8 = x at hsrc HTK
      have HSRC := Lib.hid hsrc; clear hsrc
      have HbB : Hid (b < B) := show b < B by have := HR.out.lo; have := HR.out.hi; omega
      have HDB : Hid (D < B) := HR.out.hi
      have HCL := Lib.hid (ccBlock_length key (c + BitVec.ofNat 32 (i / 64)) nonce)
      have HBC := fun w' => refBlock_any key nonce (c + BitVec.ofNat 32 (i / 64)) w' HKL.out HNL.out
      generalize hCB : ccBlock key (c + BitVec.ofNat 32 (i / 64)) nonce = CB at HTK HPB HCL HBC
      have HCB := Lib.hid hCB; clear hCB hbw
      have HPN : Hid ((i + 1) % 64 ≠ 0 → CB = ccBlock key (c + BitVec.ofNat 32 ((i + 1) / 64)) nonce) := show _ → _ from fun h => by
        rw [show (i + 1) / 64 = i / 64 by omega]; exact HCB.out.symm
      by_cases h64 : i % 64 = 0
      · have e64 : (((i % 64 : Nat) : Int) == 0) = true := by simp; omega
        have t2 : (i : Int).tdiv 64 = ((i / 64 : Nat) : Int) := by rw [Int.tdiv_eq_ediv_of_nonneg (by omega)]; rfl
        have cv : IntKind.u32.wrap ((i / 64 : Nat) : Int) = n32 (BitVec.ofNat 32 (i / 64)) := by unfold n32; rw [IntKind.wrap_u32', BitVec.toNat_ofNat]; omega
        have HCC : Hid ((n32 c + (i : Int) / 64) % 4294967296 = n32 (c + BitVec.ofNat 32 (i / 64))) := show _ = _ by
          unfold n32; rw [BitVec.toNat_add, BitVec.toNat_ofNat]; omega
        have HIB := Lib.hid (infoBlk _ HCL.out)
        have HOLD := Lib.hid (show (bytesV P).toArray.size = (bytesV CB).toArray.size by rw [bytesV_size _ 64 HCL.out, bytesV_size _ 64 HP.out])
        have HONE := Lib.hid (bytesV_one CB)
        have HBCH := Lib.hid HBC; clear HBC
        go_upto_region 8 with (first
          | (refine wpList_load_row rfl 44 (.tmp 4) rfl w.heap.size rfl 44 (bytesV key).toArray (0, 0) _ HR.out.two.key Tryd.underlying44 rfl HIK.out ?_)
          | (refine wpList_load_row rfl 46 (.tmp 6) rfl (w.heap.size + 1) rfl 46 (bytesV nonce).toArray (0, 0) _ HR.out.two.nonce Tryd.underlying46 rfl HIN.out ?_)
          | (go_at_call 41; rw [HCC.out]; refine (HBCH.out _).mono ?_; rintro e w6 ⟨rfl, hb6⟩; have HR6 := Lib.hid (HR.out.on hb6); clear hb6)
          | (refine wpList_store_row rfl 42 (.tmp 10) (.tmp 28) rfl D (bytesV CB).toArray rfl rfl 42 _ HR6.out.part HIB.out HOLD.out HONE.out ?_))
        clear t2 cv e64 HIB HOLD HONE HBCH
        refine wp_gen (RX w key nonce D B CB (Z.take i) u9) HR6.out.row ?_
        clear HR6 HR
        intro w8 hw8
        have H8 := Lib.hid hw8; clear hw8
        have hcb := HSRC.out w8 H8.out.two.below
        have hcp := H8.out.part.cell (i % 64) (by rw [HCL.out]; exact h64l)
        generalize CB.getD (i % 64) 0#8 = y at hcp HTK
        have hbl : b < w8.heap.size := by have := H8.out.le; have := HbB.out; omega
        have hDl : D < w8.heap.size := H8.out.part.size
        refine region_phase (fun w1 => w1.cell? ⟨b, off + i, none⟩ = some (.int .u8 (n8 x)) ∧ w1.cell? ⟨D, i % 64, none⟩ = some (.int .u8 (n8 y))) (fun _ => True) 10 ⟨hcb, hcp⟩ trivial [(0, .free), (1, .free), (2, .free), (3, .free), (4, .free), (5, .free), (6, .free), (7, .free), (8, .free), (9, .free), (10, .behind), (11, .behind), (12, .free)] (by kernel_rfl) (by kernel_rfl) (by kernel_rfl) (by kernel_rfl) (fun ops hops A hA => ?_)
        have hsz : A.tmps.size = 42 := by rw [hA]; rfl
        have base3 : A.eval (.tmp 3) = .slice (some ⟨b, off, none⟩) n cap := by rw [hA]; rfl
        have base9 : A.eval (.tmp 9) = u9 := by rw [hA]; rfl
        have base10 : A.eval (.tmp 10) = .pointer (some ⟨D, 0, none⟩) := by rw [hA]; rfl
        have base11 : A.eval (.tmp 11) = .int .i64 (i : Int) := by rw [hA]; rfl
        have HAA := Lib.hid hA; clear hA
        obtain ⟨o0, po0, q0, d0, gd0⟩ : ∃ o, ops[0]? = some o ∧ o.op = .move (.tmp 9) ∧ o.dst = some 29 ∧ o.guard = none := ⟨_, by rw [hops]; rfl, rfl, rfl, rfl⟩
        obtain ⟨o1, po1, q1, d1, gd1⟩ : ∃ o, ops[1]? = some o ∧ o.op = .move (.tmp 3) ∧ o.dst = some 30 ∧ o.guard = none := ⟨_, by rw [hops]; rfl, rfl, rfl, rfl⟩
        obtain ⟨o2, po2, q2, d2, gd2⟩ : ∃ o, ops[2]? = some o ∧ o.op = .move (.tmp 11) ∧ o.dst = some 31 ∧ o.guard = none := ⟨_, by rw [hops]; rfl, rfl, rfl, rfl⟩
        obtain ⟨o3, po3, q3, d3, gd3⟩ : ∃ o, ops[3]? = some o ∧ o.op = .indexAddr 26 (.tmp 30) (.tmp 31) ∧ o.dst = some 32 ∧ o.guard = none := ⟨_, by rw [hops]; rfl, rfl, rfl, rfl⟩
        obtain ⟨o4, po4, q4, d4, gd4⟩ : ∃ o, ops[4]? = some o ∧ o.op = .load 5 (.tmp 32) ∧ o.dst = some 33 ∧ o.guard = none := ⟨_, by rw [hops]; rfl, rfl, rfl, rfl⟩
        obtain ⟨o5, po5, q5, d5, gd5⟩ : ∃ o, ops[5]? = some o ∧ o.op = .move (.tmp 11) ∧ o.dst = some 34 ∧ o.guard = none := ⟨_, by rw [hops]; rfl, rfl, rfl, rfl⟩
        obtain ⟨o6, po6, q6, d6, gd6⟩ : ∃ o, ops[6]? = some o ∧ o.op = .binOp .rem 3 (.tmp 34) (.const (.int .i64 64)) 3 ∧ o.dst = some 35 ∧ o.guard = none := ⟨_, by rw [hops]; rfl, rfl, rfl, rfl⟩
        obtain ⟨o7, po7, q7, d7, gd7⟩ : ∃ o, ops[7]? = some o ∧ o.op = .indexAddr 42 (.tmp 10) (.tmp 35) ∧ o.dst = some 36 ∧ o.guard = none := ⟨_, by rw [hops]; rfl, rfl, rfl, rfl⟩
        obtain ⟨o8, po8, q8, d8, gd8⟩ : ∃ o, ops[8]? = some o ∧ o.op = .load 5 (.tmp 36) ∧ o.dst = some 37 ∧ o.guard = none := ⟨_, by rw [hops]; rfl, rfl, rfl, rfl⟩
        obtain ⟨o9, po9, q9, d9, gd9⟩ : ∃ o, ops[9]? = some o ∧ o.op = .binOp .xor 5 (.tmp 33) (.tmp 37) 5 ∧ o.dst = some 38 ∧ o.guard = none := ⟨_, by rw [hops]; rfl, rfl, rfl, rfl⟩
        obtain ⟨o10, po10, q10, d10, gd10⟩ : ∃ o, ops[10]? = some o ∧ o.op = .buildSlice 26 1 #[(0, (.tmp 38))] ∧ o.dst = some 39 ∧ o.guard = none := ⟨_, by rw [hops]; rfl, rfl, rfl, rfl⟩
        obtain ⟨o11, po11, q11, d11, gd11⟩ : ∃ o, ops[11]? = some o ∧ o.op = .call { callee := .builtin .append, args := #[.tmp 29, .tmp 39], argTypes := #[26, 26] } ∧ o.dst = some 40 ∧ o.guard = none := ⟨_, by rw [hops]; rfl, rfl, rfl, rfl⟩
        obtain ⟨o12, po12, q12, d12, gd12⟩ : ∃ o, ops[12]? = some o ∧ o.op = .assign (.tmp 40) ∧ o.dst = some 9 ∧ o.guard = none := ⟨_, by rw [hops]; rfl, rfl, rfl, rfl⟩
        clear hops
        refine met_free po0 d0 (wanted_of gd0) (fun w' _ => run_move q0 base9 w') ?_
        refine met_free po1 d1 (wanted_of gd1) (fun w' _ => run_move q1 ((eval_other _ 29 3 _ (by decide)).trans base3) w') ?_
        refine met_free po2 d2 (wanted_of gd2) (fun w' _ => run_move q2 ((eval_other _ 30 11 _ (by decide)).trans ((eval_other _ 29 11 _ (by decide)).trans base11)) w') ?_
        refine met_free po3 d3 (wanted_of gd3) (fun w' _ => run_ixSlice q3 ((eval_other _ 31 30 _ (by decide)).trans (eval_same _ _ _ (by simp only [put_size, hsz]; decide))) (eval_same _ _ _ (by simp only [put_size, hsz]; decide)) hlt w') ?_
        refine met_free po4 d4 (wanted_of gd4) (fun w' h' => run_load8 q4 (eval_same _ _ _ (by simp only [put_size, hsz]; decide)) h'.1) ?_
        refine met_free po5 d5 (wanted_of gd5) (fun w' _ => run_move q5 ((eval_other _ 33 11 _ (by decide)).trans ((eval_other _ 32 11 _ (by decide)).trans ((eval_other _ 31 11 _ (by decide)).trans ((eval_other _ 30 11 _ (by decide)).trans ((eval_other _ 29 11 _ (by decide)).trans base11))))) w') ?_
        refine met_free po6 d6 (wanted_of gd6) (fun w' _ => run_rem64 q6 (fun _ => rfl) (eval_same _ _ _ (by simp only [put_size, hsz]; decide)) (by omega) w') ?_
        refine met_free po7 d7 (wanted_of gd7) (fun w' _ => run_ix64 q7 ((eval_other _ 35 10 _ (by decide)).trans ((eval_other _ 34 10 _ (by decide)).trans ((eval_other _ 33 10 _ (by decide)).trans ((eval_other _ 32 10 _ (by decide)).trans ((eval_other _ 31 10 _ (by decide)).trans ((eval_other _ 30 10 _ (by decide)).trans ((eval_other _ 29 10 _ (by decide)).trans base10))))))) (eval_same _ _ _ (by simp only [put_size, hsz]; decide)) h64l w') ?_
        refine met_free po8 d8 (wanted_of gd8) (fun w' h' => run_load8 q8 (eval_same _ _ _ (by simp only [put_size, hsz]; decide)) h'.2) ?_
        refine met_free po9 d9 (wanted_of gd9) (fun w' _ => run_xor8 q9 ((eval_other _ 37 33 _ (by decide)).trans ((eval_other _ 36 33 _ (by decide)).trans ((eval_other _ 35 33 _ (by decide)).trans ((eval_other _ 34 33 _ (by decide)).trans (eval_same _ _ _ (by simp only [put_size, hsz]; decide)))))) (eval_same _ _ _ (by simp only [put_size, hsz]; decide)) w') ?_
        refine met_op po10 d10 (wanted_of gd10) (run_build1 q10 (eval_same _ _ _ (by simp only [put_size, hsz]; decide)) _) ⟨((((Below.refl _ _).alloc (Nat.le_refl _) _).cell (p := ⟨b, off + i, none⟩) hbl).trans hcb), ((((Below.refl _ _).alloc (Nat.le_refl _) _).cell (p := ⟨D, i % 64, none⟩) hDl).trans hcp)⟩ ?_
        refine met_wp po11 (wanted_of gd11) (wp_append_bytes (.tmp 29) (.tmp 39) q11 B u9 (Z.take i) [x ^^^ y] w8.heap.size 0 1 ((eval_other _ 39 29 _ (by decide)).trans ((eval_other _ 38 29 _ (by decide)).trans ((eval_other _ 37 29 _ (by decide)).trans ((eval_other _ 36 29 _ (by decide)).trans ((eval_other _ 35 29 _ (by decide)).trans ((eval_other _ 34 29 _ (by decide)).trans ((eval_other _ 33 29 _ (by decide)).trans ((eval_other _ 32 29 _ (by decide)).trans ((eval_other _ 31 29 _ (by decide)).trans ((eval_other _ 30 29 _ (by decide)).trans (eval_same _ _ _ (by rw [hsz]; decide)))))))))))) (H8.out.own.below (((Below.refl _ _).drew).alloc (Nat.le_refl _) _)) (eval_same _ _ _ (by simp only [put_size, hsz]; decide)) (range_bytesV (t := 5) (fr := (0, 0)) (l := [x ^^^ y]) (heap_new_at rfl)) (by simp) HLEN.out (by rw [size_alloc]; show B ≤ w8.heap.size + 1; have := H8.out.le; omega) (fun v' w' ho' hb' => ?_))
        rw [d11]
        have HO' := Lib.hid ho'; have HB' := Lib.hid hb'; clear ho' hb'
        refine ⟨⟨(HB'.out.cell (p := ⟨b, off + i, none⟩) HbB.out).trans ((((Below.refl w8.drew.heap.size w8.drew).alloc (Nat.le_refl _) _).cell (p := ⟨b, off + i, none⟩) hbl).trans hcb), (HB'.out.cell (p := ⟨D, i % 64, none⟩) HDB.out).trans ((((Below.refl w8.drew.heap.size w8.drew).alloc (Nat.le_refl _) _).cell (p := ⟨D, i % 64, none⟩) hDl).trans hcp)⟩, ?_⟩
        refine met_free po12 d12 (wanted_of gd12) (fun w' _ => run_assign q12 (eval_same _ _ _ (by simp only [put_size, hsz]; decide)) w') ?_
        show NoPanic _ .normal _ _
        refine NoPanic.normal ?_
        rw [HAA.out]
        go_frame
        rw [← HTK.out] at HO'
        go_wp2_with fail
        go_roundw
        case rel => exact ⟨i + 1, CB, by omega, by go_num, HCL.out, HPN.out, H8.out.next HO'.out ((((Below.refl B w8).drew).alloc (by show B ≤ w8.heap.size; exact H8.out.le) _).trans HB'.out)⟩
        case measure => simp [intOf]; omega
      · have e64 : (((i % 64 : Nat) : Int) == 0) = false := by simp; omega
        clear HBC
        go_upto_region 8 with (fail)
        clear e64
        have hPC : P = CB := HPB.out h64
        refine wp_gen (RX w key nonce D B CB (Z.take i) u9) (by rw [← hPC]; exact HR.out) ?_
        clear HR hPC
        intro w8 hw8
        have H8 := Lib.hid hw8; clear hw8
        have hcb := HSRC.out w8 H8.out.two.below
        have hcp := H8.out.part.cell (i % 64) (by rw [HCL.out]; exact h64l)
        generalize CB.getD (i % 64) 0#8 = y at hcp HTK
        have hbl : b < w8.heap.size := by have := H8.out.le; have := HbB.out; omega
        have hDl : D < w8.heap.size := H8.out.part.size
        refine region_phase (fun w1 => w1.cell? ⟨b, off + i, none⟩ = some (.int .u8 (n8 x)) ∧ w1.cell? ⟨D, i % 64, none⟩ = some (.int .u8 (n8 y))) (fun _ => True) 10 ⟨hcb, hcp⟩ trivial [(0, .free), (1, .free), (2, .free), (3, .free), (4, .free), (5, .free), (6, .free), (7, .free), (8, .free), (9, .free), (10, .behind), (11, .behind), (12, .free)] (by kernel_rfl) (by kernel_rfl) (by kernel_rfl) (by kernel_rfl) (fun ops hops A hA => ?_)
        have hsz : A.tmps.size = 42 := by rw [hA]; rfl
        have base3 : A.eval (.tmp 3) = .slice (some ⟨b, off, none⟩) n cap := by rw [hA]; rfl
        have base9 : A.eval (.tmp 9) = u9 := by rw [hA]; rfl
        have base10 : A.eval (.tmp 10) = .pointer (some ⟨D, 0, none⟩) := by rw [hA]; rfl
        have base11 : A.eval (.tmp 11) = .int .i64 (i : Int) := by rw [hA]; rfl
        have HAA := Lib.hid hA; clear hA
        obtain ⟨o0, po0, q0, d0, gd0⟩ : ∃ o, ops[0]? = some o ∧ o.op = .move (.tmp 9) ∧ o.dst = some 29 ∧ o.guard = none := ⟨_, by rw [hops]; rfl, rfl, rfl, rfl⟩
        obtain ⟨o1, po1, q1, d1, gd1⟩ : ∃ o, ops[1]? = some o ∧ o.op = .move (.tmp 3) ∧ o.dst = some 30 ∧ o.guard = none := ⟨_, by rw [hops]; rfl, rfl, rfl, rfl⟩
        obtain ⟨o2, po2, q2, d2, gd2⟩ : ∃ o, ops[2]? = some o ∧ o.op = .move (.tmp 11) ∧ o.dst = some 31 ∧ o.guard = none := ⟨_, by rw [hops]; rfl, rfl, rfl, rfl⟩
        obtain ⟨o3, po3, q3, d3, gd3⟩ : ∃ o, ops[3]? = some o ∧ o.op = .indexAddr 26 (.tmp 30) (.tmp 31) ∧ o.dst = some 32 ∧ o.guard = none := ⟨_, by rw [hops]; rfl, rfl, rfl, rfl⟩
        obtain ⟨o4, po4, q4, d4, gd4⟩ : ∃ o, ops[4]? = some o ∧ o.op = .load 5 (.tmp 32) ∧ o.dst = some 33 ∧ o.guard = none := ⟨_, by rw [hops]; rfl, rfl, rfl, rfl⟩
        obtain ⟨o5, po5, q5, d5, gd5⟩ : ∃ o, ops[5]? = some o ∧ o.op = .move (.tmp 11) ∧ o.dst = some 34 ∧ o.guard = none := ⟨_, by rw [hops]; rfl, rfl, rfl, rfl⟩
        obtain ⟨o6, po6, q6, d6, gd6⟩ : ∃ o, ops[6]? = some o ∧ o.op = .binOp .rem 3 (.tmp 34) (.const (.int .i64 64)) 3 ∧ o.dst = some 35 ∧ o.guard = none := ⟨_, by rw [hops]; rfl, rfl, rfl, rfl⟩
        obtain ⟨o7, po7, q7, d7, gd7⟩ : ∃ o, ops[7]? = some o ∧ o.op = .indexAddr 42 (.tmp 10) (.tmp 35) ∧ o.dst = some 36 ∧ o.guard = none := ⟨_, by rw [hops]; rfl, rfl, rfl, rfl⟩
        obtain ⟨o8, po8, q8, d8, gd8⟩ : ∃ o, ops[8]? = some o ∧ o.op = .load 5 (.tmp 36) ∧ o.dst = some 37 ∧ o.guard = none := ⟨_, by rw [hops]; rfl, rfl, rfl, rfl⟩
        obtain ⟨o9, po9, q9, d9, gd9⟩ : ∃ o, ops[9]? = some o ∧ o.op = .binOp .xor 5 (.tmp 33) (.tmp 37) 5 ∧ o.dst = some 38 ∧ o.guard = none := ⟨_, by rw [hops]; rfl, rfl, rfl, rfl⟩
        obtain ⟨o10, po10, q10, d10, gd10⟩ : ∃ o, ops[10]? = some o ∧ o.op = .buildSlice 26 1 #[(0, (.tmp 38))] ∧ o.dst = some 39 ∧ o.guard = none := ⟨_, by rw [hops]; rfl, rfl, rfl, rfl⟩
        obtain ⟨o11, po11, q11, d11, gd11⟩ : ∃ o, ops[11]? = some o ∧ o.op = .call { callee := .builtin .append, args := #[.tmp 29, .tmp 39], argTypes := #[26, 26] } ∧ o.dst = some 40 ∧ o.guard = none := ⟨_, by rw [hops]; rfl, rfl, rfl, rfl⟩
        obtain ⟨o12, po12, q12, d12, gd12⟩ : ∃ o, ops[12]? = some o ∧ o.op = .assign (.tmp 40) ∧ o.dst = some 9 ∧ o.guard = none := ⟨_, by rw [hops]; rfl, rfl, rfl, rfl⟩
        clear hops
        refine met_free po0 d0 (wanted_of gd0) (fun w' _ => run_move q0 base9 w') ?_
        refine met_free po1 d1 (wanted_of gd1) (fun w' _ => run_move q1 ((eval_other _ 29 3 _ (by decide)).trans base3) w') ?_
        refine met_free po2 d2 (wanted_of gd2) (fun w' _ => run_move q2 ((eval_other _ 30 11 _ (by decide)).trans ((eval_other _ 29 11 _ (by decide)).trans base11)) w') ?_
        refine met_free po3 d3 (wanted_of gd3) (fun w' _ => run_ixSlice q3 ((eval_other _ 31 30 _ (by decide)).trans (eval_same _ _ _ (by simp only [put_size, hsz]; decide))) (eval_same _ _ _ (by simp only [put_size, hsz]; decide)) hlt w') ?_
        refine met_free po4 d4 (wanted_of gd4) (fun w' h' => run_load8 q4 (eval_same _ _ _ (by simp only [put_size, hsz]; decide)) h'.1) ?_
        refine met_free po5 d5 (wanted_of gd5) (fun w' _ => run_move q5 ((eval_other _ 33 11 _ (by decide)).trans ((eval_other _ 32 11 _ (by decide)).trans ((eval_other _ 31 11 _ (by decide)).trans ((eval_other _ 30 11 _ (by decide)).trans ((eval_other _ 29 11 _ (by decide)).trans base11))))) w') ?_
        refine met_free po6 d6 (wanted_of gd6) (fun w' _ => run_rem64 q6 (fun _ => rfl) (eval_same _ _ _ (by simp only [put_size, hsz]; decide)) (by omega) w') ?_
        refine met_free po7 d7 (wanted_of gd7) (fun w' _ => run_ix64 q7 ((eval_other _ 35 10 _ (by decide)).trans ((eval_other _ 34 10 _ (by decide)).trans ((eval_other _ 33 10 _ (by decide)).trans ((eval_other _ 32 10 _ (by decide)).trans ((eval_other _ 31 10 _ (by decide)).trans ((eval_other _ 30 10 _ (by decide)).trans ((eval_other _ 29 10 _ (by decide)).trans base10))))))) (eval_same _ _ _ (by simp only [put_size, hsz]; decide)) h64l w') ?_
        refine met_free po8 d8 (wanted_of gd8) (fun w' h' => run_load8 q8 (eval_same _ _ _ (by simp only [put_size, hsz]; decide)) h'.2) ?_
        refine met_free po9 d9 (wanted_of gd9) (fun w' _ => run_xor8 q9 ((eval_other _ 37 33 _ (by decide)).trans ((eval_other _ 36 33 _ (by decide)).trans ((eval_other _ 35 33 _ (by decide)).trans ((eval_other _ 34 33 _ (by decide)).trans (eval_same _ _ _ (by simp only [put_size, hsz]; decide)))))) (eval_same _ _ _ (by simp only [put_size, hsz]; decide)) w') ?_
        refine met_op po10 d10 (wanted_of gd10) (run_build1 q10 (eval_same _ _ _ (by simp only [put_size, hsz]; decide)) _) ⟨((((Below.refl _ _).alloc (Nat.le_refl _) _).cell (p := ⟨b, off + i, none⟩) hbl).trans hcb), ((((Below.refl _ _).alloc (Nat.le_refl _) _).cell (p := ⟨D, i % 64, none⟩) hDl).trans hcp)⟩ ?_
        refine met_wp po11 (wanted_of gd11) (wp_append_bytes (.tmp 29) (.tmp 39) q11 B u9 (Z.take i) [x ^^^ y] w8.heap.size 0 1 ((eval_other _ 39 29 _ (by decide)).trans ((eval_other _ 38 29 _ (by decide)).trans ((eval_other _ 37 29 _ (by decide)).trans ((eval_other _ 36 29 _ (by decide)).trans ((eval_other _ 35 29 _ (by decide)).trans ((eval_other _ 34 29 _ (by decide)).trans ((eval_other _ 33 29 _ (by decide)).trans ((eval_other _ 32 29 _ (by decide)).trans ((eval_other _ 31 29 _ (by decide)).trans ((eval_other _ 30 29 _ (by decide)).trans (eval_same _ _ _ (by rw [hsz]; decide)))))))))))) (H8.out.own.below (((Below.refl _ _).drew).alloc (Nat.le_refl _) _)) (eval_same _ _ _ (by simp only [put_size, hsz]; decide)) (range_bytesV (t := 5) (fr := (0, 0)) (l := [x ^^^ y]) (heap_new_at rfl)) (by simp) HLEN.out (by rw [size_alloc]; show B ≤ w8.heap.size + 1; have := H8.out.le; omega) (fun v' w' ho' hb' => ?_))
        rw [d11]
        have HO' := Lib.hid ho'; have HB' := Lib.hid hb'; clear ho' hb'
        refine ⟨⟨(HB'.out.cell (p := ⟨b, off + i, none⟩) HbB.out).trans ((((Below.refl w8.drew.heap.size w8.drew).alloc (Nat.le_refl _) _).cell (p := ⟨b, off + i, none⟩) hbl).trans hcb), (HB'.out.cell (p := ⟨D, i % 64, none⟩) HDB.out).trans ((((Below.refl w8.drew.heap.size w8.drew).alloc (Nat.le_refl _) _).cell (p := ⟨D, i % 64, none⟩) hDl).trans hcp)⟩, ?_⟩
        refine met_free po12 d12 (wanted_of gd12) (fun w' _ => run_assign q12 (eval_same _ _ _ (by simp only [put_size, hsz]; decide)) w') ?_
        show NoPanic _ .normal _ _
        refine NoPanic.normal ?_
        rw [HAA.out]
        go_frame
        rw [← HTK.out] at HO'
        go_wp2_with fail
        go_roundw
        case rel => exact ⟨i + 1, CB, by omega, by go_num, HCL.out, HPN.out, H8.out.next HO'.out ((((Below.refl B w8).drew).alloc (by show B ≤ w8.heap.size; exact H8.out.le) _).trans HB'.out)⟩
        case measure => simp [intOf]; omega
    · have q0 : ¬ (i : Int) < (n : Int) := by omega
      have HRZ : Hid (Own B wr Z u9) := show Own _ _ _ _ by
        have h1 := HR.out.own
        rw [List.take_of_length_le (by rw [HZL.out]; omega)] at h1; exact h1
      go_wp2_with fail
      go_ret
      exact ⟨_, rfl, HRZ.out.base' (B' := w.heap.size) (by have := HR.out.lo; have := HR.out.hi; omega), HR.out.two.below⟩
end Go.Proofs.YtgfmjfpafpmghaaDoor
