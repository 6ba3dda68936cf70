/-
  The walk of the law ChachaXors: for any key, counter, nonce and bytes it returns true, and nothing that was there changes.
-/
import Derived.Test.YtgfmjfpafpmghaaDoorCcRefXor
import Derived.Test.YtgfmjfpafpmghaaDoorCcOps
import Derived.Test.YtgfmjfpafpmghaaDoorCcWorks
namespace Go.Proofs.YtgfmjfpafpmghaaDoor
open Go.RowKit Go.Proofs.ShaWords
set_option maxHeartbeats 400000 in
/-- SpoilBytes writes over the slice's own block, and nowhere else. -/
theorem spoil_own (xs : List (BitVec 8)) (B n cap : Nat) (q : Option Addr) (w : World) (hx : xs.length = n) (h : n ≤ 100000) (ho : Own B w xs (.slice q n cap)) :
    Calls Tryd.prog 34 #[.slice q n cap] w fun e w' => e = .returned (.tuple #[]) ∧ w.grownBy w' (Value.slice q n cap).ownBlock := by
  have HX := Lib.hid hx; clear hx
  have HO := Lib.hid ho; clear ho
  go_enter Tryd.func34, Tryd.ntmps34
  go_wp2_with fail
  go_loopw [2] (fun i wr => ∃ (k : Nat) (ys : List (BitVec 8)), k ≤ n ∧ i = .int .i64 (k : Int) ∧ ys.length = n ∧ Own B wr ys (.slice q n cap) ∧ w.grownBy wr (Value.slice q n cap).ownBlock) (fun i _ => n - (intOf i).toNat)
  case atStart => exact ⟨0, xs, by omega, rfl, HX.out, HO.out, World.grownBy.refl _ _⟩
  case round =>
    obtain ⟨k, ys, hk, rfl, hy, ho, hb⟩ := hrel
    by_cases hlt : k < n
    · obtain ⟨g, cc, he, -, -, -, -, hcell, hfr⟩ := ho.form8 (by omega)
      injection he with h1 h2 h3
      subst h1
      have hc := hcell k (by omega)
      have hf := hfr k
      clear hcell hfr h2 h3
      generalize ys.getD k 0#8 = x at hc
      have HW := Lib.hid ho; clear ho
      have HB := Lib.hid hb; clear hb
      have k0 : (0 : Int) ≤ (k : Int) := by omega
      have k1 : (k : Int) < (n : Int) := by omega
      have hm := mark_any (k + 7) wr (by omega)
      rw [show ((k + 7 : Nat) : Int) = (k : Int) + 7 by omega] at hm
      have HM := Lib.hid hm; clear hm
      go_wp2_with fail
      refine HM.out.mono ?_
      rintro e w' ⟨rfl, rfl⟩
      go_wp2_with fail
      have HOS := Lib.hid (HW.out.put k (mark (k + 7)))
      have HBS : Hid (w.grownBy (wr.setCell ⟨g, k, none⟩ (.int .u8 (n8 (mark (k + 7))))) (some g)) := grown_trans HB.out (grown_setCell _ _ _ _)
      go_roundw
      case rel => exact ⟨k + 1, ys.set k (mark (k + 7)), by omega, by go_num, by simp [hy], HOS.out, HBS.out⟩
      case measure => simp [intOf]; omega
    · have HB := Lib.hid hb; clear hb
      have k1 : ¬ (k : Int) < (n : Int) := by omega
      go_wp2_with fail
      go_end0
      exact ⟨rfl, HB.out⟩
theorem refXor_len (key nonce bs : List (BitVec 8)) (n : Nat) (c : BitVec 32) (p : Option Addr) (cap : Nat) (w : World) (hbn : bs.length = n) (hl : n ≤ 1000000) (hk : key.length = 32) (hn : nonce.length = 12) (hL : Lies w p bs) :
    Calls Tryd.prog 42 #[.agg (bytesV key).toArray, .int .u32 (n32 c), .agg (bytesV nonce).toArray, .slice p n cap] w
      fun e w' => ∃ q cq, e = .returned (.slice q n cq) ∧ Own w.heap.size w' (xorKs key c nonce bs) (.slice q n cq) ∧ Below w.heap.size w w' := by
  refine (refXor_any key nonce bs n c p cap w hbn hl hk hn hL).mono ?_
  rintro e w' ⟨v, rfl, ho, hb⟩
  obtain ⟨q, cq, rfl, -, -, -⟩ := ho.lies
  rw [xorKs_length, hbn] at ho ⊢
  exact ⟨q, cq, rfl, ho, hb⟩
theorem Lies.on {w w' : World} {p : Option Addr} {l : List (BitVec 8)} (h : Lies w p l) (hb : Below w.heap.size w w') : Lies w' p l := h.below hb
/-- What the law has: its boxes, the lent bytes. -/
structure LW (w : World) (key nonce bs : List (BitVec 8)) (gx m5 cx : Nat) (wr : World) : Prop where
  two : TwoW w key nonce wr
  x : Own w.heap.size wr (bs ++ marks 5) (.slice (some ⟨gx, 0, none⟩) m5 cx)
theorem LW.src {w wr : World} {key nonce bs : List (BitVec 8)} {gx m5 cx : Nat} (h : LW w key nonce bs gx m5 cx wr) : Lies wr (some ⟨gx, 0, none⟩) bs := by
  have h1 := h.x.liesOf.take bs.length
  rwa [List.take_left] at h1
theorem LW.on {w wr w' : World} {key nonce bs : List (BitVec 8)} {gx m5 cx : Nat} (h : LW w key nonce bs gx m5 cx wr) (hb : Below wr.heap.size wr w') : LW w key nonce bs gx m5 cx w' := ⟨h.two.on hb, h.x.below hb⟩
theorem Own.block_of {B g n c : Nat} {w : World} {l : List (BitVec 8)} (h : Own B w l (.slice (some ⟨g, 0, none⟩) n c)) : B ≤ g ∧ g < w.heap.size := by
  rcases h.2 with ⟨h0, _⟩ | ⟨g', cap', cur, he, hg, hh, _⟩
  · cases h0
  · cases he
    exact ⟨hg, (Array.getElem?_eq_some_iff.1 hh).1⟩
/-- A slice of one's own past a change of another's block, made before it. -/
theorem Own.past {B B1 n c n1 c1 : Nat} {w w' : World} {l l1 : List (BitVec 8)} {q q1 : Option Addr} (h : Own B w l (.slice q n c)) (h1 : Own B1 w l1 (.slice q1 n1 c1)) (hne : ∀ g g1, q = some ⟨g, 0, none⟩ → q1 = some ⟨g1, 0, none⟩ → g ≠ g1)
    (hg : w.grownBy w' (Value.slice q1 n1 c1).ownBlock) : Own B w' l (.slice q n c) := by
  refine World.ownsRow.kept h hg ?_
  rcases h.2 with ⟨h0, _⟩ | ⟨g, _, _, he, _⟩
  · cases h0; exact Or.inl rfl
  · cases he
    refine Or.inr ?_
    rcases h1.2 with ⟨h0, _⟩ | ⟨g1, _, _, he, _⟩
    · cases h0; simp [Value.ownBlock]
    · cases he
      simp [Value.ownBlock]; exact hne g g1 rfl rfl
attribute [local irreducible] xorKs
set_option maxRecDepth 100000 in
set_option maxHeartbeats 1000000 in
theorem xors_out (key nonce : List (BitVec 8)) (n : Nat) (c : BitVec 32) (p : Option Addr) (cap : Nat) (w : World) (h : 8192 < n) (hnm : n ≤ 140737488351232) (hq : Quads w) :
    Calls Tryd.prog 25 #[.agg (bytesV key).toArray, .int .u32 (n32 c), .agg (bytesV nonce).toArray, .slice p n cap] w fun e w' => e = .returned (.bool true) ∧ Below w.heap.size w w' := by
  have hqs := hq.size
  have HQ := Lib.hid hq; clear hq
  go_enter Tryd.func25, Tryd.ntmps25
  go_upto_region 1 with (fail)
  refine wp_gen (TwoW w key nonce) (two_start w key nonce) ?_
  intro w0 hw0
  have HW0 := Lib.hid hw0; clear hw0
  go_wp2_with fail
  refine (works3_any w0 (HQ.out.below HW0.out.below hqs)).mono ?_
  rintro e w1 ⟨rfl, hb1⟩
  have HB1 := Lib.hid (HW0.out.on hb1).below; clear hb1
  go_wp2_with fail
  go_ret
  exact ⟨rfl, HB1.out⟩
set_option maxRecDepth 100000 in
set_option maxHeartbeats 2000000 in
theorem xors_any (key nonce bs : List (BitVec 8)) (n : Nat) (c : BitVec 32) (p : Option Addr) (cap : Nat) (w : World) (hbn : bs.length = n) (_hcap : n ≤ cap) (hnm : n ≤ 140737488351232) (hk : key.length = 32) (hn : nonce.length = 12) (hL : Lies w p bs) (hq : Quads w) :
    Calls Tryd.prog 25 #[.agg (bytesV key).toArray, .int .u32 (n32 c), .agg (bytesV nonce).toArray, .slice p n cap] w fun e w' => e = .returned (.bool true) ∧ Below w.heap.size w w' := by
  by_cases hle : 8192 < n
  · exact xors_out key nonce n c p cap w hle hnm hq
  have hqs := hq.size
  have HQ := Lib.hid hq; clear hq
  have HKL := Lib.hid hk; clear hk
  have HNL := Lib.hid hn; clear hn
  have HL := Lib.hid hL; clear hL
  have HBN := Lib.hid hbn; clear hbn
  have HIK := Lib.hid (infoKey key HKL.out)
  have HIN := Lib.hid (infoNonce nonce HNL.out)
  go_enter Tryd.func25, Tryd.ntmps25
  go_upto_region 1 with (fail)
  refine wp_gen (TwoW w key nonce) (two_start w key nonce) ?_
  intro w0 hw0
  have HW0 := Lib.hid hw0; clear hw0
  have hg1 : decide ((8192 : Int) < (n : Int)) = false := by simp; omega
  go_wp2_with fail
  clear hg1
  have hbl : bs.length = n := HBN.out
  rw [← hbl]
  refine (lent_any bs p cap w0 (by omega) (HL.out.below HW0.out.below)).mono ?_
  rw [hbl]
  rintro e w1 ⟨v1, rfl, ho1, hb1⟩
  have hml : (bs ++ marks 5).length = n + 5 := by rw [List.length_append, marks_length, hbl]
  obtain ⟨gx, cx, rfl, hgx, hgxs, hcx, -, -, -⟩ := ho1.form8 (by omega)
  rw [hml] at hcx ho1 ⊢
  have HW1 : Hid (LW w key nonce bs gx (n + 5) cx w1) := show LW _ _ _ _ _ _ _ _ from ⟨HW0.out.on hb1, ho1.base' HW0.out.below.size⟩
  have hncx : n ≤ cx := by omega
  generalize hm5 : n + 5 = m5 at hml HW1 hcx
  have HML := Lib.hid hml
  clear hml hbl hb1 ho1 hgx HW0
  go_upto_region 4 with (fail)
  refine wp_gen (LW w key nonce bs gx m5 cx) HW1.out ?_
  intro w2 hw2
  have HW2 := Lib.hid hw2; clear hw2 HW1 hgxs
  refine region_phase (TwoW w key nonce) (fun _ => True) 7 (HW2.out.two.on ((Below.refl _ _).drew)) trivial [(0, .free), (1, .free), (2, .free), (3, .free), (4, .free), (5, .free), (6, .free), (7, .behind), (8, .free)] (by kernel_rfl) (by kernel_rfl) (by kernel_rfl) (by kernel_rfl) (fun ops hops A hA => ?_)
  have hsz : A.tmps.size = 57 := by rw [hA]; rfl
  have base1 : A.eval (.tmp 1) = .int .u32 (n32 c) := by rw [hA]; rfl
  have base3 : A.eval (.tmp 3) = .slice p n cap := by rw [hA]; rfl
  have base4 : A.eval (.tmp 4) = .pointer (some ⟨w.heap.size, 0, none⟩) := by rw [hA]; rfl
  have base6 : A.eval (.tmp 6) = .pointer (some ⟨w.heap.size + 1, 0, none⟩) := by rw [hA]; rfl
  have base9 : A.eval (.tmp 9) = .slice (some ⟨gx, 0, none⟩) m5 cx := by rw [hA]; rfl
  have HAA := Lib.hid hA; clear hA
  obtain ⟨o0, po0, q0, d0, gd0⟩ : ∃ o, ops[0]? = some o ∧ o.op = .load 44 (.tmp 4) ∧ o.dst = some 19 ∧ o.guard = none := ⟨_, by rw [hops]; rfl, rfl, rfl, rfl⟩
  obtain ⟨o1, po1, q1, d1, gd1⟩ : ∃ o, ops[1]? = some o ∧ o.op = .move (.tmp 1) ∧ o.dst = some 20 ∧ o.guard = none := ⟨_, by rw [hops]; rfl, rfl, rfl, rfl⟩
  obtain ⟨o2, po2, q2, d2, gd2⟩ : ∃ o, ops[2]? = some o ∧ o.op = .load 46 (.tmp 6) ∧ o.dst = some 21 ∧ o.guard = none := ⟨_, by rw [hops]; rfl, rfl, rfl, rfl⟩
  obtain ⟨o3, po3, q3, d3, gd3⟩ : ∃ o, ops[3]? = some o ∧ o.op = .move (.tmp 9) ∧ o.dst = some 22 ∧ o.guard = none := ⟨_, by rw [hops]; rfl, rfl, rfl, rfl⟩
  obtain ⟨o4, po4, q4, d4, gd4⟩ : ∃ o, ops[4]? = some o ∧ o.op = .move (.tmp 3) ∧ o.dst = some 23 ∧ o.guard = none := ⟨_, by rw [hops]; rfl, rfl, rfl, rfl⟩
  obtain ⟨o5, po5, q5, d5, gd5⟩ : ∃ o, ops[5]? = some o ∧ o.op = .call { callee := .builtin .len, args := #[.tmp 23], argTypes := #[26] } ∧ o.dst = some 24 ∧ o.guard = none := ⟨_, by rw [hops]; rfl, rfl, rfl, rfl⟩
  obtain ⟨o6, po6, q6, d6, gd6⟩ : ∃ o, ops[6]? = some o ∧ o.op = .slice 26 (.tmp 22) none (some (.tmp 24)) none ∧ o.dst = some 25 ∧ o.guard = none := ⟨_, by rw [hops]; rfl, rfl, rfl, rfl⟩
  obtain ⟨o7, po7, q7, d7, gd7⟩ : ∃ o, ops[7]? = some o ∧ o.op = .call { callee := .value (.func 19), args := #[.tmp 19, .tmp 20, .tmp 21, .tmp 25], argTypes := #[44, 25, 46, 26] } ∧ o.dst = some 26 ∧ o.guard = none := ⟨_, by rw [hops]; rfl, rfl, rfl, rfl⟩
  obtain ⟨o8, po8, q8, d8, gd8⟩ : ∃ o, ops[8]? = some o ∧ o.op = .assign (.tmp 26) ∧ o.dst = some 10 ∧ o.guard = none := ⟨_, by rw [hops]; rfl, rfl, rfl, rfl⟩
  clear hops
  refine met_free po0 d0 (wanted_of gd0) (fun w' h' => run_loadKey q0 base4 HKL.out h'.key) ?_
  refine met_free po1 d1 (wanted_of gd1) (fun w' _ => run_move q1 ((eval_other _ 19 1 _ (by decide)).trans base1) w') ?_
  refine met_free po2 d2 (wanted_of gd2) (fun w' h' => run_loadNonce q2 ((eval_other _ 20 6 _ (by decide)).trans ((eval_other _ 19 6 _ (by decide)).trans base6)) HNL.out h'.nonce) ?_
  refine met_free po3 d3 (wanted_of gd3) (fun w' _ => run_move q3 ((eval_other _ 21 9 _ (by decide)).trans ((eval_other _ 20 9 _ (by decide)).trans ((eval_other _ 19 9 _ (by decide)).trans base9))) w') ?_
  refine met_free po4 d4 (wanted_of gd4) (fun w' _ => run_move q4 ((eval_other _ 22 3 _ (by decide)).trans ((eval_other _ 21 3 _ (by decide)).trans ((eval_other _ 20 3 _ (by decide)).trans ((eval_other _ 19 3 _ (by decide)).trans base3)))) w') ?_
  refine met_free po5 d5 (wanted_of gd5) (fun w' _ => run_len26 q5 (eval_same _ _ _ (by simp only [put_size, hsz]; decide)) w') ?_
  refine met_free po6 d6 (wanted_of gd6) (fun w' _ => run_sliceTo q6 ((eval_other _ 24 22 _ (by decide)).trans ((eval_other _ 23 22 _ (by decide)).trans (eval_same _ _ _ (by simp only [put_size, hsz]; decide)))) (eval_same _ _ _ (by simp only [put_size, hsz]; decide)) hncx w') ?_
  refine met_enter po7 d7 (wanted_of gd7) (run_callf4 q7 rfl ((eval_other _ 25 19 _ (by decide)).trans ((eval_other _ 24 19 _ (by decide)).trans ((eval_other _ 23 19 _ (by decide)).trans ((eval_other _ 22 19 _ (by decide)).trans ((eval_other _ 21 19 _ (by decide)).trans ((eval_other _ 20 19 _ (by decide)).trans (eval_same _ _ _ (by rw [hsz]; decide)))))))) ((eval_other _ 25 20 _ (by decide)).trans ((eval_other _ 24 20 _ (by decide)).trans ((eval_other _ 23 20 _ (by decide)).trans ((eval_other _ 22 20 _ (by decide)).trans ((eval_other _ 21 20 _ (by decide)).trans (eval_same _ _ _ (by simp only [put_size, hsz]; decide))))))) ((eval_other _ 25 21 _ (by decide)).trans ((eval_other _ 24 21 _ (by decide)).trans ((eval_other _ 23 21 _ (by decide)).trans ((eval_other _ 22 21 _ (by decide)).trans (eval_same _ _ _ (by simp only [put_size, hsz]; decide)))))) (eval_same _ _ _ (by simp only [put_size, hsz]; decide)) Tryd.func19 (by kernel_rfl) _) (ccXor_len key nonce bs n c _ cx w2.drew HBN.out HKL.out HNL.out (by omega) (HW2.out.src.on ((Below.refl _ _).drew)) (HQ.out.below (HW2.out.two.on ((Below.refl _ _).drew)).below hqs)) ?_
  rintro e w3 ⟨qa, ca, rfl, hca, ho3, hb3⟩
  have HW3 := Lib.hid ((HW2.out.on ((Below.refl _ _).drew)).on hb3)
  have HD3 : Hid (∀ g, qa = some ⟨g, 0, none⟩ → gx < g ∧ g < w3.heap.size) := show _ from fun g h => by
    subst h
    have h1 := ho3.block_of
    have h2 := HW2.out.x.block_of.2
    exact ⟨Nat.lt_of_lt_of_le h2 h1.1, h1.2⟩
  have HA3 := Lib.hid (ho3.base' (B' := w.heap.size) HW2.out.two.below.size)
  refine ⟨_, rfl, HW3.out.two, ?_⟩
  clear hca hb3 ho3 HW2
  refine met_free po8 d8 (wanted_of gd8) (fun w' _ => run_assign q8 (eval_same _ _ _ (by simp only [put_size, hsz]; decide)) w') ?_
  show NoPanic _ .normal _ _
  refine NoPanic.normal ?_
  rw [HAA.out]
  go_frame
  clear HAA
  go_upto_region 5 with (fail)
  refine wp_gen (fun w4 => LW w key nonce bs gx m5 cx w4 ∧ Own w.heap.size w4 (xorKs key c nonce bs) (.slice qa n ca) ∧ ∀ g, qa = some ⟨g, 0, none⟩ → gx < g ∧ g < w4.heap.size) ⟨HW3.out, HA3.out, HD3.out⟩ ?_
  rintro w4 ⟨hw4, ha4, hd4⟩
  have HW4 := Lib.hid hw4; clear hw4 HW3
  have HA4 := Lib.hid ha4; clear ha4 HA3
  have HD4 := Lib.hid hd4; clear hd4 HD3
  refine region_phase (TwoW w key nonce) (fun _ => True) 7 (HW4.out.two.on ((Below.refl _ _).drew)) trivial [(0, .free), (1, .free), (2, .free), (3, .free), (4, .free), (5, .free), (6, .free), (7, .behind), (8, .free)] (by kernel_rfl) (by kernel_rfl) (by kernel_rfl) (by kernel_rfl) (fun ops hops A hA => ?_)
  have hsz : A.tmps.size = 57 := by rw [hA]; rfl
  have base1 : A.eval (.tmp 1) = .int .u32 (n32 c) := by rw [hA]; rfl
  have base3 : A.eval (.tmp 3) = .slice p n cap := by rw [hA]; rfl
  have base4 : A.eval (.tmp 4) = .pointer (some ⟨w.heap.size, 0, none⟩) := by rw [hA]; rfl
  have base6 : A.eval (.tmp 6) = .pointer (some ⟨w.heap.size + 1, 0, none⟩) := by rw [hA]; rfl
  have base9 : A.eval (.tmp 9) = .slice (some ⟨gx, 0, none⟩) m5 cx := by rw [hA]; rfl
  have HAA := Lib.hid hA; clear hA
  obtain ⟨o0, po0, q0, d0, gd0⟩ : ∃ o, ops[0]? = some o ∧ o.op = .load 44 (.tmp 4) ∧ o.dst = some 27 ∧ o.guard = none := ⟨_, by rw [hops]; rfl, rfl, rfl, rfl⟩
  obtain ⟨o1, po1, q1, d1, gd1⟩ : ∃ o, ops[1]? = some o ∧ o.op = .move (.tmp 1) ∧ o.dst = some 28 ∧ o.guard = none := ⟨_, by rw [hops]; rfl, rfl, rfl, rfl⟩
  obtain ⟨o2, po2, q2, d2, gd2⟩ : ∃ o, ops[2]? = some o ∧ o.op = .load 46 (.tmp 6) ∧ o.dst = some 29 ∧ o.guard = none := ⟨_, by rw [hops]; rfl, rfl, rfl, rfl⟩
  obtain ⟨o3, po3, q3, d3, gd3⟩ : ∃ o, ops[3]? = some o ∧ o.op = .move (.tmp 9) ∧ o.dst = some 30 ∧ o.guard = none := ⟨_, by rw [hops]; rfl, rfl, rfl, rfl⟩
  obtain ⟨o4, po4, q4, d4, gd4⟩ : ∃ o, ops[4]? = some o ∧ o.op = .move (.tmp 3) ∧ o.dst = some 31 ∧ o.guard = none := ⟨_, by rw [hops]; rfl, rfl, rfl, rfl⟩
  obtain ⟨o5, po5, q5, d5, gd5⟩ : ∃ o, ops[5]? = some o ∧ o.op = .call { callee := .builtin .len, args := #[.tmp 31], argTypes := #[26] } ∧ o.dst = some 32 ∧ o.guard = none := ⟨_, by rw [hops]; rfl, rfl, rfl, rfl⟩
  obtain ⟨o6, po6, q6, d6, gd6⟩ : ∃ o, ops[6]? = some o ∧ o.op = .slice 26 (.tmp 30) none (some (.tmp 32)) none ∧ o.dst = some 33 ∧ o.guard = none := ⟨_, by rw [hops]; rfl, rfl, rfl, rfl⟩
  obtain ⟨o7, po7, q7, d7, gd7⟩ : ∃ o, ops[7]? = some o ∧ o.op = .call { callee := .value (.func 19), args := #[.tmp 27, .tmp 28, .tmp 29, .tmp 33], argTypes := #[44, 25, 46, 26] } ∧ o.dst = some 34 ∧ o.guard = none := ⟨_, by rw [hops]; rfl, rfl, rfl, rfl⟩
  obtain ⟨o8, po8, q8, d8, gd8⟩ : ∃ o, ops[8]? = some o ∧ o.op = .assign (.tmp 34) ∧ o.dst = some 11 ∧ o.guard = none := ⟨_, by rw [hops]; rfl, rfl, rfl, rfl⟩
  clear hops
  refine met_free po0 d0 (wanted_of gd0) (fun w' h' => run_loadKey q0 base4 HKL.out h'.key) ?_
  refine met_free po1 d1 (wanted_of gd1) (fun w' _ => run_move q1 ((eval_other _ 27 1 _ (by decide)).trans base1) w') ?_
  refine met_free po2 d2 (wanted_of gd2) (fun w' h' => run_loadNonce q2 ((eval_other _ 28 6 _ (by decide)).trans ((eval_other _ 27 6 _ (by decide)).trans base6)) HNL.out h'.nonce) ?_
  refine met_free po3 d3 (wanted_of gd3) (fun w' _ => run_move q3 ((eval_other _ 29 9 _ (by decide)).trans ((eval_other _ 28 9 _ (by decide)).trans ((eval_other _ 27 9 _ (by decide)).trans base9))) w') ?_
  refine met_free po4 d4 (wanted_of gd4) (fun w' _ => run_move q4 ((eval_other _ 30 3 _ (by decide)).trans ((eval_other _ 29 3 _ (by decide)).trans ((eval_other _ 28 3 _ (by decide)).trans ((eval_other _ 27 3 _ (by decide)).trans base3)))) w') ?_
  refine met_free po5 d5 (wanted_of gd5) (fun w' _ => run_len26 q5 (eval_same _ _ _ (by simp only [put_size, hsz]; decide)) w') ?_
  refine met_free po6 d6 (wanted_of gd6) (fun w' _ => run_sliceTo q6 ((eval_other _ 32 30 _ (by decide)).trans ((eval_other _ 31 30 _ (by decide)).trans (eval_same _ _ _ (by simp only [put_size, hsz]; decide)))) (eval_same _ _ _ (by simp only [put_size, hsz]; decide)) hncx w') ?_
  refine met_enter po7 d7 (wanted_of gd7) (run_callf4 q7 rfl ((eval_other _ 33 27 _ (by decide)).trans ((eval_other _ 32 27 _ (by decide)).trans ((eval_other _ 31 27 _ (by decide)).trans ((eval_other _ 30 27 _ (by decide)).trans ((eval_other _ 29 27 _ (by decide)).trans ((eval_other _ 28 27 _ (by decide)).trans (eval_same _ _ _ (by rw [hsz]; decide)))))))) ((eval_other _ 33 28 _ (by decide)).trans ((eval_other _ 32 28 _ (by decide)).trans ((eval_other _ 31 28 _ (by decide)).trans ((eval_other _ 30 28 _ (by decide)).trans ((eval_other _ 29 28 _ (by decide)).trans (eval_same _ _ _ (by simp only [put_size, hsz]; decide))))))) ((eval_other _ 33 29 _ (by decide)).trans ((eval_other _ 32 29 _ (by decide)).trans ((eval_other _ 31 29 _ (by decide)).trans ((eval_other _ 30 29 _ (by decide)).trans (eval_same _ _ _ (by simp only [put_size, hsz]; decide)))))) (eval_same _ _ _ (by simp only [put_size, hsz]; decide)) Tryd.func19 (by kernel_rfl) _) (ccXor_len key nonce bs n c _ cx w4.drew HBN.out HKL.out HNL.out (by omega) (HW4.out.src.on ((Below.refl _ _).drew)) (HQ.out.below (HW4.out.two.on ((Below.refl _ _).drew)).below hqs)) ?_
  rintro e w5 ⟨qb, cb, rfl, hcb, ho5, hb5⟩
  have HW5 := Lib.hid ((HW4.out.on ((Below.refl _ _).drew)).on hb5)
  have HS5 : Hid (w4.heap.size ≤ w5.heap.size) := hb5.size
  have HE5 : Hid (∀ g g1, qb = some ⟨g, 0, none⟩ → qa = some ⟨g1, 0, none⟩ → g ≠ g1) := show _ from fun g g1 h1 h2 => by
    subst h1
    have h3 : w4.heap.size ≤ g := ho5.block_of.1
    have h4 := (HD4.out g1 h2).2
    omega
  have HA5 := Lib.hid ((HA4.out.below ((Below.refl _ _).drew)).below hb5)
  have HB5 := Lib.hid (ho5.base' (B' := w.heap.size) HW4.out.two.below.size)
  refine ⟨_, rfl, HW5.out.two, ?_⟩
  clear hcb hb5 ho5 HW4 HA4
  refine met_free po8 d8 (wanted_of gd8) (fun w' _ => run_assign q8 (eval_same _ _ _ (by simp only [put_size, hsz]; decide)) w') ?_
  show NoPanic _ .normal _ _
  refine NoPanic.normal ?_
  rw [HAA.out]
  go_frame
  clear HAA
  go_upto_region 6 with (fail)
  refine wp_gen (fun w6 => LW w key nonce bs gx m5 cx w6 ∧ Own w.heap.size w6 (xorKs key c nonce bs) (.slice qa n ca) ∧ Own w.heap.size w6 (xorKs key c nonce bs) (.slice qb n cb) ∧ (∀ g, qa = some ⟨g, 0, none⟩ → gx < g ∧ g < w6.heap.size) ∧ (∀ g g1, qb = some ⟨g, 0, none⟩ → qa = some ⟨g1, 0, none⟩ → g ≠ g1)) ⟨HW5.out, HA5.out, HB5.out, fun g hg => ⟨(HD4.out g hg).1, Nat.lt_of_lt_of_le (HD4.out g hg).2 HS5.out⟩, HE5.out⟩ ?_
  rintro w6 ⟨hw6, ha6, hb6, hd6, he6⟩
  have HW6 := Lib.hid hw6; clear hw6 HW5 HS5 HD4
  have HA6 := Lib.hid ha6; clear ha6 HA5
  have HB6 := Lib.hid hb6; clear hb6 HB5
  have HD6 := Lib.hid hd6; clear hd6
  have HE6 := Lib.hid he6; clear he6 HE5
  go_wp2_with (first
    | (refine wpList_load_g (by rfl) 44 (.tmp 4) rfl w.heap.size rfl 44 (bytesV key).toArray (0, 0) _ HW6.out.two.key Tryd.underlying44 rfl HIK.out ?_)
    | (refine wpList_load_g (by rfl) 46 (.tmp 6) rfl (w.heap.size + 1) rfl 46 (bytesV nonce).toArray (0, 0) _ HW6.out.two.nonce Tryd.underlying46 rfl HIN.out ?_))
  refine (refXor_len key nonce bs n c p cap w6 HBN.out (by omega) HKL.out HNL.out (HL.out.below HW6.out.two.below)).mono ?_
  rintro e w7 ⟨qc, cc, rfl, ho7, hb7⟩
  have HW7 := Lib.hid (HW6.out.on hb7)
  have HA7 := Lib.hid (HA6.out.below hb7)
  have HB7 := Lib.hid (HB6.out.below hb7)
  have HE7 : Hid (∀ g g1, qc = some ⟨g, 0, none⟩ → qa = some ⟨g1, 0, none⟩ → g ≠ g1) := show _ from fun g g1 h1 h2 => by
    subst h1
    have := ho7.block_of.1
    have := (HD6.out g1 h2).2
    omega
  have HC7 := Lib.hid (ho7.base' (B' := w.heap.size) HW6.out.two.below.size)
  have HXL : Hid ((xorKs key c nonce bs).length = n) := show _ = _ by rw [xorKs_length]; exact HBN.out
  clear ho7 hb7 HW6 HA6 HB6
  generalize xorKs key c nonce bs = xs at HA7 HB7 HC7 HXL
  go_wp2_with fail
  refine (same_any xs n _ _ _ _ w7 HXL.out (by omega) HA7.out.liesOf HC7.out.liesOf).mono ?_
  rintro e w8 ⟨rfl, hb8⟩
  have HW8 := Lib.hid (HW7.out.on hb8)
  have HA8 := Lib.hid (HA7.out.below hb8)
  have HB8 := Lib.hid (HB7.out.below hb8)
  have HC8 := Lib.hid (HC7.out.below hb8)
  clear hb8 HW7 HA7 HB7 HC7
  go_wp2_with fail
  refine (spoil_own xs w.heap.size n ca qa w8 HXL.out (by omega) HA8.out).mono ?_
  rintro e w9 ⟨rfl, hg9⟩
  have HB9 := Lib.hid (HB8.out.past HA8.out HE6.out hg9)
  have HC9 := Lib.hid (HC8.out.past HA8.out HE7.out hg9)
  have HX9 := Lib.hid (HW8.out.x.past HA8.out (fun g g1 h1 h2 => by cases h1; have := (HD6.out g1 h2).1; omega) hg9)
  have HL9 : Hid (Below w.heap.size w w9) := show Below _ _ _ from HW8.out.two.below.grown hg9 HW8.out.two.below.size (fun k hk => (World.ownsRow.lt HA8.out k hk).1)
  clear hg9 HW8 HA8 HB8 HC8 HD6
  go_wp2_with fail
  refine (same_any xs n _ _ _ _ w9 HXL.out (by omega) HB9.out.liesOf HC9.out.liesOf).mono ?_
  rintro e w10 ⟨rfl, hb10⟩
  have HX10 := Lib.hid (HX9.out.below hb10)
  have HL10 := Lib.hid (HL9.out.trans (hb10.mono HL9.out.size)); clear hb10 HX9 HL9 HB9 HC9
  go_wp2_with fail
  refine (kept_any bs n m5 _ _ _ _ w10 HBN.out (by omega) (by omega) (by omega) (by omega) HX10.out.liesOf (HL.out.below HL10.out)).mono ?_
  rintro e w11 ⟨rfl, hb11⟩
  have HL11 := Lib.hid (HL10.out.trans (hb11.mono HL10.out.size)); clear hb11 HL10
  go_wp2_with fail
  refine (works3_any w11 (HQ.out.below HL11.out hqs)).mono ?_
  rintro e w12 ⟨rfl, hb12⟩
  have HL12 := Lib.hid (HL11.out.trans (hb12.mono HL11.out.size)); clear hb12 HL11
  go_wp2_with fail
  go_ret
  exact ⟨rfl, HL12.out⟩
end Go.Proofs.YtgfmjfpafpmghaaDoor
