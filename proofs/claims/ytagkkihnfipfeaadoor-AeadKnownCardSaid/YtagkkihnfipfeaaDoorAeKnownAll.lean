/-
  AeadKnown: the law returns true; the package's table starts as the program's own text lays it (the tie is given).
-/
import Derived.Test.YtagkkihnfipfeaaDoorPkA
import Derived.Test.YtagkkihnfipfeaaDoorPkE
import Derived.Test.YtagkkihnfipfeaaDoorPkS
import Derived.Test.YtagkkihnfipfeaaDoorPkU
import Derived.Test.YtagkkihnfipfeaaDoorTie
import Derived.Test.YtagkkihnfipfeaaDoorCards
import Derived.SevenTiedAt
/-
  Three slices of bytes in a block, and what else the law AeadOpens has in memory.
-/
namespace Go.Proofs.YtagkkihnfipfeaaDoor
open Go.RowKit Go.Proofs.ShaWords
theorem r_ixRows {ρ : Operand → Value} {o : Oper} {x y : Operand} {b n c k : Nat} (ho : o.op = .indexAddr 39 x y) (hx : ρ x = .slice (some ⟨b, 0, none⟩) n c) (hy : ρ y = .int .i64 (k : Int)) (hk : k < n) (w : World) :
    (execOp ρ o).run Tryd.prog w = .ok (.value (.pointer (some ⟨b, k, none⟩))) w := by
  obtain ⟨dst, op, ty', pos, after, guard⟩ := o
  simp only at ho
  subst ho
  have q : (k : Int) < (n : Int) := by omega
  go_simp
theorem own_high {B : Nat} {w : World} {l : List (BitVec 8)} {p : Option Addr} {n c g : Nat} (h : Own B w l (.slice p n c)) (hg : g < B) : Reads w g p l := by
  rcases h.2 with ⟨h0, h1⟩ | ⟨g', cap', cur, he, hg', hh, _⟩
  · exact Or.inl (List.length_eq_zero_iff.1 h1)
  · have hl := h.liesOf
    cases he
    exact lies_apart hl rfl (by omega)
theorem KnL.pastO {w wr w' : World} {key nonce : List (BitVec 8)} {L L' : List (Option Addr × List (BitVec 8))} {r : Option Nat} (h : KnL w key nonce L wr) (hg : wr.grownBy w' r) (hr : ∀ g, r = some g → w.heap.size + 1 < g ∧ ∀ x ∈ L', Reads wr g x.1 x.2) (hl : ∀ x ∈ L', Lies wr x.1 x.2) : KnL w key nonce L' w' := by
  cases r with
  | some g => exact h.past hg (hr g rfl).1 (hr g rfl).2
  | none =>
    have hg' : wr.grownBy w' (some wr.heap.size) := ⟨hg.os, hg.tape, hg.output, hg.size, fun k hk _ => hg.block k hk (by simp)⟩
    exact h.past hg' h.nonce.size (fun x hx => lies_low (hl x hx) (Below.refl _ _) (Nat.le_refl _))
/-- And a block of three slices. -/
structure KnO (w : World) (key nonce : List (BitVec 8)) (R : Nat) (C : Array Value) (L : List (Option Addr × List (BitVec 8))) (wr : World) : Prop where
  kn : KnL w key nonce L wr
  row : wr.heap[R]? = some (.cells C 26 (0, 0))
theorem KnO.lies {w wr : World} {key nonce : List (BitVec 8)} {R : Nat} {C : Array Value} {L : List (Option Addr × List (BitVec 8))} (h : KnO w key nonce R C L wr) : ∀ x ∈ L, Lies wr x.1 x.2 := h.kn.lies
theorem KnO.below {w wr : World} {key nonce : List (BitVec 8)} {R : Nat} {C : Array Value} {L : List (Option Addr × List (BitVec 8))} (h : KnO w key nonce R C L wr) : Below w.heap.size w wr := h.kn.below
theorem KnO.on {w wr w' : World} {key nonce : List (BitVec 8)} {R : Nat} {C : Array Value} {L : List (Option Addr × List (BitVec 8))} (h : KnO w key nonce R C L wr) (hb : Below wr.heap.size wr w') : KnO w key nonce R C L w' :=
  ⟨h.kn.on hb, (hb.block _ (Array.getElem?_eq_some_iff.1 h.row).1).trans h.row⟩
theorem KnO.add {w wr : World} {key nonce : List (BitVec 8)} {R : Nat} {C : Array Value} {L : List (Option Addr × List (BitVec 8))} (h : KnO w key nonce R C L wr) (x : Option Addr × List (BitVec 8)) (hx : Lies wr x.1 x.2) : KnO w key nonce R C (x :: L) wr := ⟨h.kn.add x hx, h.row⟩
theorem KnO.drop {w wr : World} {key nonce : List (BitVec 8)} {R : Nat} {C : Array Value} {x : Option Addr × List (BitVec 8)} {L : List (Option Addr × List (BitVec 8))} (h : KnO w key nonce R C (x :: L) wr) : KnO w key nonce R C L wr := ⟨h.kn.drop, h.row⟩
theorem KnO.cell {w wr : World} {key nonce : List (BitVec 8)} {R : Nat} {C : Array Value} {L : List (Option Addr × List (BitVec 8))} (h : KnO w key nonce R C L wr) {k : Nat} {v : Value} (hv : C[k]? = some v) : wr.cell? ⟨R, k, none⟩ = some v := by
  rw [cell_of_row wr R k C 26 (0, 0) h.row]; exact hv
theorem KnO.pastO {w wr w' : World} {key nonce : List (BitVec 8)} {R : Nat} {C : Array Value} {L L' : List (Option Addr × List (BitVec 8))} {r : Option Nat} (h : KnO w key nonce R C L wr) (hg : wr.grownBy w' r) (hr : ∀ g, r = some g → w.heap.size + 1 < g ∧ R ≠ g ∧ ∀ x ∈ L', Reads wr g x.1 x.2) (hl : ∀ x ∈ L', Lies wr x.1 x.2) : KnO w key nonce R C L' w' :=
  ⟨h.kn.pastO hg (fun g e => ⟨(hr g e).1, (hr g e).2.2⟩) hl, (hg.block _ (Array.getElem?_eq_some_iff.1 h.row).1 (fun e => (hr R e.symm).2.1 rfl)).trans h.row⟩
end Go.Proofs.YtagkkihnfipfeaaDoor

/-
  The walk of the law AeadOpens: for any key, nonce, head, bytes, place and bits it returns true, and nothing that was there changes.
-/
namespace Go.Proofs.YtagkkihnfipfeaaDoor
open Go.RowKit Go.Proofs.ShaWords

attribute [local irreducible] sealOf openOf openIs xorKs
set_option maxRecDepth 100000 in
set_option maxHeartbeats 8000000 in
theorem aeOpens_any (key nonce head b : List (BitVec 8)) (z : Int) (c5 : BitVec 8) (n m : Nat) (p q : Option Addr) (cp cq : Nat) (w : World) (hk : key.length = 32) (hn : nonce.length = 12) (hhl : head.length = n) (hml : b.length = m) (_ : n ≤ cp) (hmq : m ≤ cq) (hp : Lies w p head) (hb : Lies w q b) (hq : Quads w) :
    Calls Tryd.prog 4 #[.agg (bytesV key).toArray, .agg (bytesV nonce).toArray, .slice p n cp, .slice q m cq, .int .i64 z, .int .u8 (n8 c5)] w fun e w' => e = .returned (.bool true) ∧ Below w.heap.size w w' := by
  have hqs := hq.size
  have HQ := Lib.hid hq; clear hq
  have HKL := Lib.hid hk; clear hk
  have HNL := Lib.hid hn; clear hn
  have HHL := Lib.hid hhl
  have HML := Lib.hid hml
  have HP := Lib.hid hp
  have HB := Lib.hid hb
  have HLI : Hid (∀ x ∈ [(p, head), (q, b)], Lies w x.1 x.2) := show ∀ x ∈ _, _ from by
    intro x hx
    simp only [List.mem_cons, List.not_mem_nil, or_false] at hx
    rcases hx with rfl | rfl
    · exact hp
    · exact hb
  clear hp hb
  have HIK := Lib.hid (infoKey key HKL.out)
  have HIN := Lib.hid (infoNonce nonce HNL.out)
  obtain ⟨mx, hmx⟩ : ∃ mx, mx = max n m := ⟨_, rfl⟩
  have HMX := Lib.hid hmx
  by_cases hbig : 4096 < mx
  · have p0 : (4096 : Int) < (mx : Int) := by omega
    clear hmx hhl hml
    go_enter Tryd.func4, Tryd.ntmps4
    go_upto_region 1 with (fail)
    refine wp_gen (KnL w key nonce [(p, head), (q, b)]) (knl_start w key nonce _ HLI.out) ?_
    intro w0 hw0
    have HW0 := Lib.hid hw0; clear hw0
    go_wp2_with (refine wpList_max2 rfl (.tmp 26) (.tmp 28) rfl n m mx rfl rfl HMX.out ?_)
    refine (works5_any w0 (HQ.out.below HW0.out.below hqs)).mono ?_
    rintro e w1 ⟨rfl, hb1⟩
    have HW1 := Lib.hid (HW0.out.on hb1); clear hb1 HW0
    go_wp2_with fail
    go_ret
    exact ⟨rfl, HW1.out.below⟩
  · have p0 : ¬ (4096 : Int) < (mx : Int) := by omega
    have b1 : n ≤ 4096 := by omega
    have b3 : m ≤ 4096 := by omega
    have HMQ := Lib.hid hmq
    obtain ⟨s, hs⟩ : ∃ s, s = sealOf key nonce head b := ⟨_, rfl⟩
    have HS := Lib.hid hs
    obtain ⟨N, hN⟩ : ∃ N, N = m + 16 := ⟨_, rfl⟩
    have HN := Lib.hid hN
    have HSL : Hid (s.length = N) := show _ = _ by rw [hs, sealOf_length, hml, hN]
    have hN2 : N ≤ 5000 := by omega
    have hN1 : 1 ≤ N := by omega
    have HX5 : Hid ((head ++ marks 5).length = n + 5) := show _ = _ by rw [List.length_append, marks_length, hhl]
    have HXT : Hid ((head ++ marks 5).take n = head) := show _ = _ by rw [← hhl, List.take_left]
    clear hmx hhl hml hbig hs hN hmq
    go_enter Tryd.func4, Tryd.ntmps4
    go_upto_region 1 with (fail)
    refine wp_gen (KnL w key nonce [(p, head), (q, b)]) (knl_start w key nonce _ HLI.out) ?_
    intro w0 hw0
    have HW0 := Lib.hid hw0; clear hw0
    have sz0 : w.heap.size + 1 < w0.heap.size := HW0.out.nonce.size
    have HWA : Hid (∀ o, KnL w key nonce [(p, head), (q, b)] (w0.alloc o)) := show ∀ o, _ from fun o => HW0.out.on ((Below.refl _ _).alloc (Nat.le_refl _) _)
    go_wp2_with (first
      | (refine wpList_max2 rfl (.tmp 26) (.tmp 28) rfl n m mx rfl rfl HMX.out ?_)
      | (refine wpList_load_row rfl 23 (.tmp 6) rfl w.heap.size rfl 23 (bytesV key).toArray (0, 0) _ (HWA.out _).key Tryd.underlying23 rfl HIK.out ?_)
      | (refine wpList_load_row rfl 25 (.tmp 7) rfl (w.heap.size + 1) rfl 25 (bytesV nonce).toArray (0, 0) _ (HWA.out _).nonce Tryd.underlying25 rfl HIN.out ?_))
    refine calls_gen (fun w' => KnL w key nonce [(p, head), (q, b)] w' ∧ w0.heap.size < w'.heap.size) ⟨HWA.out _, by rw [size_alloc]; omega⟩ ?_
    rintro w1 ⟨hw1, sz1⟩
    have HW1 := Lib.hid hw1; clear hw1 HWA HW0
    refine (refSeal_any _ key nonce head b n m p q cp cq w1 HKL.out HNL.out HHL.out HML.out (by omega) (by omega) (HW1.out.lies (p, head) (by simp)) (HW1.out.lies (q, b) (by simp))).mono ?_
    rintro e w2 ⟨v2, rfl, ho2, hb2⟩
    rw [← HS.out] at ho2
    obtain ⟨gt, ct, hv2, hgt, hgt2, hct, hct2, hcell, hfr⟩ := ho2.form8 (by rw [HSL.out]; omega)
    rw [HSL.out] at hv2 hct
    subst hv2
    have sz2 : w1.heap.size ≤ w2.heap.size := hb2.size
    have HO2 := Lib.hid ho2; clear ho2
    have HW2 := Lib.hid (HW1.out.on hb2); clear hb2 HW1
    have HCE := Lib.hid hcell
    have HFR := Lib.hid hfr
    clear hcell hfr
    go_wp2_with fail
    refine (pick_any z (N : Int) w2 (by omega) (by omega)).mono ?_
    rintro e w3 ⟨r, hr, rfl, rfl⟩
    have hrN : r < N := by omega
    have e1 := HCE.out r (by rw [HSL.out]; exact hrN)
    have f1 := HFR.out r
    obtain ⟨y, hy⟩ : ∃ y, y = s.getD r 0#8 := ⟨_, rfl⟩
    rw [← hy] at e1
    have hx1 := xor8 y c5
    obtain ⟨tl, htl⟩ : ∃ tl, tl = s.set r (y ^^^ c5) := ⟨_, rfl⟩
    have HTL : Hid (tl.length = N) := show _ = _ by rw [htl, List.length_set]; exact HSL.out
    have HTT : Hid ((tl.take r).length = r) := show _ = _ by rw [List.length_take, HTL.out]; omega
    have HO6 : Hid (Own w1.heap.size (w2.setCell ⟨gt, r, none⟩ (.int .u8 (n8 (y ^^^ c5)))) tl (.slice (some ⟨gt, 0, none⟩) N ct)) := show Own _ _ _ _ by rw [htl]; exact HO2.out.put r _
    have HW6 : Hid (KnL w key nonce [(p, head), (q, b)] (w2.setCell ⟨gt, r, none⟩ (.int .u8 (n8 (y ^^^ c5))))) := show KnL _ _ _ _ _ by
      refine HW2.out.past (g := gt) (grown_setCell _ _ _ _) (by omega) (fun x hx => ?_)
      simp only [List.mem_cons, List.not_mem_nil, or_false] at hx
      rcases hx with rfl | rfl
      · exact lies_low HP.out HW2.out.below (by omega)
      · exact lies_low HB.out HW2.out.below (by omega)
    have r0 : 0 ≤ (r : Int) := by omega
    have r1 : (r : Int) < (N : Int) := hr
    have r2 : (r : Int) ≤ (ct : Int) := by omega
    clear hy htl hr HCE HFR HO2 HW2
    obtain ⟨C, hC⟩ : ∃ C : Array Value, C = #[.slice q m cq, .slice (some ⟨gt, 0, none⟩) N ct, .slice (some ⟨gt, 0, none⟩) r ct] := ⟨_, rfl⟩
    have HC := Lib.hid hC; clear hC
    go_upto_region 8 with (fail)
    refine wp_gen (KnO w key nonce w2.heap.size C [(some ⟨gt, 0, none⟩, tl.take r), (some ⟨gt, 0, none⟩, tl), (p, head), (q, b)]) ⟨((HW6.out.add (some ⟨gt, 0, none⟩, tl) HO6.out.liesOf).add (some ⟨gt, 0, none⟩, tl.take r) (lies_take HO6.out.liesOf r)).on ((Below.refl _ _).alloc (Nat.le_refl _) _), ?_⟩ ?_
    · rw [HC.out]; exact heap_new_at (by simp)
    intro w7 hw7
    have HW7 := Lib.hid hw7; clear hw7 HW6 HO6 e1 f1
    have sz7 : w2.heap.size < w7.heap.size := (Array.getElem?_eq_some_iff.1 HW7.out.row).1
    go_wp2_with fail
    generalize w2.heap.size = R at HW7 sz7 hgt2 sz2 ⊢
    go_loopw [16] (fun i wr => ∃ k : Nat, k ≤ 3 ∧ i = .int .i64 (k : Int) ∧ KnO w key nonce R C [(some ⟨gt, 0, none⟩, tl.take r), (some ⟨gt, 0, none⟩, tl), (p, head), (q, b)] wr) (fun i _ => 3 - (intOf i).toNat)
    case atStart => exact ⟨0, by omega, rfl, HW7.out⟩
    case round =>
      clear HW7
      obtain ⟨k, hk, rfl, hw⟩ := hrel
      have HW := Lib.hid hw; clear hw
      by_cases hlt : k < 3
      · obtain ⟨pr, nr, cr, lr, hv, hmem, hlr, hnr, hnc⟩ : ∃ pr nr cr lr, C[k]? = some (Value.slice pr nr cr) ∧ (pr, lr) ∈ [(some ⟨gt, 0, none⟩, tl.take r), (some ⟨gt, 0, none⟩, tl), (p, head), (q, b)] ∧ lr.length = nr ∧ nr ≤ 5000 ∧ nr ≤ cr := by
          have h3 : k = 0 ∨ k = 1 ∨ k = 2 := by omega
          rcases h3 with rfl | rfl | rfl
          · exact ⟨q, m, cq, b, by rw [HC.out]; rfl, by simp, HML.out, by omega, HMQ.out⟩
          · exact ⟨_, N, ct, tl, by rw [HC.out]; rfl, by simp, HTL.out, by omega, by omega⟩
          · exact ⟨_, r, ct, tl.take r, by rw [HC.out]; rfl, by simp, HTT.out, by omega, by omega⟩
        obtain ⟨lO, hlO⟩ : ∃ lO, lO = openOf key nonce head lr := ⟨_, rfl⟩
        obtain ⟨d, hd⟩ : ∃ d, d = openIs key nonce head lr := ⟨_, rfl⟩
        obtain ⟨nO, hnO⟩ : ∃ nO, nO = lO.length := ⟨_, rfl⟩
        have hnO2 : nO ≤ 5000 := by rw [hnO, hlO]; have := openOf_length_le key nonce head lr; omega
        have hdd : (d != d) = false := by cases d <;> rfl
        have HY5 : Hid ((lr ++ marks 5).length = nr + 5) := show _ = _ by rw [List.length_append, marks_length, hlr]
        have HYT : Hid ((lr ++ marks 5).take nr = lr) := show _ = _ by rw [← hlr, List.take_left]
        have HLO := Lib.hid hlO
        have HD := Lib.hid hd
        have HNO := Lib.hid hnO.symm
        have HLR := Lib.hid hlr
        have HMEM := Lib.hid hmem
        have HV := Lib.hid hv
        have HNC := Lib.hid hnc
        clear hlO hd hnO hlr hmem hv hnc
        have q0 : (k : Int) < 3 := by omega
        have szr : R < wr.heap.size := (Array.getElem?_eq_some_iff.1 HW.out.row).1
        go_wp2_with fail
        refine (lent_len head n p cp wr HHL.out (by omega) (HW.out.lies (p, head) (by simp))).mono ?_
        rintro e wa ⟨va, rfl, hoa, hba⟩
        obtain ⟨gx, cx, hvx, hgx, hgx2, hcx, hcx2, -, -⟩ := hoa.form8 (by rw [HX5.out]; omega)
        rw [HX5.out] at hvx hcx
        subst hvx
        have sza : wr.heap.size ≤ wa.heap.size := hba.size
        have HWa := Lib.hid ((HW.out.on hba).add (some ⟨gx, 0, none⟩, head ++ marks 5) hoa.liesOf); clear hoa hba HW
        have ea := HWa.out.cell HV.out
        go_wp2_with fail
        clear ea
        refine (lent_len lr nr pr cr wa HLR.out (by omega) (HWa.out.lies (pr, lr) (List.mem_cons_of_mem _ HMEM.out))).mono ?_
        rintro e wb ⟨vb, rfl, hob, hbb⟩
        obtain ⟨gy, cy, hvy, hgy, hgy2, hcy, hcy2, -, -⟩ := hob.form8 (by rw [HY5.out]; omega)
        rw [HY5.out] at hvy hcy
        subst hvy
        have szb : wa.heap.size ≤ wb.heap.size := hbb.size
        have HWb := Lib.hid ((HWa.out.on hbb).add (some ⟨gy, 0, none⟩, lr ++ marks 5) hob.liesOf); clear hob hbb HWa
        go_upto_region 13 with (fail)
        refine region_phase (KnO w key nonce R C [(some ⟨gy, 0, none⟩, lr ++ marks 5), (some ⟨gx, 0, none⟩, head ++ marks 5), (some ⟨gt, 0, none⟩, tl.take r), (some ⟨gt, 0, none⟩, tl), (p, head), (q, b)]) (fun _ => True) 0 (HWb.out.on ((Below.refl _ _).drew)) trivial [(1, .free), (2, .free), (3, .free), (4, .free), (5, .free), (6, .free), (7, .free), (8, .free), (9, .free), (10, .free), (11, .free), (12, .free), (13, .free), (0, .behind), (14, .behind), (15, .free), (16, .free), (17, .free), (18, .free), (19, .free)] (by kernel_rfl) (by kernel_rfl) (by kernel_rfl) (by kernel_rfl) (fun ops hops A hA => ?_)
        have hsz : A.tmps.size = 151 := by rw [hA]; rfl
        have base2 : A.eval (.tmp 2) = .slice p n cp := by rw [hA]; rfl
        have base6 : A.eval (.tmp 6) = .pointer (some ⟨w.heap.size, 0, none⟩) := by rw [hA]; rfl
        have base7 : A.eval (.tmp 7) = .pointer (some ⟨w.heap.size + 1, 0, none⟩) := by rw [hA]; rfl
        have base13 : A.eval (.tmp 13) = .pointer (some ⟨w0.heap.size, 0, none⟩) := by rw [hA]; rfl
        have base15 : A.eval (.tmp 15) = .slice (some ⟨R, 0, none⟩) 3 3 := by rw [hA]; rfl
        have base16 : A.eval (.tmp 16) = .int .i64 (k : Int) := by rw [hA]; rfl
        have base17 : A.eval (.tmp 17) = .slice (some ⟨gx, 0, none⟩) (n + 5) cx := by rw [hA]; rfl
        have base18 : A.eval (.tmp 18) = .slice (some ⟨gy, 0, none⟩) (nr + 5) cy := by rw [hA]; rfl
        have HAA := Lib.hid hA; clear hA
        obtain ⟨o0, po0, q0, d0, gd0⟩ : ∃ o, ops[0]? = some o ∧ o.op = .call { callee := .value (.func 11), args := #[], argTypes := #[] } ∧ o.dst = some 73 ∧ o.guard = none := ⟨_, by rw [hops]; rfl, rfl, rfl, rfl⟩
        obtain ⟨o1, po1, q1, d1, gd1⟩ : ∃ o, ops[1]? = some o ∧ o.op = .load 23 (.tmp 6) ∧ o.dst = some 74 ∧ o.guard = none := ⟨_, by rw [hops]; rfl, rfl, rfl, rfl⟩
        obtain ⟨o2, po2, q2, d2, gd2⟩ : ∃ o, ops[2]? = some o ∧ o.op = .load 25 (.tmp 7) ∧ o.dst = some 75 ∧ o.guard = none := ⟨_, by rw [hops]; rfl, rfl, rfl, rfl⟩
        obtain ⟨o3, po3, q3, d3, gd3⟩ : ∃ o, ops[3]? = some o ∧ o.op = .move (.tmp 17) ∧ o.dst = some 76 ∧ o.guard = none := ⟨_, by rw [hops]; rfl, rfl, rfl, rfl⟩
        obtain ⟨o4, po4, q4, d4, gd4⟩ : ∃ o, ops[4]? = some o ∧ o.op = .move (.tmp 2) ∧ o.dst = some 77 ∧ o.guard = none := ⟨_, by rw [hops]; rfl, rfl, rfl, rfl⟩
        obtain ⟨o5, po5, q5, d5, gd5⟩ : ∃ o, ops[5]? = some o ∧ o.op = .call { callee := .builtin .len, args := #[.tmp 77], argTypes := #[26] } ∧ o.dst = some 78 ∧ o.guard = none := ⟨_, by rw [hops]; rfl, rfl, rfl, rfl⟩
        obtain ⟨o6, po6, q6, d6, gd6⟩ : ∃ o, ops[6]? = some o ∧ o.op = .slice 26 (.tmp 76) none (some (.tmp 78)) none ∧ o.dst = some 79 ∧ o.guard = none := ⟨_, by rw [hops]; rfl, rfl, rfl, rfl⟩
        obtain ⟨o7, po7, q7, d7, gd7⟩ : ∃ o, ops[7]? = some o ∧ o.op = .move (.tmp 18) ∧ o.dst = some 80 ∧ o.guard = none := ⟨_, by rw [hops]; rfl, rfl, rfl, rfl⟩
        obtain ⟨o8, po8, q8, d8, gd8⟩ : ∃ o, ops[8]? = some o ∧ o.op = .move (.tmp 15) ∧ o.dst = some 81 ∧ o.guard = none := ⟨_, by rw [hops]; rfl, rfl, rfl, rfl⟩
        obtain ⟨o9, po9, q9, d9, gd9⟩ : ∃ o, ops[9]? = some o ∧ o.op = .move (.tmp 16) ∧ o.dst = some 82 ∧ o.guard = none := ⟨_, by rw [hops]; rfl, rfl, rfl, rfl⟩
        obtain ⟨o10, po10, q10, d10, gd10⟩ : ∃ o, ops[10]? = some o ∧ o.op = .indexAddr 39 (.tmp 81) (.tmp 82) ∧ o.dst = some 83 ∧ o.guard = none := ⟨_, by rw [hops]; rfl, rfl, rfl, rfl⟩
        obtain ⟨o11, po11, q11, d11, gd11⟩ : ∃ o, ops[11]? = some o ∧ o.op = .load 26 (.tmp 83) ∧ o.dst = some 84 ∧ o.guard = none := ⟨_, by rw [hops]; rfl, rfl, rfl, rfl⟩
        obtain ⟨o12, po12, q12, d12, gd12⟩ : ∃ o, ops[12]? = some o ∧ o.op = .call { callee := .builtin .len, args := #[.tmp 84], argTypes := #[26] } ∧ o.dst = some 85 ∧ o.guard = none := ⟨_, by rw [hops]; rfl, rfl, rfl, rfl⟩
        obtain ⟨o13, po13, q13, d13, gd13⟩ : ∃ o, ops[13]? = some o ∧ o.op = .slice 26 (.tmp 80) none (some (.tmp 85)) none ∧ o.dst = some 86 ∧ o.guard = none := ⟨_, by rw [hops]; rfl, rfl, rfl, rfl⟩
        obtain ⟨o14, po14, q14, d14, gd14⟩ : ∃ o, ops[14]? = some o ∧ o.op = .call { callee := .value (.func 18), args := #[.tmp 73, .tmp 74, .tmp 75, .tmp 79, .tmp 86], argTypes := #[29, 23, 25, 26, 26] } ∧ o.dst = some 87 ∧ o.guard = none := ⟨_, by rw [hops]; rfl, rfl, rfl, rfl⟩
        obtain ⟨o15, po15, q15, d15, gd15⟩ : ∃ o, ops[15]? = some o ∧ o.op = .move (.tmp 87) ∧ o.dst = some 72 ∧ o.guard = none := ⟨_, by rw [hops]; rfl, rfl, rfl, rfl⟩
        obtain ⟨o16, po16, q16, d16, gd16⟩ : ∃ o, ops[16]? = some o ∧ o.op = .extract (.tmp 72) 0 ∧ o.dst = some 88 ∧ o.guard = none := ⟨_, by rw [hops]; rfl, rfl, rfl, rfl⟩
        obtain ⟨o17, po17, q17, d17, gd17⟩ : ∃ o, ops[17]? = some o ∧ o.op = .extract (.tmp 72) 1 ∧ o.dst = some 89 ∧ o.guard = none := ⟨_, by rw [hops]; rfl, rfl, rfl, rfl⟩
        obtain ⟨o18, po18, q18, d18, gd18⟩ : ∃ o, ops[18]? = some o ∧ o.op = .assign (.tmp 88) ∧ o.dst = some 19 ∧ o.guard = none := ⟨_, by rw [hops]; rfl, rfl, rfl, rfl⟩
        obtain ⟨o19, po19, q19, d19, gd19⟩ : ∃ o, ops[19]? = some o ∧ o.op = .assign (.tmp 89) ∧ o.dst = some 20 ∧ o.guard = none := ⟨_, by rw [hops]; rfl, rfl, rfl, rfl⟩
        clear hops
        refine met_free po1 d1 (wanted_of gd1) (fun w' h' => run_loadKey q1 base6 HKL.out h'.kn.key) ?_
        refine met_free po2 d2 (wanted_of gd2) (fun w' h' => run_loadNonce q2 ((eval_other _ 74 7 _ (by decide)).trans base7) HNL.out h'.kn.nonce) ?_
        refine met_free po3 d3 (wanted_of gd3) (fun w' h' => run_move q3 ((eval_other _ 75 17 _ (by decide)).trans ((eval_other _ 74 17 _ (by decide)).trans base17)) w') ?_
        refine met_free po4 d4 (wanted_of gd4) (fun w' h' => run_move q4 ((eval_other _ 76 2 _ (by decide)).trans ((eval_other _ 75 2 _ (by decide)).trans ((eval_other _ 74 2 _ (by decide)).trans base2))) w') ?_
        refine met_free po5 d5 (wanted_of gd5) (fun w' h' => run_len26 q5 (eval_same _ _ _ (by simp only [put_size, hsz]; decide)) w') ?_
        refine met_free po6 d6 (wanted_of gd6) (fun w' h' => r_to q6 (by omega) ((eval_other _ 78 76 _ (by decide)).trans ((eval_other _ 77 76 _ (by decide)).trans (eval_same _ _ _ (by simp only [put_size, hsz]; decide)))) (eval_same _ _ _ (by simp only [put_size, hsz]; decide)) w') ?_
        refine met_free po7 d7 (wanted_of gd7) (fun w' h' => run_move q7 ((eval_other _ 79 18 _ (by decide)).trans ((eval_other _ 78 18 _ (by decide)).trans ((eval_other _ 77 18 _ (by decide)).trans ((eval_other _ 76 18 _ (by decide)).trans ((eval_other _ 75 18 _ (by decide)).trans ((eval_other _ 74 18 _ (by decide)).trans base18)))))) w') ?_
        refine met_free po8 d8 (wanted_of gd8) (fun w' h' => run_move q8 ((eval_other _ 80 15 _ (by decide)).trans ((eval_other _ 79 15 _ (by decide)).trans ((eval_other _ 78 15 _ (by decide)).trans ((eval_other _ 77 15 _ (by decide)).trans ((eval_other _ 76 15 _ (by decide)).trans ((eval_other _ 75 15 _ (by decide)).trans ((eval_other _ 74 15 _ (by decide)).trans base15))))))) w') ?_
        refine met_free po9 d9 (wanted_of gd9) (fun w' h' => run_move q9 ((eval_other _ 81 16 _ (by decide)).trans ((eval_other _ 80 16 _ (by decide)).trans ((eval_other _ 79 16 _ (by decide)).trans ((eval_other _ 78 16 _ (by decide)).trans ((eval_other _ 77 16 _ (by decide)).trans ((eval_other _ 76 16 _ (by decide)).trans ((eval_other _ 75 16 _ (by decide)).trans ((eval_other _ 74 16 _ (by decide)).trans base16)))))))) w') ?_
        refine met_free po10 d10 (wanted_of gd10) (fun w' h' => r_ixRows q10 ((eval_other _ 82 81 _ (by decide)).trans (eval_same _ _ _ (by simp only [put_size, hsz]; decide))) (eval_same _ _ _ (by simp only [put_size, hsz]; decide)) (by omega) w') ?_
        refine met_free po11 d11 (wanted_of gd11) (fun w' h' => run_loadSlice q11 (eval_same _ _ _ (by simp only [put_size, hsz]; decide)) (h'.cell HV.out)) ?_
        refine met_free po12 d12 (wanted_of gd12) (fun w' h' => run_len26 q12 (eval_same _ _ _ (by simp only [put_size, hsz]; decide)) w') ?_
        refine met_free po13 d13 (wanted_of gd13) (fun w' h' => r_to q13 (by omega) ((eval_other _ 85 80 _ (by decide)).trans ((eval_other _ 84 80 _ (by decide)).trans ((eval_other _ 83 80 _ (by decide)).trans ((eval_other _ 82 80 _ (by decide)).trans ((eval_other _ 81 80 _ (by decide)).trans (eval_same _ _ _ (by simp only [put_size, hsz]; decide))))))) (eval_same _ _ _ (by simp only [put_size, hsz]; decide)) w') ?_
        refine m_enter po0 d0 (wanted_of gd0) (run_callf0 q0 rfl Tryd.func11 (by kernel_rfl) _) (new_any _) ?_
        rintro e w13a ⟨v13a, rfl, hb13a⟩
        have sz13a : wb.heap.size ≤ w13a.heap.size := hb13a.size
        have HW13a := Lib.hid ((HWb.out.on ((Below.refl _ _).drew)).on hb13a); clear hb13a
        refine ⟨_, rfl, HW13a.out, ?_⟩
        refine m_enter po14 d14 (wanted_of gd14) (run_callf5 q14 rfl (eval_same _ _ _ (by simp only [put_size, hsz]; decide)) ((eval_other _ 73 74 _ (by decide)).trans ((eval_other _ 86 74 _ (by decide)).trans ((eval_other _ 85 74 _ (by decide)).trans ((eval_other _ 84 74 _ (by decide)).trans ((eval_other _ 83 74 _ (by decide)).trans ((eval_other _ 82 74 _ (by decide)).trans ((eval_other _ 81 74 _ (by decide)).trans ((eval_other _ 80 74 _ (by decide)).trans ((eval_other _ 79 74 _ (by decide)).trans ((eval_other _ 78 74 _ (by decide)).trans ((eval_other _ 77 74 _ (by decide)).trans ((eval_other _ 76 74 _ (by decide)).trans ((eval_other _ 75 74 _ (by decide)).trans (eval_same _ _ _ (by rw [hsz]; decide))))))))))))))) ((eval_other _ 73 75 _ (by decide)).trans ((eval_other _ 86 75 _ (by decide)).trans ((eval_other _ 85 75 _ (by decide)).trans ((eval_other _ 84 75 _ (by decide)).trans ((eval_other _ 83 75 _ (by decide)).trans ((eval_other _ 82 75 _ (by decide)).trans ((eval_other _ 81 75 _ (by decide)).trans ((eval_other _ 80 75 _ (by decide)).trans ((eval_other _ 79 75 _ (by decide)).trans ((eval_other _ 78 75 _ (by decide)).trans ((eval_other _ 77 75 _ (by decide)).trans ((eval_other _ 76 75 _ (by decide)).trans (eval_same _ _ _ (by simp only [put_size, hsz]; decide)))))))))))))) ((eval_other _ 73 79 _ (by decide)).trans ((eval_other _ 86 79 _ (by decide)).trans ((eval_other _ 85 79 _ (by decide)).trans ((eval_other _ 84 79 _ (by decide)).trans ((eval_other _ 83 79 _ (by decide)).trans ((eval_other _ 82 79 _ (by decide)).trans ((eval_other _ 81 79 _ (by decide)).trans ((eval_other _ 80 79 _ (by decide)).trans (eval_same _ _ _ (by simp only [put_size, hsz]; decide)))))))))) ((eval_other _ 73 86 _ (by decide)).trans (eval_same _ _ _ (by simp only [put_size, hsz]; decide))) Tryd.func18 (by kernel_rfl) _) (open_any v13a key nonce head lr n nr (some ⟨gx, 0, none⟩) (some ⟨gy, 0, none⟩) cx cy w13a HKL.out HNL.out HHL.out HLR.out (by omega) (by omega) (by omega) (by have h := lies_take (HW13a.out.lies (some ⟨gx, 0, none⟩, head ++ marks 5) (by simp)) n; rw [HXT.out] at h; exact h) (by have h := lies_take (HW13a.out.lies (some ⟨gy, 0, none⟩, lr ++ marks 5) (by simp)) nr; rw [HYT.out] at h; exact h) (HQ.out.below HW13a.out.below hqs)) ?_
        rintro e w13 ⟨v13, rfl, ho13, hb13⟩
        rw [← HLO.out] at ho13
        rw [← HD.out]
        obtain ⟨p13, c13, rfl, -, -, -⟩ := ho13.lies
        rw [HNO.out] at ho13 ⊢
        have sz13 : w13a.heap.size ≤ w13.heap.size := hb13.size
        have HO13 := Lib.hid ho13
        have HG13 : Hid (∀ g, Value.ownBlock (.slice p13 nO c13) = some g → wb.heap.size ≤ g ∧ g < w13.heap.size) := show ∀ g, _ from fun g e => ⟨Nat.le_trans sz13a (World.ownsRow.lt HO13.out g e).1, (World.ownsRow.lt HO13.out g e).2⟩
        have HW13 := Lib.hid ((HW13a.out).on hb13); clear hb13 ho13
        refine ⟨_, rfl, HW13.out, ?_⟩
        refine met_free po15 d15 (wanted_of gd15) (fun w' h' => run_move q15 (eval_same _ _ _ (by simp only [put_size, hsz]; decide)) w') ?_
        refine met_free po16 d16 (wanted_of gd16) (fun w' h' => run_extract q16 (eval_same _ _ _ (by simp only [put_size, hsz]; decide)) rfl w') ?_
        refine met_free po17 d17 (wanted_of gd17) (fun w' h' => run_extract q17 ((eval_other _ 88 72 _ (by decide)).trans (eval_same _ _ _ (by simp only [put_size, hsz]; decide))) rfl w') ?_
        refine met_free po18 d18 (wanted_of gd18) (fun w' h' => run_assign q18 ((eval_other _ 89 88 _ (by decide)).trans (eval_same _ _ _ (by simp only [put_size, hsz]; decide))) w') ?_
        refine met_free po19 d19 (wanted_of gd19) (fun w' h' => run_assign q19 ((eval_other _ 19 89 _ (by decide)).trans (eval_same _ _ _ (by simp only [put_size, hsz]; decide))) w') ?_
        show NoPanic _ .normal _ _
        refine NoPanic.normal ?_
        rw [HAA.out]
        go_frame
        clear HAA
        go_upto_region 14 with (fail)
        refine region_phase (KnO w key nonce R C [(some ⟨gy, 0, none⟩, lr ++ marks 5), (some ⟨gx, 0, none⟩, head ++ marks 5), (some ⟨gt, 0, none⟩, tl.take r), (some ⟨gt, 0, none⟩, tl), (p, head), (q, b)]) (fun _ => True) 0 (HW13.out.on ((Below.refl _ _).drew)) trivial [(1, .free), (2, .free), (3, .free), (4, .free), (5, .free), (6, .free), (7, .free), (8, .free), (9, .free), (10, .free), (11, .free), (12, .free), (13, .free), (0, .behind), (14, .behind), (15, .free), (16, .free), (17, .free), (18, .free), (19, .free)] (by kernel_rfl) (by kernel_rfl) (by kernel_rfl) (by kernel_rfl) (fun ops hops A2 hA => ?_)
        have hsz : A2.tmps.size = 151 := by rw [hA]; rfl
        have base2 : A2.eval (.tmp 2) = .slice p n cp := by rw [hA]; rfl
        have base6 : A2.eval (.tmp 6) = .pointer (some ⟨w.heap.size, 0, none⟩) := by rw [hA]; rfl
        have base7 : A2.eval (.tmp 7) = .pointer (some ⟨w.heap.size + 1, 0, none⟩) := by rw [hA]; rfl
        have base13 : A2.eval (.tmp 13) = .pointer (some ⟨w0.heap.size, 0, none⟩) := by rw [hA]; rfl
        have base15 : A2.eval (.tmp 15) = .slice (some ⟨R, 0, none⟩) 3 3 := by rw [hA]; rfl
        have base16 : A2.eval (.tmp 16) = .int .i64 (k : Int) := by rw [hA]; rfl
        have base17 : A2.eval (.tmp 17) = .slice (some ⟨gx, 0, none⟩) (n + 5) cx := by rw [hA]; rfl
        have base18 : A2.eval (.tmp 18) = .slice (some ⟨gy, 0, none⟩) (nr + 5) cy := by rw [hA]; rfl
        have HAA := Lib.hid hA; clear hA
        obtain ⟨o0, po0, q0, d0, gd0⟩ : ∃ o, ops[0]? = some o ∧ o.op = .call { callee := .value (.func 11), args := #[], argTypes := #[] } ∧ o.dst = some 91 ∧ o.guard = none := ⟨_, by rw [hops]; rfl, rfl, rfl, rfl⟩
        obtain ⟨o1, po1, q1, d1, gd1⟩ : ∃ o, ops[1]? = some o ∧ o.op = .load 23 (.tmp 6) ∧ o.dst = some 92 ∧ o.guard = none := ⟨_, by rw [hops]; rfl, rfl, rfl, rfl⟩
        obtain ⟨o2, po2, q2, d2, gd2⟩ : ∃ o, ops[2]? = some o ∧ o.op = .load 25 (.tmp 7) ∧ o.dst = some 93 ∧ o.guard = none := ⟨_, by rw [hops]; rfl, rfl, rfl, rfl⟩
        obtain ⟨o3, po3, q3, d3, gd3⟩ : ∃ o, ops[3]? = some o ∧ o.op = .move (.tmp 17) ∧ o.dst = some 94 ∧ o.guard = none := ⟨_, by rw [hops]; rfl, rfl, rfl, rfl⟩
        obtain ⟨o4, po4, q4, d4, gd4⟩ : ∃ o, ops[4]? = some o ∧ o.op = .move (.tmp 2) ∧ o.dst = some 95 ∧ o.guard = none := ⟨_, by rw [hops]; rfl, rfl, rfl, rfl⟩
        obtain ⟨o5, po5, q5, d5, gd5⟩ : ∃ o, ops[5]? = some o ∧ o.op = .call { callee := .builtin .len, args := #[.tmp 95], argTypes := #[26] } ∧ o.dst = some 96 ∧ o.guard = none := ⟨_, by rw [hops]; rfl, rfl, rfl, rfl⟩
        obtain ⟨o6, po6, q6, d6, gd6⟩ : ∃ o, ops[6]? = some o ∧ o.op = .slice 26 (.tmp 94) none (some (.tmp 96)) none ∧ o.dst = some 97 ∧ o.guard = none := ⟨_, by rw [hops]; rfl, rfl, rfl, rfl⟩
        obtain ⟨o7, po7, q7, d7, gd7⟩ : ∃ o, ops[7]? = some o ∧ o.op = .move (.tmp 18) ∧ o.dst = some 98 ∧ o.guard = none := ⟨_, by rw [hops]; rfl, rfl, rfl, rfl⟩
        obtain ⟨o8, po8, q8, d8, gd8⟩ : ∃ o, ops[8]? = some o ∧ o.op = .move (.tmp 15) ∧ o.dst = some 99 ∧ o.guard = none := ⟨_, by rw [hops]; rfl, rfl, rfl, rfl⟩
        obtain ⟨o9, po9, q9, d9, gd9⟩ : ∃ o, ops[9]? = some o ∧ o.op = .move (.tmp 16) ∧ o.dst = some 100 ∧ o.guard = none := ⟨_, by rw [hops]; rfl, rfl, rfl, rfl⟩
        obtain ⟨o10, po10, q10, d10, gd10⟩ : ∃ o, ops[10]? = some o ∧ o.op = .indexAddr 39 (.tmp 99) (.tmp 100) ∧ o.dst = some 101 ∧ o.guard = none := ⟨_, by rw [hops]; rfl, rfl, rfl, rfl⟩
        obtain ⟨o11, po11, q11, d11, gd11⟩ : ∃ o, ops[11]? = some o ∧ o.op = .load 26 (.tmp 101) ∧ o.dst = some 102 ∧ o.guard = none := ⟨_, by rw [hops]; rfl, rfl, rfl, rfl⟩
        obtain ⟨o12, po12, q12, d12, gd12⟩ : ∃ o, ops[12]? = some o ∧ o.op = .call { callee := .builtin .len, args := #[.tmp 102], argTypes := #[26] } ∧ o.dst = some 103 ∧ o.guard = none := ⟨_, by rw [hops]; rfl, rfl, rfl, rfl⟩
        obtain ⟨o13, po13, q13, d13, gd13⟩ : ∃ o, ops[13]? = some o ∧ o.op = .slice 26 (.tmp 98) none (some (.tmp 103)) none ∧ o.dst = some 104 ∧ o.guard = none := ⟨_, by rw [hops]; rfl, rfl, rfl, rfl⟩
        obtain ⟨o14, po14, q14, d14, gd14⟩ : ∃ o, ops[14]? = some o ∧ o.op = .call { callee := .value (.func 18), args := #[.tmp 91, .tmp 92, .tmp 93, .tmp 97, .tmp 104], argTypes := #[29, 23, 25, 26, 26] } ∧ o.dst = some 105 ∧ o.guard = none := ⟨_, by rw [hops]; rfl, rfl, rfl, rfl⟩
        obtain ⟨o15, po15, q15, d15, gd15⟩ : ∃ o, ops[15]? = some o ∧ o.op = .move (.tmp 105) ∧ o.dst = some 90 ∧ o.guard = none := ⟨_, by rw [hops]; rfl, rfl, rfl, rfl⟩
        obtain ⟨o16, po16, q16, d16, gd16⟩ : ∃ o, ops[16]? = some o ∧ o.op = .extract (.tmp 90) 0 ∧ o.dst = some 106 ∧ o.guard = none := ⟨_, by rw [hops]; rfl, rfl, rfl, rfl⟩
        obtain ⟨o17, po17, q17, d17, gd17⟩ : ∃ o, ops[17]? = some o ∧ o.op = .extract (.tmp 90) 1 ∧ o.dst = some 107 ∧ o.guard = none := ⟨_, by rw [hops]; rfl, rfl, rfl, rfl⟩
        obtain ⟨o18, po18, q18, d18, gd18⟩ : ∃ o, ops[18]? = some o ∧ o.op = .assign (.tmp 106) ∧ o.dst = some 21 ∧ o.guard = none := ⟨_, by rw [hops]; rfl, rfl, rfl, rfl⟩
        obtain ⟨o19, po19, q19, d19, gd19⟩ : ∃ o, ops[19]? = some o ∧ o.op = .assign (.tmp 107) ∧ o.dst = some 22 ∧ o.guard = none := ⟨_, by rw [hops]; rfl, rfl, rfl, rfl⟩
        clear hops
        refine met_free po1 d1 (wanted_of gd1) (fun w' h' => run_loadKey q1 base6 HKL.out h'.kn.key) ?_
        refine met_free po2 d2 (wanted_of gd2) (fun w' h' => run_loadNonce q2 ((eval_other _ 92 7 _ (by decide)).trans base7) HNL.out h'.kn.nonce) ?_
        refine met_free po3 d3 (wanted_of gd3) (fun w' h' => run_move q3 ((eval_other _ 93 17 _ (by decide)).trans ((eval_other _ 92 17 _ (by decide)).trans base17)) w') ?_
        refine met_free po4 d4 (wanted_of gd4) (fun w' h' => run_move q4 ((eval_other _ 94 2 _ (by decide)).trans ((eval_other _ 93 2 _ (by decide)).trans ((eval_other _ 92 2 _ (by decide)).trans base2))) w') ?_
        refine met_free po5 d5 (wanted_of gd5) (fun w' h' => run_len26 q5 (eval_same _ _ _ (by simp only [put_size, hsz]; decide)) w') ?_
        refine met_free po6 d6 (wanted_of gd6) (fun w' h' => r_to q6 (by omega) ((eval_other _ 96 94 _ (by decide)).trans ((eval_other _ 95 94 _ (by decide)).trans (eval_same _ _ _ (by simp only [put_size, hsz]; decide)))) (eval_same _ _ _ (by simp only [put_size, hsz]; decide)) w') ?_
        refine met_free po7 d7 (wanted_of gd7) (fun w' h' => run_move q7 ((eval_other _ 97 18 _ (by decide)).trans ((eval_other _ 96 18 _ (by decide)).trans ((eval_other _ 95 18 _ (by decide)).trans ((eval_other _ 94 18 _ (by decide)).trans ((eval_other _ 93 18 _ (by decide)).trans ((eval_other _ 92 18 _ (by decide)).trans base18)))))) w') ?_
        refine met_free po8 d8 (wanted_of gd8) (fun w' h' => run_move q8 ((eval_other _ 98 15 _ (by decide)).trans ((eval_other _ 97 15 _ (by decide)).trans ((eval_other _ 96 15 _ (by decide)).trans ((eval_other _ 95 15 _ (by decide)).trans ((eval_other _ 94 15 _ (by decide)).trans ((eval_other _ 93 15 _ (by decide)).trans ((eval_other _ 92 15 _ (by decide)).trans base15))))))) w') ?_
        refine met_free po9 d9 (wanted_of gd9) (fun w' h' => run_move q9 ((eval_other _ 99 16 _ (by decide)).trans ((eval_other _ 98 16 _ (by decide)).trans ((eval_other _ 97 16 _ (by decide)).trans ((eval_other _ 96 16 _ (by decide)).trans ((eval_other _ 95 16 _ (by decide)).trans ((eval_other _ 94 16 _ (by decide)).trans ((eval_other _ 93 16 _ (by decide)).trans ((eval_other _ 92 16 _ (by decide)).trans base16)))))))) w') ?_
        refine met_free po10 d10 (wanted_of gd10) (fun w' h' => r_ixRows q10 ((eval_other _ 100 99 _ (by decide)).trans (eval_same _ _ _ (by simp only [put_size, hsz]; decide))) (eval_same _ _ _ (by simp only [put_size, hsz]; decide)) (by omega) w') ?_
        refine met_free po11 d11 (wanted_of gd11) (fun w' h' => run_loadSlice q11 (eval_same _ _ _ (by simp only [put_size, hsz]; decide)) (h'.cell HV.out)) ?_
        refine met_free po12 d12 (wanted_of gd12) (fun w' h' => run_len26 q12 (eval_same _ _ _ (by simp only [put_size, hsz]; decide)) w') ?_
        refine met_free po13 d13 (wanted_of gd13) (fun w' h' => r_to q13 (by omega) ((eval_other _ 103 98 _ (by decide)).trans ((eval_other _ 102 98 _ (by decide)).trans ((eval_other _ 101 98 _ (by decide)).trans ((eval_other _ 100 98 _ (by decide)).trans ((eval_other _ 99 98 _ (by decide)).trans (eval_same _ _ _ (by simp only [put_size, hsz]; decide))))))) (eval_same _ _ _ (by simp only [put_size, hsz]; decide)) w') ?_
        refine m_enter po0 d0 (wanted_of gd0) (run_callf0 q0 rfl Tryd.func11 (by kernel_rfl) _) (new_any _) ?_
        rintro e w14a ⟨v14a, rfl, hb14a⟩
        have sz14a : w13.heap.size ≤ w14a.heap.size := hb14a.size
        have HO13n := Lib.hid (HO13.out.below (((Below.refl _ _).drew).trans (hb14a.mono (Nat.le_refl _)))); clear HO13; have HO13 := HO13n; clear HO13n
        have HW14a := Lib.hid ((HW13.out.on ((Below.refl _ _).drew)).on hb14a); clear hb14a
        refine ⟨_, rfl, HW14a.out, ?_⟩
        refine m_enter po14 d14 (wanted_of gd14) (run_callf5 q14 rfl (eval_same _ _ _ (by simp only [put_size, hsz]; decide)) ((eval_other _ 91 92 _ (by decide)).trans ((eval_other _ 104 92 _ (by decide)).trans ((eval_other _ 103 92 _ (by decide)).trans ((eval_other _ 102 92 _ (by decide)).trans ((eval_other _ 101 92 _ (by decide)).trans ((eval_other _ 100 92 _ (by decide)).trans ((eval_other _ 99 92 _ (by decide)).trans ((eval_other _ 98 92 _ (by decide)).trans ((eval_other _ 97 92 _ (by decide)).trans ((eval_other _ 96 92 _ (by decide)).trans ((eval_other _ 95 92 _ (by decide)).trans ((eval_other _ 94 92 _ (by decide)).trans ((eval_other _ 93 92 _ (by decide)).trans (eval_same _ _ _ (by rw [hsz]; decide))))))))))))))) ((eval_other _ 91 93 _ (by decide)).trans ((eval_other _ 104 93 _ (by decide)).trans ((eval_other _ 103 93 _ (by decide)).trans ((eval_other _ 102 93 _ (by decide)).trans ((eval_other _ 101 93 _ (by decide)).trans ((eval_other _ 100 93 _ (by decide)).trans ((eval_other _ 99 93 _ (by decide)).trans ((eval_other _ 98 93 _ (by decide)).trans ((eval_other _ 97 93 _ (by decide)).trans ((eval_other _ 96 93 _ (by decide)).trans ((eval_other _ 95 93 _ (by decide)).trans ((eval_other _ 94 93 _ (by decide)).trans (eval_same _ _ _ (by simp only [put_size, hsz]; decide)))))))))))))) ((eval_other _ 91 97 _ (by decide)).trans ((eval_other _ 104 97 _ (by decide)).trans ((eval_other _ 103 97 _ (by decide)).trans ((eval_other _ 102 97 _ (by decide)).trans ((eval_other _ 101 97 _ (by decide)).trans ((eval_other _ 100 97 _ (by decide)).trans ((eval_other _ 99 97 _ (by decide)).trans ((eval_other _ 98 97 _ (by decide)).trans (eval_same _ _ _ (by simp only [put_size, hsz]; decide)))))))))) ((eval_other _ 91 104 _ (by decide)).trans (eval_same _ _ _ (by simp only [put_size, hsz]; decide))) Tryd.func18 (by kernel_rfl) _) (open_any v14a key nonce head lr n nr (some ⟨gx, 0, none⟩) (some ⟨gy, 0, none⟩) cx cy w14a HKL.out HNL.out HHL.out HLR.out (by omega) (by omega) (by omega) (by have h := lies_take (HW14a.out.lies (some ⟨gx, 0, none⟩, head ++ marks 5) (by simp)) n; rw [HXT.out] at h; exact h) (by have h := lies_take (HW14a.out.lies (some ⟨gy, 0, none⟩, lr ++ marks 5) (by simp)) nr; rw [HYT.out] at h; exact h) (HQ.out.below HW14a.out.below hqs)) ?_
        rintro e w14 ⟨v14, rfl, ho14, hb14⟩
        rw [← HLO.out] at ho14
        rw [← HD.out]
        obtain ⟨p14, c14, rfl, -, -, -⟩ := ho14.lies
        rw [HNO.out] at ho14 ⊢
        have sz14 : w14a.heap.size ≤ w14.heap.size := hb14.size
        have HO14 := Lib.hid ho14
        have HO13n := Lib.hid (HO13.out.below hb14); clear HO13; have HO13 := HO13n; clear HO13n
        have HW14 := Lib.hid ((HW14a.out).on hb14); clear hb14 ho14
        refine ⟨_, rfl, HW14.out, ?_⟩
        refine met_free po15 d15 (wanted_of gd15) (fun w' h' => run_move q15 (eval_same _ _ _ (by simp only [put_size, hsz]; decide)) w') ?_
        refine met_free po16 d16 (wanted_of gd16) (fun w' h' => run_extract q16 (eval_same _ _ _ (by simp only [put_size, hsz]; decide)) rfl w') ?_
        refine met_free po17 d17 (wanted_of gd17) (fun w' h' => run_extract q17 ((eval_other _ 106 90 _ (by decide)).trans (eval_same _ _ _ (by simp only [put_size, hsz]; decide))) rfl w') ?_
        refine met_free po18 d18 (wanted_of gd18) (fun w' h' => run_assign q18 ((eval_other _ 107 106 _ (by decide)).trans (eval_same _ _ _ (by simp only [put_size, hsz]; decide))) w') ?_
        refine met_free po19 d19 (wanted_of gd19) (fun w' h' => run_assign q19 ((eval_other _ 21 107 _ (by decide)).trans (eval_same _ _ _ (by simp only [put_size, hsz]; decide))) w') ?_
        show NoPanic _ .normal _ _
        refine NoPanic.normal ?_
        rw [HAA.out]
        go_frame
        clear HAA
        go_upto_region 15 with (fail)
        refine region_phase (KnO w key nonce R C [(some ⟨gy, 0, none⟩, lr ++ marks 5), (some ⟨gx, 0, none⟩, head ++ marks 5), (some ⟨gt, 0, none⟩, tl.take r), (some ⟨gt, 0, none⟩, tl), (p, head), (q, b)]) (fun _ => True) 8 (HW14.out.on ((Below.refl _ _).drew)) trivial [(0, .free), (1, .free), (2, .free), (3, .free), (4, .free), (5, .free), (6, .free), (7, .free), (8, .behind), (9, .free), (10, .free), (11, .free), (12, .free), (13, .free)] (by kernel_rfl) (by kernel_rfl) (by kernel_rfl) (by kernel_rfl) (fun ops hops A3 hA => ?_)
        have hsz : A3.tmps.size = 151 := by rw [hA]; rfl
        have base2 : A3.eval (.tmp 2) = .slice p n cp := by rw [hA]; rfl
        have base6 : A3.eval (.tmp 6) = .pointer (some ⟨w.heap.size, 0, none⟩) := by rw [hA]; rfl
        have base7 : A3.eval (.tmp 7) = .pointer (some ⟨w.heap.size + 1, 0, none⟩) := by rw [hA]; rfl
        have base13 : A3.eval (.tmp 13) = .pointer (some ⟨w0.heap.size, 0, none⟩) := by rw [hA]; rfl
        have base15 : A3.eval (.tmp 15) = .slice (some ⟨R, 0, none⟩) 3 3 := by rw [hA]; rfl
        have base16 : A3.eval (.tmp 16) = .int .i64 (k : Int) := by rw [hA]; rfl
        have base17 : A3.eval (.tmp 17) = .slice (some ⟨gx, 0, none⟩) (n + 5) cx := by rw [hA]; rfl
        have base18 : A3.eval (.tmp 18) = .slice (some ⟨gy, 0, none⟩) (nr + 5) cy := by rw [hA]; rfl
        have HAA := Lib.hid hA; clear hA
        obtain ⟨o0, po0, q0, d0, gd0⟩ : ∃ o, ops[0]? = some o ∧ o.op = .move (.tmp 13) ∧ o.dst = some 109 ∧ o.guard = none := ⟨_, by rw [hops]; rfl, rfl, rfl, rfl⟩
        obtain ⟨o1, po1, q1, d1, gd1⟩ : ∃ o, ops[1]? = some o ∧ o.op = .load 23 (.tmp 6) ∧ o.dst = some 110 ∧ o.guard = none := ⟨_, by rw [hops]; rfl, rfl, rfl, rfl⟩
        obtain ⟨o2, po2, q2, d2, gd2⟩ : ∃ o, ops[2]? = some o ∧ o.op = .load 25 (.tmp 7) ∧ o.dst = some 111 ∧ o.guard = none := ⟨_, by rw [hops]; rfl, rfl, rfl, rfl⟩
        obtain ⟨o3, po3, q3, d3, gd3⟩ : ∃ o, ops[3]? = some o ∧ o.op = .move (.tmp 2) ∧ o.dst = some 112 ∧ o.guard = none := ⟨_, by rw [hops]; rfl, rfl, rfl, rfl⟩
        obtain ⟨o4, po4, q4, d4, gd4⟩ : ∃ o, ops[4]? = some o ∧ o.op = .move (.tmp 15) ∧ o.dst = some 113 ∧ o.guard = none := ⟨_, by rw [hops]; rfl, rfl, rfl, rfl⟩
        obtain ⟨o5, po5, q5, d5, gd5⟩ : ∃ o, ops[5]? = some o ∧ o.op = .move (.tmp 16) ∧ o.dst = some 114 ∧ o.guard = none := ⟨_, by rw [hops]; rfl, rfl, rfl, rfl⟩
        obtain ⟨o6, po6, q6, d6, gd6⟩ : ∃ o, ops[6]? = some o ∧ o.op = .indexAddr 39 (.tmp 113) (.tmp 114) ∧ o.dst = some 115 ∧ o.guard = none := ⟨_, by rw [hops]; rfl, rfl, rfl, rfl⟩
        obtain ⟨o7, po7, q7, d7, gd7⟩ : ∃ o, ops[7]? = some o ∧ o.op = .load 26 (.tmp 115) ∧ o.dst = some 116 ∧ o.guard = none := ⟨_, by rw [hops]; rfl, rfl, rfl, rfl⟩
        obtain ⟨o8, po8, q8, d8, gd8⟩ : ∃ o, ops[8]? = some o ∧ o.op = .call { callee := .value (.func 19), args := #[.tmp 109, .tmp 110, .tmp 111, .tmp 112, .tmp 116], argTypes := #[32, 23, 25, 26, 26] } ∧ o.dst = some 117 ∧ o.guard = none := ⟨_, by rw [hops]; rfl, rfl, rfl, rfl⟩
        obtain ⟨o9, po9, q9, d9, gd9⟩ : ∃ o, ops[9]? = some o ∧ o.op = .move (.tmp 117) ∧ o.dst = some 108 ∧ o.guard = none := ⟨_, by rw [hops]; rfl, rfl, rfl, rfl⟩
        obtain ⟨o10, po10, q10, d10, gd10⟩ : ∃ o, ops[10]? = some o ∧ o.op = .extract (.tmp 108) 0 ∧ o.dst = some 118 ∧ o.guard = none := ⟨_, by rw [hops]; rfl, rfl, rfl, rfl⟩
        obtain ⟨o11, po11, q11, d11, gd11⟩ : ∃ o, ops[11]? = some o ∧ o.op = .extract (.tmp 108) 1 ∧ o.dst = some 119 ∧ o.guard = none := ⟨_, by rw [hops]; rfl, rfl, rfl, rfl⟩
        obtain ⟨o12, po12, q12, d12, gd12⟩ : ∃ o, ops[12]? = some o ∧ o.op = .assign (.tmp 118) ∧ o.dst = some 23 ∧ o.guard = none := ⟨_, by rw [hops]; rfl, rfl, rfl, rfl⟩
        obtain ⟨o13, po13, q13, d13, gd13⟩ : ∃ o, ops[13]? = some o ∧ o.op = .assign (.tmp 119) ∧ o.dst = some 24 ∧ o.guard = none := ⟨_, by rw [hops]; rfl, rfl, rfl, rfl⟩
        clear hops
        refine met_free po0 d0 (wanted_of gd0) (fun w' h' => run_move q0 base13 w') ?_
        refine met_free po1 d1 (wanted_of gd1) (fun w' h' => run_loadKey q1 ((eval_other _ 109 6 _ (by decide)).trans base6) HKL.out h'.kn.key) ?_
        refine met_free po2 d2 (wanted_of gd2) (fun w' h' => run_loadNonce q2 ((eval_other _ 110 7 _ (by decide)).trans ((eval_other _ 109 7 _ (by decide)).trans base7)) HNL.out h'.kn.nonce) ?_
        refine met_free po3 d3 (wanted_of gd3) (fun w' h' => run_move q3 ((eval_other _ 111 2 _ (by decide)).trans ((eval_other _ 110 2 _ (by decide)).trans ((eval_other _ 109 2 _ (by decide)).trans base2))) w') ?_
        refine met_free po4 d4 (wanted_of gd4) (fun w' h' => run_move q4 ((eval_other _ 112 15 _ (by decide)).trans ((eval_other _ 111 15 _ (by decide)).trans ((eval_other _ 110 15 _ (by decide)).trans ((eval_other _ 109 15 _ (by decide)).trans base15)))) w') ?_
        refine met_free po5 d5 (wanted_of gd5) (fun w' h' => run_move q5 ((eval_other _ 113 16 _ (by decide)).trans ((eval_other _ 112 16 _ (by decide)).trans ((eval_other _ 111 16 _ (by decide)).trans ((eval_other _ 110 16 _ (by decide)).trans ((eval_other _ 109 16 _ (by decide)).trans base16))))) w') ?_
        refine met_free po6 d6 (wanted_of gd6) (fun w' h' => r_ixRows q6 ((eval_other _ 114 113 _ (by decide)).trans (eval_same _ _ _ (by simp only [put_size, hsz]; decide))) (eval_same _ _ _ (by simp only [put_size, hsz]; decide)) (by omega) w') ?_
        refine met_free po7 d7 (wanted_of gd7) (fun w' h' => run_loadSlice q7 (eval_same _ _ _ (by simp only [put_size, hsz]; decide)) (h'.cell HV.out)) ?_
        refine m_enter po8 d8 (wanted_of gd8) (run_callf5 q8 rfl ((eval_other _ 116 109 _ (by decide)).trans ((eval_other _ 115 109 _ (by decide)).trans ((eval_other _ 114 109 _ (by decide)).trans ((eval_other _ 113 109 _ (by decide)).trans ((eval_other _ 112 109 _ (by decide)).trans ((eval_other _ 111 109 _ (by decide)).trans ((eval_other _ 110 109 _ (by decide)).trans (eval_same _ _ _ (by rw [hsz]; decide))))))))) ((eval_other _ 116 110 _ (by decide)).trans ((eval_other _ 115 110 _ (by decide)).trans ((eval_other _ 114 110 _ (by decide)).trans ((eval_other _ 113 110 _ (by decide)).trans ((eval_other _ 112 110 _ (by decide)).trans ((eval_other _ 111 110 _ (by decide)).trans (eval_same _ _ _ (by simp only [put_size, hsz]; decide)))))))) ((eval_other _ 116 111 _ (by decide)).trans ((eval_other _ 115 111 _ (by decide)).trans ((eval_other _ 114 111 _ (by decide)).trans ((eval_other _ 113 111 _ (by decide)).trans ((eval_other _ 112 111 _ (by decide)).trans (eval_same _ _ _ (by simp only [put_size, hsz]; decide))))))) ((eval_other _ 116 112 _ (by decide)).trans ((eval_other _ 115 112 _ (by decide)).trans ((eval_other _ 114 112 _ (by decide)).trans ((eval_other _ 113 112 _ (by decide)).trans (eval_same _ _ _ (by simp only [put_size, hsz]; decide)))))) (eval_same _ _ _ (by simp only [put_size, hsz]; decide)) Tryd.func19 (by kernel_rfl) _) (refOpen_any _ key nonce head lr n nr p pr cp cr _ HKL.out HNL.out HHL.out HLR.out (by omega) (by omega) HNC.out ((HW14.out.on ((Below.refl _ _).drew)).lies (p, head) (by simp)) ((HW14.out.on ((Below.refl _ _).drew)).lies (pr, lr) (List.mem_cons_of_mem _ (List.mem_cons_of_mem _ HMEM.out)))) ?_
        rintro e w15 ⟨v15, rfl, ho15, hb15⟩
        rw [← HLO.out] at ho15
        rw [← HD.out]
        obtain ⟨p15, c15, rfl, -, -, -⟩ := ho15.lies
        rw [HNO.out] at ho15 ⊢
        have sz15 : w14.heap.size ≤ w15.heap.size := hb15.size
        have HO15 := Lib.hid ho15
        have HO13n := Lib.hid (HO13.out.below (((Below.refl _ _).drew).trans (hb15.mono (Nat.le_refl _)))); clear HO13; have HO13 := HO13n; clear HO13n
        have HO14n := Lib.hid (HO14.out.below (((Below.refl _ _).drew).trans (hb15.mono (Nat.le_refl _)))); clear HO14; have HO14 := HO14n; clear HO14n
        have HW15 := Lib.hid ((HW14.out.on ((Below.refl _ _).drew)).on hb15); clear hb15 ho15
        refine ⟨_, rfl, HW15.out, ?_⟩
        refine met_free po9 d9 (wanted_of gd9) (fun w' h' => run_move q9 (eval_same _ _ _ (by simp only [put_size, hsz]; decide)) w') ?_
        refine met_free po10 d10 (wanted_of gd10) (fun w' h' => run_extract q10 (eval_same _ _ _ (by simp only [put_size, hsz]; decide)) rfl w') ?_
        refine met_free po11 d11 (wanted_of gd11) (fun w' h' => run_extract q11 ((eval_other _ 118 108 _ (by decide)).trans (eval_same _ _ _ (by simp only [put_size, hsz]; decide))) rfl w') ?_
        refine met_free po12 d12 (wanted_of gd12) (fun w' h' => run_assign q12 ((eval_other _ 119 118 _ (by decide)).trans (eval_same _ _ _ (by simp only [put_size, hsz]; decide))) w') ?_
        refine met_free po13 d13 (wanted_of gd13) (fun w' h' => run_assign q13 ((eval_other _ 23 119 _ (by decide)).trans (eval_same _ _ _ (by simp only [put_size, hsz]; decide))) w') ?_
        show NoPanic _ .normal _ _
        refine NoPanic.normal ?_
        rw [HAA.out]
        go_frame
        clear HAA
        go_wp2_with fail
        refine (same_any lO nO p13 p15 c13 c15 w15 HNO.out (by omega) HO13.out.liesOf HO15.out.liesOf).mono ?_
        rintro e w16 ⟨rfl, hb16⟩
        have HO13' := Lib.hid (HO13.out.below hb16); clear HO13
        have HO14' := Lib.hid (HO14.out.below hb16); clear HO14
        have HO15' := Lib.hid (HO15.out.below hb16); clear HO15
        have HW16 := Lib.hid (HW15.out.on hb16); clear hb16 HW15
        go_wp2_with fail
        refine (spoil_own lO _ nO c13 p13 w16 HNO.out (by omega) HO13'.out).mono ?_
        rintro e w18 ⟨rfl, hg18⟩
        have HW18 : Hid (KnO w key nonce R C [(p15, lO), (p14, lO), (some ⟨gy, 0, none⟩, lr ++ marks 5), (some ⟨gx, 0, none⟩, head ++ marks 5), (some ⟨gt, 0, none⟩, tl.take r), (some ⟨gt, 0, none⟩, tl), (p, head), (q, b)] w18) := show KnO _ _ _ _ _ _ _ by
          refine ((HW16.out.add (p14, lO) HO14'.out.liesOf).add (p15, lO) HO15'.out.liesOf).pastO hg18 (fun g e => ?_) ((HW16.out.add (p14, lO) HO14'.out.liesOf).add (p15, lO) HO15'.out.liesOf).lies
          have hg := HG13.out g e
          refine ⟨by omega, by omega, fun x hx => ?_⟩
          simp only [List.mem_cons, List.not_mem_nil, or_false] at hx
          rcases hx with rfl | rfl | rfl | rfl | rfl | rfl | rfl | rfl
          · exact own_high HO15'.out (by show g < w14.heap.size; omega)
          · exact own_high HO14'.out (by omega)
          · exact lies_apart (HW16.out.lies (some ⟨gy, 0, none⟩, lr ++ marks 5) (by simp)) rfl (by omega)
          · exact lies_apart (HW16.out.lies (some ⟨gx, 0, none⟩, head ++ marks 5) (by simp)) rfl (by omega)
          · exact lies_apart (HW16.out.lies (some ⟨gt, 0, none⟩, tl.take r) (by simp)) rfl (by omega)
          · exact lies_apart (HW16.out.lies (some ⟨gt, 0, none⟩, tl) (by simp)) rfl (by omega)
          · exact lies_low HP.out HW16.out.below (by omega)
          · exact lies_low HB.out HW16.out.below (by omega)
        clear HW16 HO13' HO14' HO15' HG13 hg18
        go_wp2_with fail
        refine (same_any lO nO p14 p15 c14 c15 w18 HNO.out (by omega) (HW18.out.lies (p14, lO) (by simp)) (HW18.out.lies (p15, lO) (by simp))).mono ?_
        rintro e w19 ⟨rfl, hb19⟩
        have HW19 := Lib.hid (HW18.out.on hb19); clear hb19 HW18
        go_wp2_with fail
        refine (kept_any head n (n + 5) (some ⟨gx, 0, none⟩) p cx cp w19 HHL.out (by omega) (by omega) (by omega) (by omega) (HW19.out.lies (some ⟨gx, 0, none⟩, head ++ marks 5) (by simp)) (HW19.out.lies (p, head) (by simp))).mono ?_
        rintro e w20 ⟨rfl, hb20⟩
        have HW20 := Lib.hid (HW19.out.on hb20); clear hb20 HW19
        have e20 := HW20.out.cell HV.out
        go_wp2_with fail
        clear e20
        refine (kept_any lr nr (nr + 5) (some ⟨gy, 0, none⟩) pr cy cr w20 HLR.out (by omega) (by omega) (by omega) (by omega) (HW20.out.lies (some ⟨gy, 0, none⟩, lr ++ marks 5) (by simp)) (HW20.out.lies (pr, lr) (List.mem_cons_of_mem _ (List.mem_cons_of_mem _ (List.mem_cons_of_mem _ (List.mem_cons_of_mem _ HMEM.out)))))).mono ?_
        rintro e w21 ⟨rfl, hb21⟩
        have HW21 := Lib.hid (HW20.out.on hb21); clear hb21 HW20
        go_wp2_with fail
        go_roundw
        case rel => exact ⟨k + 1, by omega, by go_num, HW21.out.drop.drop.drop.drop⟩
        case measure => simp [intOf]; omega
      · have hk3 : ¬ (k : Int) < 3 := by omega
        go_wp2_with fail
        refine (works5_any wr (HQ.out.below HW.out.below hqs)).mono ?_
        rintro e w8 ⟨rfl, hb8⟩
        have HW8 := Lib.hid (HW.out.on hb8); clear hb8
        go_wp2_with fail
        go_ret
        exact ⟨rfl, HW8.out.below⟩
end Go.Proofs.YtagkkihnfipfeaaDoor

/-
  The walk of the law AeadSeals: for any key, nonce, head and bytes it returns true, and nothing that was there changes.
-/
namespace Go.Proofs.YtagkkihnfipfeaaDoor
open Go.RowKit Go.Proofs.ShaWords

attribute [local irreducible] sealOf openOf openIs xorKs
set_option maxRecDepth 100000 in
set_option maxHeartbeats 4000000 in
theorem aeSeals_any (key nonce head b : List (BitVec 8)) (n m : Nat) (p q : Option Addr) (cp cq : Nat) (w : World) (hk : key.length = 32) (hn : nonce.length = 12) (hhl : head.length = n) (hml : b.length = m) (_ : n ≤ cp) (_ : m ≤ cq) (hp : Lies w p head) (hb : Lies w q b) (hq : Quads w) :
    Calls Tryd.prog 3 #[.agg (bytesV key).toArray, .agg (bytesV nonce).toArray, .slice p n cp, .slice q m cq] w fun e w' => e = .returned (.bool true) ∧ Below w.heap.size w w' := by
  have hqs := hq.size
  have HQ := Lib.hid hq; clear hq
  have HKL := Lib.hid hk; clear hk
  have HNL := Lib.hid hn; clear hn
  have HHL := Lib.hid hhl
  have HML := Lib.hid hml
  have HP := Lib.hid hp
  have HB := Lib.hid hb
  have HLI : Hid (∀ x ∈ [(p, head), (q, b)], Lies w x.1 x.2) := show ∀ x ∈ _, _ from by
    intro x hx
    simp only [List.mem_cons, List.not_mem_nil, or_false] at hx
    rcases hx with rfl | rfl
    · exact hp
    · exact hb
  clear hp hb
  have HIK := Lib.hid (infoKey key HKL.out)
  have HIN := Lib.hid (infoNonce nonce HNL.out)
  obtain ⟨mx, hmx⟩ : ∃ mx, mx = max n m := ⟨_, rfl⟩
  have HMX := Lib.hid hmx
  by_cases hbig : 4096 < mx
  · have p0 : (4096 : Int) < (mx : Int) := by omega
    clear hmx hhl hml
    go_enter Tryd.func3, Tryd.ntmps3
    go_upto_region 1 with (fail)
    refine wp_gen (KnL w key nonce [(p, head), (q, b)]) (knl_start w key nonce _ HLI.out) ?_
    intro w0 hw0
    have HW0 := Lib.hid hw0; clear hw0
    go_wp2_with (refine wpList_max2 rfl (.tmp 16) (.tmp 18) rfl n m mx rfl rfl HMX.out ?_)
    refine (works5_any w0 (HQ.out.below HW0.out.below hqs)).mono ?_
    rintro e w1 ⟨rfl, hb1⟩
    have HW1 := Lib.hid (HW0.out.on hb1); clear hb1 HW0
    go_wp2_with fail
    go_ret
    exact ⟨rfl, HW1.out.below⟩
  · have p0 : ¬ (4096 : Int) < (mx : Int) := by omega
    have b1 : n ≤ 4096 := by omega
    have b3 : m ≤ 4096 := by omega
    obtain ⟨s, hs⟩ : ∃ s, s = sealOf key nonce head b := ⟨_, rfl⟩
    have HS := Lib.hid hs
    obtain ⟨N, hN⟩ : ∃ N, N = m + 16 := ⟨_, rfl⟩
    have HN := Lib.hid hN
    have HSL : Hid (s.length = N) := show _ = _ by rw [hs, sealOf_length, hml, hN]
    have hN2 : N ≤ 5000 := by omega
    have HX5 : Hid ((head ++ marks 5).length = n + 5) := show _ = _ by rw [List.length_append, marks_length, hhl]
    have HY5 : Hid ((b ++ marks 5).length = m + 5) := show _ = _ by rw [List.length_append, marks_length, hml]
    have HXT : Hid ((head ++ marks 5).take n = head) := show _ = _ by rw [← hhl, List.take_left]
    have HYT : Hid ((b ++ marks 5).take m = b) := show _ = _ by rw [← hml, List.take_left]
    clear hmx hhl hml hbig hs hN
    go_enter Tryd.func3, Tryd.ntmps3
    go_upto_region 1 with (fail)
    refine wp_gen (KnL w key nonce [(p, head), (q, b)]) (knl_start w key nonce _ HLI.out) ?_
    intro w0 hw0
    have HW0 := Lib.hid hw0; clear hw0
    have sz0 : w.heap.size + 1 < w0.heap.size := HW0.out.nonce.size
    go_wp2_with (refine wpList_max2 rfl (.tmp 16) (.tmp 18) rfl n m mx rfl rfl HMX.out ?_)
    refine (lent_len head n p cp w0 HHL.out (by omega) (HW0.out.lies (p, head) (by simp))).mono ?_
    rintro e w1 ⟨v1, rfl, ho1, hb1⟩
    obtain ⟨gx, cx, hvx, hgx, hgx2, hcx, hcx2, -, -⟩ := ho1.form8 (by rw [HX5.out]; omega)
    rw [HX5.out] at hvx hcx
    subst hvx
    have sz1 : w0.heap.size ≤ w1.heap.size := hb1.size
    have HW1 := Lib.hid ((HW0.out.on hb1).add (some ⟨gx, 0, none⟩, head ++ marks 5) ho1.liesOf); clear ho1 hb1 HW0
    go_wp2_with fail
    refine (lent_len b m q cq w1 HML.out (by omega) (HW1.out.lies (q, b) (by simp))).mono ?_
    rintro e w2 ⟨v2, rfl, ho2, hb2⟩
    obtain ⟨gy, cy, hvy, hgy, hgy2, hcy, hcy2, -, -⟩ := ho2.form8 (by rw [HY5.out]; omega)
    rw [HY5.out] at hvy hcy
    subst hvy
    have sz2 : w1.heap.size ≤ w2.heap.size := hb2.size
    have HW2 := Lib.hid ((HW1.out.on hb2).add (some ⟨gy, 0, none⟩, b ++ marks 5) ho2.liesOf); clear ho2 hb2 HW1
    go_wp2_with fail
    refine (new_any _).mono ?_
    rintro e w3 ⟨v3, rfl, hb3⟩
    have sz3 : w2.heap.size ≤ w3.heap.size := hb3.size
    have HW3 := Lib.hid (HW2.out.on hb3); clear hb3 HW2
    go_upto_region 6 with (fail)
    refine region_phase (KnL w key nonce [(some ⟨gy, 0, none⟩, b ++ marks 5), (some ⟨gx, 0, none⟩, head ++ marks 5), (p, head), (q, b)]) (fun _ => True) 11 (HW3.out.on ((Below.refl _ _).drew)) trivial [(0, .free), (1, .free), (2, .free), (3, .free), (4, .free), (5, .free), (6, .free), (7, .free), (8, .free), (9, .free), (10, .free), (11, .behind), (12, .free)] (by kernel_rfl) (by kernel_rfl) (by kernel_rfl) (by kernel_rfl) (fun ops hops A hA => ?_)
    have hsz : A.tmps.size = 90 := by rw [hA]; rfl
    have base2 : A.eval (.tmp 2) = .slice p n cp := by rw [hA]; rfl
    have base3 : A.eval (.tmp 3) = .slice q m cq := by rw [hA]; rfl
    have base4 : A.eval (.tmp 4) = .pointer (some ⟨w.heap.size, 0, none⟩) := by rw [hA]; rfl
    have base5 : A.eval (.tmp 5) = .pointer (some ⟨w.heap.size + 1, 0, none⟩) := by rw [hA]; rfl
    have base9 : A.eval (.tmp 9) = .slice (some ⟨gx, 0, none⟩) (n + 5) cx := by rw [hA]; rfl
    have base10 : A.eval (.tmp 10) = .slice (some ⟨gy, 0, none⟩) (m + 5) cy := by rw [hA]; rfl
    have base11 : A.eval (.tmp 11) = v3 := by rw [hA]; rfl
    have HAA := Lib.hid hA; clear hA
    obtain ⟨o0, po0, q0, d0, gd0⟩ : ∃ o, ops[0]? = some o ∧ o.op = .move (.tmp 11) ∧ o.dst = some 27 ∧ o.guard = none := ⟨_, by rw [hops]; rfl, rfl, rfl, rfl⟩
    obtain ⟨o1, po1, q1, d1, gd1⟩ : ∃ o, ops[1]? = some o ∧ o.op = .load 23 (.tmp 4) ∧ o.dst = some 28 ∧ o.guard = none := ⟨_, by rw [hops]; rfl, rfl, rfl, rfl⟩
    obtain ⟨o2, po2, q2, d2, gd2⟩ : ∃ o, ops[2]? = some o ∧ o.op = .load 25 (.tmp 5) ∧ o.dst = some 29 ∧ o.guard = none := ⟨_, by rw [hops]; rfl, rfl, rfl, rfl⟩
    obtain ⟨o3, po3, q3, d3, gd3⟩ : ∃ o, ops[3]? = some o ∧ o.op = .move (.tmp 9) ∧ o.dst = some 30 ∧ o.guard = none := ⟨_, by rw [hops]; rfl, rfl, rfl, rfl⟩
    obtain ⟨o4, po4, q4, d4, gd4⟩ : ∃ o, ops[4]? = some o ∧ o.op = .move (.tmp 2) ∧ o.dst = some 31 ∧ o.guard = none := ⟨_, by rw [hops]; rfl, rfl, rfl, rfl⟩
    obtain ⟨o5, po5, q5, d5, gd5⟩ : ∃ o, ops[5]? = some o ∧ o.op = .call { callee := .builtin .len, args := #[.tmp 31], argTypes := #[26] } ∧ o.dst = some 32 ∧ o.guard = none := ⟨_, by rw [hops]; rfl, rfl, rfl, rfl⟩
    obtain ⟨o6, po6, q6, d6, gd6⟩ : ∃ o, ops[6]? = some o ∧ o.op = .slice 26 (.tmp 30) none (some (.tmp 32)) none ∧ o.dst = some 33 ∧ o.guard = none := ⟨_, by rw [hops]; rfl, rfl, rfl, rfl⟩
    obtain ⟨o7, po7, q7, d7, gd7⟩ : ∃ o, ops[7]? = some o ∧ o.op = .move (.tmp 10) ∧ o.dst = some 34 ∧ o.guard = none := ⟨_, by rw [hops]; rfl, rfl, rfl, rfl⟩
    obtain ⟨o8, po8, q8, d8, gd8⟩ : ∃ o, ops[8]? = some o ∧ o.op = .move (.tmp 3) ∧ o.dst = some 35 ∧ o.guard = none := ⟨_, by rw [hops]; rfl, rfl, rfl, rfl⟩
    obtain ⟨o9, po9, q9, d9, gd9⟩ : ∃ o, ops[9]? = some o ∧ o.op = .call { callee := .builtin .len, args := #[.tmp 35], argTypes := #[26] } ∧ o.dst = some 36 ∧ o.guard = none := ⟨_, by rw [hops]; rfl, rfl, rfl, rfl⟩
    obtain ⟨o10, po10, q10, d10, gd10⟩ : ∃ o, ops[10]? = some o ∧ o.op = .slice 26 (.tmp 34) none (some (.tmp 36)) none ∧ o.dst = some 37 ∧ o.guard = none := ⟨_, by rw [hops]; rfl, rfl, rfl, rfl⟩
    obtain ⟨o11, po11, q11, d11, gd11⟩ : ∃ o, ops[11]? = some o ∧ o.op = .call { callee := .value (.func 12), args := #[.tmp 27, .tmp 28, .tmp 29, .tmp 33, .tmp 37], argTypes := #[29, 23, 25, 26, 26] } ∧ o.dst = some 38 ∧ o.guard = none := ⟨_, by rw [hops]; rfl, rfl, rfl, rfl⟩
    obtain ⟨o12, po12, q12, d12, gd12⟩ : ∃ o, ops[12]? = some o ∧ o.op = .assign (.tmp 38) ∧ o.dst = some 12 ∧ o.guard = none := ⟨_, by rw [hops]; rfl, rfl, rfl, rfl⟩
    clear hops
    refine met_free po0 d0 (wanted_of gd0) (fun w' h' => run_move q0 base11 w') ?_
    refine met_free po1 d1 (wanted_of gd1) (fun w' h' => run_loadKey q1 ((eval_other _ 27 4 _ (by decide)).trans base4) HKL.out h'.key) ?_
    refine met_free po2 d2 (wanted_of gd2) (fun w' h' => run_loadNonce q2 ((eval_other _ 28 5 _ (by decide)).trans ((eval_other _ 27 5 _ (by decide)).trans base5)) HNL.out h'.nonce) ?_
    refine met_free po3 d3 (wanted_of gd3) (fun w' h' => run_move q3 ((eval_other _ 29 9 _ (by decide)).trans ((eval_other _ 28 9 _ (by decide)).trans ((eval_other _ 27 9 _ (by decide)).trans base9))) w') ?_
    refine met_free po4 d4 (wanted_of gd4) (fun w' h' => run_move q4 ((eval_other _ 30 2 _ (by decide)).trans ((eval_other _ 29 2 _ (by decide)).trans ((eval_other _ 28 2 _ (by decide)).trans ((eval_other _ 27 2 _ (by decide)).trans base2)))) w') ?_
    refine met_free po5 d5 (wanted_of gd5) (fun w' h' => run_len26 q5 (eval_same _ _ _ (by simp only [put_size, hsz]; decide)) w') ?_
    refine met_free po6 d6 (wanted_of gd6) (fun w' h' => r_to q6 (by omega) ((eval_other _ 32 30 _ (by decide)).trans ((eval_other _ 31 30 _ (by decide)).trans (eval_same _ _ _ (by simp only [put_size, hsz]; decide)))) (eval_same _ _ _ (by simp only [put_size, hsz]; decide)) w') ?_
    refine met_free po7 d7 (wanted_of gd7) (fun w' h' => run_move q7 ((eval_other _ 33 10 _ (by decide)).trans ((eval_other _ 32 10 _ (by decide)).trans ((eval_other _ 31 10 _ (by decide)).trans ((eval_other _ 30 10 _ (by decide)).trans ((eval_other _ 29 10 _ (by decide)).trans ((eval_other _ 28 10 _ (by decide)).trans ((eval_other _ 27 10 _ (by decide)).trans base10))))))) w') ?_
    refine met_free po8 d8 (wanted_of gd8) (fun w' h' => run_move q8 ((eval_other _ 34 3 _ (by decide)).trans ((eval_other _ 33 3 _ (by decide)).trans ((eval_other _ 32 3 _ (by decide)).trans ((eval_other _ 31 3 _ (by decide)).trans ((eval_other _ 30 3 _ (by decide)).trans ((eval_other _ 29 3 _ (by decide)).trans ((eval_other _ 28 3 _ (by decide)).trans ((eval_other _ 27 3 _ (by decide)).trans base3)))))))) w') ?_
    refine met_free po9 d9 (wanted_of gd9) (fun w' h' => run_len26 q9 (eval_same _ _ _ (by simp only [put_size, hsz]; decide)) w') ?_
    refine met_free po10 d10 (wanted_of gd10) (fun w' h' => r_to q10 (by omega) ((eval_other _ 36 34 _ (by decide)).trans ((eval_other _ 35 34 _ (by decide)).trans (eval_same _ _ _ (by simp only [put_size, hsz]; decide)))) (eval_same _ _ _ (by simp only [put_size, hsz]; decide)) w') ?_
    refine m_enter po11 d11 (wanted_of gd11) (run_callf5 q11 rfl ((eval_other _ 37 27 _ (by decide)).trans ((eval_other _ 36 27 _ (by decide)).trans ((eval_other _ 35 27 _ (by decide)).trans ((eval_other _ 34 27 _ (by decide)).trans ((eval_other _ 33 27 _ (by decide)).trans ((eval_other _ 32 27 _ (by decide)).trans ((eval_other _ 31 27 _ (by decide)).trans ((eval_other _ 30 27 _ (by decide)).trans ((eval_other _ 29 27 _ (by decide)).trans ((eval_other _ 28 27 _ (by decide)).trans (eval_same _ _ _ (by rw [hsz]; decide)))))))))))) ((eval_other _ 37 28 _ (by decide)).trans ((eval_other _ 36 28 _ (by decide)).trans ((eval_other _ 35 28 _ (by decide)).trans ((eval_other _ 34 28 _ (by decide)).trans ((eval_other _ 33 28 _ (by decide)).trans ((eval_other _ 32 28 _ (by decide)).trans ((eval_other _ 31 28 _ (by decide)).trans ((eval_other _ 30 28 _ (by decide)).trans ((eval_other _ 29 28 _ (by decide)).trans (eval_same _ _ _ (by simp only [put_size, hsz]; decide))))))))))) ((eval_other _ 37 29 _ (by decide)).trans ((eval_other _ 36 29 _ (by decide)).trans ((eval_other _ 35 29 _ (by decide)).trans ((eval_other _ 34 29 _ (by decide)).trans ((eval_other _ 33 29 _ (by decide)).trans ((eval_other _ 32 29 _ (by decide)).trans ((eval_other _ 31 29 _ (by decide)).trans ((eval_other _ 30 29 _ (by decide)).trans (eval_same _ _ _ (by simp only [put_size, hsz]; decide)))))))))) ((eval_other _ 37 33 _ (by decide)).trans ((eval_other _ 36 33 _ (by decide)).trans ((eval_other _ 35 33 _ (by decide)).trans ((eval_other _ 34 33 _ (by decide)).trans (eval_same _ _ _ (by simp only [put_size, hsz]; decide)))))) (eval_same _ _ _ (by simp only [put_size, hsz]; decide)) Tryd.func12 (by kernel_rfl) _) (seal_any v3 key nonce head b n m (some ⟨gx, 0, none⟩) (some ⟨gy, 0, none⟩) cx cy _ HKL.out HNL.out HHL.out HML.out (by omega) (by omega) (by have h := lies_take ((HW3.out.on ((Below.refl _ _).drew)).lies (some ⟨gx, 0, none⟩, head ++ marks 5) (by simp)) n; rw [HXT.out] at h; exact h) (by have h := lies_take ((HW3.out.on ((Below.refl _ _).drew)).lies (some ⟨gy, 0, none⟩, b ++ marks 5) (by simp)) m; rw [HYT.out] at h; exact h) (HQ.out.below (HW3.out.on ((Below.refl _ _).drew)).below hqs)) ?_
    rintro e w4 ⟨r4, c1, rfl, hr4, hm4, ho4, hb4⟩
    rw [← HS.out] at ho4
    rw [← HN.out] at ho4 hr4 ⊢
    obtain ⟨g1, cc4, hv4, hg1l, hg1h, -, -, -, -⟩ := ho4.form8 (by rw [HSL.out, HN.out]; omega)
    rw [HSL.out] at hv4
    cases hv4
    have hg1L : w3.heap.size ≤ g1 := hg1l
    have sz4 : w3.heap.size ≤ w4.heap.size := hb4.size
    have HO4 := Lib.hid ho4
    have HW4 := Lib.hid (((HW3.out.on ((Below.refl _ _).drew)).on hb4).add (some ⟨g1, 0, none⟩, s) ho4.liesOf); clear ho4 hb4
    refine ⟨_, rfl, HW4.out.drop, ?_⟩
    refine met_free po12 d12 (wanted_of gd12) (fun w' h' => run_assign q12 (eval_same _ _ _ (by simp only [put_size, hsz]; decide)) w') ?_
    show NoPanic _ .normal _ _
    refine NoPanic.normal ?_
    rw [HAA.out]
    go_frame
    clear HAA
    go_upto_region 7 with (fail)
    refine region_phase (KnL w key nonce [(some ⟨g1, 0, none⟩, s), (some ⟨gy, 0, none⟩, b ++ marks 5), (some ⟨gx, 0, none⟩, head ++ marks 5), (p, head), (q, b)]) (fun _ => True) 11 (HW4.out.on ((Below.refl _ _).drew)) trivial [(0, .free), (1, .free), (2, .free), (3, .free), (4, .free), (5, .free), (6, .free), (7, .free), (8, .free), (9, .free), (10, .free), (11, .behind), (12, .free)] (by kernel_rfl) (by kernel_rfl) (by kernel_rfl) (by kernel_rfl) (fun ops hops A2 hA => ?_)
    have hsz : A2.tmps.size = 90 := by rw [hA]; rfl
    have base2 : A2.eval (.tmp 2) = .slice p n cp := by rw [hA]; rfl
    have base3 : A2.eval (.tmp 3) = .slice q m cq := by rw [hA]; rfl
    have base4 : A2.eval (.tmp 4) = .pointer (some ⟨w.heap.size, 0, none⟩) := by rw [hA]; rfl
    have base5 : A2.eval (.tmp 5) = .pointer (some ⟨w.heap.size + 1, 0, none⟩) := by rw [hA]; rfl
    have base9 : A2.eval (.tmp 9) = .slice (some ⟨gx, 0, none⟩) (n + 5) cx := by rw [hA]; rfl
    have base10 : A2.eval (.tmp 10) = .slice (some ⟨gy, 0, none⟩) (m + 5) cy := by rw [hA]; rfl
    have base11 : A2.eval (.tmp 11) = v3 := by rw [hA]; rfl
    have HAA := Lib.hid hA; clear hA
    obtain ⟨o0, po0, q0, d0, gd0⟩ : ∃ o, ops[0]? = some o ∧ o.op = .move (.tmp 11) ∧ o.dst = some 39 ∧ o.guard = none := ⟨_, by rw [hops]; rfl, rfl, rfl, rfl⟩
    obtain ⟨o1, po1, q1, d1, gd1⟩ : ∃ o, ops[1]? = some o ∧ o.op = .load 23 (.tmp 4) ∧ o.dst = some 40 ∧ o.guard = none := ⟨_, by rw [hops]; rfl, rfl, rfl, rfl⟩
    obtain ⟨o2, po2, q2, d2, gd2⟩ : ∃ o, ops[2]? = some o ∧ o.op = .load 25 (.tmp 5) ∧ o.dst = some 41 ∧ o.guard = none := ⟨_, by rw [hops]; rfl, rfl, rfl, rfl⟩
    obtain ⟨o3, po3, q3, d3, gd3⟩ : ∃ o, ops[3]? = some o ∧ o.op = .move (.tmp 9) ∧ o.dst = some 42 ∧ o.guard = none := ⟨_, by rw [hops]; rfl, rfl, rfl, rfl⟩
    obtain ⟨o4, po4, q4, d4, gd4⟩ : ∃ o, ops[4]? = some o ∧ o.op = .move (.tmp 2) ∧ o.dst = some 43 ∧ o.guard = none := ⟨_, by rw [hops]; rfl, rfl, rfl, rfl⟩
    obtain ⟨o5, po5, q5, d5, gd5⟩ : ∃ o, ops[5]? = some o ∧ o.op = .call { callee := .builtin .len, args := #[.tmp 43], argTypes := #[26] } ∧ o.dst = some 44 ∧ o.guard = none := ⟨_, by rw [hops]; rfl, rfl, rfl, rfl⟩
    obtain ⟨o6, po6, q6, d6, gd6⟩ : ∃ o, ops[6]? = some o ∧ o.op = .slice 26 (.tmp 42) none (some (.tmp 44)) none ∧ o.dst = some 45 ∧ o.guard = none := ⟨_, by rw [hops]; rfl, rfl, rfl, rfl⟩
    obtain ⟨o7, po7, q7, d7, gd7⟩ : ∃ o, ops[7]? = some o ∧ o.op = .move (.tmp 10) ∧ o.dst = some 46 ∧ o.guard = none := ⟨_, by rw [hops]; rfl, rfl, rfl, rfl⟩
    obtain ⟨o8, po8, q8, d8, gd8⟩ : ∃ o, ops[8]? = some o ∧ o.op = .move (.tmp 3) ∧ o.dst = some 47 ∧ o.guard = none := ⟨_, by rw [hops]; rfl, rfl, rfl, rfl⟩
    obtain ⟨o9, po9, q9, d9, gd9⟩ : ∃ o, ops[9]? = some o ∧ o.op = .call { callee := .builtin .len, args := #[.tmp 47], argTypes := #[26] } ∧ o.dst = some 48 ∧ o.guard = none := ⟨_, by rw [hops]; rfl, rfl, rfl, rfl⟩
    obtain ⟨o10, po10, q10, d10, gd10⟩ : ∃ o, ops[10]? = some o ∧ o.op = .slice 26 (.tmp 46) none (some (.tmp 48)) none ∧ o.dst = some 49 ∧ o.guard = none := ⟨_, by rw [hops]; rfl, rfl, rfl, rfl⟩
    obtain ⟨o11, po11, q11, d11, gd11⟩ : ∃ o, ops[11]? = some o ∧ o.op = .call { callee := .value (.func 12), args := #[.tmp 39, .tmp 40, .tmp 41, .tmp 45, .tmp 49], argTypes := #[29, 23, 25, 26, 26] } ∧ o.dst = some 50 ∧ o.guard = none := ⟨_, by rw [hops]; rfl, rfl, rfl, rfl⟩
    obtain ⟨o12, po12, q12, d12, gd12⟩ : ∃ o, ops[12]? = some o ∧ o.op = .assign (.tmp 50) ∧ o.dst = some 13 ∧ o.guard = none := ⟨_, by rw [hops]; rfl, rfl, rfl, rfl⟩
    clear hops
    refine met_free po0 d0 (wanted_of gd0) (fun w' h' => run_move q0 base11 w') ?_
    refine met_free po1 d1 (wanted_of gd1) (fun w' h' => run_loadKey q1 ((eval_other _ 39 4 _ (by decide)).trans base4) HKL.out h'.key) ?_
    refine met_free po2 d2 (wanted_of gd2) (fun w' h' => run_loadNonce q2 ((eval_other _ 40 5 _ (by decide)).trans ((eval_other _ 39 5 _ (by decide)).trans base5)) HNL.out h'.nonce) ?_
    refine met_free po3 d3 (wanted_of gd3) (fun w' h' => run_move q3 ((eval_other _ 41 9 _ (by decide)).trans ((eval_other _ 40 9 _ (by decide)).trans ((eval_other _ 39 9 _ (by decide)).trans base9))) w') ?_
    refine met_free po4 d4 (wanted_of gd4) (fun w' h' => run_move q4 ((eval_other _ 42 2 _ (by decide)).trans ((eval_other _ 41 2 _ (by decide)).trans ((eval_other _ 40 2 _ (by decide)).trans ((eval_other _ 39 2 _ (by decide)).trans base2)))) w') ?_
    refine met_free po5 d5 (wanted_of gd5) (fun w' h' => run_len26 q5 (eval_same _ _ _ (by simp only [put_size, hsz]; decide)) w') ?_
    refine met_free po6 d6 (wanted_of gd6) (fun w' h' => r_to q6 (by omega) ((eval_other _ 44 42 _ (by decide)).trans ((eval_other _ 43 42 _ (by decide)).trans (eval_same _ _ _ (by simp only [put_size, hsz]; decide)))) (eval_same _ _ _ (by simp only [put_size, hsz]; decide)) w') ?_
    refine met_free po7 d7 (wanted_of gd7) (fun w' h' => run_move q7 ((eval_other _ 45 10 _ (by decide)).trans ((eval_other _ 44 10 _ (by decide)).trans ((eval_other _ 43 10 _ (by decide)).trans ((eval_other _ 42 10 _ (by decide)).trans ((eval_other _ 41 10 _ (by decide)).trans ((eval_other _ 40 10 _ (by decide)).trans ((eval_other _ 39 10 _ (by decide)).trans base10))))))) w') ?_
    refine met_free po8 d8 (wanted_of gd8) (fun w' h' => run_move q8 ((eval_other _ 46 3 _ (by decide)).trans ((eval_other _ 45 3 _ (by decide)).trans ((eval_other _ 44 3 _ (by decide)).trans ((eval_other _ 43 3 _ (by decide)).trans ((eval_other _ 42 3 _ (by decide)).trans ((eval_other _ 41 3 _ (by decide)).trans ((eval_other _ 40 3 _ (by decide)).trans ((eval_other _ 39 3 _ (by decide)).trans base3)))))))) w') ?_
    refine met_free po9 d9 (wanted_of gd9) (fun w' h' => run_len26 q9 (eval_same _ _ _ (by simp only [put_size, hsz]; decide)) w') ?_
    refine met_free po10 d10 (wanted_of gd10) (fun w' h' => r_to q10 (by omega) ((eval_other _ 48 46 _ (by decide)).trans ((eval_other _ 47 46 _ (by decide)).trans (eval_same _ _ _ (by simp only [put_size, hsz]; decide)))) (eval_same _ _ _ (by simp only [put_size, hsz]; decide)) w') ?_
    refine m_enter po11 d11 (wanted_of gd11) (run_callf5 q11 rfl ((eval_other _ 49 39 _ (by decide)).trans ((eval_other _ 48 39 _ (by decide)).trans ((eval_other _ 47 39 _ (by decide)).trans ((eval_other _ 46 39 _ (by decide)).trans ((eval_other _ 45 39 _ (by decide)).trans ((eval_other _ 44 39 _ (by decide)).trans ((eval_other _ 43 39 _ (by decide)).trans ((eval_other _ 42 39 _ (by decide)).trans ((eval_other _ 41 39 _ (by decide)).trans ((eval_other _ 40 39 _ (by decide)).trans (eval_same _ _ _ (by rw [hsz]; decide)))))))))))) ((eval_other _ 49 40 _ (by decide)).trans ((eval_other _ 48 40 _ (by decide)).trans ((eval_other _ 47 40 _ (by decide)).trans ((eval_other _ 46 40 _ (by decide)).trans ((eval_other _ 45 40 _ (by decide)).trans ((eval_other _ 44 40 _ (by decide)).trans ((eval_other _ 43 40 _ (by decide)).trans ((eval_other _ 42 40 _ (by decide)).trans ((eval_other _ 41 40 _ (by decide)).trans (eval_same _ _ _ (by simp only [put_size, hsz]; decide))))))))))) ((eval_other _ 49 41 _ (by decide)).trans ((eval_other _ 48 41 _ (by decide)).trans ((eval_other _ 47 41 _ (by decide)).trans ((eval_other _ 46 41 _ (by decide)).trans ((eval_other _ 45 41 _ (by decide)).trans ((eval_other _ 44 41 _ (by decide)).trans ((eval_other _ 43 41 _ (by decide)).trans ((eval_other _ 42 41 _ (by decide)).trans (eval_same _ _ _ (by simp only [put_size, hsz]; decide)))))))))) ((eval_other _ 49 45 _ (by decide)).trans ((eval_other _ 48 45 _ (by decide)).trans ((eval_other _ 47 45 _ (by decide)).trans ((eval_other _ 46 45 _ (by decide)).trans (eval_same _ _ _ (by simp only [put_size, hsz]; decide)))))) (eval_same _ _ _ (by simp only [put_size, hsz]; decide)) Tryd.func12 (by kernel_rfl) _) (seal_any v3 key nonce head b n m (some ⟨gx, 0, none⟩) (some ⟨gy, 0, none⟩) cx cy _ HKL.out HNL.out HHL.out HML.out (by omega) (by omega) (by have h := lies_take ((HW4.out.on ((Below.refl _ _).drew)).lies (some ⟨gx, 0, none⟩, head ++ marks 5) (by simp)) n; rw [HXT.out] at h; exact h) (by have h := lies_take ((HW4.out.on ((Below.refl _ _).drew)).lies (some ⟨gy, 0, none⟩, b ++ marks 5) (by simp)) m; rw [HYT.out] at h; exact h) (HQ.out.below (HW4.out.on ((Below.refl _ _).drew)).below hqs)) ?_
    rintro e w5 ⟨r5, c2, rfl, hr5, hm5, ho5, hb5⟩
    rw [← HS.out] at ho5
    rw [← HN.out] at ho5 hr5 ⊢
    obtain ⟨g2, cc5, hv5, hg2l, hg2h, -, -, -, -⟩ := ho5.form8 (by rw [HSL.out, HN.out]; omega)
    rw [HSL.out] at hv5
    cases hv5
    have hg2L : w4.heap.size ≤ g2 := hg2l
    have sz5 : w4.heap.size ≤ w5.heap.size := hb5.size
    have HO5 := Lib.hid (HO4.out.below (((Below.refl _ _).drew).trans (hb5.mono (Nat.le_refl _)))); clear HO4
    have HW5 := Lib.hid (((HW4.out.on ((Below.refl _ _).drew)).on hb5).add (some ⟨g2, 0, none⟩, s) ho5.liesOf); clear ho5 hb5
    refine ⟨_, rfl, HW5.out.drop, ?_⟩
    refine met_free po12 d12 (wanted_of gd12) (fun w' h' => run_assign q12 (eval_same _ _ _ (by simp only [put_size, hsz]; decide)) w') ?_
    show NoPanic _ .normal _ _
    refine NoPanic.normal ?_
    rw [HAA.out]
    go_frame
    clear HAA
    have HWA : Hid (∀ o, KnL w key nonce [(some ⟨g2, 0, none⟩, s), (some ⟨g1, 0, none⟩, s), (some ⟨gy, 0, none⟩, b ++ marks 5), (some ⟨gx, 0, none⟩, head ++ marks 5), (p, head), (q, b)] (w5.alloc o)) := show ∀ o, _ from fun o => HW5.out.on ((Below.refl _ _).alloc (Nat.le_refl _) _)
    go_wp2_with (first
      | (refine wpList_load_row rfl 23 (.tmp 4) rfl w.heap.size rfl 23 (bytesV key).toArray (0, 0) _ (HWA.out _).key Tryd.underlying23 rfl HIK.out ?_)
      | (refine wpList_load_row rfl 25 (.tmp 5) rfl (w.heap.size + 1) rfl 25 (bytesV nonce).toArray (0, 0) _ (HWA.out _).nonce Tryd.underlying25 rfl HIN.out ?_))
    refine calls_gen (fun w' => KnL w key nonce [(some ⟨g2, 0, none⟩, s), (some ⟨g1, 0, none⟩, s), (some ⟨gy, 0, none⟩, b ++ marks 5), (some ⟨gx, 0, none⟩, head ++ marks 5), (p, head), (q, b)] w' ∧ Own w3.heap.size w' s (.slice (some ⟨g1, 0, none⟩) N c1) ∧ g2 < w'.heap.size) ⟨HWA.out _, HO5.out.below ((Below.refl _ _).alloc (Nat.le_refl _) _), by rw [size_alloc]; omega⟩ ?_
    rintro w6 ⟨hw6, ho6, sz6⟩
    have HW6 := Lib.hid hw6; clear hw6 HWA HW5 HO5
    have HO6 := Lib.hid ho6; clear ho6
    refine (refSeal_any _ key nonce head b n m p q cp cq w6 HKL.out HNL.out HHL.out HML.out (by omega) (by omega) (HW6.out.lies (p, head) (by simp)) (HW6.out.lies (q, b) (by simp))).mono ?_
    rintro e w7 ⟨v7, rfl, ho7, hb7⟩
    rw [← HS.out] at ho7
    obtain ⟨g3, c3, hv7, hg3, hg32, -, -, -, -⟩ := ho7.form8 (by rw [HSL.out, HN.out]; omega)
    rw [HSL.out] at hv7
    subst hv7
    have sz7 : w6.heap.size ≤ w7.heap.size := hb7.size
    have HO7 := Lib.hid (HO6.out.below hb7); clear HO6
    have HW7 := Lib.hid ((HW6.out.on hb7).add (some ⟨g3, 0, none⟩, s) ho7.liesOf); clear ho7 hb7 HW6
    go_wp2_with fail
    refine (same_any s N _ _ c1 c3 w7 HSL.out (by omega) (HW7.out.lies (some ⟨g1, 0, none⟩, s) (by simp)) (HW7.out.lies (some ⟨g3, 0, none⟩, s) (by simp))).mono ?_
    rintro e w8 ⟨rfl, hb8⟩
    have sz8 : w7.heap.size ≤ w8.heap.size := hb8.size
    have HO8 := Lib.hid (HO7.out.below hb8); clear HO7
    have HW8 := Lib.hid (HW7.out.on hb8); clear hb8 HW7
    go_wp2_with fail
    refine (spoil_own s _ N c1 (some ⟨g1, 0, none⟩) w8 HSL.out (by omega) HO8.out).mono ?_
    rintro e w9 ⟨rfl, hg9⟩
    have HW9 : Hid (KnL w key nonce [(some ⟨g3, 0, none⟩, s), (some ⟨g2, 0, none⟩, s), (some ⟨gy, 0, none⟩, b ++ marks 5), (some ⟨gx, 0, none⟩, head ++ marks 5), (p, head), (q, b)] w9) := show KnL _ _ _ _ _ by
      refine HW8.out.past (g := g1) hg9 (by omega) (fun x hx => ?_)
      simp only [List.mem_cons, List.not_mem_nil, or_false] at hx
      rcases hx with rfl | rfl | rfl | rfl | rfl | rfl
      · exact lies_apart (HW8.out.lies (some ⟨g3, 0, none⟩, s) (by simp)) rfl (by omega)
      · exact lies_apart (HW8.out.lies (some ⟨g2, 0, none⟩, s) (by simp)) rfl (by omega)
      · exact lies_apart (HW8.out.lies (some ⟨gy, 0, none⟩, b ++ marks 5) (by simp)) rfl (by omega)
      · exact lies_apart (HW8.out.lies (some ⟨gx, 0, none⟩, head ++ marks 5) (by simp)) rfl (by omega)
      · exact lies_low HP.out HW8.out.below (by omega)
      · exact lies_low HB.out HW8.out.below (by omega)
    clear HW8 HO8 hg9
    go_upto_region 12 with (fail)
    refine region_phase (KnL w key nonce [(some ⟨g3, 0, none⟩, s), (some ⟨g2, 0, none⟩, s), (some ⟨gy, 0, none⟩, b ++ marks 5), (some ⟨gx, 0, none⟩, head ++ marks 5), (p, head), (q, b)]) (fun _ => True) 2 (HW9.out.on ((Below.refl _ _).drew)) trivial [(0, .free), (1, .free), (2, .behind), (3, .free), (5, .free), (6, .free), (7, .free), (8, .free), (10, .free), (4, .behind), (9, .behind), (11, .behind), (12, .free), (13, .free), (14, .free), (15, .free), (16, .behind), (17, .free), (18, .free), (19, .free), (20, .free), (21, .behind), (22, .free), (23, .free), (24, .behind), (25, .free), (26, .free)] (by kernel_rfl) (by kernel_rfl) (by kernel_rfl) (by kernel_rfl) (fun ops hops A3 hA => ?_)
    have hsz : A3.tmps.size = 90 := by rw [hA]; rfl
    have base2 : A3.eval (.tmp 2) = .slice p n cp := by rw [hA]; rfl
    have base3 : A3.eval (.tmp 3) = .slice q m cq := by rw [hA]; rfl
    have base4 : A3.eval (.tmp 4) = .pointer (some ⟨w.heap.size, 0, none⟩) := by rw [hA]; rfl
    have base5 : A3.eval (.tmp 5) = .pointer (some ⟨w.heap.size + 1, 0, none⟩) := by rw [hA]; rfl
    have base9 : A3.eval (.tmp 9) = .slice (some ⟨gx, 0, none⟩) (n + 5) cx := by rw [hA]; rfl
    have base10 : A3.eval (.tmp 10) = .slice (some ⟨gy, 0, none⟩) (m + 5) cy := by rw [hA]; rfl
    have base13 : A3.eval (.tmp 13) = .slice (some ⟨g2, 0, none⟩) N c2 := by rw [hA]; rfl
    have base14 : A3.eval (.tmp 14) = .slice (some ⟨g3, 0, none⟩) N c3 := by rw [hA]; rfl
    have HAA := Lib.hid hA; clear hA
    obtain ⟨o0, po0, q0, d0, gd0⟩ : ∃ o, ops[0]? = some o ∧ o.op = .move (.tmp 13) ∧ o.dst = some 64 ∧ o.guard = none := ⟨_, by rw [hops]; rfl, rfl, rfl, rfl⟩
    obtain ⟨o1, po1, q1, d1, gd1⟩ : ∃ o, ops[1]? = some o ∧ o.op = .move (.tmp 14) ∧ o.dst = some 65 ∧ o.guard = none := ⟨_, by rw [hops]; rfl, rfl, rfl, rfl⟩
    obtain ⟨o2, po2, q2, d2, gd2⟩ : ∃ o, ops[2]? = some o ∧ o.op = .call { callee := .value (.func 14), args := #[.tmp 64, .tmp 65], argTypes := #[26, 26] } ∧ o.dst = some 66 ∧ o.guard = none := ⟨_, by rw [hops]; rfl, rfl, rfl, rfl⟩
    obtain ⟨o3, po3, q3, d3, gd3⟩ : ∃ o, ops[3]? = some o ∧ o.op = .move (.tmp 66) ∧ o.dst = some 67 ∧ o.guard = none := ⟨_, by rw [hops]; rfl, rfl, rfl, rfl⟩
    obtain ⟨o4, po4, q4, d4, gd4⟩ : ∃ o, ops[4]? = some o ∧ o.op = .call { callee := .value (.func 11), args := #[], argTypes := #[] } ∧ o.dst = some 68 ∧ o.guard = some (3, true) := ⟨_, by rw [hops]; rfl, rfl, rfl, rfl⟩
    obtain ⟨o5, po5, q5, d5, gd5⟩ : ∃ o, ops[5]? = some o ∧ o.op = .load 23 (.tmp 4) ∧ o.dst = some 69 ∧ o.guard = some (3, true) := ⟨_, by rw [hops]; rfl, rfl, rfl, rfl⟩
    obtain ⟨o6, po6, q6, d6, gd6⟩ : ∃ o, ops[6]? = some o ∧ o.op = .load 25 (.tmp 5) ∧ o.dst = some 70 ∧ o.guard = some (3, true) := ⟨_, by rw [hops]; rfl, rfl, rfl, rfl⟩
    obtain ⟨o7, po7, q7, d7, gd7⟩ : ∃ o, ops[7]? = some o ∧ o.op = .move (.tmp 2) ∧ o.dst = some 71 ∧ o.guard = some (3, true) := ⟨_, by rw [hops]; rfl, rfl, rfl, rfl⟩
    obtain ⟨o8, po8, q8, d8, gd8⟩ : ∃ o, ops[8]? = some o ∧ o.op = .move (.tmp 3) ∧ o.dst = some 72 ∧ o.guard = some (3, true) := ⟨_, by rw [hops]; rfl, rfl, rfl, rfl⟩
    obtain ⟨o9, po9, q9, d9, gd9⟩ : ∃ o, ops[9]? = some o ∧ o.op = .call { callee := .value (.func 12), args := #[.tmp 68, .tmp 69, .tmp 70, .tmp 71, .tmp 72], argTypes := #[29, 23, 25, 26, 26] } ∧ o.dst = some 73 ∧ o.guard = some (3, true) := ⟨_, by rw [hops]; rfl, rfl, rfl, rfl⟩
    obtain ⟨o10, po10, q10, d10, gd10⟩ : ∃ o, ops[10]? = some o ∧ o.op = .move (.tmp 14) ∧ o.dst = some 74 ∧ o.guard = some (3, true) := ⟨_, by rw [hops]; rfl, rfl, rfl, rfl⟩
    obtain ⟨o11, po11, q11, d11, gd11⟩ : ∃ o, ops[11]? = some o ∧ o.op = .call { callee := .value (.func 14), args := #[.tmp 73, .tmp 74], argTypes := #[26, 26] } ∧ o.dst = some 75 ∧ o.guard = some (3, true) := ⟨_, by rw [hops]; rfl, rfl, rfl, rfl⟩
    obtain ⟨o12, po12, q12, d12, gd12⟩ : ∃ o, ops[12]? = some o ∧ o.op = .pick (.tmp 67) (.tmp 75) (.const (.bool false)) ∧ o.dst = some 76 ∧ o.guard = none := ⟨_, by rw [hops]; rfl, rfl, rfl, rfl⟩
    obtain ⟨o13, po13, q13, d13, gd13⟩ : ∃ o, ops[13]? = some o ∧ o.op = .move (.tmp 76) ∧ o.dst = some 77 ∧ o.guard = none := ⟨_, by rw [hops]; rfl, rfl, rfl, rfl⟩
    obtain ⟨o14, po14, q14, d14, gd14⟩ : ∃ o, ops[14]? = some o ∧ o.op = .move (.tmp 9) ∧ o.dst = some 78 ∧ o.guard = some (13, true) := ⟨_, by rw [hops]; rfl, rfl, rfl, rfl⟩
    obtain ⟨o15, po15, q15, d15, gd15⟩ : ∃ o, ops[15]? = some o ∧ o.op = .move (.tmp 2) ∧ o.dst = some 79 ∧ o.guard = some (13, true) := ⟨_, by rw [hops]; rfl, rfl, rfl, rfl⟩
    obtain ⟨o16, po16, q16, d16, gd16⟩ : ∃ o, ops[16]? = some o ∧ o.op = .call { callee := .value (.func 16), args := #[.tmp 78, .tmp 79], argTypes := #[26, 26] } ∧ o.dst = some 80 ∧ o.guard = some (13, true) := ⟨_, by rw [hops]; rfl, rfl, rfl, rfl⟩
    obtain ⟨o17, po17, q17, d17, gd17⟩ : ∃ o, ops[17]? = some o ∧ o.op = .pick (.tmp 77) (.tmp 80) (.const (.bool false)) ∧ o.dst = some 81 ∧ o.guard = none := ⟨_, by rw [hops]; rfl, rfl, rfl, rfl⟩
    obtain ⟨o18, po18, q18, d18, gd18⟩ : ∃ o, ops[18]? = some o ∧ o.op = .move (.tmp 81) ∧ o.dst = some 82 ∧ o.guard = none := ⟨_, by rw [hops]; rfl, rfl, rfl, rfl⟩
    obtain ⟨o19, po19, q19, d19, gd19⟩ : ∃ o, ops[19]? = some o ∧ o.op = .move (.tmp 10) ∧ o.dst = some 83 ∧ o.guard = some (18, true) := ⟨_, by rw [hops]; rfl, rfl, rfl, rfl⟩
    obtain ⟨o20, po20, q20, d20, gd20⟩ : ∃ o, ops[20]? = some o ∧ o.op = .move (.tmp 3) ∧ o.dst = some 84 ∧ o.guard = some (18, true) := ⟨_, by rw [hops]; rfl, rfl, rfl, rfl⟩
    obtain ⟨o21, po21, q21, d21, gd21⟩ : ∃ o, ops[21]? = some o ∧ o.op = .call { callee := .value (.func 16), args := #[.tmp 83, .tmp 84], argTypes := #[26, 26] } ∧ o.dst = some 85 ∧ o.guard = some (18, true) := ⟨_, by rw [hops]; rfl, rfl, rfl, rfl⟩
    obtain ⟨o22, po22, q22, d22, gd22⟩ : ∃ o, ops[22]? = some o ∧ o.op = .pick (.tmp 82) (.tmp 85) (.const (.bool false)) ∧ o.dst = some 86 ∧ o.guard = none := ⟨_, by rw [hops]; rfl, rfl, rfl, rfl⟩
    obtain ⟨o23, po23, q23, d23, gd23⟩ : ∃ o, ops[23]? = some o ∧ o.op = .move (.tmp 86) ∧ o.dst = some 87 ∧ o.guard = none := ⟨_, by rw [hops]; rfl, rfl, rfl, rfl⟩
    obtain ⟨o24, po24, q24, d24, gd24⟩ : ∃ o, ops[24]? = some o ∧ o.op = .call { callee := .value (.func 9), args := #[], argTypes := #[] } ∧ o.dst = some 88 ∧ o.guard = some (23, true) := ⟨_, by rw [hops]; rfl, rfl, rfl, rfl⟩
    obtain ⟨o25, po25, q25, d25, gd25⟩ : ∃ o, ops[25]? = some o ∧ o.op = .pick (.tmp 87) (.tmp 88) (.const (.bool false)) ∧ o.dst = some 89 ∧ o.guard = none := ⟨_, by rw [hops]; rfl, rfl, rfl, rfl⟩
    obtain ⟨o26, po26, q26, d26, gd26⟩ : ∃ o, ops[26]? = some o ∧ o.op = .assign (.tmp 89) ∧ o.dst = some 8 ∧ o.guard = none := ⟨_, by rw [hops]; rfl, rfl, rfl, rfl⟩
    clear hops
    refine met_free po0 d0 (wanted_of gd0) (fun w' h' => run_move q0 base13 w') ?_
    refine met_free po1 d1 (wanted_of gd1) (fun w' h' => run_move q1 ((eval_other _ 64 14 _ (by decide)).trans base14) w') ?_
    refine m_enter po2 d2 (wanted_of gd2) (run_callf2 q2 rfl ((eval_other _ 65 64 _ (by decide)).trans (eval_same _ _ _ (by rw [hsz]; decide))) (eval_same _ _ _ (by simp only [put_size, hsz]; decide)) Tryd.func14 (by kernel_rfl) _) (same_any s N _ _ c2 c3 _ HSL.out (by omega) ((HW9.out.on ((Below.refl _ _).drew)).lies (some ⟨g2, 0, none⟩, s) (by simp)) ((HW9.out.on ((Below.refl _ _).drew)).lies (some ⟨g3, 0, none⟩, s) (by simp))) ?_
    rintro e w10 ⟨rfl, hb10⟩
    have HW10 := Lib.hid ((HW9.out.on ((Below.refl _ _).drew)).on hb10); clear hb10
    refine ⟨_, rfl, HW10.out, ?_⟩
    refine met_free po3 d3 (wanted_of gd3) (fun w' h' => run_move q3 (eval_same _ _ _ (by simp only [put_size, hsz]; decide)) w') ?_
    refine met_free po5 d5 (wanted_guard gd5 po3 d3 (eval_same _ _ _ (by simp only [put_size, hsz]; decide))) (fun w' h' => run_loadKey q5 ((eval_other _ 67 4 _ (by decide)).trans ((eval_other _ 66 4 _ (by decide)).trans ((eval_other _ 65 4 _ (by decide)).trans ((eval_other _ 64 4 _ (by decide)).trans base4)))) HKL.out h'.key) ?_
    refine met_free po6 d6 (wanted_guard gd6 po3 d3 ((eval_other _ 69 67 _ (by decide)).trans (eval_same _ _ _ (by simp only [put_size, hsz]; decide)))) (fun w' h' => run_loadNonce q6 ((eval_other _ 69 5 _ (by decide)).trans ((eval_other _ 67 5 _ (by decide)).trans ((eval_other _ 66 5 _ (by decide)).trans ((eval_other _ 65 5 _ (by decide)).trans ((eval_other _ 64 5 _ (by decide)).trans base5))))) HNL.out h'.nonce) ?_
    refine met_free po7 d7 (wanted_guard gd7 po3 d3 ((eval_other _ 70 67 _ (by decide)).trans ((eval_other _ 69 67 _ (by decide)).trans (eval_same _ _ _ (by simp only [put_size, hsz]; decide))))) (fun w' h' => run_move q7 ((eval_other _ 70 2 _ (by decide)).trans ((eval_other _ 69 2 _ (by decide)).trans ((eval_other _ 67 2 _ (by decide)).trans ((eval_other _ 66 2 _ (by decide)).trans ((eval_other _ 65 2 _ (by decide)).trans ((eval_other _ 64 2 _ (by decide)).trans base2)))))) w') ?_
    refine met_free po8 d8 (wanted_guard gd8 po3 d3 ((eval_other _ 71 67 _ (by decide)).trans ((eval_other _ 70 67 _ (by decide)).trans ((eval_other _ 69 67 _ (by decide)).trans (eval_same _ _ _ (by simp only [put_size, hsz]; decide)))))) (fun w' h' => run_move q8 ((eval_other _ 71 3 _ (by decide)).trans ((eval_other _ 70 3 _ (by decide)).trans ((eval_other _ 69 3 _ (by decide)).trans ((eval_other _ 67 3 _ (by decide)).trans ((eval_other _ 66 3 _ (by decide)).trans ((eval_other _ 65 3 _ (by decide)).trans ((eval_other _ 64 3 _ (by decide)).trans base3))))))) w') ?_
    refine met_free po10 d10 (wanted_guard gd10 po3 d3 ((eval_other _ 72 67 _ (by decide)).trans ((eval_other _ 71 67 _ (by decide)).trans ((eval_other _ 70 67 _ (by decide)).trans ((eval_other _ 69 67 _ (by decide)).trans (eval_same _ _ _ (by simp only [put_size, hsz]; decide))))))) (fun w' h' => run_move q10 ((eval_other _ 72 14 _ (by decide)).trans ((eval_other _ 71 14 _ (by decide)).trans ((eval_other _ 70 14 _ (by decide)).trans ((eval_other _ 69 14 _ (by decide)).trans ((eval_other _ 67 14 _ (by decide)).trans ((eval_other _ 66 14 _ (by decide)).trans ((eval_other _ 65 14 _ (by decide)).trans ((eval_other _ 64 14 _ (by decide)).trans base14)))))))) w') ?_
    refine m_enter po4 d4 (wanted_guard gd4 po3 d3 ((eval_other _ 74 67 _ (by decide)).trans ((eval_other _ 72 67 _ (by decide)).trans ((eval_other _ 71 67 _ (by decide)).trans ((eval_other _ 70 67 _ (by decide)).trans ((eval_other _ 69 67 _ (by decide)).trans (eval_same _ _ _ (by simp only [put_size, hsz]; decide)))))))) (run_callf0 q4 rfl Tryd.func11 (by kernel_rfl) _) (new_any _) ?_
    rintro e w11 ⟨v11, rfl, hb11⟩
    have HW11 := Lib.hid ((HW10.out).on hb11); clear hb11
    refine ⟨_, rfl, HW11.out, ?_⟩
    refine m_enter po9 d9 (wanted_guard gd9 po3 d3 ((eval_other _ 68 67 _ (by decide)).trans ((eval_other _ 74 67 _ (by decide)).trans ((eval_other _ 72 67 _ (by decide)).trans ((eval_other _ 71 67 _ (by decide)).trans ((eval_other _ 70 67 _ (by decide)).trans ((eval_other _ 69 67 _ (by decide)).trans (eval_same _ _ _ (by simp only [put_size, hsz]; decide))))))))) (run_callf5 q9 rfl (eval_same _ _ _ (by simp only [put_size, hsz]; decide)) ((eval_other _ 68 69 _ (by decide)).trans ((eval_other _ 74 69 _ (by decide)).trans ((eval_other _ 72 69 _ (by decide)).trans ((eval_other _ 71 69 _ (by decide)).trans ((eval_other _ 70 69 _ (by decide)).trans (eval_same _ _ _ (by simp only [put_size, hsz]; decide))))))) ((eval_other _ 68 70 _ (by decide)).trans ((eval_other _ 74 70 _ (by decide)).trans ((eval_other _ 72 70 _ (by decide)).trans ((eval_other _ 71 70 _ (by decide)).trans (eval_same _ _ _ (by simp only [put_size, hsz]; decide)))))) ((eval_other _ 68 71 _ (by decide)).trans ((eval_other _ 74 71 _ (by decide)).trans ((eval_other _ 72 71 _ (by decide)).trans (eval_same _ _ _ (by simp only [put_size, hsz]; decide))))) ((eval_other _ 68 72 _ (by decide)).trans ((eval_other _ 74 72 _ (by decide)).trans (eval_same _ _ _ (by simp only [put_size, hsz]; decide)))) Tryd.func12 (by kernel_rfl) _) (seal_any v11 key nonce head b n m p q cp cq w11 HKL.out HNL.out HHL.out HML.out (by omega) (by omega) (HW11.out.lies (p, head) (by simp)) (HW11.out.lies (q, b) (by simp)) (HQ.out.below HW11.out.below hqs)) ?_
    rintro e w12 ⟨r12, c12, rfl, hr12, hm12, ho12, hb12⟩
    rw [← HS.out] at ho12
    rw [← HN.out] at ho12 ⊢
    have HL12 := Lib.hid ho12.liesOf
    have HW12 := Lib.hid (HW11.out.on hb12); clear hb12 ho12
    refine ⟨_, rfl, HW12.out, ?_⟩
    refine m_enter po11 d11 (wanted_guard gd11 po3 d3 ((eval_other _ 73 67 _ (by decide)).trans ((eval_other _ 68 67 _ (by decide)).trans ((eval_other _ 74 67 _ (by decide)).trans ((eval_other _ 72 67 _ (by decide)).trans ((eval_other _ 71 67 _ (by decide)).trans ((eval_other _ 70 67 _ (by decide)).trans ((eval_other _ 69 67 _ (by decide)).trans (eval_same _ _ _ (by simp only [put_size, hsz]; decide)))))))))) (run_callf2 q11 rfl (eval_same _ _ _ (by simp only [put_size, hsz]; decide)) ((eval_other _ 73 74 _ (by decide)).trans ((eval_other _ 68 74 _ (by decide)).trans (eval_same _ _ _ (by simp only [put_size, hsz]; decide)))) Tryd.func14 (by kernel_rfl) _) (same_any s N _ _ c12 c3 w12 HSL.out (by omega) HL12.out (HW12.out.lies (some ⟨g3, 0, none⟩, s) (by simp))) ?_
    rintro e w13 ⟨rfl, hb13⟩
    have HW13 := Lib.hid ((HW12.out).on hb13); clear hb13
    refine ⟨_, rfl, HW13.out, ?_⟩
    refine met_free po12 d12 (wanted_of gd12) (fun w' h' => run_pick_true q12 ((eval_other _ 75 67 _ (by decide)).trans ((eval_other _ 73 67 _ (by decide)).trans ((eval_other _ 68 67 _ (by decide)).trans ((eval_other _ 74 67 _ (by decide)).trans ((eval_other _ 72 67 _ (by decide)).trans ((eval_other _ 71 67 _ (by decide)).trans ((eval_other _ 70 67 _ (by decide)).trans ((eval_other _ 69 67 _ (by decide)).trans (eval_same _ _ _ (by simp only [put_size, hsz]; decide)))))))))) (eval_same _ _ _ (by simp only [put_size, hsz]; decide)) w') ?_
    refine met_free po13 d13 (wanted_of gd13) (fun w' h' => run_move q13 (eval_same _ _ _ (by simp only [put_size, hsz]; decide)) w') ?_
    refine met_free po14 d14 (wanted_guard gd14 po13 d13 (eval_same _ _ _ (by simp only [put_size, hsz]; decide))) (fun w' h' => run_move q14 ((eval_other _ 77 9 _ (by decide)).trans ((eval_other _ 76 9 _ (by decide)).trans ((eval_other _ 75 9 _ (by decide)).trans ((eval_other _ 73 9 _ (by decide)).trans ((eval_other _ 68 9 _ (by decide)).trans ((eval_other _ 74 9 _ (by decide)).trans ((eval_other _ 72 9 _ (by decide)).trans ((eval_other _ 71 9 _ (by decide)).trans ((eval_other _ 70 9 _ (by decide)).trans ((eval_other _ 69 9 _ (by decide)).trans ((eval_other _ 67 9 _ (by decide)).trans ((eval_other _ 66 9 _ (by decide)).trans ((eval_other _ 65 9 _ (by decide)).trans ((eval_other _ 64 9 _ (by decide)).trans base9)))))))))))))) w') ?_
    refine met_free po15 d15 (wanted_guard gd15 po13 d13 ((eval_other _ 78 77 _ (by decide)).trans (eval_same _ _ _ (by simp only [put_size, hsz]; decide)))) (fun w' h' => run_move q15 ((eval_other _ 78 2 _ (by decide)).trans ((eval_other _ 77 2 _ (by decide)).trans ((eval_other _ 76 2 _ (by decide)).trans ((eval_other _ 75 2 _ (by decide)).trans ((eval_other _ 73 2 _ (by decide)).trans ((eval_other _ 68 2 _ (by decide)).trans ((eval_other _ 74 2 _ (by decide)).trans ((eval_other _ 72 2 _ (by decide)).trans ((eval_other _ 71 2 _ (by decide)).trans ((eval_other _ 70 2 _ (by decide)).trans ((eval_other _ 69 2 _ (by decide)).trans ((eval_other _ 67 2 _ (by decide)).trans ((eval_other _ 66 2 _ (by decide)).trans ((eval_other _ 65 2 _ (by decide)).trans ((eval_other _ 64 2 _ (by decide)).trans base2))))))))))))))) w') ?_
    refine m_enter po16 d16 (wanted_guard gd16 po13 d13 ((eval_other _ 79 77 _ (by decide)).trans ((eval_other _ 78 77 _ (by decide)).trans (eval_same _ _ _ (by simp only [put_size, hsz]; decide))))) (run_callf2 q16 rfl ((eval_other _ 79 78 _ (by decide)).trans (eval_same _ _ _ (by simp only [put_size, hsz]; decide))) (eval_same _ _ _ (by simp only [put_size, hsz]; decide)) Tryd.func16 (by kernel_rfl) _) (kept_any head n (n + 5) (some ⟨gx, 0, none⟩) p cx cp w13 HHL.out (by omega) (by omega) (by omega) (by omega) (HW13.out.lies (some ⟨gx, 0, none⟩, head ++ marks 5) (by simp)) (HW13.out.lies (p, head) (by simp))) ?_
    rintro e w14 ⟨rfl, hb14⟩
    have HW14 := Lib.hid ((HW13.out).on hb14); clear hb14
    refine ⟨_, rfl, HW14.out, ?_⟩
    refine met_free po17 d17 (wanted_of gd17) (fun w' h' => run_pick_true q17 ((eval_other _ 80 77 _ (by decide)).trans ((eval_other _ 79 77 _ (by decide)).trans ((eval_other _ 78 77 _ (by decide)).trans (eval_same _ _ _ (by simp only [put_size, hsz]; decide))))) (eval_same _ _ _ (by simp only [put_size, hsz]; decide)) w') ?_
    refine met_free po18 d18 (wanted_of gd18) (fun w' h' => run_move q18 (eval_same _ _ _ (by simp only [put_size, hsz]; decide)) w') ?_
    refine met_free po19 d19 (wanted_guard gd19 po18 d18 (eval_same _ _ _ (by simp only [put_size, hsz]; decide))) (fun w' h' => run_move q19 ((eval_other _ 82 10 _ (by decide)).trans ((eval_other _ 81 10 _ (by decide)).trans ((eval_other _ 80 10 _ (by decide)).trans ((eval_other _ 79 10 _ (by decide)).trans ((eval_other _ 78 10 _ (by decide)).trans ((eval_other _ 77 10 _ (by decide)).trans ((eval_other _ 76 10 _ (by decide)).trans ((eval_other _ 75 10 _ (by decide)).trans ((eval_other _ 73 10 _ (by decide)).trans ((eval_other _ 68 10 _ (by decide)).trans ((eval_other _ 74 10 _ (by decide)).trans ((eval_other _ 72 10 _ (by decide)).trans ((eval_other _ 71 10 _ (by decide)).trans ((eval_other _ 70 10 _ (by decide)).trans ((eval_other _ 69 10 _ (by decide)).trans ((eval_other _ 67 10 _ (by decide)).trans ((eval_other _ 66 10 _ (by decide)).trans ((eval_other _ 65 10 _ (by decide)).trans ((eval_other _ 64 10 _ (by decide)).trans base10))))))))))))))))))) w') ?_
    refine met_free po20 d20 (wanted_guard gd20 po18 d18 ((eval_other _ 83 82 _ (by decide)).trans (eval_same _ _ _ (by simp only [put_size, hsz]; decide)))) (fun w' h' => run_move q20 ((eval_other _ 83 3 _ (by decide)).trans ((eval_other _ 82 3 _ (by decide)).trans ((eval_other _ 81 3 _ (by decide)).trans ((eval_other _ 80 3 _ (by decide)).trans ((eval_other _ 79 3 _ (by decide)).trans ((eval_other _ 78 3 _ (by decide)).trans ((eval_other _ 77 3 _ (by decide)).trans ((eval_other _ 76 3 _ (by decide)).trans ((eval_other _ 75 3 _ (by decide)).trans ((eval_other _ 73 3 _ (by decide)).trans ((eval_other _ 68 3 _ (by decide)).trans ((eval_other _ 74 3 _ (by decide)).trans ((eval_other _ 72 3 _ (by decide)).trans ((eval_other _ 71 3 _ (by decide)).trans ((eval_other _ 70 3 _ (by decide)).trans ((eval_other _ 69 3 _ (by decide)).trans ((eval_other _ 67 3 _ (by decide)).trans ((eval_other _ 66 3 _ (by decide)).trans ((eval_other _ 65 3 _ (by decide)).trans ((eval_other _ 64 3 _ (by decide)).trans base3)))))))))))))))))))) w') ?_
    refine m_enter po21 d21 (wanted_guard gd21 po18 d18 ((eval_other _ 84 82 _ (by decide)).trans ((eval_other _ 83 82 _ (by decide)).trans (eval_same _ _ _ (by simp only [put_size, hsz]; decide))))) (run_callf2 q21 rfl ((eval_other _ 84 83 _ (by decide)).trans (eval_same _ _ _ (by simp only [put_size, hsz]; decide))) (eval_same _ _ _ (by simp only [put_size, hsz]; decide)) Tryd.func16 (by kernel_rfl) _) (kept_any b m (m + 5) (some ⟨gy, 0, none⟩) q cy cq w14 HML.out (by omega) (by omega) (by omega) (by omega) (HW14.out.lies (some ⟨gy, 0, none⟩, b ++ marks 5) (by simp)) (HW14.out.lies (q, b) (by simp))) ?_
    rintro e w14b ⟨rfl, hb14b⟩
    have HW14b := Lib.hid (HW14.out.on hb14b); clear hb14b
    refine ⟨_, rfl, HW14b.out, ?_⟩
    refine met_free po22 d22 (wanted_of gd22) (fun w' h' => run_pick_true q22 ((eval_other _ 85 82 _ (by decide)).trans ((eval_other _ 84 82 _ (by decide)).trans ((eval_other _ 83 82 _ (by decide)).trans (eval_same _ _ _ (by simp only [put_size, hsz]; decide))))) (eval_same _ _ _ (by simp only [put_size, hsz]; decide)) w') ?_
    refine met_free po23 d23 (wanted_of gd23) (fun w' h' => run_move q23 (eval_same _ _ _ (by simp only [put_size, hsz]; decide)) w') ?_
    refine m_enter po24 d24 (wanted_guard gd24 po23 d23 (eval_same _ _ _ (by simp only [put_size, hsz]; decide))) (run_callf0 q24 rfl Tryd.func9 (by kernel_rfl) _) (works5_any w14b (HQ.out.below HW14b.out.below hqs)) ?_
    rintro e w15 ⟨rfl, hb15⟩
    have HW15 := Lib.hid ((HW14b.out).on hb15); clear hb15
    refine ⟨_, rfl, HW15.out, ?_⟩
    refine met_free po25 d25 (wanted_of gd25) (fun w' h' => run_pick_true q25 ((eval_other _ 88 87 _ (by decide)).trans (eval_same _ _ _ (by simp only [put_size, hsz]; decide))) (eval_same _ _ _ (by simp only [put_size, hsz]; decide)) w') ?_
    refine met_free po26 d26 (wanted_of gd26) (fun w' h' => run_assign q26 (eval_same _ _ _ (by simp only [put_size, hsz]; decide)) w') ?_
    show NoPanic _ .normal _ _
    refine NoPanic.normal ?_
    rw [HAA.out]
    go_frame
    clear HAA
    go_wp2_with fail
    go_ret
    exact ⟨rfl, HW15.out.below⟩
end Go.Proofs.YtagkkihnfipfeaaDoor

/-
  The walk of the law AeadBack: for any key, nonce, head and bytes it returns true, and nothing that was there changes.
-/
namespace Go.Proofs.YtagkkihnfipfeaaDoor
open Go.RowKit Go.Proofs.ShaWords

attribute [local irreducible] sealOf openOf openIs xorKs
set_option maxRecDepth 100000 in
set_option maxHeartbeats 4000000 in
theorem aeBack_any (key nonce head b : List (BitVec 8)) (n m : Nat) (p q : Option Addr) (cp cq : Nat) (w : World) (hk : key.length = 32) (hn : nonce.length = 12) (hhl : head.length = n) (hml : b.length = m) (hmq : m ≤ cq) (hp : Lies w p head) (hb : Lies w q b) (hq : Quads w) :
    Calls Tryd.prog 5 #[.agg (bytesV key).toArray, .agg (bytesV nonce).toArray, .slice p n cp, .slice q m cq] w fun e w' => e = .returned (.bool true) ∧ Below w.heap.size w w' := by
  have hqs := hq.size
  have HQ := Lib.hid hq; clear hq
  have HKL := Lib.hid hk; clear hk
  have HNL := Lib.hid hn; clear hn
  have HHL := Lib.hid hhl
  have HML := Lib.hid hml
  have HLI : Hid (∀ x ∈ [(p, head), (q, b)], Lies w x.1 x.2) := show ∀ x ∈ _, _ from by
    intro x hx
    simp only [List.mem_cons, List.not_mem_nil, or_false] at hx
    rcases hx with rfl | rfl
    · exact hp
    · exact hb
  clear hp hb
  have HIK := Lib.hid (infoKey key HKL.out)
  have HIN := Lib.hid (infoNonce nonce HNL.out)
  obtain ⟨mx, hmx⟩ : ∃ mx, mx = max n m := ⟨_, rfl⟩
  have HMX := Lib.hid hmx
  by_cases hbig : 4096 < mx
  · have p0 : (4096 : Int) < (mx : Int) := by omega
    clear hmx hhl hml
    go_enter Tryd.func5, Tryd.ntmps5
    go_upto_region 1 with (fail)
    refine wp_gen (KnL w key nonce [(p, head), (q, b)]) (knl_start w key nonce _ HLI.out) ?_
    intro w0 hw0
    have HW0 := Lib.hid hw0; clear hw0
    go_wp2_with (refine wpList_max2 rfl (.tmp 17) (.tmp 19) rfl n m mx rfl rfl HMX.out ?_)
    refine (works5_any w0 (HQ.out.below HW0.out.below hqs)).mono ?_
    rintro e w1 ⟨rfl, hb1⟩
    have HW1 := Lib.hid (HW0.out.on hb1); clear hb1 HW0
    go_wp2_with fail
    go_ret
    exact ⟨rfl, HW1.out.below⟩
  · have p0 : ¬ (4096 : Int) < (mx : Int) := by omega
    have b1 : n ≤ 4096 := by omega
    have b3 : m ≤ 4096 := by omega
    have HS1 : Hid ((sealOf key nonce head b).length = m + 16) := show _ = _ by rw [sealOf_length, hml]
    have HIS := Lib.hid (openIs_seal key nonce head b)
    have HOF := Lib.hid (openOf_seal key nonce head b)
    have HMQ := Lib.hid hmq
    clear hmx hhl hbig
    go_enter Tryd.func5, Tryd.ntmps5
    go_upto_region 1 with (fail)
    refine wp_gen (KnL w key nonce [(p, head), (q, b)]) (knl_start w key nonce _ HLI.out) ?_
    intro w0 hw0
    have HW0 := Lib.hid hw0; clear hw0
    go_wp2_with (refine wpList_max2 rfl (.tmp 17) (.tmp 19) rfl n m mx rfl rfl HMX.out ?_)
    refine (new_any _).mono ?_
    rintro e w1 ⟨v1, rfl, hb1⟩
    have HW1 := Lib.hid (HW0.out.on hb1); clear hb1 HW0
    go_wp2_with (first
      | (refine wpList_load_row rfl 23 (.tmp 4) rfl w.heap.size rfl 23 (bytesV key).toArray (0, 0) _ HW1.out.key Tryd.underlying23 rfl HIK.out ?_)
      | (refine wpList_load_row rfl 25 (.tmp 5) rfl (w.heap.size + 1) rfl 25 (bytesV nonce).toArray (0, 0) _ HW1.out.nonce Tryd.underlying25 rfl HIN.out ?_))
    refine (seal_any v1 key nonce head b n m p q cp cq w1 HKL.out HNL.out HHL.out HML.out (by omega) (by omega) (HW1.out.lies (p, head) (by simp)) (HW1.out.lies (q, b) (by simp)) (HQ.out.below HW1.out.below hqs)).mono ?_
    rintro e w2 ⟨r2, c2, rfl, hr2, hm2, ho2, hb2⟩
    have HW2 := Lib.hid ((HW1.out.on hb2).add (r2, sealOf key nonce head b) ho2.liesOf); clear ho2 hb2 HW1
    obtain ⟨N, hN⟩ : ∃ N, N = m + 16 := ⟨_, rfl⟩
    have HN := Lib.hid hN
    rw [← hN] at HS1 hr2 ⊢
    have HR2 := Lib.hid hr2
    have m0 : IntKind.i64.wrap ((m : Int) + 16) = (N : Int) := by rw [IntWalk.i64_in _ (by omega)]; omega
    have hN2 : N ≤ 5000 := by omega
    clear hN
    go_wp2_with (first
      | (refine wpList_load_row rfl 23 (.tmp 4) rfl w.heap.size rfl 23 (bytesV key).toArray (0, 0) _ HW2.out.key Tryd.underlying23 rfl HIK.out ?_)
      | (refine wpList_load_row rfl 25 (.tmp 5) rfl (w.heap.size + 1) rfl 25 (bytesV nonce).toArray (0, 0) _ HW2.out.nonce Tryd.underlying25 rfl HIN.out ?_))
    refine (open_any v1 key nonce head (sealOf key nonce head b) n N p r2 cp c2 w2 HKL.out HNL.out HHL.out HS1.out (by omega) (by omega) HR2.out (HW2.out.lies (p, head) (by simp)) (HW2.out.lies (r2, sealOf key nonce head b) (by simp)) (HQ.out.below HW2.out.below hqs)).mono ?_
    rintro e w3 ⟨v3, rfl, ho3, hb3⟩
    rw [HOF.out] at ho3
    rw [HIS.out]
    obtain ⟨p3, c3, rfl, -, -, hl3⟩ := ho3.lies
    have HW3 := Lib.hid ((HW2.out.on hb3).add (p3, b) hl3); clear ho3 hl3 hb3 HW2
    rw [hml]
    go_wp2_with fail
    refine (same_any b m p3 q c3 cq w3 HML.out (by omega) (HW3.out.lies (p3, b) (by simp)) (HW3.out.lies (q, b) (by simp))).mono ?_
    rintro e w4 ⟨rfl, hb4⟩
    have HW4 := Lib.hid (HW3.out.on hb4); clear hb4 HW3
    go_wp2_with (first
      | (refine wpList_load_row rfl 23 (.tmp 4) rfl w.heap.size rfl 23 (bytesV key).toArray (0, 0) _ HW4.out.key Tryd.underlying23 rfl HIK.out ?_)
      | (refine wpList_load_row rfl 25 (.tmp 5) rfl (w.heap.size + 1) rfl 25 (bytesV nonce).toArray (0, 0) _ HW4.out.nonce Tryd.underlying25 rfl HIN.out ?_))
    refine (open_any v1 key nonce head b n m p q cp cq w4 HKL.out HNL.out HHL.out HML.out (by omega) (by omega) HMQ.out (HW4.out.lies (p, head) (by simp)) (HW4.out.lies (q, b) (by simp)) (HQ.out.below HW4.out.below hqs)).mono ?_
    rintro e w5 ⟨v5, rfl, ho5, hb5⟩
    cases his : openIs key nonce head b with
    | false =>
      rw [openOf_not his] at ho5
      obtain ⟨p5, c5, rfl, -, -, -⟩ := ho5.lies
      have HW5 := Lib.hid (HW4.out.on hb5); clear ho5 hb5 HW4 his
      go_wp2_with fail
      refine (works5_any w5 (HQ.out.below HW5.out.below hqs)).mono ?_
      rintro e w6 ⟨rfl, hb6⟩
      have HW6 := Lib.hid (HW5.out.on hb6); clear hb6 HW5
      go_wp2_with fail
      go_ret
      exact ⟨rfl, HW6.out.below⟩
    | true =>
      have HSO := Lib.hid (seal_open his)
      have hol := openOf_length his
      obtain ⟨p5, c5, rfl, -, -, hl5⟩ := ho5.lies
      obtain ⟨k, hk5⟩ : ∃ k, k = (openOf key nonce head b).length := ⟨_, rfl⟩
      rw [← hk5] at hol ⊢
      have HKL5 := Lib.hid hk5.symm
      have HW5 := Lib.hid ((HW4.out.on hb5).add (p5, openOf key nonce head b) hl5); clear ho5 hb5 hl5 HW4 his
      have m5 : IntKind.i64.wrap ((m : Int) - 16) = (k : Int) := by rw [IntWalk.i64_in _ (by omega)]; omega
      have hk2 : k ≤ 4096 := by omega
      have HKM : Hid (k + 16 = m) := show _ = _ by omega
      clear hol hk5
      go_wp2_with (first
        | (refine wpList_load_g (by rfl) 23 (.tmp 4) rfl w.heap.size rfl 23 (bytesV key).toArray (0, 0) _ HW5.out.key Tryd.underlying23 rfl HIK.out ?_)
        | (refine wpList_load_g (by rfl) 25 (.tmp 5) rfl (w.heap.size + 1) rfl 25 (bytesV nonce).toArray (0, 0) _ HW5.out.nonce Tryd.underlying25 rfl HIN.out ?_))
      refine (seal_any v1 key nonce head (openOf key nonce head b) n k p p5 cp c5 w5 HKL.out HNL.out HHL.out HKL5.out (by omega) (by omega) (HW5.out.lies (p, head) (by simp)) (HW5.out.lies (p5, openOf key nonce head b) (by simp)) (HQ.out.below HW5.out.below hqs)).mono ?_
      rintro e w6 ⟨r6, c6, rfl, hr6, hm6, ho6, hb6⟩
      rw [HSO.out] at ho6
      rw [HKM.out] at ho6 ⊢
      have HW6 := Lib.hid ((HW5.out.on hb6).add (r6, b) ho6.liesOf); clear ho6 hb6 HW5
      go_wp2_with fail
      refine (same_any b m r6 q c6 cq w6 HML.out (by omega) (HW6.out.lies (r6, b) (by simp)) (HW6.out.lies (q, b) (by simp))).mono ?_
      rintro e w7 ⟨rfl, hb7⟩
      have HW7 := Lib.hid (HW6.out.on hb7); clear hb7 HW6
      go_wp2_with fail
      refine (works5_any w7 (HQ.out.below HW7.out.below hqs)).mono ?_
      rintro e w8 ⟨rfl, hb8⟩
      have HW8 := Lib.hid (HW7.out.on hb8); clear hb8 HW7
      go_wp2_with fail
      go_ret
      exact ⟨rfl, HW8.out.below⟩
end Go.Proofs.YtagkkihnfipfeaaDoor

/-
  The walk of the law AeadTags: for any key, nonce, head, bytes and tag it returns true, and nothing that was there changes.
-/
namespace Go.Proofs.YtagkkihnfipfeaaDoor
open Go.RowKit Go.Proofs.ShaWords

theorem knl_start3 (w : World) (key nonce t : List (BitVec 8)) (L : List (Option Addr × List (BitVec 8))) (hL : ∀ x ∈ L, Lies w x.1 x.2) : KnL w key nonce ((some ⟨w.heap.size + 1 + 1, 0, none⟩, t) :: L) (((w.alloc (.cells (bytesV key).toArray 23)).alloc (.cells (bytesV nonce).toArray 25)).alloc (.cells (bytesV t).toArray 46)) :=
  KnL.add ⟨alloc3_1 _ _ _ _, alloc3_2 _ _ _ _, fun x hx => (hL x hx).below (alloc3_below _ _ _ _), alloc3_below _ _ _ _⟩ (_, t) (Or.inr ⟨_, _, rfl, BytesAt.range (alloc3_3 _ _ _ _)⟩)
attribute [local irreducible] sealOf openOf openIs xorKs
set_option maxRecDepth 100000 in
set_option maxHeartbeats 4000000 in
theorem aeTags_any (key nonce head b t : List (BitVec 8)) (n m : Nat) (p q : Option Addr) (cp cq : Nat) (w : World) (hk : key.length = 32) (hn : nonce.length = 12) (hhl : head.length = n) (hml : b.length = m) (htl : t.length = 16) (_ : m ≤ cq) (hp : Lies w p head) (hb : Lies w q b) (hq : Quads w) :
    Calls Tryd.prog 6 #[.agg (bytesV key).toArray, .agg (bytesV nonce).toArray, .slice p n cp, .slice q m cq, .agg (bytesV t).toArray] w fun e w' => e = .returned (.bool true) ∧ Below w.heap.size w w' := by
  have hqs := hq.size
  have HQ := Lib.hid hq; clear hq
  have HKL := Lib.hid hk; clear hk
  have HNL := Lib.hid hn; clear hn
  have HHL := Lib.hid hhl
  have HML := Lib.hid hml
  have HTL := Lib.hid htl; clear htl
  have HLI : Hid (∀ x ∈ [(p, head), (q, b)], Lies w x.1 x.2) := show ∀ x ∈ _, _ from by
    intro x hx
    simp only [List.mem_cons, List.not_mem_nil, or_false] at hx
    rcases hx with rfl | rfl
    · exact hp
    · exact hb
  clear hp hb
  have HIK := Lib.hid (infoKey key HKL.out)
  have HIN := Lib.hid (infoNonce nonce HNL.out)
  obtain ⟨mx, hmx⟩ : ∃ mx, mx = max n m := ⟨_, rfl⟩
  have HMX := Lib.hid hmx
  obtain ⟨gt, hgt⟩ : ∃ gt, gt = w.heap.size + 1 + 1 := ⟨_, rfl⟩
  have HGT := Lib.hid hgt; clear hgt
  have HST : Hid (KnL w key nonce [(some ⟨gt, 0, none⟩, t), (p, head), (q, b)] (((w.alloc (.cells (bytesV key).toArray 23)).alloc (.cells (bytesV nonce).toArray 25)).alloc (.cells (bytesV t).toArray 46))) := show KnL _ _ _ _ _ by rw [HGT.out]; exact knl_start3 w key nonce t _ HLI.out
  by_cases hbig : 4096 < mx
  · have p0 : (4096 : Int) < (mx : Int) := by omega
    clear hmx hhl hml
    go_enter Tryd.func6, Tryd.ntmps6
    go_upto_region 1 with (fail)
    refine wp_gen (KnL w key nonce [(some ⟨gt, 0, none⟩, t), (p, head), (q, b)]) HST.out ?_
    intro w0 hw0
    have HW0 := Lib.hid hw0; clear hw0
    go_wp2_with (refine wpList_max2 rfl (.tmp 19) (.tmp 21) rfl n m mx rfl rfl HMX.out ?_)
    refine (works5_any w0 (HQ.out.below HW0.out.below hqs)).mono ?_
    rintro e w1 ⟨rfl, hb1⟩
    have HW1 := Lib.hid (HW0.out.on hb1); clear hb1 HW0
    go_wp2_with fail
    go_ret
    exact ⟨rfl, HW1.out.below⟩
  · have p0 : ¬ (4096 : Int) < (mx : Int) := by omega
    have b1 : n ≤ 4096 := by omega
    have b3 : m ≤ 4096 := by omega
    obtain ⟨s, hs⟩ : ∃ s, s = sealOf key nonce head b := ⟨_, rfl⟩
    have HS := Lib.hid hs
    have hsl : s.length = m + 16 := by rw [hs, sealOf_length, hml]
    obtain ⟨N, hN⟩ : ∃ N, N = m + 16 := ⟨_, rfl⟩
    have HN := Lib.hid hN
    have HSL := Lib.hid (hsl.trans hN.symm)
    obtain ⟨x, hx⟩ : ∃ x, x = s.take m ++ t := ⟨_, rfl⟩
    have hxl : x.length = N := by rw [hx, List.length_append, List.length_take, HTL.out, hsl]; omega
    have HXL := Lib.hid hxl
    have HX := Lib.hid hx
    have HOX : Hid (openIs key nonce head x = decide (x = s)) := show _ = _ by rw [hx, hs, ← hml]; exact openIs_tag key nonce head b t HTL.out
    have HKL2 : Hid ((s.take m).length = m) := show _ = _ by rw [List.length_take, hsl]; omega
    have HDL : Hid ((s.drop (m + 1)).length = 15) := show _ = _ by rw [List.length_drop, hsl]; omega
    have HDI : Hid (openIs key nonce head (s.drop (m + 1)) = false) := show _ = _ from openIs_short (by rw [HDL.out]; omega)
    have HDO := Lib.hid (openOf_not HDI.out)
    have m0 : IntKind.i64.wrap ((N : Int) - 16) = (m : Int) := by rw [IntWalk.i64_in _ (by omega)]; omega
    have hN2 : N ≤ 5000 := by omega
    have p1 : ¬ (N : Int) < 16 := by omega
    have p2 : 0 ≤ (m : Int) := by omega
    clear hmx hhl hbig hs hsl hx hxl hN
    go_enter Tryd.func6, Tryd.ntmps6
    go_upto_region 1 with (fail)
    refine wp_gen (KnL w key nonce [(some ⟨gt, 0, none⟩, t), (p, head), (q, b)]) HST.out ?_
    intro w0 hw0
    have HW0 := Lib.hid hw0; clear hw0
    go_wp2_with (refine wpList_max2 rfl (.tmp 19) (.tmp 21) rfl n m mx rfl rfl HMX.out ?_)
    refine (new_any _).mono ?_
    rintro e w1 ⟨v1, rfl, hb1⟩
    have HW1 := Lib.hid (HW0.out.on hb1); clear hb1 HW0
    go_wp2_with (first
      | (refine wpList_load_row rfl 23 (.tmp 5) rfl w.heap.size rfl 23 (bytesV key).toArray (0, 0) _ HW1.out.key Tryd.underlying23 rfl HIK.out ?_)
      | (refine wpList_load_row rfl 25 (.tmp 6) rfl (w.heap.size + 1) rfl 25 (bytesV nonce).toArray (0, 0) _ HW1.out.nonce Tryd.underlying25 rfl HIN.out ?_))
    refine (seal_any v1 key nonce head b n m p q cp cq w1 HKL.out HNL.out HHL.out HML.out (by omega) (by omega) (HW1.out.lies (p, head) (by simp)) (HW1.out.lies (q, b) (by simp)) (HQ.out.below HW1.out.below hqs)).mono ?_
    rintro e w2 ⟨r2, c2, rfl, hr2, hm2, ho2, hb2⟩
    rw [← HS.out] at ho2
    rw [← HN.out] at hr2 ho2 ⊢
    obtain ⟨gs, cc, hv, hgs, hgs2, -, -, -, -⟩ := ho2.form8 (by rw [HSL.out]; omega)
    rw [HSL.out] at hv
    cases hv
    have HW2 := Lib.hid ((HW1.out.on hb2).add (some ⟨gs, 0, none⟩, s) ho2.liesOf); clear ho2 hb2 HW1
    have HR2 := Lib.hid hr2
    have p3 : (m : Int) ≤ (c2 : Int) := by have := HN.out; omega
    have p4 : ¬ c2 = m + 1 := by have := HN.out; omega
    have sz2 : w.heap.size ≤ w2.heap.size := HW2.out.below.size
    go_wp2_with fail
    refine (copy_len (s.take m) m (some ⟨gs, 0, none⟩) c2 w2 HKL2.out (by omega) (lies_take (HW2.out.lies (some ⟨gs, 0, none⟩, s) (by simp)) m)).mono ?_
    rintro e w3 ⟨v3, rfl, ho3, hb3⟩
    have HO3 := Lib.hid ho3; clear ho3
    have HW3 := Lib.hid (HW2.out.on hb3)
    have HB3 := Lib.hid hb3; clear hb3
    go_upto_region 9 with (refine wpList_append_list rfl (.tmp 41) (.tmp 42) rfl w2.heap.size _ (s.take m) t (some ⟨w.heap.size + 1 + 1, 0, none⟩) 16 rfl HO3.out (by rw [HTL.out]; rfl) (by rw [← HGT.out]; exact HW3.out.lies (some ⟨gt, 0, none⟩, t) (by simp)) (by rw [HTL.out, HKL2.out]; omega) HB3.out.size ?_; intro v4 w4 h4 b4; have HO4 := Lib.hid h4; have HB4 := Lib.hid (HB3.out.trans b4); clear h4 b4)
    rw [← HX.out] at HO4
    obtain ⟨v4p, c4, hv4, hc4, -, hl4⟩ := HO4.out.lies
    subst hv4
    rw [HXL.out] at hc4 ⊢
    have HW4 := Lib.hid ((HW2.out.on (HB4.out)).add (v4p, x) hl4); clear HO4 HB4 HB3 HO3 hl4 HW3 HW2
    go_wp2_with (first
      | (refine wpList_load_row rfl 23 (.tmp 5) rfl w.heap.size rfl 23 (bytesV key).toArray (0, 0) _ HW4.out.key Tryd.underlying23 rfl HIK.out ?_)
      | (refine wpList_load_row rfl 25 (.tmp 6) rfl (w.heap.size + 1) rfl 25 (bytesV nonce).toArray (0, 0) _ HW4.out.nonce Tryd.underlying25 rfl HIN.out ?_))
    refine (open_any v1 key nonce head x n N p v4p cp c4 w4 HKL.out HNL.out HHL.out HXL.out (by omega) (by omega) hc4 (HW4.out.lies (p, head) (by simp)) (HW4.out.lies (v4p, x) (by simp)) (HQ.out.below HW4.out.below hqs)).mono ?_
    rintro e w5 ⟨v5, rfl, ho5, hb5⟩
    rw [HOX.out]
    have HW5 := Lib.hid (HW4.out.on hb5); clear hb5 ho5 HW4
    have HK15 : Hid ((N : Int) - 15 = ((m + 1 : Nat) : Int)) := show _ = _ by have := HN.out; omega
    have HN15 : Hid (N = (m + 1) + 15) := show _ = _ by have := HN.out; omega
    obtain ⟨d, hd⟩ : ∃ d, d = decide (x = s) := ⟨_, rfl⟩
    have HD := Lib.hid hd
    rw [← hd]; clear hd
    go_upto_region 10 with (fail)
    refine region_phase (KnL w key nonce [(v4p, x), (some ⟨gs, 0, none⟩, s), (some ⟨gt, 0, none⟩, t), (p, head), (q, b)]) (fun _ => True) 9 (HW5.out.on ((Below.refl _ _).drew)) trivial [(0, .free), (1, .free), (2, .free), (3, .free), (4, .free), (5, .free), (6, .free), (7, .free), (8, .free), (9, .behind), (10, .free), (11, .free), (12, .free), (13, .free), (14, .free)] (by kernel_rfl) (by kernel_rfl) (by kernel_rfl) (by kernel_rfl) (fun ops hops A hA => ?_)
    have hsz : A.tmps.size = 78 := by rw [hA]; rfl
    have base2 : A.eval (.tmp 2) = .slice p n cp := by rw [hA]; rfl
    have base5 : A.eval (.tmp 5) = .pointer (some ⟨w.heap.size, 0, none⟩) := by rw [hA]; rfl
    have base6 : A.eval (.tmp 6) = .pointer (some ⟨w.heap.size + 1, 0, none⟩) := by rw [hA]; rfl
    have base11 : A.eval (.tmp 11) = v1 := by rw [hA]; rfl
    have base12 : A.eval (.tmp 12) = .slice (some ⟨gs, 0, none⟩) N c2 := by rw [hA]; rfl
    have HAA := Lib.hid hA; clear hA
    obtain ⟨o0, po0, q0, d0, gd0⟩ : ∃ o, ops[0]? = some o ∧ o.op = .move (.tmp 11) ∧ o.dst = some 54 ∧ o.guard = none := ⟨_, by rw [hops]; rfl, rfl, rfl, rfl⟩
    obtain ⟨o1, po1, q1, d1, gd1⟩ : ∃ o, ops[1]? = some o ∧ o.op = .load 23 (.tmp 5) ∧ o.dst = some 55 ∧ o.guard = none := ⟨_, by rw [hops]; rfl, rfl, rfl, rfl⟩
    obtain ⟨o2, po2, q2, d2, gd2⟩ : ∃ o, ops[2]? = some o ∧ o.op = .load 25 (.tmp 6) ∧ o.dst = some 56 ∧ o.guard = none := ⟨_, by rw [hops]; rfl, rfl, rfl, rfl⟩
    obtain ⟨o3, po3, q3, d3, gd3⟩ : ∃ o, ops[3]? = some o ∧ o.op = .move (.tmp 2) ∧ o.dst = some 57 ∧ o.guard = none := ⟨_, by rw [hops]; rfl, rfl, rfl, rfl⟩
    obtain ⟨o4, po4, q4, d4, gd4⟩ : ∃ o, ops[4]? = some o ∧ o.op = .move (.tmp 12) ∧ o.dst = some 58 ∧ o.guard = none := ⟨_, by rw [hops]; rfl, rfl, rfl, rfl⟩
    obtain ⟨o5, po5, q5, d5, gd5⟩ : ∃ o, ops[5]? = some o ∧ o.op = .move (.tmp 12) ∧ o.dst = some 59 ∧ o.guard = none := ⟨_, by rw [hops]; rfl, rfl, rfl, rfl⟩
    obtain ⟨o6, po6, q6, d6, gd6⟩ : ∃ o, ops[6]? = some o ∧ o.op = .call { callee := .builtin .len, args := #[.tmp 59], argTypes := #[26] } ∧ o.dst = some 60 ∧ o.guard = none := ⟨_, by rw [hops]; rfl, rfl, rfl, rfl⟩
    obtain ⟨o7, po7, q7, d7, gd7⟩ : ∃ o, ops[7]? = some o ∧ o.op = .binOp .sub 3 (.tmp 60) (.const (.int .i64 15)) 3 ∧ o.dst = some 61 ∧ o.guard = none := ⟨_, by rw [hops]; rfl, rfl, rfl, rfl⟩
    obtain ⟨o8, po8, q8, d8, gd8⟩ : ∃ o, ops[8]? = some o ∧ o.op = .slice 26 (.tmp 58) (some (.tmp 61)) none none ∧ o.dst = some 62 ∧ o.guard = none := ⟨_, by rw [hops]; rfl, rfl, rfl, rfl⟩
    obtain ⟨o9, po9, q9, d9, gd9⟩ : ∃ o, ops[9]? = some o ∧ o.op = .call { callee := .value (.func 18), args := #[.tmp 54, .tmp 55, .tmp 56, .tmp 57, .tmp 62], argTypes := #[29, 23, 25, 26, 26] } ∧ o.dst = some 63 ∧ o.guard = none := ⟨_, by rw [hops]; rfl, rfl, rfl, rfl⟩
    obtain ⟨o10, po10, q10, d10, gd10⟩ : ∃ o, ops[10]? = some o ∧ o.op = .move (.tmp 63) ∧ o.dst = some 53 ∧ o.guard = none := ⟨_, by rw [hops]; rfl, rfl, rfl, rfl⟩
    obtain ⟨o11, po11, q11, d11, gd11⟩ : ∃ o, ops[11]? = some o ∧ o.op = .extract (.tmp 53) 0 ∧ o.dst = some 64 ∧ o.guard = none := ⟨_, by rw [hops]; rfl, rfl, rfl, rfl⟩
    obtain ⟨o12, po12, q12, d12, gd12⟩ : ∃ o, ops[12]? = some o ∧ o.op = .extract (.tmp 53) 1 ∧ o.dst = some 65 ∧ o.guard = none := ⟨_, by rw [hops]; rfl, rfl, rfl, rfl⟩
    obtain ⟨o13, po13, q13, d13, gd13⟩ : ∃ o, ops[13]? = some o ∧ o.op = .assign (.tmp 64) ∧ o.dst = some 16 ∧ o.guard = none := ⟨_, by rw [hops]; rfl, rfl, rfl, rfl⟩
    obtain ⟨o14, po14, q14, d14, gd14⟩ : ∃ o, ops[14]? = some o ∧ o.op = .assign (.tmp 65) ∧ o.dst = some 17 ∧ o.guard = none := ⟨_, by rw [hops]; rfl, rfl, rfl, rfl⟩
    clear hops
    refine met_free po0 d0 (wanted_of gd0) (fun w' h' => run_move q0 base11 w') ?_
    refine met_free po1 d1 (wanted_of gd1) (fun w' h' => run_loadKey q1 ((eval_other _ 54 5 _ (by decide)).trans base5) HKL.out h'.key) ?_
    refine met_free po2 d2 (wanted_of gd2) (fun w' h' => run_loadNonce q2 ((eval_other _ 55 6 _ (by decide)).trans ((eval_other _ 54 6 _ (by decide)).trans base6)) HNL.out h'.nonce) ?_
    refine met_free po3 d3 (wanted_of gd3) (fun w' h' => run_move q3 ((eval_other _ 56 2 _ (by decide)).trans ((eval_other _ 55 2 _ (by decide)).trans ((eval_other _ 54 2 _ (by decide)).trans base2))) w') ?_
    refine met_free po4 d4 (wanted_of gd4) (fun w' h' => run_move q4 ((eval_other _ 57 12 _ (by decide)).trans ((eval_other _ 56 12 _ (by decide)).trans ((eval_other _ 55 12 _ (by decide)).trans ((eval_other _ 54 12 _ (by decide)).trans base12)))) w') ?_
    refine met_free po5 d5 (wanted_of gd5) (fun w' h' => run_move q5 ((eval_other _ 58 12 _ (by decide)).trans ((eval_other _ 57 12 _ (by decide)).trans ((eval_other _ 56 12 _ (by decide)).trans ((eval_other _ 55 12 _ (by decide)).trans ((eval_other _ 54 12 _ (by decide)).trans base12))))) w') ?_
    refine met_free po6 d6 (wanted_of gd6) (fun w' h' => run_len26 q6 (eval_same _ _ _ (by simp only [put_size, hsz]; decide)) w') ?_
    refine met_free po7 d7 (wanted_of gd7) (fun w' h' => r_subC q7 rfl (eval_same _ _ _ (by simp only [put_size, hsz]; decide)) HK15.out (by omega) w') ?_
    refine met_free po8 d8 (wanted_of gd8) (fun w' h' => r_fromK (j := 15) q8 HN15.out (by omega) HR2.out ((eval_other _ 61 58 _ (by decide)).trans ((eval_other _ 60 58 _ (by decide)).trans ((eval_other _ 59 58 _ (by decide)).trans (eval_same _ _ _ (by simp only [put_size, hsz]; decide))))) (eval_same _ _ _ (by simp only [put_size, hsz]; decide)) w') ?_
    refine m_enter po9 d9 (wanted_of gd9) (run_callf5 q9 rfl ((eval_other _ 62 54 _ (by decide)).trans ((eval_other _ 61 54 _ (by decide)).trans ((eval_other _ 60 54 _ (by decide)).trans ((eval_other _ 59 54 _ (by decide)).trans ((eval_other _ 58 54 _ (by decide)).trans ((eval_other _ 57 54 _ (by decide)).trans ((eval_other _ 56 54 _ (by decide)).trans ((eval_other _ 55 54 _ (by decide)).trans (eval_same _ _ _ (by rw [hsz]; decide)))))))))) ((eval_other _ 62 55 _ (by decide)).trans ((eval_other _ 61 55 _ (by decide)).trans ((eval_other _ 60 55 _ (by decide)).trans ((eval_other _ 59 55 _ (by decide)).trans ((eval_other _ 58 55 _ (by decide)).trans ((eval_other _ 57 55 _ (by decide)).trans ((eval_other _ 56 55 _ (by decide)).trans (eval_same _ _ _ (by simp only [put_size, hsz]; decide))))))))) ((eval_other _ 62 56 _ (by decide)).trans ((eval_other _ 61 56 _ (by decide)).trans ((eval_other _ 60 56 _ (by decide)).trans ((eval_other _ 59 56 _ (by decide)).trans ((eval_other _ 58 56 _ (by decide)).trans ((eval_other _ 57 56 _ (by decide)).trans (eval_same _ _ _ (by simp only [put_size, hsz]; decide)))))))) ((eval_other _ 62 57 _ (by decide)).trans ((eval_other _ 61 57 _ (by decide)).trans ((eval_other _ 60 57 _ (by decide)).trans ((eval_other _ 59 57 _ (by decide)).trans ((eval_other _ 58 57 _ (by decide)).trans (eval_same _ _ _ (by simp only [put_size, hsz]; decide))))))) (eval_same _ _ _ (by simp only [put_size, hsz]; decide)) Tryd.func18 (by kernel_rfl) _) (open_any v1 key nonce head (s.drop (m + 1)) n 15 p (some ⟨gs, 0 + (m + 1), none⟩) cp (c2 - (m + 1)) _ HKL.out HNL.out HHL.out HDL.out (by omega) (by omega) (by have := HN.out; omega) ((HW5.out.on ((Below.refl _ _).drew)).lies (p, head) (by simp)) (lies_drop ((HW5.out.on ((Below.refl _ _).drew)).lies (some ⟨gs, 0, none⟩, s) (by simp)) _) (HQ.out.below (HW5.out.on ((Below.refl _ _).drew)).below hqs)) ?_
    rintro e w6 ⟨v6, rfl, ho6, hb6⟩
    rw [HDI.out]
    have HW6 := Lib.hid ((HW5.out.on ((Below.refl _ _).drew)).on hb6); clear hb6 ho6
    refine ⟨_, rfl, HW6.out, ?_⟩
    refine met_free po10 d10 (wanted_of gd10) (fun w' h' => run_move q10 (eval_same _ _ _ (by simp only [put_size, hsz]; decide)) w') ?_
    refine met_free po11 d11 (wanted_of gd11) (fun w' h' => run_extract q11 (eval_same _ _ _ (by simp only [put_size, hsz]; decide)) rfl w') ?_
    refine met_free po12 d12 (wanted_of gd12) (fun w' h' => run_extract q12 ((eval_other _ 64 53 _ (by decide)).trans (eval_same _ _ _ (by simp only [put_size, hsz]; decide))) rfl w') ?_
    refine met_free po13 d13 (wanted_of gd13) (fun w' h' => run_assign q13 ((eval_other _ 65 64 _ (by decide)).trans (eval_same _ _ _ (by simp only [put_size, hsz]; decide))) w') ?_
    refine met_free po14 d14 (wanted_of gd14) (fun w' h' => run_assign q14 ((eval_other _ 16 65 _ (by decide)).trans (eval_same _ _ _ (by simp only [put_size, hsz]; decide))) w') ?_
    show NoPanic _ .normal _ _
    refine NoPanic.normal ?_
    rw [HAA.out]
    go_frame
    clear HAA
    go_wp2_with fail
    refine (sameBytes_any x s N N v4p (some ⟨gs, 0, none⟩) c4 c2 w6 HXL.out HSL.out (by omega) (by omega) (HW6.out.lies (v4p, x) (by simp)) (HW6.out.lies (some ⟨gs, 0, none⟩, s) (by simp))).mono ?_
    rintro e w7 ⟨rfl, hb7⟩
    rw [← HD.out]
    have HW7 := Lib.hid (HW6.out.on hb7); clear hb7 HW6
    cases d
    all_goals
      go_wp2_with fail
      refine (works5_any w7 (HQ.out.below HW7.out.below hqs)).mono ?_
      rintro e w8 ⟨rfl, hb8⟩
      have HW8 := Lib.hid (HW7.out.on hb8); clear hb8 HW7
      go_wp2_with fail
      go_ret
      exact ⟨rfl, HW8.out.below⟩
end Go.Proofs.YtagkkihnfipfeaaDoor

/- The kit's Row: so many bytes, 7, 8, 9 and so on, modulo 251. -/
namespace Go.Proofs.YtagkkihnfipfeaaDoor
open Go.RowKit Go.Proofs.ShaWords
def rowAt (i : Nat) : BitVec 8 := BitVec.ofNat 8 ((7 + i) % 251)
def kitRow (n : Nat) : List (BitVec 8) := (List.range n).map rowAt
theorem kitRow_succ (n : Nat) : kitRow (n + 1) = kitRow n ++ [rowAt n] := by simp [kitRow, List.range_succ]
theorem kitRow_length (n : Nat) : (kitRow n).length = n := by simp [kitRow]
theorem rowAt_eq (i : Nat) : IntKind.u8.wrap ((7 + (i : Int)) % 251) = n8 (rowAt i) := by
  unfold n8 rowAt; rw [IntKind.wrap_u8', BitVec.toNat_ofNat]; omega
attribute [local irreducible] rowAt kitRow
set_option maxHeartbeats 400000 in
theorem kitRow_any (n : Nat) (w : World) (hn : n ≤ 100000) :
    Calls Tryd.prog 23 #[.int .i64 (n : Int)] w fun e w' => ∃ v, e = .returned v ∧ Own w.heap.size w' (kitRow n) v ∧ Below w.heap.size w w' := by
  have HZ : Hid (kitRow 0 = []) := show _ = _ by unfold kitRow; rfl
  go_enter Tryd.func23, Tryd.ntmps23
  go_wp2_with fail
  go_loopw [3, 4] (fun v i wr => ∃ k : Nat, k ≤ n ∧ i = .int .i64 k ∧ Own w.heap.size wr (kitRow k) v ∧ Below w.heap.size w wr) (fun _ i _ => n - (intOf i).toNat)
  case atStart => exact ⟨0, Nat.zero_le _, rfl, by rw [HZ.out]; exact Own.nil _ _, Below.refl _ _⟩
  case round =>
    obtain ⟨k, hk, rfl, ho, hb⟩ := hrel
    have sz := hb.size
    by_cases hlt : k < n
    · have HTK := Lib.hid (kitRow_succ k)
      have HK1 : Hid ((kitRow k).length < 1099511627776) := show _ < _ by rw [kitRow_length]; omega
      have hre := rowAt_eq k
      have HO := Lib.hid ho; clear ho
      have HB := Lib.hid hb; clear hb
      go_wp2_with (at_builtin; refine wpList_append_byte rfl (.tmp 10) (.tmp 15) rfl w.heap.size _ (kitRow k) (rowAt k) rfl HO.out rfl HK1.out (by omega) ?_; intro v' w' ho' hb'; rw [← HTK.out] at ho'; have HO' := Lib.hid ho'; have HB' := Lib.hid (HB.out.trans hb'); clear ho' hb')
      go_roundw
      case rel => exact ⟨k + 1, by omega, by go_num, HO'.out, HB'.out⟩
      case measure => simp [intOf]; omega
    · have HK : Hid (k = n) := show k = n by omega
      have HO := Lib.hid ho; clear ho
      have HB := Lib.hid hb; clear hb
      go_wp2_with fail
      go_ret
      refine ⟨_, rfl, ?_, HB.out⟩
      have h1 := HO.out
      rw [HK.out] at h1
      exact h1
end Go.Proofs.YtagkkihnfipfeaaDoor

/-
  Steps of the law AeadKnown: a tag of noughts.
-/
namespace Go.Proofs.YtagkkihnfipfeaaDoor
open Go.RowKit Go.Proofs.ShaWords
theorem pow8 (R : Nat) : (2 : Int) ^ R % 256 = n8 (BitVec.ofNat 8 (2 ^ R)) := by
  unfold n8
  rw [BitVec.toNat_ofNat, show (2 : Int) = ((2 : Nat) : Int) from rfl, ← Int.natCast_pow]
  omega
section
variable {ρ : Operand → Value} {o : Oper} {x y c : Operand} {w : World}
theorem run_bT0 (ho : o.op = .build 46 #[]) (w : World) : (execOp ρ o).run Tryd.prog w = .ok (.value (.agg (bytesV (noughts 16)).toArray)) w := by
  have e : (bytesV (noughts 16)).toArray = #[.int .u8 0, .int .u8 0, .int .u8 0, .int .u8 0, .int .u8 0, .int .u8 0, .int .u8 0, .int .u8 0, .int .u8 0, .int .u8 0, .int .u8 0, .int .u8 0, .int .u8 0, .int .u8 0, .int .u8 0, .int .u8 0] := rfl
  rw [e]
  obtain ⟨dst, op, ty', pos, after, guard⟩ := o
  simp only at ho
  subst ho
  go_simp
end
end Go.Proofs.YtagkkihnfipfeaaDoor

/-
  The walk of the law AeadKnown: it returns true, and nothing that was there changes.
-/
namespace Go.Proofs.YtagkkihnfipfeaaDoor
open Go.RowKit Go.Proofs.ShaWords

attribute [local irreducible] pubKey pubText pubHead pubNonce sealOf openOf openIs kitRow
set_option maxRecDepth 100000 in
set_option maxHeartbeats 4000000 in
theorem aeKnown_any (w : World) (hq : Quads w) : Calls Tryd.prog 8 #[] w fun e w' => e = .returned (.bool true) ∧ Below w.heap.size w w' := by
  have hqs := hq.size
  have HQ := Lib.hid hq; clear hq
  have HNL : Hid (pubNonce.length = 12) := show _ = _ by unfold pubNonce; rfl
  have HKL : Hid (pubKey.length = 32) := show _ = _ by unfold pubKey; rfl
  have HHL : Hid (pubHead.length = 12) := show _ = _ by unfold pubHead; rfl
  have HTL : Hid (pubText.length = 114) := show _ = _ by unfold pubText; rfl
  have HI := Lib.hid (infoNonce _ HNL.out)
  have HIK := Lib.hid (infoKey _ HKL.out)
  have HK2 := Lib.hid (show (bytesV (noughts 32)).toArray.size = (bytesV pubKey).toArray.size by rw [bytesV_size _ 32 HKL.out, bytesV_size _ 32 (noughts_length 32)])
  have HN2 := Lib.hid (show (bytesV (noughts 12)).toArray.size = (bytesV pubNonce).toArray.size by rw [bytesV_size _ 12 HNL.out, bytesV_size _ 12 (noughts_length 12)])
  have HONE := Lib.hid (bytesV_one pubKey)
  have HONE2 := Lib.hid (bytesV_one pubNonce)
  go_enter Tryd.func8, Tryd.ntmps8
  go_upto_region 2 with (first
    | (go_at_call 22; refine (aePub_any _).mono ?_; rintro e w1 ⟨gh, gt, rfl, hh1, ht1, hgh, hgt, hb1⟩; have HH1 := Lib.hid hh1.lies; have HT1 := Lib.hid ht1.lies; have HB1 := Lib.hid hb1; clear hh1 ht1 hb1)
    | (refine wpList_store_row rfl 23 (.tmp 1) (.tmp 10) rfl w1.heap.size (bytesV pubKey).toArray rfl rfl 23 (bytesV (noughts 32)).toArray (by exact alloc2_1 _ _ _) HIK.out (by exact HK2.out) HONE.out ?_)
    | (refine wpList_store_row rfl 25 (.tmp 2) (.tmp 11) rfl (w1.heap.size + 1) (bytesV pubNonce).toArray rfl rfl 25 (bytesV (noughts 12)).toArray (by rw [setRow_other _ _ _ _ (by omega)]; exact alloc2_2 _ _ _) HI.out (by exact HN2.out) HONE2.out ?_))
  have sz1 : w.heap.size ≤ w1.heap.size := HB1.out.size
  refine wp_gen (WkW w w1.heap.size gh gt) ⟨?_, ?_, ?_, ?_, ?_⟩ ?_
  · show _ = _
    rw [setRow_other _ _ _ _ (by omega)]
    exact setRow_heap _ _ _ _ _ _ (alloc2_1 _ _ _)
  · exact setRow_heap _ _ _ _ _ _ (by rw [setRow_other _ _ _ _ (by omega)]; exact alloc2_2 _ _ _)
  · exact HH1.out.below (below_setRow (below_setRow (((Below.refl _ _).alloc (Nat.le_refl _) _).alloc (by rw [size_alloc]; omega) _) (Nat.le_refl _) _) (by omega) _)
  · exact HT1.out.below (below_setRow (below_setRow (((Below.refl _ _).alloc (Nat.le_refl _) _).alloc (by rw [size_alloc]; omega) _) (Nat.le_refl _) _) (by omega) _)
  · exact HB1.out.trans ((below_setRow (below_setRow (((Below.refl _ _).alloc (Nat.le_refl _) _).alloc (by rw [size_alloc]; omega) _) (Nat.le_refl _) _) (by omega) _).mono sz1)
  intro w2 hw2
  have HW2 := Lib.hid hw2; clear hw2 HB1 HH1 HT1
  generalize w1.heap.size = G at HW2 sz1 ⊢
  go_wp2_with fail
  go_loopw [5] (fun i wr => ∃ k : Nat, k ≤ 128 ∧ i = .int .i64 (k : Int) ∧ WkW w G gh gt wr) (fun i _ => 128 - (intOf i).toNat)
  case atStart => exact ⟨0, by omega, rfl, HW2.out⟩
  case round =>
    clear HW2
    obtain ⟨k, hk, rfl, hw⟩ := hrel
    have HW := Lib.hid hw; clear hw
    by_cases hlt : k < 128
    · have q0 : (k : Int) < 128 := by omega
      obtain ⟨D, hD⟩ : ∃ D, D = k / 8 := ⟨_, rfl⟩
      obtain ⟨R, hR⟩ : ∃ R, R = k % 8 := ⟨_, rfl⟩
      have t1 : (k : Int).tdiv 8 = (D : Int) := by rw [Int.tdiv_eq_ediv_of_nonneg (by omega)]; omega
      have t2 : IntKind.i64.wrap (D : Int) = (D : Int) := IntWalk.i64_in _ (by omega)
      have t3 : (k : Int).tmod 8 = (R : Int) := by rw [Int.tmod_eq_emod_of_nonneg (by omega)]; omega
      have t4 : IntKind.i64.wrap (R : Int) = (R : Int) := IntWalk.i64_in _ (by omega)
      have t6 : IntKind.i64.wrap (114 + (D : Int)) = ((114 + D : Nat) : Int) := by rw [IntWalk.i64_in _ (by omega)]; omega
      have hR7 : R < 8 := by omega
      clear hD hR
      go_wp2_with (first
        | (refine wpList_load_g (by rfl) 23 (.tmp 1) rfl G rfl 23 (bytesV pubKey).toArray (0, 0) _ HW.out.key Tryd.underlying23 rfl HIK.out ?_)
        | (refine wpList_load_g (by rfl) 25 (.tmp 2) rfl (G + 1) rfl 25 (bytesV pubNonce).toArray (0, 0) _ HW.out.nonce Tryd.underlying25 rfl HI.out ?_))
      rw [pow8 R]
      generalize BitVec.ofNat 8 (2 ^ R) = c5
      refine (aeOpens_any pubKey pubNonce pubHead pubText _ c5 12 114 (some ⟨gh, 0, none⟩) (some ⟨gt, 0, none⟩) 12 114 wr HKL.out HNL.out HHL.out HTL.out (by omega) (by omega) HW.out.head HW.out.text (HQ.out.below HW.out.below hqs)).mono ?_
      rintro e w3 ⟨rfl, hb3⟩
      have HW3 := Lib.hid (HW.out.on hb3); clear hb3 HW
      go_wp2_with (first
        | (refine wpList_load_g (by rfl) 23 (.tmp 1) rfl G rfl 23 (bytesV pubKey).toArray (0, 0) _ HW3.out.key Tryd.underlying23 rfl HIK.out ?_)
        | (refine wpList_load_g (by rfl) 25 (.tmp 2) rfl (G + 1) rfl 25 (bytesV pubNonce).toArray (0, 0) _ HW3.out.nonce Tryd.underlying25 rfl HI.out ?_))
      rw [pow8 R]
      generalize BitVec.ofNat 8 (2 ^ R) = c6
      refine (aeOpens_any pubKey pubNonce pubHead pubText _ c6 12 114 (some ⟨gh, 0, none⟩) (some ⟨gt, 0, none⟩) 12 114 w3 HKL.out HNL.out HHL.out HTL.out (by omega) (by omega) HW3.out.head HW3.out.text (HQ.out.below HW3.out.below hqs)).mono ?_
      rintro e w4 ⟨rfl, hb4⟩
      have HW4 := Lib.hid (HW3.out.on hb4); clear hb4 HW3
      go_wp2_with fail
      go_roundw
      case rel => exact ⟨k + 1, by omega, by go_num, HW4.out⟩
      case measure => simp [intOf]; omega
    · have q0 : ¬ (k : Int) < 128 := by omega
      clear hlt hk
      go_wp2_with fail
      rename World => w5
      go_loopw [6] (fun i wr => ∃ k : Nat, k ≤ 34 ∧ i = .int .i64 (k : Int) ∧ WkW w G gh gt wr) (fun i _ => 34 - (intOf i).toNat)
      case atStart => exact ⟨0, by omega, rfl, HW.out⟩
      case round =>
        clear HW
        obtain ⟨i, hi, rfl, hw⟩ := hrel
        have HW := Lib.hid hw; clear hw
        by_cases hlt : i < 34
        · have q1 : (i : Int) < 34 := by omega
          go_wp2_with fail
          rename World => w6
          go_loopw [7] (fun j wr => ∃ m : Nat, m ≤ 38 ∧ j = .int .i64 (m : Int) ∧ WkW w G gh gt wr) (fun j _ => 40 - (intOf j).toNat)
          case atStart => exact ⟨0, by omega, rfl, HW.out⟩
          case round =>
            clear HW
            obtain ⟨m, hm, rfl, hw⟩ := hrel
            have HW := Lib.hid hw; clear hw
            by_cases hlm : m < 34
            · have q2 : (m : Int) < 34 := by omega
              have HLI := Lib.hid (kitRow_length i)
              have HLM := Lib.hid (kitRow_length m)
              go_upto_region 13 with (fail)
              refine region_phase (WkW w G gh gt) (fun _ => True) 3 (HW.out.on ((Below.refl _ _).drew)) trivial [(0, .free), (1, .free), (2, .free), (4, .free), (3, .behind), (5, .behind), (6, .behind), (7, .free), (8, .free), (9, .free), (10, .free), (11, .free), (13, .free), (12, .behind), (14, .behind), (15, .behind), (16, .free), (17, .free), (18, .free), (19, .free), (20, .free), (21, .free), (23, .free), (25, .free), (22, .behind), (24, .behind), (26, .behind), (27, .free), (28, .free)] (by kernel_rfl) (by kernel_rfl) (by kernel_rfl) (by kernel_rfl) (fun ops hops A hA => ?_)
              have hsz : A.tmps.size = 83 := by rw [hA]; rfl
              have base1 : A.eval (.tmp 1) = .pointer (some ⟨G, 0, none⟩) := by rw [hA]; rfl
              have base2 : A.eval (.tmp 2) = .pointer (some ⟨G + 1, 0, none⟩) := by rw [hA]; rfl
              have base6 : A.eval (.tmp 6) = .int .i64 (i : Int) := by rw [hA]; rfl
              have base7 : A.eval (.tmp 7) = .int .i64 (m : Int) := by rw [hA]; rfl
              have HAA := Lib.hid hA; clear hA
              obtain ⟨o0, po0, q0, d0, gd0⟩ : ∃ o, ops[0]? = some o ∧ o.op = .load 23 (.tmp 1) ∧ o.dst = some 53 ∧ o.guard = none := ⟨_, by rw [hops]; rfl, rfl, rfl, rfl⟩
              obtain ⟨o1, po1, q1, d1, gd1⟩ : ∃ o, ops[1]? = some o ∧ o.op = .load 25 (.tmp 2) ∧ o.dst = some 54 ∧ o.guard = none := ⟨_, by rw [hops]; rfl, rfl, rfl, rfl⟩
              obtain ⟨o2, po2, q2, d2, gd2⟩ : ∃ o, ops[2]? = some o ∧ o.op = .move (.tmp 6) ∧ o.dst = some 55 ∧ o.guard = none := ⟨_, by rw [hops]; rfl, rfl, rfl, rfl⟩
              obtain ⟨o3, po3, q3, d3, gd3⟩ : ∃ o, ops[3]? = some o ∧ o.op = .call { callee := .value (.func 23), args := #[.tmp 55], argTypes := #[3] } ∧ o.dst = some 56 ∧ o.guard = none := ⟨_, by rw [hops]; rfl, rfl, rfl, rfl⟩
              obtain ⟨o4, po4, q4, d4, gd4⟩ : ∃ o, ops[4]? = some o ∧ o.op = .move (.tmp 7) ∧ o.dst = some 57 ∧ o.guard = none := ⟨_, by rw [hops]; rfl, rfl, rfl, rfl⟩
              obtain ⟨o5, po5, q5, d5, gd5⟩ : ∃ o, ops[5]? = some o ∧ o.op = .call { callee := .value (.func 23), args := #[.tmp 57], argTypes := #[3] } ∧ o.dst = some 58 ∧ o.guard = none := ⟨_, by rw [hops]; rfl, rfl, rfl, rfl⟩
              obtain ⟨o6, po6, q6, d6, gd6⟩ : ∃ o, ops[6]? = some o ∧ o.op = .call { callee := .value (.func 3), args := #[.tmp 53, .tmp 54, .tmp 56, .tmp 58], argTypes := #[23, 25, 26, 26] } ∧ o.dst = some 59 ∧ o.guard = none := ⟨_, by rw [hops]; rfl, rfl, rfl, rfl⟩
              obtain ⟨o7, po7, q7, d7, gd7⟩ : ∃ o, ops[7]? = some o ∧ o.op = .unOp .not 4 (.tmp 59) ∧ o.dst = some 60 ∧ o.guard = none := ⟨_, by rw [hops]; rfl, rfl, rfl, rfl⟩
              obtain ⟨o8, po8, q8, d8, gd8⟩ : ∃ o, ops[8]? = some o ∧ o.op = .move (.tmp 60) ∧ o.dst = some 61 ∧ o.guard = none := ⟨_, by rw [hops]; rfl, rfl, rfl, rfl⟩
              obtain ⟨o9, po9, q9, d9, gd9⟩ : ∃ o, ops[9]? = some o ∧ o.op = .load 23 (.tmp 1) ∧ o.dst = some 62 ∧ o.guard = some (8, false) := ⟨_, by rw [hops]; rfl, rfl, rfl, rfl⟩
              obtain ⟨o10, po10, q10, d10, gd10⟩ : ∃ o, ops[10]? = some o ∧ o.op = .load 25 (.tmp 2) ∧ o.dst = some 63 ∧ o.guard = some (8, false) := ⟨_, by rw [hops]; rfl, rfl, rfl, rfl⟩
              obtain ⟨o11, po11, q11, d11, gd11⟩ : ∃ o, ops[11]? = some o ∧ o.op = .move (.tmp 7) ∧ o.dst = some 64 ∧ o.guard = some (8, false) := ⟨_, by rw [hops]; rfl, rfl, rfl, rfl⟩
              obtain ⟨o12, po12, q12, d12, gd12⟩ : ∃ o, ops[12]? = some o ∧ o.op = .call { callee := .value (.func 23), args := #[.tmp 64], argTypes := #[3] } ∧ o.dst = some 65 ∧ o.guard = some (8, false) := ⟨_, by rw [hops]; rfl, rfl, rfl, rfl⟩
              obtain ⟨o13, po13, q13, d13, gd13⟩ : ∃ o, ops[13]? = some o ∧ o.op = .move (.tmp 6) ∧ o.dst = some 66 ∧ o.guard = some (8, false) := ⟨_, by rw [hops]; rfl, rfl, rfl, rfl⟩
              obtain ⟨o14, po14, q14, d14, gd14⟩ : ∃ o, ops[14]? = some o ∧ o.op = .call { callee := .value (.func 23), args := #[.tmp 66], argTypes := #[3] } ∧ o.dst = some 67 ∧ o.guard = some (8, false) := ⟨_, by rw [hops]; rfl, rfl, rfl, rfl⟩
              obtain ⟨o15, po15, q15, d15, gd15⟩ : ∃ o, ops[15]? = some o ∧ o.op = .call { callee := .value (.func 5), args := #[.tmp 62, .tmp 63, .tmp 65, .tmp 67], argTypes := #[23, 25, 26, 26] } ∧ o.dst = some 68 ∧ o.guard = some (8, false) := ⟨_, by rw [hops]; rfl, rfl, rfl, rfl⟩
              obtain ⟨o16, po16, q16, d16, gd16⟩ : ∃ o, ops[16]? = some o ∧ o.op = .unOp .not 4 (.tmp 68) ∧ o.dst = some 69 ∧ o.guard = some (8, false) := ⟨_, by rw [hops]; rfl, rfl, rfl, rfl⟩
              obtain ⟨o17, po17, q17, d17, gd17⟩ : ∃ o, ops[17]? = some o ∧ o.op = .pick (.tmp 61) (.const (.bool true)) (.tmp 69) ∧ o.dst = some 70 ∧ o.guard = none := ⟨_, by rw [hops]; rfl, rfl, rfl, rfl⟩
              obtain ⟨o18, po18, q18, d18, gd18⟩ : ∃ o, ops[18]? = some o ∧ o.op = .move (.tmp 70) ∧ o.dst = some 71 ∧ o.guard = none := ⟨_, by rw [hops]; rfl, rfl, rfl, rfl⟩
              obtain ⟨o19, po19, q19, d19, gd19⟩ : ∃ o, ops[19]? = some o ∧ o.op = .load 23 (.tmp 1) ∧ o.dst = some 72 ∧ o.guard = some (18, false) := ⟨_, by rw [hops]; rfl, rfl, rfl, rfl⟩
              obtain ⟨o20, po20, q20, d20, gd20⟩ : ∃ o, ops[20]? = some o ∧ o.op = .load 25 (.tmp 2) ∧ o.dst = some 73 ∧ o.guard = some (18, false) := ⟨_, by rw [hops]; rfl, rfl, rfl, rfl⟩
              obtain ⟨o21, po21, q21, d21, gd21⟩ : ∃ o, ops[21]? = some o ∧ o.op = .move (.tmp 6) ∧ o.dst = some 74 ∧ o.guard = some (18, false) := ⟨_, by rw [hops]; rfl, rfl, rfl, rfl⟩
              obtain ⟨o22, po22, q22, d22, gd22⟩ : ∃ o, ops[22]? = some o ∧ o.op = .call { callee := .value (.func 23), args := #[.tmp 74], argTypes := #[3] } ∧ o.dst = some 75 ∧ o.guard = some (18, false) := ⟨_, by rw [hops]; rfl, rfl, rfl, rfl⟩
              obtain ⟨o23, po23, q23, d23, gd23⟩ : ∃ o, ops[23]? = some o ∧ o.op = .move (.tmp 7) ∧ o.dst = some 76 ∧ o.guard = some (18, false) := ⟨_, by rw [hops]; rfl, rfl, rfl, rfl⟩
              obtain ⟨o24, po24, q24, d24, gd24⟩ : ∃ o, ops[24]? = some o ∧ o.op = .call { callee := .value (.func 23), args := #[.tmp 76], argTypes := #[3] } ∧ o.dst = some 77 ∧ o.guard = some (18, false) := ⟨_, by rw [hops]; rfl, rfl, rfl, rfl⟩
              obtain ⟨o25, po25, q25, d25, gd25⟩ : ∃ o, ops[25]? = some o ∧ o.op = .build 46 #[] ∧ o.dst = some 78 ∧ o.guard = some (18, false) := ⟨_, by rw [hops]; rfl, rfl, rfl, rfl⟩
              obtain ⟨o26, po26, q26, d26, gd26⟩ : ∃ o, ops[26]? = some o ∧ o.op = .call { callee := .value (.func 6), args := #[.tmp 72, .tmp 73, .tmp 75, .tmp 77, .tmp 78], argTypes := #[23, 25, 26, 26, 46] } ∧ o.dst = some 79 ∧ o.guard = some (18, false) := ⟨_, by rw [hops]; rfl, rfl, rfl, rfl⟩
              obtain ⟨o27, po27, q27, d27, gd27⟩ : ∃ o, ops[27]? = some o ∧ o.op = .unOp .not 4 (.tmp 79) ∧ o.dst = some 80 ∧ o.guard = some (18, false) := ⟨_, by rw [hops]; rfl, rfl, rfl, rfl⟩
              obtain ⟨o28, po28, q28, d28, gd28⟩ : ∃ o, ops[28]? = some o ∧ o.op = .pick (.tmp 71) (.const (.bool true)) (.tmp 80) ∧ o.dst = some 81 ∧ o.guard = none := ⟨_, by rw [hops]; rfl, rfl, rfl, rfl⟩
              clear hops
              refine met_free po0 d0 (wanted_of gd0) (fun w' h' => run_loadKey q0 base1 HKL.out h'.key) ?_
              refine met_free po1 d1 (wanted_of gd1) (fun w' h' => run_loadNonce q1 ((eval_other _ 53 2 _ (by decide)).trans base2) HNL.out h'.nonce) ?_
              refine met_free po2 d2 (wanted_of gd2) (fun w' h' => run_move q2 ((eval_other _ 54 6 _ (by decide)).trans ((eval_other _ 53 6 _ (by decide)).trans base6)) w') ?_
              refine met_free po4 d4 (wanted_of gd4) (fun w' h' => run_move q4 ((eval_other _ 55 7 _ (by decide)).trans ((eval_other _ 54 7 _ (by decide)).trans ((eval_other _ 53 7 _ (by decide)).trans base7))) w') ?_
              refine m_enter po3 d3 (wanted_of gd3) (run_callf1 q3 rfl ((eval_other _ 57 55 _ (by decide)).trans (eval_same _ _ _ (by simp only [put_size, hsz]; decide))) Tryd.func23 (by kernel_rfl) _) (kitRow_any i _ (by omega)) ?_
              rintro e wa ⟨va, rfl, hoa, hba⟩
              obtain ⟨pa, ca, rfl, hca, -, hla⟩ := hoa.lies
              rw [HLI.out] at hca ⊢
              have HWa := Lib.hid ((HW.out.on ((Below.refl _ _).drew)).on hba); clear hba hoa
              refine ⟨_, rfl, HWa.out, ?_⟩
              refine m_enter po5 d5 (wanted_of gd5) (run_callf1 q5 rfl ((eval_other _ 56 57 _ (by decide)).trans (eval_same _ _ _ (by simp only [put_size, hsz]; decide))) Tryd.func23 (by kernel_rfl) _) (kitRow_any m _ (by omega)) ?_
              rintro e wb ⟨vb, rfl, hob, hbb⟩
              obtain ⟨pb, cb, rfl, hcb, -, hlb⟩ := hob.lies
              rw [HLM.out] at hcb ⊢
              have hlan := hla.below hbb; clear hla; have hla := hlan; clear hlan
              have HWb := Lib.hid ((HWa.out).on hbb); clear hbb hob
              refine ⟨_, rfl, HWb.out, ?_⟩
              refine m_enter po6 d6 (wanted_of gd6) (run_callf4 q6 rfl ((eval_other _ 58 53 _ (by decide)).trans ((eval_other _ 56 53 _ (by decide)).trans ((eval_other _ 57 53 _ (by decide)).trans ((eval_other _ 55 53 _ (by decide)).trans ((eval_other _ 54 53 _ (by decide)).trans (eval_same _ _ _ (by rw [hsz]; decide))))))) ((eval_other _ 58 54 _ (by decide)).trans ((eval_other _ 56 54 _ (by decide)).trans ((eval_other _ 57 54 _ (by decide)).trans ((eval_other _ 55 54 _ (by decide)).trans (eval_same _ _ _ (by simp only [put_size, hsz]; decide)))))) ((eval_other _ 58 56 _ (by decide)).trans (eval_same _ _ _ (by simp only [put_size, hsz]; decide))) (eval_same _ _ _ (by simp only [put_size, hsz]; decide)) Tryd.func3 (by kernel_rfl) _) (aeSeals_any pubKey pubNonce (kitRow i) (kitRow m) i m pa pb ca cb wb HKL.out HNL.out HLI.out HLM.out hca hcb hla hlb (HQ.out.below HWb.out.below hqs)) ?_
              rintro e wx ⟨rfl, hbx⟩
              have HWx := Lib.hid ((HWb.out).on hbx); clear hbx
              refine ⟨_, rfl, HWx.out, ?_⟩
              refine met_free po7 d7 (wanted_of gd7) (fun w' h' => r_not q7 (eval_same _ _ _ (by simp only [put_size, hsz]; decide)) w') ?_
              refine met_free po8 d8 (wanted_of gd8) (fun w' h' => run_move q8 (eval_same _ _ _ (by simp only [put_size, hsz]; decide)) w') ?_
              refine met_free po9 d9 (wanted_guardF gd9 po8 d8 (eval_same _ _ _ (by simp only [put_size, hsz]; decide))) (fun w' h' => run_loadKey q9 ((eval_other _ 61 1 _ (by decide)).trans ((eval_other _ 60 1 _ (by decide)).trans ((eval_other _ 59 1 _ (by decide)).trans ((eval_other _ 58 1 _ (by decide)).trans ((eval_other _ 56 1 _ (by decide)).trans ((eval_other _ 57 1 _ (by decide)).trans ((eval_other _ 55 1 _ (by decide)).trans ((eval_other _ 54 1 _ (by decide)).trans ((eval_other _ 53 1 _ (by decide)).trans base1))))))))) HKL.out h'.key) ?_
              refine met_free po10 d10 (wanted_guardF gd10 po8 d8 ((eval_other _ 62 61 _ (by decide)).trans (eval_same _ _ _ (by simp only [put_size, hsz]; decide)))) (fun w' h' => run_loadNonce q10 ((eval_other _ 62 2 _ (by decide)).trans ((eval_other _ 61 2 _ (by decide)).trans ((eval_other _ 60 2 _ (by decide)).trans ((eval_other _ 59 2 _ (by decide)).trans ((eval_other _ 58 2 _ (by decide)).trans ((eval_other _ 56 2 _ (by decide)).trans ((eval_other _ 57 2 _ (by decide)).trans ((eval_other _ 55 2 _ (by decide)).trans ((eval_other _ 54 2 _ (by decide)).trans ((eval_other _ 53 2 _ (by decide)).trans base2)))))))))) HNL.out h'.nonce) ?_
              refine met_free po11 d11 (wanted_guardF gd11 po8 d8 ((eval_other _ 63 61 _ (by decide)).trans ((eval_other _ 62 61 _ (by decide)).trans (eval_same _ _ _ (by simp only [put_size, hsz]; decide))))) (fun w' h' => run_move q11 ((eval_other _ 63 7 _ (by decide)).trans ((eval_other _ 62 7 _ (by decide)).trans ((eval_other _ 61 7 _ (by decide)).trans ((eval_other _ 60 7 _ (by decide)).trans ((eval_other _ 59 7 _ (by decide)).trans ((eval_other _ 58 7 _ (by decide)).trans ((eval_other _ 56 7 _ (by decide)).trans ((eval_other _ 57 7 _ (by decide)).trans ((eval_other _ 55 7 _ (by decide)).trans ((eval_other _ 54 7 _ (by decide)).trans ((eval_other _ 53 7 _ (by decide)).trans base7))))))))))) w') ?_
              refine met_free po13 d13 (wanted_guardF gd13 po8 d8 ((eval_other _ 64 61 _ (by decide)).trans ((eval_other _ 63 61 _ (by decide)).trans ((eval_other _ 62 61 _ (by decide)).trans (eval_same _ _ _ (by simp only [put_size, hsz]; decide)))))) (fun w' h' => run_move q13 ((eval_other _ 64 6 _ (by decide)).trans ((eval_other _ 63 6 _ (by decide)).trans ((eval_other _ 62 6 _ (by decide)).trans ((eval_other _ 61 6 _ (by decide)).trans ((eval_other _ 60 6 _ (by decide)).trans ((eval_other _ 59 6 _ (by decide)).trans ((eval_other _ 58 6 _ (by decide)).trans ((eval_other _ 56 6 _ (by decide)).trans ((eval_other _ 57 6 _ (by decide)).trans ((eval_other _ 55 6 _ (by decide)).trans ((eval_other _ 54 6 _ (by decide)).trans ((eval_other _ 53 6 _ (by decide)).trans base6)))))))))))) w') ?_
              refine m_enter po12 d12 (wanted_guardF gd12 po8 d8 ((eval_other _ 66 61 _ (by decide)).trans ((eval_other _ 64 61 _ (by decide)).trans ((eval_other _ 63 61 _ (by decide)).trans ((eval_other _ 62 61 _ (by decide)).trans (eval_same _ _ _ (by simp only [put_size, hsz]; decide))))))) (run_callf1 q12 rfl ((eval_other _ 66 64 _ (by decide)).trans (eval_same _ _ _ (by simp only [put_size, hsz]; decide))) Tryd.func23 (by kernel_rfl) _) (kitRow_any m _ (by omega)) ?_
              rintro e wc ⟨vc, rfl, hoc, hbc⟩
              obtain ⟨pc, cc, rfl, hcc, -, hlc⟩ := hoc.lies
              rw [HLM.out] at hcc ⊢
              have HWc := Lib.hid ((HWx.out).on hbc); clear hbc hoc
              refine ⟨_, rfl, HWc.out, ?_⟩
              refine m_enter po14 d14 (wanted_guardF gd14 po8 d8 ((eval_other _ 65 61 _ (by decide)).trans ((eval_other _ 66 61 _ (by decide)).trans ((eval_other _ 64 61 _ (by decide)).trans ((eval_other _ 63 61 _ (by decide)).trans ((eval_other _ 62 61 _ (by decide)).trans (eval_same _ _ _ (by simp only [put_size, hsz]; decide)))))))) (run_callf1 q14 rfl ((eval_other _ 65 66 _ (by decide)).trans (eval_same _ _ _ (by simp only [put_size, hsz]; decide))) Tryd.func23 (by kernel_rfl) _) (kitRow_any i _ (by omega)) ?_
              rintro e wd ⟨vd, rfl, hod, hbd⟩
              obtain ⟨pd, cd, rfl, hcd, -, hld⟩ := hod.lies
              rw [HLI.out] at hcd ⊢
              have hlcn := hlc.below hbd; clear hlc; have hlc := hlcn; clear hlcn
              have HWd := Lib.hid ((HWc.out).on hbd); clear hbd hod
              refine ⟨_, rfl, HWd.out, ?_⟩
              refine m_enter po15 d15 (wanted_guardF gd15 po8 d8 ((eval_other _ 67 61 _ (by decide)).trans ((eval_other _ 65 61 _ (by decide)).trans ((eval_other _ 66 61 _ (by decide)).trans ((eval_other _ 64 61 _ (by decide)).trans ((eval_other _ 63 61 _ (by decide)).trans ((eval_other _ 62 61 _ (by decide)).trans (eval_same _ _ _ (by simp only [put_size, hsz]; decide))))))))) (run_callf4 q15 rfl ((eval_other _ 67 62 _ (by decide)).trans ((eval_other _ 65 62 _ (by decide)).trans ((eval_other _ 66 62 _ (by decide)).trans ((eval_other _ 64 62 _ (by decide)).trans ((eval_other _ 63 62 _ (by decide)).trans (eval_same _ _ _ (by simp only [put_size, hsz]; decide))))))) ((eval_other _ 67 63 _ (by decide)).trans ((eval_other _ 65 63 _ (by decide)).trans ((eval_other _ 66 63 _ (by decide)).trans ((eval_other _ 64 63 _ (by decide)).trans (eval_same _ _ _ (by simp only [put_size, hsz]; decide)))))) ((eval_other _ 67 65 _ (by decide)).trans (eval_same _ _ _ (by simp only [put_size, hsz]; decide))) (eval_same _ _ _ (by simp only [put_size, hsz]; decide)) Tryd.func5 (by kernel_rfl) _) (aeBack_any pubKey pubNonce (kitRow m) (kitRow i) m i pc pd cc cd wd HKL.out HNL.out HLM.out HLI.out hcd hlc hld (HQ.out.below HWd.out.below hqs)) ?_
              rintro e wy ⟨rfl, hby⟩
              have HWy := Lib.hid ((HWd.out).on hby); clear hby
              refine ⟨_, rfl, HWy.out, ?_⟩
              refine met_free po16 d16 (wanted_guardF gd16 po8 d8 ((eval_other _ 68 61 _ (by decide)).trans ((eval_other _ 67 61 _ (by decide)).trans ((eval_other _ 65 61 _ (by decide)).trans ((eval_other _ 66 61 _ (by decide)).trans ((eval_other _ 64 61 _ (by decide)).trans ((eval_other _ 63 61 _ (by decide)).trans ((eval_other _ 62 61 _ (by decide)).trans (eval_same _ _ _ (by simp only [put_size, hsz]; decide)))))))))) (fun w' h' => r_not q16 (eval_same _ _ _ (by simp only [put_size, hsz]; decide)) w') ?_
              refine met_free po17 d17 (wanted_of gd17) (fun w' h' => r_pickF q17 ((eval_other _ 69 61 _ (by decide)).trans ((eval_other _ 68 61 _ (by decide)).trans ((eval_other _ 67 61 _ (by decide)).trans ((eval_other _ 65 61 _ (by decide)).trans ((eval_other _ 66 61 _ (by decide)).trans ((eval_other _ 64 61 _ (by decide)).trans ((eval_other _ 63 61 _ (by decide)).trans ((eval_other _ 62 61 _ (by decide)).trans (eval_same _ _ _ (by simp only [put_size, hsz]; decide)))))))))) (eval_same _ _ _ (by simp only [put_size, hsz]; decide)) w') ?_
              refine met_free po18 d18 (wanted_of gd18) (fun w' h' => run_move q18 (eval_same _ _ _ (by simp only [put_size, hsz]; decide)) w') ?_
              refine met_free po19 d19 (wanted_guardF gd19 po18 d18 (eval_same _ _ _ (by simp only [put_size, hsz]; decide))) (fun w' h' => run_loadKey q19 ((eval_other _ 71 1 _ (by decide)).trans ((eval_other _ 70 1 _ (by decide)).trans ((eval_other _ 69 1 _ (by decide)).trans ((eval_other _ 68 1 _ (by decide)).trans ((eval_other _ 67 1 _ (by decide)).trans ((eval_other _ 65 1 _ (by decide)).trans ((eval_other _ 66 1 _ (by decide)).trans ((eval_other _ 64 1 _ (by decide)).trans ((eval_other _ 63 1 _ (by decide)).trans ((eval_other _ 62 1 _ (by decide)).trans ((eval_other _ 61 1 _ (by decide)).trans ((eval_other _ 60 1 _ (by decide)).trans ((eval_other _ 59 1 _ (by decide)).trans ((eval_other _ 58 1 _ (by decide)).trans ((eval_other _ 56 1 _ (by decide)).trans ((eval_other _ 57 1 _ (by decide)).trans ((eval_other _ 55 1 _ (by decide)).trans ((eval_other _ 54 1 _ (by decide)).trans ((eval_other _ 53 1 _ (by decide)).trans base1))))))))))))))))))) HKL.out h'.key) ?_
              refine met_free po20 d20 (wanted_guardF gd20 po18 d18 ((eval_other _ 72 71 _ (by decide)).trans (eval_same _ _ _ (by simp only [put_size, hsz]; decide)))) (fun w' h' => run_loadNonce q20 ((eval_other _ 72 2 _ (by decide)).trans ((eval_other _ 71 2 _ (by decide)).trans ((eval_other _ 70 2 _ (by decide)).trans ((eval_other _ 69 2 _ (by decide)).trans ((eval_other _ 68 2 _ (by decide)).trans ((eval_other _ 67 2 _ (by decide)).trans ((eval_other _ 65 2 _ (by decide)).trans ((eval_other _ 66 2 _ (by decide)).trans ((eval_other _ 64 2 _ (by decide)).trans ((eval_other _ 63 2 _ (by decide)).trans ((eval_other _ 62 2 _ (by decide)).trans ((eval_other _ 61 2 _ (by decide)).trans ((eval_other _ 60 2 _ (by decide)).trans ((eval_other _ 59 2 _ (by decide)).trans ((eval_other _ 58 2 _ (by decide)).trans ((eval_other _ 56 2 _ (by decide)).trans ((eval_other _ 57 2 _ (by decide)).trans ((eval_other _ 55 2 _ (by decide)).trans ((eval_other _ 54 2 _ (by decide)).trans ((eval_other _ 53 2 _ (by decide)).trans base2)))))))))))))))))))) HNL.out h'.nonce) ?_
              refine met_free po21 d21 (wanted_guardF gd21 po18 d18 ((eval_other _ 73 71 _ (by decide)).trans ((eval_other _ 72 71 _ (by decide)).trans (eval_same _ _ _ (by simp only [put_size, hsz]; decide))))) (fun w' h' => run_move q21 ((eval_other _ 73 6 _ (by decide)).trans ((eval_other _ 72 6 _ (by decide)).trans ((eval_other _ 71 6 _ (by decide)).trans ((eval_other _ 70 6 _ (by decide)).trans ((eval_other _ 69 6 _ (by decide)).trans ((eval_other _ 68 6 _ (by decide)).trans ((eval_other _ 67 6 _ (by decide)).trans ((eval_other _ 65 6 _ (by decide)).trans ((eval_other _ 66 6 _ (by decide)).trans ((eval_other _ 64 6 _ (by decide)).trans ((eval_other _ 63 6 _ (by decide)).trans ((eval_other _ 62 6 _ (by decide)).trans ((eval_other _ 61 6 _ (by decide)).trans ((eval_other _ 60 6 _ (by decide)).trans ((eval_other _ 59 6 _ (by decide)).trans ((eval_other _ 58 6 _ (by decide)).trans ((eval_other _ 56 6 _ (by decide)).trans ((eval_other _ 57 6 _ (by decide)).trans ((eval_other _ 55 6 _ (by decide)).trans ((eval_other _ 54 6 _ (by decide)).trans ((eval_other _ 53 6 _ (by decide)).trans base6))))))))))))))))))))) w') ?_
              refine met_free po23 d23 (wanted_guardF gd23 po18 d18 ((eval_other _ 74 71 _ (by decide)).trans ((eval_other _ 73 71 _ (by decide)).trans ((eval_other _ 72 71 _ (by decide)).trans (eval_same _ _ _ (by simp only [put_size, hsz]; decide)))))) (fun w' h' => run_move q23 ((eval_other _ 74 7 _ (by decide)).trans ((eval_other _ 73 7 _ (by decide)).trans ((eval_other _ 72 7 _ (by decide)).trans ((eval_other _ 71 7 _ (by decide)).trans ((eval_other _ 70 7 _ (by decide)).trans ((eval_other _ 69 7 _ (by decide)).trans ((eval_other _ 68 7 _ (by decide)).trans ((eval_other _ 67 7 _ (by decide)).trans ((eval_other _ 65 7 _ (by decide)).trans ((eval_other _ 66 7 _ (by decide)).trans ((eval_other _ 64 7 _ (by decide)).trans ((eval_other _ 63 7 _ (by decide)).trans ((eval_other _ 62 7 _ (by decide)).trans ((eval_other _ 61 7 _ (by decide)).trans ((eval_other _ 60 7 _ (by decide)).trans ((eval_other _ 59 7 _ (by decide)).trans ((eval_other _ 58 7 _ (by decide)).trans ((eval_other _ 56 7 _ (by decide)).trans ((eval_other _ 57 7 _ (by decide)).trans ((eval_other _ 55 7 _ (by decide)).trans ((eval_other _ 54 7 _ (by decide)).trans ((eval_other _ 53 7 _ (by decide)).trans base7)))))))))))))))))))))) w') ?_
              refine met_free po25 d25 (wanted_guardF gd25 po18 d18 ((eval_other _ 76 71 _ (by decide)).trans ((eval_other _ 74 71 _ (by decide)).trans ((eval_other _ 73 71 _ (by decide)).trans ((eval_other _ 72 71 _ (by decide)).trans (eval_same _ _ _ (by simp only [put_size, hsz]; decide))))))) (fun w' h' => run_bT0 q25 w') ?_
              refine m_enter po22 d22 (wanted_guardF gd22 po18 d18 ((eval_other _ 78 71 _ (by decide)).trans ((eval_other _ 76 71 _ (by decide)).trans ((eval_other _ 74 71 _ (by decide)).trans ((eval_other _ 73 71 _ (by decide)).trans ((eval_other _ 72 71 _ (by decide)).trans (eval_same _ _ _ (by simp only [put_size, hsz]; decide)))))))) (run_callf1 q22 rfl ((eval_other _ 78 74 _ (by decide)).trans ((eval_other _ 76 74 _ (by decide)).trans (eval_same _ _ _ (by simp only [put_size, hsz]; decide)))) Tryd.func23 (by kernel_rfl) _) (kitRow_any i _ (by omega)) ?_
              rintro e we ⟨ve, rfl, hoe, hbe⟩
              obtain ⟨pe, ce, rfl, hce, -, hle⟩ := hoe.lies
              rw [HLI.out] at hce ⊢
              have HWe := Lib.hid ((HWy.out).on hbe); clear hbe hoe
              refine ⟨_, rfl, HWe.out, ?_⟩
              refine m_enter po24 d24 (wanted_guardF gd24 po18 d18 ((eval_other _ 75 71 _ (by decide)).trans ((eval_other _ 78 71 _ (by decide)).trans ((eval_other _ 76 71 _ (by decide)).trans ((eval_other _ 74 71 _ (by decide)).trans ((eval_other _ 73 71 _ (by decide)).trans ((eval_other _ 72 71 _ (by decide)).trans (eval_same _ _ _ (by simp only [put_size, hsz]; decide))))))))) (run_callf1 q24 rfl ((eval_other _ 75 76 _ (by decide)).trans ((eval_other _ 78 76 _ (by decide)).trans (eval_same _ _ _ (by simp only [put_size, hsz]; decide)))) Tryd.func23 (by kernel_rfl) _) (kitRow_any m _ (by omega)) ?_
              rintro e wf ⟨vf, rfl, hof, hbf⟩
              obtain ⟨pf, cf, rfl, hcf, -, hlf⟩ := hof.lies
              rw [HLM.out] at hcf ⊢
              have hlen := hle.below hbf; clear hle; have hle := hlen; clear hlen
              have HWf := Lib.hid ((HWe.out).on hbf); clear hbf hof
              refine ⟨_, rfl, HWf.out, ?_⟩
              refine m_enter po26 d26 (wanted_guardF gd26 po18 d18 ((eval_other _ 77 71 _ (by decide)).trans ((eval_other _ 75 71 _ (by decide)).trans ((eval_other _ 78 71 _ (by decide)).trans ((eval_other _ 76 71 _ (by decide)).trans ((eval_other _ 74 71 _ (by decide)).trans ((eval_other _ 73 71 _ (by decide)).trans ((eval_other _ 72 71 _ (by decide)).trans (eval_same _ _ _ (by simp only [put_size, hsz]; decide)))))))))) (run_callf5 q26 rfl ((eval_other _ 77 72 _ (by decide)).trans ((eval_other _ 75 72 _ (by decide)).trans ((eval_other _ 78 72 _ (by decide)).trans ((eval_other _ 76 72 _ (by decide)).trans ((eval_other _ 74 72 _ (by decide)).trans ((eval_other _ 73 72 _ (by decide)).trans (eval_same _ _ _ (by simp only [put_size, hsz]; decide)))))))) ((eval_other _ 77 73 _ (by decide)).trans ((eval_other _ 75 73 _ (by decide)).trans ((eval_other _ 78 73 _ (by decide)).trans ((eval_other _ 76 73 _ (by decide)).trans ((eval_other _ 74 73 _ (by decide)).trans (eval_same _ _ _ (by simp only [put_size, hsz]; decide))))))) ((eval_other _ 77 75 _ (by decide)).trans (eval_same _ _ _ (by simp only [put_size, hsz]; decide))) (eval_same _ _ _ (by simp only [put_size, hsz]; decide)) ((eval_other _ 77 78 _ (by decide)).trans ((eval_other _ 75 78 _ (by decide)).trans (eval_same _ _ _ (by simp only [put_size, hsz]; decide)))) Tryd.func6 (by kernel_rfl) _) (aeTags_any pubKey pubNonce (kitRow i) (kitRow m) (noughts 16) i m pe pf ce cf wf HKL.out HNL.out HLI.out HLM.out (noughts_length 16) hcf hle hlf (HQ.out.below HWf.out.below hqs)) ?_
              rintro e wz ⟨rfl, hbz⟩
              have HWz := Lib.hid ((HWf.out).on hbz); clear hbz
              refine ⟨_, rfl, HWz.out, ?_⟩
              refine met_free po27 d27 (wanted_guardF gd27 po18 d18 ((eval_other _ 79 71 _ (by decide)).trans ((eval_other _ 77 71 _ (by decide)).trans ((eval_other _ 75 71 _ (by decide)).trans ((eval_other _ 78 71 _ (by decide)).trans ((eval_other _ 76 71 _ (by decide)).trans ((eval_other _ 74 71 _ (by decide)).trans ((eval_other _ 73 71 _ (by decide)).trans ((eval_other _ 72 71 _ (by decide)).trans (eval_same _ _ _ (by simp only [put_size, hsz]; decide))))))))))) (fun w' h' => r_not q27 (eval_same _ _ _ (by simp only [put_size, hsz]; decide)) w') ?_
              refine met_free po28 d28 (wanted_of gd28) (fun w' h' => r_pickF q28 ((eval_other _ 80 71 _ (by decide)).trans ((eval_other _ 79 71 _ (by decide)).trans ((eval_other _ 77 71 _ (by decide)).trans ((eval_other _ 75 71 _ (by decide)).trans ((eval_other _ 78 71 _ (by decide)).trans ((eval_other _ 76 71 _ (by decide)).trans ((eval_other _ 74 71 _ (by decide)).trans ((eval_other _ 73 71 _ (by decide)).trans ((eval_other _ 72 71 _ (by decide)).trans (eval_same _ _ _ (by simp only [put_size, hsz]; decide))))))))))) (eval_same _ _ _ (by simp only [put_size, hsz]; decide)) w') ?_
              show NoPanic _ .normal _ _
              refine NoPanic.normal ?_
              rw [HAA.out]
              go_frame
              clear HAA
              go_wp2_with fail
              go_roundw
              case rel => exact ⟨m + 5, by omega, by go_num, HWz.out⟩
              case measure => simp [intOf]; omega
            · have q2 : ¬ (m : Int) < 34 := by omega
              go_wp2_with fail
              go_roundw
              case rel => exact ⟨i + 1, by omega, by go_num, HW.out⟩
              case measure => simp [intOf]; omega
        · have q1 : ¬ (i : Int) < 34 := by omega
          go_wp2_with fail
          rename World => w9
          refine (works5_any w9 (HQ.out.below HW.out.below hqs)).mono ?_
          rintro e wx ⟨rfl, hbx⟩
          have HX := Lib.hid (HW.out.on hbx); clear hbx
          go_wp2_with fail
          go_ret
          exact ⟨rfl, HX.out.below⟩
end Go.Proofs.YtagkkihnfipfeaaDoor

/-
  AeadKnown: the law returns true; the package's table starts as the program's own text lays it (the tie is given).
-/
namespace Go.Proofs.YtagkkihnfipfeaaDoor
open Go.ChangeShapes Go.WideShapes Go.ChangeAt Go.RowKit Go.Proofs.ShaWords

set_option maxRecDepth 100000 in
theorem aeadKnown_lifted (os : Os) (started : os.Started) (H : Type) (enc : TypeId × Value → H) :
    ReturnsInHanded {} Tryd.checked os 8 .any (fun w args => (Rows.aeadKnownSpec.pre enc Tryd.prog Tryd.f8 [] false w args ∧ laidMetH Tryd.prog laid3 w) ∧ sizedMet enc Tryd.prog Tryd.f8 (OpenSpec.ofChange Rows.aeadKnownSpec) false w args)
      (Rows.aeadKnownSpec.post enc Tryd.prog Tryd.f8 false true false false) := by
  refine returnsInHanded_of_change_and (C := Tryd.checked) (X := fun w _ => laidMetH Tryd.prog laid3 w) (fun _ _ _ hh h => h.of_heap hh) own started (by kernel_rfl) Tryd.func8
    (ChangeSpec.witness_shaped (enc := enc) (C := Tryd.checked) (os := os) (X := fun w _ => laidMetH Tryd.prog laid3 w) false (World.doorLaid Tryd.prog 400 os) #[] 8 rfl (World.shaped_of_RefB (by kernel_rfl) (by kernel_rfl)) (by kernel_rfl) (by kernel_rfl) (by kernel_rfl) (door_met3 os _)) ?_
  intro W base args ds gs before hval0 hW _ hsz hL _
  have hW' := hW
  obtain ⟨p, q, hA0, hV, rfl, hfz, hnd⟩ := hW
  have hA : DataW.TrodAll enc Tryd.prog W 0 (fun _ => true) true Tryd.f8.params.toList args.toList ds p := hA0
  have hval : ∀ (j : Nat) t v, Tryd.f8.params[j]? = some t → args[j]? = some v → Value.okWide Tryd.prog W .any base t v := hval0
  have hsz2 : (DataW.weightsEach Tryd.prog (Tryd.f8.params.toList ++ Rows.aeadKnownSpec.plain.varTypes Tryd.prog) (ds ++ gs)).all (· ≤ reachBytes) = true := hsz
  rw [Tryd.params8] at hA hval hsz2
  obtain ⟨hargs, rfl, rfl⟩ := trodAll_nil hA
  obtain rfl : args = #[] := by cases args; simp_all
  obtain ⟨rfl, rfl⟩ := trodVars_none hV
  have hQ := of_laid3 hL
  clear hA0 hval0
  refine (aeKnown_any W hQ).mono fun e W' ⟨he, bel⟩ => ?_
  subst he
  exact ⟨_, rfl, _, _, _, [], _, [], hW', trodAll_mk1 (shut_bool Tryd.underlying4 _), trodAll_mk0, rfl, bel.frame _, fun h => by cases h⟩

theorem aeadKnown_holds : Rows.AeadKnownSaid :=
  OpenClaim.holds_of_wide 8 Tryd.f8 rfl rfl rfl rfl rfl rfl rfl ⟨rfl, rfl, rfl, rfl, rfl⟩ rfl rfl rfl rfl rfl (by kernel_rfl) Tryd.func8 (by kernel_rfl)
    (of_decide_eq_true (by kernel_rfl)) (by unfold Func.isWrapper; first | (rw [if_pos (by decide +kernel)]; kernel_rfl) | (rw [if_neg (by decide +kernel)]; exact ⟨rfl, rfl⟩))
    (fun os started H enc _ => aeadKnown_lifted os started H enc)

theorem aeadKnown_card : Rows.AeadKnownCardSaid :=
  Claim7.holds_tied_plain_at .later [] [.data] true Rows.aeadKnownCard.stood.harness false
    aeadKnown_holds (fun _ h => by cases h) (by kernel_rfl) (fun _ h => by cases h) aeadKnown_row_tie rfl ⟨rfl, rfl⟩ (by kernel_rfl) rfl
    (fun f fn hf hfn => by
      obtain rfl : f = 8 := Option.some.inj (hf.symm.trans (show _ = some 8 by kernel_rfl))
      obtain rfl : fn = Tryd.f8 := (Option.some.inj (Tryd.func8.symm.trans hfn)).symm
      exact ⟨by kernel_rfl, fun j t ht => by
        rw [Tryd.params8] at ht
        simp at ht⟩)
    (by kernel_rfl)
#print axioms aeadKnown_card
end Go.Proofs.YtagkkihnfipfeaaDoor
