/-
  AeadOpens, for any key, nonce, head, bytes, place and bits: the law returns true, and what came in reads afterwards as it read before; the package's table starts as the program's own text lays it (the tie is given).
-/
import Derived.Test.YtagkkihnfipfeaaDoorPkA
import Derived.Test.YtagkkihnfipfeaaDoorPkE
import Derived.Test.YtagkkihnfipfeaaDoorPkS
import Derived.Test.YtagkkihnfipfeaaDoorPkU
import Derived.Test.YtagkkihnfipfeaaDoorTie
import Derived.Test.YtagkkihnfipfeaaDoorCards
import Derived.SevenTiedAt
/-
  Three slices of bytes in a block, and what else the law AeadOpens has in memory.
-/
namespace Go.Proofs.YtagkkihnfipfeaaDoor
open Go.RowKit Go.Proofs.ShaWords
theorem r_ixRows {ρ : Operand → Value} {o : Oper} {x y : Operand} {b n c k : Nat} (ho : o.op = .indexAddr 39 x y) (hx : ρ x = .slice (some ⟨b, 0, none⟩) n c) (hy : ρ y = .int .i64 (k : Int)) (hk : k < n) (w : World) :
    (execOp ρ o).run Tryd.prog w = .ok (.value (.pointer (some ⟨b, k, none⟩))) w := by
  obtain ⟨dst, op, ty', pos, after, guard⟩ := o
  simp only at ho
  subst ho
  have q : (k : Int) < (n : Int) := by omega
  go_simp
theorem own_high {B : Nat} {w : World} {l : List (BitVec 8)} {p : Option Addr} {n c g : Nat} (h : Own B w l (.slice p n c)) (hg : g < B) : Reads w g p l := by
  rcases h.2 with ⟨h0, h1⟩ | ⟨g', cap', cur, he, hg', hh, _⟩
  · exact Or.inl (List.length_eq_zero_iff.1 h1)
  · have hl := h.liesOf
    cases he
    exact lies_apart hl rfl (by omega)
theorem KnL.pastO {w wr w' : World} {key nonce : List (BitVec 8)} {L L' : List (Option Addr × List (BitVec 8))} {r : Option Nat} (h : KnL w key nonce L wr) (hg : wr.grownBy w' r) (hr : ∀ g, r = some g → w.heap.size + 1 < g ∧ ∀ x ∈ L', Reads wr g x.1 x.2) (hl : ∀ x ∈ L', Lies wr x.1 x.2) : KnL w key nonce L' w' := by
  cases r with
  | some g => exact h.past hg (hr g rfl).1 (hr g rfl).2
  | none =>
    have hg' : wr.grownBy w' (some wr.heap.size) := ⟨hg.os, hg.tape, hg.output, hg.size, fun k hk _ => hg.block k hk (by simp)⟩
    exact h.past hg' h.nonce.size (fun x hx => lies_low (hl x hx) (Below.refl _ _) (Nat.le_refl _))
/-- And a block of three slices. -/
structure KnO (w : World) (key nonce : List (BitVec 8)) (R : Nat) (C : Array Value) (L : List (Option Addr × List (BitVec 8))) (wr : World) : Prop where
  kn : KnL w key nonce L wr
  row : wr.heap[R]? = some (.cells C 26 (0, 0))
theorem KnO.lies {w wr : World} {key nonce : List (BitVec 8)} {R : Nat} {C : Array Value} {L : List (Option Addr × List (BitVec 8))} (h : KnO w key nonce R C L wr) : ∀ x ∈ L, Lies wr x.1 x.2 := h.kn.lies
theorem KnO.below {w wr : World} {key nonce : List (BitVec 8)} {R : Nat} {C : Array Value} {L : List (Option Addr × List (BitVec 8))} (h : KnO w key nonce R C L wr) : Below w.heap.size w wr := h.kn.below
theorem KnO.on {w wr w' : World} {key nonce : List (BitVec 8)} {R : Nat} {C : Array Value} {L : List (Option Addr × List (BitVec 8))} (h : KnO w key nonce R C L wr) (hb : Below wr.heap.size wr w') : KnO w key nonce R C L w' :=
  ⟨h.kn.on hb, (hb.block _ (Array.getElem?_eq_some_iff.1 h.row).1).trans h.row⟩
theorem KnO.add {w wr : World} {key nonce : List (BitVec 8)} {R : Nat} {C : Array Value} {L : List (Option Addr × List (BitVec 8))} (h : KnO w key nonce R C L wr) (x : Option Addr × List (BitVec 8)) (hx : Lies wr x.1 x.2) : KnO w key nonce R C (x :: L) wr := ⟨h.kn.add x hx, h.row⟩
theorem KnO.drop {w wr : World} {key nonce : List (BitVec 8)} {R : Nat} {C : Array Value} {x : Option Addr × List (BitVec 8)} {L : List (Option Addr × List (BitVec 8))} (h : KnO w key nonce R C (x :: L) wr) : KnO w key nonce R C L wr := ⟨h.kn.drop, h.row⟩
theorem KnO.cell {w wr : World} {key nonce : List (BitVec 8)} {R : Nat} {C : Array Value} {L : List (Option Addr × List (BitVec 8))} (h : KnO w key nonce R C L wr) {k : Nat} {v : Value} (hv : C[k]? = some v) : wr.cell? ⟨R, k, none⟩ = some v := by
  rw [cell_of_row wr R k C 26 (0, 0) h.row]; exact hv
theorem KnO.pastO {w wr w' : World} {key nonce : List (BitVec 8)} {R : Nat} {C : Array Value} {L L' : List (Option Addr × List (BitVec 8))} {r : Option Nat} (h : KnO w key nonce R C L wr) (hg : wr.grownBy w' r) (hr : ∀ g, r = some g → w.heap.size + 1 < g ∧ R ≠ g ∧ ∀ x ∈ L', Reads wr g x.1 x.2) (hl : ∀ x ∈ L', Lies wr x.1 x.2) : KnO w key nonce R C L' w' :=
  ⟨h.kn.pastO hg (fun g e => ⟨(hr g e).1, (hr g e).2.2⟩) hl, (hg.block _ (Array.getElem?_eq_some_iff.1 h.row).1 (fun e => (hr R e.symm).2.1 rfl)).trans h.row⟩
end Go.Proofs.YtagkkihnfipfeaaDoor

/-
  The walk of the law AeadOpens: for any key, nonce, head, bytes, place and bits it returns true, and nothing that was there changes.
-/
namespace Go.Proofs.YtagkkihnfipfeaaDoor
open Go.RowKit Go.Proofs.ShaWords

attribute [local irreducible] sealOf openOf openIs xorKs
set_option maxRecDepth 100000 in
set_option maxHeartbeats 8000000 in
theorem aeOpens_any (key nonce head b : List (BitVec 8)) (z : Int) (c5 : BitVec 8) (n m : Nat) (p q : Option Addr) (cp cq : Nat) (w : World) (hk : key.length = 32) (hn : nonce.length = 12) (hhl : head.length = n) (hml : b.length = m) (_ : n ≤ cp) (hmq : m ≤ cq) (hp : Lies w p head) (hb : Lies w q b) (hq : Quads w) :
    Calls Tryd.prog 4 #[.agg (bytesV key).toArray, .agg (bytesV nonce).toArray, .slice p n cp, .slice q m cq, .int .i64 z, .int .u8 (n8 c5)] w fun e w' => e = .returned (.bool true) ∧ Below w.heap.size w w' := by
  have hqs := hq.size
  have HQ := Lib.hid hq; clear hq
  have HKL := Lib.hid hk; clear hk
  have HNL := Lib.hid hn; clear hn
  have HHL := Lib.hid hhl
  have HML := Lib.hid hml
  have HP := Lib.hid hp
  have HB := Lib.hid hb
  have HLI : Hid (∀ x ∈ [(p, head), (q, b)], Lies w x.1 x.2) := show ∀ x ∈ _, _ from by
    intro x hx
    simp only [List.mem_cons, List.not_mem_nil, or_false] at hx
    rcases hx with rfl | rfl
    · exact hp
    · exact hb
  clear hp hb
  have HIK := Lib.hid (infoKey key HKL.out)
  have HIN := Lib.hid (infoNonce nonce HNL.out)
  obtain ⟨mx, hmx⟩ : ∃ mx, mx = max n m := ⟨_, rfl⟩
  have HMX := Lib.hid hmx
  by_cases hbig : 4096 < mx
  · have p0 : (4096 : Int) < (mx : Int) := by omega
    clear hmx hhl hml
    go_enter Tryd.func4, Tryd.ntmps4
    go_upto_region 1 with (fail)
    refine wp_gen (KnL w key nonce [(p, head), (q, b)]) (knl_start w key nonce _ HLI.out) ?_
    intro w0 hw0
    have HW0 := Lib.hid hw0; clear hw0
    go_wp2_with (refine wpList_max2 rfl (.tmp 26) (.tmp 28) rfl n m mx rfl rfl HMX.out ?_)
    refine (works5_any w0 (HQ.out.below HW0.out.below hqs)).mono ?_
    rintro e w1 ⟨rfl, hb1⟩
    have HW1 := Lib.hid (HW0.out.on hb1); clear hb1 HW0
    go_wp2_with fail
    go_ret
    exact ⟨rfl, HW1.out.below⟩
  · have p0 : ¬ (4096 : Int) < (mx : Int) := by omega
    have b1 : n ≤ 4096 := by omega
    have b3 : m ≤ 4096 := by omega
    have HMQ := Lib.hid hmq
    obtain ⟨s, hs⟩ : ∃ s, s = sealOf key nonce head b := ⟨_, rfl⟩
    have HS := Lib.hid hs
    obtain ⟨N, hN⟩ : ∃ N, N = m + 16 := ⟨_, rfl⟩
    have HN := Lib.hid hN
    have HSL : Hid (s.length = N) := show _ = _ by rw [hs, sealOf_length, hml, hN]
    have hN2 : N ≤ 5000 := by omega
    have hN1 : 1 ≤ N := by omega
    have HX5 : Hid ((head ++ marks 5).length = n + 5) := show _ = _ by rw [List.length_append, marks_length, hhl]
    have HXT : Hid ((head ++ marks 5).take n = head) := show _ = _ by rw [← hhl, List.take_left]
    clear hmx hhl hml hbig hs hN hmq
    go_enter Tryd.func4, Tryd.ntmps4
    go_upto_region 1 with (fail)
    refine wp_gen (KnL w key nonce [(p, head), (q, b)]) (knl_start w key nonce _ HLI.out) ?_
    intro w0 hw0
    have HW0 := Lib.hid hw0; clear hw0
    have sz0 : w.heap.size + 1 < w0.heap.size := HW0.out.nonce.size
    have HWA : Hid (∀ o, KnL w key nonce [(p, head), (q, b)] (w0.alloc o)) := show ∀ o, _ from fun o => HW0.out.on ((Below.refl _ _).alloc (Nat.le_refl _) _)
    go_wp2_with (first
      | (refine wpList_max2 rfl (.tmp 26) (.tmp 28) rfl n m mx rfl rfl HMX.out ?_)
      | (refine wpList_load_row rfl 23 (.tmp 6) rfl w.heap.size rfl 23 (bytesV key).toArray (0, 0) _ (HWA.out _).key Tryd.underlying23 rfl HIK.out ?_)
      | (refine wpList_load_row rfl 25 (.tmp 7) rfl (w.heap.size + 1) rfl 25 (bytesV nonce).toArray (0, 0) _ (HWA.out _).nonce Tryd.underlying25 rfl HIN.out ?_))
    refine calls_gen (fun w' => KnL w key nonce [(p, head), (q, b)] w' ∧ w0.heap.size < w'.heap.size) ⟨HWA.out _, by rw [size_alloc]; omega⟩ ?_
    rintro w1 ⟨hw1, sz1⟩
    have HW1 := Lib.hid hw1; clear hw1 HWA HW0
    refine (refSeal_any _ key nonce head b n m p q cp cq w1 HKL.out HNL.out HHL.out HML.out (by omega) (by omega) (HW1.out.lies (p, head) (by simp)) (HW1.out.lies (q, b) (by simp))).mono ?_
    rintro e w2 ⟨v2, rfl, ho2, hb2⟩
    rw [← HS.out] at ho2
    obtain ⟨gt, ct, hv2, hgt, hgt2, hct, hct2, hcell, hfr⟩ := ho2.form8 (by rw [HSL.out]; omega)
    rw [HSL.out] at hv2 hct
    subst hv2
    have sz2 : w1.heap.size ≤ w2.heap.size := hb2.size
    have HO2 := Lib.hid ho2; clear ho2
    have HW2 := Lib.hid (HW1.out.on hb2); clear hb2 HW1
    have HCE := Lib.hid hcell
    have HFR := Lib.hid hfr
    clear hcell hfr
    go_wp2_with fail
    refine (pick_any z (N : Int) w2 (by omega) (by omega)).mono ?_
    rintro e w3 ⟨r, hr, rfl, rfl⟩
    have hrN : r < N := by omega
    have e1 := HCE.out r (by rw [HSL.out]; exact hrN)
    have f1 := HFR.out r
    obtain ⟨y, hy⟩ : ∃ y, y = s.getD r 0#8 := ⟨_, rfl⟩
    rw [← hy] at e1
    have hx1 := xor8 y c5
    obtain ⟨tl, htl⟩ : ∃ tl, tl = s.set r (y ^^^ c5) := ⟨_, rfl⟩
    have HTL : Hid (tl.length = N) := show _ = _ by rw [htl, List.length_set]; exact HSL.out
    have HTT : Hid ((tl.take r).length = r) := show _ = _ by rw [List.length_take, HTL.out]; omega
    have HO6 : Hid (Own w1.heap.size (w2.setCell ⟨gt, r, none⟩ (.int .u8 (n8 (y ^^^ c5)))) tl (.slice (some ⟨gt, 0, none⟩) N ct)) := show Own _ _ _ _ by rw [htl]; exact HO2.out.put r _
    have HW6 : Hid (KnL w key nonce [(p, head), (q, b)] (w2.setCell ⟨gt, r, none⟩ (.int .u8 (n8 (y ^^^ c5))))) := show KnL _ _ _ _ _ by
      refine HW2.out.past (g := gt) (grown_setCell _ _ _ _) (by omega) (fun x hx => ?_)
      simp only [List.mem_cons, List.not_mem_nil, or_false] at hx
      rcases hx with rfl | rfl
      · exact lies_low HP.out HW2.out.below (by omega)
      · exact lies_low HB.out HW2.out.below (by omega)
    have r0 : 0 ≤ (r : Int) := by omega
    have r1 : (r : Int) < (N : Int) := hr
    have r2 : (r : Int) ≤ (ct : Int) := by omega
    clear hy htl hr HCE HFR HO2 HW2
    obtain ⟨C, hC⟩ : ∃ C : Array Value, C = #[.slice q m cq, .slice (some ⟨gt, 0, none⟩) N ct, .slice (some ⟨gt, 0, none⟩) r ct] := ⟨_, rfl⟩
    have HC := Lib.hid hC; clear hC
    go_upto_region 8 with (fail)
    refine wp_gen (KnO w key nonce w2.heap.size C [(some ⟨gt, 0, none⟩, tl.take r), (some ⟨gt, 0, none⟩, tl), (p, head), (q, b)]) ⟨((HW6.out.add (some ⟨gt, 0, none⟩, tl) HO6.out.liesOf).add (some ⟨gt, 0, none⟩, tl.take r) (lies_take HO6.out.liesOf r)).on ((Below.refl _ _).alloc (Nat.le_refl _) _), ?_⟩ ?_
    · rw [HC.out]; exact heap_new_at (by simp)
    intro w7 hw7
    have HW7 := Lib.hid hw7; clear hw7 HW6 HO6 e1 f1
    have sz7 : w2.heap.size < w7.heap.size := (Array.getElem?_eq_some_iff.1 HW7.out.row).1
    go_wp2_with fail
    generalize w2.heap.size = R at HW7 sz7 hgt2 sz2 ⊢
    go_loopw [16] (fun i wr => ∃ k : Nat, k ≤ 3 ∧ i = .int .i64 (k : Int) ∧ KnO w key nonce R C [(some ⟨gt, 0, none⟩, tl.take r), (some ⟨gt, 0, none⟩, tl), (p, head), (q, b)] wr) (fun i _ => 3 - (intOf i).toNat)
    case atStart => exact ⟨0, by omega, rfl, HW7.out⟩
    case round =>
      clear HW7
      obtain ⟨k, hk, rfl, hw⟩ := hrel
      have HW := Lib.hid hw; clear hw
      by_cases hlt : k < 3
      · obtain ⟨pr, nr, cr, lr, hv, hmem, hlr, hnr, hnc⟩ : ∃ pr nr cr lr, C[k]? = some (Value.slice pr nr cr) ∧ (pr, lr) ∈ [(some ⟨gt, 0, none⟩, tl.take r), (some ⟨gt, 0, none⟩, tl), (p, head), (q, b)] ∧ lr.length = nr ∧ nr ≤ 5000 ∧ nr ≤ cr := by
          have h3 : k = 0 ∨ k = 1 ∨ k = 2 := by omega
          rcases h3 with rfl | rfl | rfl
          · exact ⟨q, m, cq, b, by rw [HC.out]; rfl, by simp, HML.out, by omega, HMQ.out⟩
          · exact ⟨_, N, ct, tl, by rw [HC.out]; rfl, by simp, HTL.out, by omega, by omega⟩
          · exact ⟨_, r, ct, tl.take r, by rw [HC.out]; rfl, by simp, HTT.out, by omega, by omega⟩
        obtain ⟨lO, hlO⟩ : ∃ lO, lO = openOf key nonce head lr := ⟨_, rfl⟩
        obtain ⟨d, hd⟩ : ∃ d, d = openIs key nonce head lr := ⟨_, rfl⟩
        obtain ⟨nO, hnO⟩ : ∃ nO, nO = lO.length := ⟨_, rfl⟩
        have hnO2 : nO ≤ 5000 := by rw [hnO, hlO]; have := openOf_length_le key nonce head lr; omega
        have hdd : (d != d) = false := by cases d <;> rfl
        have HY5 : Hid ((lr ++ marks 5).length = nr + 5) := show _ = _ by rw [List.length_append, marks_length, hlr]
        have HYT : Hid ((lr ++ marks 5).take nr = lr) := show _ = _ by rw [← hlr, List.take_left]
        have HLO := Lib.hid hlO
        have HD := Lib.hid hd
        have HNO := Lib.hid hnO.symm
        have HLR := Lib.hid hlr
        have HMEM := Lib.hid hmem
        have HV := Lib.hid hv
        have HNC := Lib.hid hnc
        clear hlO hd hnO hlr hmem hv hnc
        have q0 : (k : Int) < 3 := by omega
        have szr : R < wr.heap.size := (Array.getElem?_eq_some_iff.1 HW.out.row).1
        go_wp2_with fail
        refine (lent_len head n p cp wr HHL.out (by omega) (HW.out.lies (p, head) (by simp))).mono ?_
        rintro e wa ⟨va, rfl, hoa, hba⟩
        obtain ⟨gx, cx, hvx, hgx, hgx2, hcx, hcx2, -, -⟩ := hoa.form8 (by rw [HX5.out]; omega)
        rw [HX5.out] at hvx hcx
        subst hvx
        have sza : wr.heap.size ≤ wa.heap.size := hba.size
        have HWa := Lib.hid ((HW.out.on hba).add (some ⟨gx, 0, none⟩, head ++ marks 5) hoa.liesOf); clear hoa hba HW
        have ea := HWa.out.cell HV.out
        go_wp2_with fail
        clear ea
        refine (lent_len lr nr pr cr wa HLR.out (by omega) (HWa.out.lies (pr, lr) (List.mem_cons_of_mem _ HMEM.out))).mono ?_
        rintro e wb ⟨vb, rfl, hob, hbb⟩
        obtain ⟨gy, cy, hvy, hgy, hgy2, hcy, hcy2, -, -⟩ := hob.form8 (by rw [HY5.out]; omega)
        rw [HY5.out] at hvy hcy
        subst hvy
        have szb : wa.heap.size ≤ wb.heap.size := hbb.size
        have HWb := Lib.hid ((HWa.out.on hbb).add (some ⟨gy, 0, none⟩, lr ++ marks 5) hob.liesOf); clear hob hbb HWa
        go_upto_region 13 with (fail)
        refine region_phase (KnO w key nonce R C [(some ⟨gy, 0, none⟩, lr ++ marks 5), (some ⟨gx, 0, none⟩, head ++ marks 5), (some ⟨gt, 0, none⟩, tl.take r), (some ⟨gt, 0, none⟩, tl), (p, head), (q, b)]) (fun _ => True) 0 (HWb.out.on ((Below.refl _ _).drew)) trivial [(1, .free), (2, .free), (3, .free), (4, .free), (5, .free), (6, .free), (7, .free), (8, .free), (9, .free), (10, .free), (11, .free), (12, .free), (13, .free), (0, .behind), (14, .behind), (15, .free), (16, .free), (17, .free), (18, .free), (19, .free)] (by kernel_rfl) (by kernel_rfl) (by kernel_rfl) (by kernel_rfl) (fun ops hops A hA => ?_)
        have hsz : A.tmps.size = 151 := by rw [hA]; rfl
        have base2 : A.eval (.tmp 2) = .slice p n cp := by rw [hA]; rfl
        have base6 : A.eval (.tmp 6) = .pointer (some ⟨w.heap.size, 0, none⟩) := by rw [hA]; rfl
        have base7 : A.eval (.tmp 7) = .pointer (some ⟨w.heap.size + 1, 0, none⟩) := by rw [hA]; rfl
        have base13 : A.eval (.tmp 13) = .pointer (some ⟨w0.heap.size, 0, none⟩) := by rw [hA]; rfl
        have base15 : A.eval (.tmp 15) = .slice (some ⟨R, 0, none⟩) 3 3 := by rw [hA]; rfl
        have base16 : A.eval (.tmp 16) = .int .i64 (k : Int) := by rw [hA]; rfl
        have base17 : A.eval (.tmp 17) = .slice (some ⟨gx, 0, none⟩) (n + 5) cx := by rw [hA]; rfl
        have base18 : A.eval (.tmp 18) = .slice (some ⟨gy, 0, none⟩) (nr + 5) cy := by rw [hA]; rfl
        have HAA := Lib.hid hA; clear hA
        obtain ⟨o0, po0, q0, d0, gd0⟩ : ∃ o, ops[0]? = some o ∧ o.op = .call { callee := .value (.func 11), args := #[], argTypes := #[] } ∧ o.dst = some 73 ∧ o.guard = none := ⟨_, by rw [hops]; rfl, rfl, rfl, rfl⟩
        obtain ⟨o1, po1, q1, d1, gd1⟩ : ∃ o, ops[1]? = some o ∧ o.op = .load 23 (.tmp 6) ∧ o.dst = some 74 ∧ o.guard = none := ⟨_, by rw [hops]; rfl, rfl, rfl, rfl⟩
        obtain ⟨o2, po2, q2, d2, gd2⟩ : ∃ o, ops[2]? = some o ∧ o.op = .load 25 (.tmp 7) ∧ o.dst = some 75 ∧ o.guard = none := ⟨_, by rw [hops]; rfl, rfl, rfl, rfl⟩
        obtain ⟨o3, po3, q3, d3, gd3⟩ : ∃ o, ops[3]? = some o ∧ o.op = .move (.tmp 17) ∧ o.dst = some 76 ∧ o.guard = none := ⟨_, by rw [hops]; rfl, rfl, rfl, rfl⟩
        obtain ⟨o4, po4, q4, d4, gd4⟩ : ∃ o, ops[4]? = some o ∧ o.op = .move (.tmp 2) ∧ o.dst = some 77 ∧ o.guard = none := ⟨_, by rw [hops]; rfl, rfl, rfl, rfl⟩
        obtain ⟨o5, po5, q5, d5, gd5⟩ : ∃ o, ops[5]? = some o ∧ o.op = .call { callee := .builtin .len, args := #[.tmp 77], argTypes := #[26] } ∧ o.dst = some 78 ∧ o.guard = none := ⟨_, by rw [hops]; rfl, rfl, rfl, rfl⟩
        obtain ⟨o6, po6, q6, d6, gd6⟩ : ∃ o, ops[6]? = some o ∧ o.op = .slice 26 (.tmp 76) none (some (.tmp 78)) none ∧ o.dst = some 79 ∧ o.guard = none := ⟨_, by rw [hops]; rfl, rfl, rfl, rfl⟩
        obtain ⟨o7, po7, q7, d7, gd7⟩ : ∃ o, ops[7]? = some o ∧ o.op = .move (.tmp 18) ∧ o.dst = some 80 ∧ o.guard = none := ⟨_, by rw [hops]; rfl, rfl, rfl, rfl⟩
        obtain ⟨o8, po8, q8, d8, gd8⟩ : ∃ o, ops[8]? = some o ∧ o.op = .move (.tmp 15) ∧ o.dst = some 81 ∧ o.guard = none := ⟨_, by rw [hops]; rfl, rfl, rfl, rfl⟩
        obtain ⟨o9, po9, q9, d9, gd9⟩ : ∃ o, ops[9]? = some o ∧ o.op = .move (.tmp 16) ∧ o.dst = some 82 ∧ o.guard = none := ⟨_, by rw [hops]; rfl, rfl, rfl, rfl⟩
        obtain ⟨o10, po10, q10, d10, gd10⟩ : ∃ o, ops[10]? = some o ∧ o.op = .indexAddr 39 (.tmp 81) (.tmp 82) ∧ o.dst = some 83 ∧ o.guard = none := ⟨_, by rw [hops]; rfl, rfl, rfl, rfl⟩
        obtain ⟨o11, po11, q11, d11, gd11⟩ : ∃ o, ops[11]? = some o ∧ o.op = .load 26 (.tmp 83) ∧ o.dst = some 84 ∧ o.guard = none := ⟨_, by rw [hops]; rfl, rfl, rfl, rfl⟩
        obtain ⟨o12, po12, q12, d12, gd12⟩ : ∃ o, ops[12]? = some o ∧ o.op = .call { callee := .builtin .len, args := #[.tmp 84], argTypes := #[26] } ∧ o.dst = some 85 ∧ o.guard = none := ⟨_, by rw [hops]; rfl, rfl, rfl, rfl⟩
        obtain ⟨o13, po13, q13, d13, gd13⟩ : ∃ o, ops[13]? = some o ∧ o.op = .slice 26 (.tmp 80) none (some (.tmp 85)) none ∧ o.dst = some 86 ∧ o.guard = none := ⟨_, by rw [hops]; rfl, rfl, rfl, rfl⟩
        obtain ⟨o14, po14, q14, d14, gd14⟩ : ∃ o, ops[14]? = some o ∧ o.op = .call { callee := .value (.func 18), args := #[.tmp 73, .tmp 74, .tmp 75, .tmp 79, .tmp 86], argTypes := #[29, 23, 25, 26, 26] } ∧ o.dst = some 87 ∧ o.guard = none := ⟨_, by rw [hops]; rfl, rfl, rfl, rfl⟩
        obtain ⟨o15, po15, q15, d15, gd15⟩ : ∃ o, ops[15]? = some o ∧ o.op = .move (.tmp 87) ∧ o.dst = some 72 ∧ o.guard = none := ⟨_, by rw [hops]; rfl, rfl, rfl, rfl⟩
        obtain ⟨o16, po16, q16, d16, gd16⟩ : ∃ o, ops[16]? = some o ∧ o.op = .extract (.tmp 72) 0 ∧ o.dst = some 88 ∧ o.guard = none := ⟨_, by rw [hops]; rfl, rfl, rfl, rfl⟩
        obtain ⟨o17, po17, q17, d17, gd17⟩ : ∃ o, ops[17]? = some o ∧ o.op = .extract (.tmp 72) 1 ∧ o.dst = some 89 ∧ o.guard = none := ⟨_, by rw [hops]; rfl, rfl, rfl, rfl⟩
        obtain ⟨o18, po18, q18, d18, gd18⟩ : ∃ o, ops[18]? = some o ∧ o.op = .assign (.tmp 88) ∧ o.dst = some 19 ∧ o.guard = none := ⟨_, by rw [hops]; rfl, rfl, rfl, rfl⟩
        obtain ⟨o19, po19, q19, d19, gd19⟩ : ∃ o, ops[19]? = some o ∧ o.op = .assign (.tmp 89) ∧ o.dst = some 20 ∧ o.guard = none := ⟨_, by rw [hops]; rfl, rfl, rfl, rfl⟩
        clear hops
        refine met_free po1 d1 (wanted_of gd1) (fun w' h' => run_loadKey q1 base6 HKL.out h'.kn.key) ?_
        refine met_free po2 d2 (wanted_of gd2) (fun w' h' => run_loadNonce q2 ((eval_other _ 74 7 _ (by decide)).trans base7) HNL.out h'.kn.nonce) ?_
        refine met_free po3 d3 (wanted_of gd3) (fun w' h' => run_move q3 ((eval_other _ 75 17 _ (by decide)).trans ((eval_other _ 74 17 _ (by decide)).trans base17)) w') ?_
        refine met_free po4 d4 (wanted_of gd4) (fun w' h' => run_move q4 ((eval_other _ 76 2 _ (by decide)).trans ((eval_other _ 75 2 _ (by decide)).trans ((eval_other _ 74 2 _ (by decide)).trans base2))) w') ?_
        refine met_free po5 d5 (wanted_of gd5) (fun w' h' => run_len26 q5 (eval_same _ _ _ (by simp only [put_size, hsz]; decide)) w') ?_
        refine met_free po6 d6 (wanted_of gd6) (fun w' h' => r_to q6 (by omega) ((eval_other _ 78 76 _ (by decide)).trans ((eval_other _ 77 76 _ (by decide)).trans (eval_same _ _ _ (by simp only [put_size, hsz]; decide)))) (eval_same _ _ _ (by simp only [put_size, hsz]; decide)) w') ?_
        refine met_free po7 d7 (wanted_of gd7) (fun w' h' => run_move q7 ((eval_other _ 79 18 _ (by decide)).trans ((eval_other _ 78 18 _ (by decide)).trans ((eval_other _ 77 18 _ (by decide)).trans ((eval_other _ 76 18 _ (by decide)).trans ((eval_other _ 75 18 _ (by decide)).trans ((eval_other _ 74 18 _ (by decide)).trans base18)))))) w') ?_
        refine met_free po8 d8 (wanted_of gd8) (fun w' h' => run_move q8 ((eval_other _ 80 15 _ (by decide)).trans ((eval_other _ 79 15 _ (by decide)).trans ((eval_other _ 78 15 _ (by decide)).trans ((eval_other _ 77 15 _ (by decide)).trans ((eval_other _ 76 15 _ (by decide)).trans ((eval_other _ 75 15 _ (by decide)).trans ((eval_other _ 74 15 _ (by decide)).trans base15))))))) w') ?_
        refine met_free po9 d9 (wanted_of gd9) (fun w' h' => run_move q9 ((eval_other _ 81 16 _ (by decide)).trans ((eval_other _ 80 16 _ (by decide)).trans ((eval_other _ 79 16 _ (by decide)).trans ((eval_other _ 78 16 _ (by decide)).trans ((eval_other _ 77 16 _ (by decide)).trans ((eval_other _ 76 16 _ (by decide)).trans ((eval_other _ 75 16 _ (by decide)).trans ((eval_other _ 74 16 _ (by decide)).trans base16)))))))) w') ?_
        refine met_free po10 d10 (wanted_of gd10) (fun w' h' => r_ixRows q10 ((eval_other _ 82 81 _ (by decide)).trans (eval_same _ _ _ (by simp only [put_size, hsz]; decide))) (eval_same _ _ _ (by simp only [put_size, hsz]; decide)) (by omega) w') ?_
        refine met_free po11 d11 (wanted_of gd11) (fun w' h' => run_loadSlice q11 (eval_same _ _ _ (by simp only [put_size, hsz]; decide)) (h'.cell HV.out)) ?_
        refine met_free po12 d12 (wanted_of gd12) (fun w' h' => run_len26 q12 (eval_same _ _ _ (by simp only [put_size, hsz]; decide)) w') ?_
        refine met_free po13 d13 (wanted_of gd13) (fun w' h' => r_to q13 (by omega) ((eval_other _ 85 80 _ (by decide)).trans ((eval_other _ 84 80 _ (by decide)).trans ((eval_other _ 83 80 _ (by decide)).trans ((eval_other _ 82 80 _ (by decide)).trans ((eval_other _ 81 80 _ (by decide)).trans (eval_same _ _ _ (by simp only [put_size, hsz]; decide))))))) (eval_same _ _ _ (by simp only [put_size, hsz]; decide)) w') ?_
        refine m_enter po0 d0 (wanted_of gd0) (run_callf0 q0 rfl Tryd.func11 (by kernel_rfl) _) (new_any _) ?_
        rintro e w13a ⟨v13a, rfl, hb13a⟩
        have sz13a : wb.heap.size ≤ w13a.heap.size := hb13a.size
        have HW13a := Lib.hid ((HWb.out.on ((Below.refl _ _).drew)).on hb13a); clear hb13a
        refine ⟨_, rfl, HW13a.out, ?_⟩
        refine m_enter po14 d14 (wanted_of gd14) (run_callf5 q14 rfl (eval_same _ _ _ (by simp only [put_size, hsz]; decide)) ((eval_other _ 73 74 _ (by decide)).trans ((eval_other _ 86 74 _ (by decide)).trans ((eval_other _ 85 74 _ (by decide)).trans ((eval_other _ 84 74 _ (by decide)).trans ((eval_other _ 83 74 _ (by decide)).trans ((eval_other _ 82 74 _ (by decide)).trans ((eval_other _ 81 74 _ (by decide)).trans ((eval_other _ 80 74 _ (by decide)).trans ((eval_other _ 79 74 _ (by decide)).trans ((eval_other _ 78 74 _ (by decide)).trans ((eval_other _ 77 74 _ (by decide)).trans ((eval_other _ 76 74 _ (by decide)).trans ((eval_other _ 75 74 _ (by decide)).trans (eval_same _ _ _ (by rw [hsz]; decide))))))))))))))) ((eval_other _ 73 75 _ (by decide)).trans ((eval_other _ 86 75 _ (by decide)).trans ((eval_other _ 85 75 _ (by decide)).trans ((eval_other _ 84 75 _ (by decide)).trans ((eval_other _ 83 75 _ (by decide)).trans ((eval_other _ 82 75 _ (by decide)).trans ((eval_other _ 81 75 _ (by decide)).trans ((eval_other _ 80 75 _ (by decide)).trans ((eval_other _ 79 75 _ (by decide)).trans ((eval_other _ 78 75 _ (by decide)).trans ((eval_other _ 77 75 _ (by decide)).trans ((eval_other _ 76 75 _ (by decide)).trans (eval_same _ _ _ (by simp only [put_size, hsz]; decide)))))))))))))) ((eval_other _ 73 79 _ (by decide)).trans ((eval_other _ 86 79 _ (by decide)).trans ((eval_other _ 85 79 _ (by decide)).trans ((eval_other _ 84 79 _ (by decide)).trans ((eval_other _ 83 79 _ (by decide)).trans ((eval_other _ 82 79 _ (by decide)).trans ((eval_other _ 81 79 _ (by decide)).trans ((eval_other _ 80 79 _ (by decide)).trans (eval_same _ _ _ (by simp only [put_size, hsz]; decide)))))))))) ((eval_other _ 73 86 _ (by decide)).trans (eval_same _ _ _ (by simp only [put_size, hsz]; decide))) Tryd.func18 (by kernel_rfl) _) (open_any v13a key nonce head lr n nr (some ⟨gx, 0, none⟩) (some ⟨gy, 0, none⟩) cx cy w13a HKL.out HNL.out HHL.out HLR.out (by omega) (by omega) (by omega) (by have h := lies_take (HW13a.out.lies (some ⟨gx, 0, none⟩, head ++ marks 5) (by simp)) n; rw [HXT.out] at h; exact h) (by have h := lies_take (HW13a.out.lies (some ⟨gy, 0, none⟩, lr ++ marks 5) (by simp)) nr; rw [HYT.out] at h; exact h) (HQ.out.below HW13a.out.below hqs)) ?_
        rintro e w13 ⟨v13, rfl, ho13, hb13⟩
        rw [← HLO.out] at ho13
        rw [← HD.out]
        obtain ⟨p13, c13, rfl, -, -, -⟩ := ho13.lies
        rw [HNO.out] at ho13 ⊢
        have sz13 : w13a.heap.size ≤ w13.heap.size := hb13.size
        have HO13 := Lib.hid ho13
        have HG13 : Hid (∀ g, Value.ownBlock (.slice p13 nO c13) = some g → wb.heap.size ≤ g ∧ g < w13.heap.size) := show ∀ g, _ from fun g e => ⟨Nat.le_trans sz13a (World.ownsRow.lt HO13.out g e).1, (World.ownsRow.lt HO13.out g e).2⟩
        have HW13 := Lib.hid ((HW13a.out).on hb13); clear hb13 ho13
        refine ⟨_, rfl, HW13.out, ?_⟩
        refine met_free po15 d15 (wanted_of gd15) (fun w' h' => run_move q15 (eval_same _ _ _ (by simp only [put_size, hsz]; decide)) w') ?_
        refine met_free po16 d16 (wanted_of gd16) (fun w' h' => run_extract q16 (eval_same _ _ _ (by simp only [put_size, hsz]; decide)) rfl w') ?_
        refine met_free po17 d17 (wanted_of gd17) (fun w' h' => run_extract q17 ((eval_other _ 88 72 _ (by decide)).trans (eval_same _ _ _ (by simp only [put_size, hsz]; decide))) rfl w') ?_
        refine met_free po18 d18 (wanted_of gd18) (fun w' h' => run_assign q18 ((eval_other _ 89 88 _ (by decide)).trans (eval_same _ _ _ (by simp only [put_size, hsz]; decide))) w') ?_
        refine met_free po19 d19 (wanted_of gd19) (fun w' h' => run_assign q19 ((eval_other _ 19 89 _ (by decide)).trans (eval_same _ _ _ (by simp only [put_size, hsz]; decide))) w') ?_
        show NoPanic _ .normal _ _
        refine NoPanic.normal ?_
        rw [HAA.out]
        go_frame
        clear HAA
        go_upto_region 14 with (fail)
        refine region_phase (KnO w key nonce R C [(some ⟨gy, 0, none⟩, lr ++ marks 5), (some ⟨gx, 0, none⟩, head ++ marks 5), (some ⟨gt, 0, none⟩, tl.take r), (some ⟨gt, 0, none⟩, tl), (p, head), (q, b)]) (fun _ => True) 0 (HW13.out.on ((Below.refl _ _).drew)) trivial [(1, .free), (2, .free), (3, .free), (4, .free), (5, .free), (6, .free), (7, .free), (8, .free), (9, .free), (10, .free), (11, .free), (12, .free), (13, .free), (0, .behind), (14, .behind), (15, .free), (16, .free), (17, .free), (18, .free), (19, .free)] (by kernel_rfl) (by kernel_rfl) (by kernel_rfl) (by kernel_rfl) (fun ops hops A2 hA => ?_)
        have hsz : A2.tmps.size = 151 := by rw [hA]; rfl
        have base2 : A2.eval (.tmp 2) = .slice p n cp := by rw [hA]; rfl
        have base6 : A2.eval (.tmp 6) = .pointer (some ⟨w.heap.size, 0, none⟩) := by rw [hA]; rfl
        have base7 : A2.eval (.tmp 7) = .pointer (some ⟨w.heap.size + 1, 0, none⟩) := by rw [hA]; rfl
        have base13 : A2.eval (.tmp 13) = .pointer (some ⟨w0.heap.size, 0, none⟩) := by rw [hA]; rfl
        have base15 : A2.eval (.tmp 15) = .slice (some ⟨R, 0, none⟩) 3 3 := by rw [hA]; rfl
        have base16 : A2.eval (.tmp 16) = .int .i64 (k : Int) := by rw [hA]; rfl
        have base17 : A2.eval (.tmp 17) = .slice (some ⟨gx, 0, none⟩) (n + 5) cx := by rw [hA]; rfl
        have base18 : A2.eval (.tmp 18) = .slice (some ⟨gy, 0, none⟩) (nr + 5) cy := by rw [hA]; rfl
        have HAA := Lib.hid hA; clear hA
        obtain ⟨o0, po0, q0, d0, gd0⟩ : ∃ o, ops[0]? = some o ∧ o.op = .call { callee := .value (.func 11), args := #[], argTypes := #[] } ∧ o.dst = some 91 ∧ o.guard = none := ⟨_, by rw [hops]; rfl, rfl, rfl, rfl⟩
        obtain ⟨o1, po1, q1, d1, gd1⟩ : ∃ o, ops[1]? = some o ∧ o.op = .load 23 (.tmp 6) ∧ o.dst = some 92 ∧ o.guard = none := ⟨_, by rw [hops]; rfl, rfl, rfl, rfl⟩
        obtain ⟨o2, po2, q2, d2, gd2⟩ : ∃ o, ops[2]? = some o ∧ o.op = .load 25 (.tmp 7) ∧ o.dst = some 93 ∧ o.guard = none := ⟨_, by rw [hops]; rfl, rfl, rfl, rfl⟩
        obtain ⟨o3, po3, q3, d3, gd3⟩ : ∃ o, ops[3]? = some o ∧ o.op = .move (.tmp 17) ∧ o.dst = some 94 ∧ o.guard = none := ⟨_, by rw [hops]; rfl, rfl, rfl, rfl⟩
        obtain ⟨o4, po4, q4, d4, gd4⟩ : ∃ o, ops[4]? = some o ∧ o.op = .move (.tmp 2) ∧ o.dst = some 95 ∧ o.guard = none := ⟨_, by rw [hops]; rfl, rfl, rfl, rfl⟩
        obtain ⟨o5, po5, q5, d5, gd5⟩ : ∃ o, ops[5]? = some o ∧ o.op = .call { callee := .builtin .len, args := #[.tmp 95], argTypes := #[26] } ∧ o.dst = some 96 ∧ o.guard = none := ⟨_, by rw [hops]; rfl, rfl, rfl, rfl⟩
        obtain ⟨o6, po6, q6, d6, gd6⟩ : ∃ o, ops[6]? = some o ∧ o.op = .slice 26 (.tmp 94) none (some (.tmp 96)) none ∧ o.dst = some 97 ∧ o.guard = none := ⟨_, by rw [hops]; rfl, rfl, rfl, rfl⟩
        obtain ⟨o7, po7, q7, d7, gd7⟩ : ∃ o, ops[7]? = some o ∧ o.op = .move (.tmp 18) ∧ o.dst = some 98 ∧ o.guard = none := ⟨_, by rw [hops]; rfl, rfl, rfl, rfl⟩
        obtain ⟨o8, po8, q8, d8, gd8⟩ : ∃ o, ops[8]? = some o ∧ o.op = .move (.tmp 15) ∧ o.dst = some 99 ∧ o.guard = none := ⟨_, by rw [hops]; rfl, rfl, rfl, rfl⟩
        obtain ⟨o9, po9, q9, d9, gd9⟩ : ∃ o, ops[9]? = some o ∧ o.op = .move (.tmp 16) ∧ o.dst = some 100 ∧ o.guard = none := ⟨_, by rw [hops]; rfl, rfl, rfl, rfl⟩
        obtain ⟨o10, po10, q10, d10, gd10⟩ : ∃ o, ops[10]? = some o ∧ o.op = .indexAddr 39 (.tmp 99) (.tmp 100) ∧ o.dst = some 101 ∧ o.guard = none := ⟨_, by rw [hops]; rfl, rfl, rfl, rfl⟩
        obtain ⟨o11, po11, q11, d11, gd11⟩ : ∃ o, ops[11]? = some o ∧ o.op = .load 26 (.tmp 101) ∧ o.dst = some 102 ∧ o.guard = none := ⟨_, by rw [hops]; rfl, rfl, rfl, rfl⟩
        obtain ⟨o12, po12, q12, d12, gd12⟩ : ∃ o, ops[12]? = some o ∧ o.op = .call { callee := .builtin .len, args := #[.tmp 102], argTypes := #[26] } ∧ o.dst = some 103 ∧ o.guard = none := ⟨_, by rw [hops]; rfl, rfl, rfl, rfl⟩
        obtain ⟨o13, po13, q13, d13, gd13⟩ : ∃ o, ops[13]? = some o ∧ o.op = .slice 26 (.tmp 98) none (some (.tmp 103)) none ∧ o.dst = some 104 ∧ o.guard = none := ⟨_, by rw [hops]; rfl, rfl, rfl, rfl⟩
        obtain ⟨o14, po14, q14, d14, gd14⟩ : ∃ o, ops[14]? = some o ∧ o.op = .call { callee := .value (.func 18), args := #[.tmp 91, .tmp 92, .tmp 93, .tmp 97, .tmp 104], argTypes := #[29, 23, 25, 26, 26] } ∧ o.dst = some 105 ∧ o.guard = none := ⟨_, by rw [hops]; rfl, rfl, rfl, rfl⟩
        obtain ⟨o15, po15, q15, d15, gd15⟩ : ∃ o, ops[15]? = some o ∧ o.op = .move (.tmp 105) ∧ o.dst = some 90 ∧ o.guard = none := ⟨_, by rw [hops]; rfl, rfl, rfl, rfl⟩
        obtain ⟨o16, po16, q16, d16, gd16⟩ : ∃ o, ops[16]? = some o ∧ o.op = .extract (.tmp 90) 0 ∧ o.dst = some 106 ∧ o.guard = none := ⟨_, by rw [hops]; rfl, rfl, rfl, rfl⟩
        obtain ⟨o17, po17, q17, d17, gd17⟩ : ∃ o, ops[17]? = some o ∧ o.op = .extract (.tmp 90) 1 ∧ o.dst = some 107 ∧ o.guard = none := ⟨_, by rw [hops]; rfl, rfl, rfl, rfl⟩
        obtain ⟨o18, po18, q18, d18, gd18⟩ : ∃ o, ops[18]? = some o ∧ o.op = .assign (.tmp 106) ∧ o.dst = some 21 ∧ o.guard = none := ⟨_, by rw [hops]; rfl, rfl, rfl, rfl⟩
        obtain ⟨o19, po19, q19, d19, gd19⟩ : ∃ o, ops[19]? = some o ∧ o.op = .assign (.tmp 107) ∧ o.dst = some 22 ∧ o.guard = none := ⟨_, by rw [hops]; rfl, rfl, rfl, rfl⟩
        clear hops
        refine met_free po1 d1 (wanted_of gd1) (fun w' h' => run_loadKey q1 base6 HKL.out h'.kn.key) ?_
        refine met_free po2 d2 (wanted_of gd2) (fun w' h' => run_loadNonce q2 ((eval_other _ 92 7 _ (by decide)).trans base7) HNL.out h'.kn.nonce) ?_
        refine met_free po3 d3 (wanted_of gd3) (fun w' h' => run_move q3 ((eval_other _ 93 17 _ (by decide)).trans ((eval_other _ 92 17 _ (by decide)).trans base17)) w') ?_
        refine met_free po4 d4 (wanted_of gd4) (fun w' h' => run_move q4 ((eval_other _ 94 2 _ (by decide)).trans ((eval_other _ 93 2 _ (by decide)).trans ((eval_other _ 92 2 _ (by decide)).trans base2))) w') ?_
        refine met_free po5 d5 (wanted_of gd5) (fun w' h' => run_len26 q5 (eval_same _ _ _ (by simp only [put_size, hsz]; decide)) w') ?_
        refine met_free po6 d6 (wanted_of gd6) (fun w' h' => r_to q6 (by omega) ((eval_other _ 96 94 _ (by decide)).trans ((eval_other _ 95 94 _ (by decide)).trans (eval_same _ _ _ (by simp only [put_size, hsz]; decide)))) (eval_same _ _ _ (by simp only [put_size, hsz]; decide)) w') ?_
        refine met_free po7 d7 (wanted_of gd7) (fun w' h' => run_move q7 ((eval_other _ 97 18 _ (by decide)).trans ((eval_other _ 96 18 _ (by decide)).trans ((eval_other _ 95 18 _ (by decide)).trans ((eval_other _ 94 18 _ (by decide)).trans ((eval_other _ 93 18 _ (by decide)).trans ((eval_other _ 92 18 _ (by decide)).trans base18)))))) w') ?_
        refine met_free po8 d8 (wanted_of gd8) (fun w' h' => run_move q8 ((eval_other _ 98 15 _ (by decide)).trans ((eval_other _ 97 15 _ (by decide)).trans ((eval_other _ 96 15 _ (by decide)).trans ((eval_other _ 95 15 _ (by decide)).trans ((eval_other _ 94 15 _ (by decide)).trans ((eval_other _ 93 15 _ (by decide)).trans ((eval_other _ 92 15 _ (by decide)).trans base15))))))) w') ?_
        refine met_free po9 d9 (wanted_of gd9) (fun w' h' => run_move q9 ((eval_other _ 99 16 _ (by decide)).trans ((eval_other _ 98 16 _ (by decide)).trans ((eval_other _ 97 16 _ (by decide)).trans ((eval_other _ 96 16 _ (by decide)).trans ((eval_other _ 95 16 _ (by decide)).trans ((eval_other _ 94 16 _ (by decide)).trans ((eval_other _ 93 16 _ (by decide)).trans ((eval_other _ 92 16 _ (by decide)).trans base16)))))))) w') ?_
        refine met_free po10 d10 (wanted_of gd10) (fun w' h' => r_ixRows q10 ((eval_other _ 100 99 _ (by decide)).trans (eval_same _ _ _ (by simp only [put_size, hsz]; decide))) (eval_same _ _ _ (by simp only [put_size, hsz]; decide)) (by omega) w') ?_
        refine met_free po11 d11 (wanted_of gd11) (fun w' h' => run_loadSlice q11 (eval_same _ _ _ (by simp only [put_size, hsz]; decide)) (h'.cell HV.out)) ?_
        refine met_free po12 d12 (wanted_of gd12) (fun w' h' => run_len26 q12 (eval_same _ _ _ (by simp only [put_size, hsz]; decide)) w') ?_
        refine met_free po13 d13 (wanted_of gd13) (fun w' h' => r_to q13 (by omega) ((eval_other _ 103 98 _ (by decide)).trans ((eval_other _ 102 98 _ (by decide)).trans ((eval_other _ 101 98 _ (by decide)).trans ((eval_other _ 100 98 _ (by decide)).trans ((eval_other _ 99 98 _ (by decide)).trans (eval_same _ _ _ (by simp only [put_size, hsz]; decide))))))) (eval_same _ _ _ (by simp only [put_size, hsz]; decide)) w') ?_
        refine m_enter po0 d0 (wanted_of gd0) (run_callf0 q0 rfl Tryd.func11 (by kernel_rfl) _) (new_any _) ?_
        rintro e w14a ⟨v14a, rfl, hb14a⟩
        have sz14a : w13.heap.size ≤ w14a.heap.size := hb14a.size
        have HO13n := Lib.hid (HO13.out.below (((Below.refl _ _).drew).trans (hb14a.mono (Nat.le_refl _)))); clear HO13; have HO13 := HO13n; clear HO13n
        have HW14a := Lib.hid ((HW13.out.on ((Below.refl _ _).drew)).on hb14a); clear hb14a
        refine ⟨_, rfl, HW14a.out, ?_⟩
        refine m_enter po14 d14 (wanted_of gd14) (run_callf5 q14 rfl (eval_same _ _ _ (by simp only [put_size, hsz]; decide)) ((eval_other _ 91 92 _ (by decide)).trans ((eval_other _ 104 92 _ (by decide)).trans ((eval_other _ 103 92 _ (by decide)).trans ((eval_other _ 102 92 _ (by decide)).trans ((eval_other _ 101 92 _ (by decide)).trans ((eval_other _ 100 92 _ (by decide)).trans ((eval_other _ 99 92 _ (by decide)).trans ((eval_other _ 98 92 _ (by decide)).trans ((eval_other _ 97 92 _ (by decide)).trans ((eval_other _ 96 92 _ (by decide)).trans ((eval_other _ 95 92 _ (by decide)).trans ((eval_other _ 94 92 _ (by decide)).trans ((eval_other _ 93 92 _ (by decide)).trans (eval_same _ _ _ (by rw [hsz]; decide))))))))))))))) ((eval_other _ 91 93 _ (by decide)).trans ((eval_other _ 104 93 _ (by decide)).trans ((eval_other _ 103 93 _ (by decide)).trans ((eval_other _ 102 93 _ (by decide)).trans ((eval_other _ 101 93 _ (by decide)).trans ((eval_other _ 100 93 _ (by decide)).trans ((eval_other _ 99 93 _ (by decide)).trans ((eval_other _ 98 93 _ (by decide)).trans ((eval_other _ 97 93 _ (by decide)).trans ((eval_other _ 96 93 _ (by decide)).trans ((eval_other _ 95 93 _ (by decide)).trans ((eval_other _ 94 93 _ (by decide)).trans (eval_same _ _ _ (by simp only [put_size, hsz]; decide)))))))))))))) ((eval_other _ 91 97 _ (by decide)).trans ((eval_other _ 104 97 _ (by decide)).trans ((eval_other _ 103 97 _ (by decide)).trans ((eval_other _ 102 97 _ (by decide)).trans ((eval_other _ 101 97 _ (by decide)).trans ((eval_other _ 100 97 _ (by decide)).trans ((eval_other _ 99 97 _ (by decide)).trans ((eval_other _ 98 97 _ (by decide)).trans (eval_same _ _ _ (by simp only [put_size, hsz]; decide)))))))))) ((eval_other _ 91 104 _ (by decide)).trans (eval_same _ _ _ (by simp only [put_size, hsz]; decide))) Tryd.func18 (by kernel_rfl) _) (open_any v14a key nonce head lr n nr (some ⟨gx, 0, none⟩) (some ⟨gy, 0, none⟩) cx cy w14a HKL.out HNL.out HHL.out HLR.out (by omega) (by omega) (by omega) (by have h := lies_take (HW14a.out.lies (some ⟨gx, 0, none⟩, head ++ marks 5) (by simp)) n; rw [HXT.out] at h; exact h) (by have h := lies_take (HW14a.out.lies (some ⟨gy, 0, none⟩, lr ++ marks 5) (by simp)) nr; rw [HYT.out] at h; exact h) (HQ.out.below HW14a.out.below hqs)) ?_
        rintro e w14 ⟨v14, rfl, ho14, hb14⟩
        rw [← HLO.out] at ho14
        rw [← HD.out]
        obtain ⟨p14, c14, rfl, -, -, -⟩ := ho14.lies
        rw [HNO.out] at ho14 ⊢
        have sz14 : w14a.heap.size ≤ w14.heap.size := hb14.size
        have HO14 := Lib.hid ho14
        have HO13n := Lib.hid (HO13.out.below hb14); clear HO13; have HO13 := HO13n; clear HO13n
        have HW14 := Lib.hid ((HW14a.out).on hb14); clear hb14 ho14
        refine ⟨_, rfl, HW14.out, ?_⟩
        refine met_free po15 d15 (wanted_of gd15) (fun w' h' => run_move q15 (eval_same _ _ _ (by simp only [put_size, hsz]; decide)) w') ?_
        refine met_free po16 d16 (wanted_of gd16) (fun w' h' => run_extract q16 (eval_same _ _ _ (by simp only [put_size, hsz]; decide)) rfl w') ?_
        refine met_free po17 d17 (wanted_of gd17) (fun w' h' => run_extract q17 ((eval_other _ 106 90 _ (by decide)).trans (eval_same _ _ _ (by simp only [put_size, hsz]; decide))) rfl w') ?_
        refine met_free po18 d18 (wanted_of gd18) (fun w' h' => run_assign q18 ((eval_other _ 107 106 _ (by decide)).trans (eval_same _ _ _ (by simp only [put_size, hsz]; decide))) w') ?_
        refine met_free po19 d19 (wanted_of gd19) (fun w' h' => run_assign q19 ((eval_other _ 21 107 _ (by decide)).trans (eval_same _ _ _ (by simp only [put_size, hsz]; decide))) w') ?_
        show NoPanic _ .normal _ _
        refine NoPanic.normal ?_
        rw [HAA.out]
        go_frame
        clear HAA
        go_upto_region 15 with (fail)
        refine region_phase (KnO w key nonce R C [(some ⟨gy, 0, none⟩, lr ++ marks 5), (some ⟨gx, 0, none⟩, head ++ marks 5), (some ⟨gt, 0, none⟩, tl.take r), (some ⟨gt, 0, none⟩, tl), (p, head), (q, b)]) (fun _ => True) 8 (HW14.out.on ((Below.refl _ _).drew)) trivial [(0, .free), (1, .free), (2, .free), (3, .free), (4, .free), (5, .free), (6, .free), (7, .free), (8, .behind), (9, .free), (10, .free), (11, .free), (12, .free), (13, .free)] (by kernel_rfl) (by kernel_rfl) (by kernel_rfl) (by kernel_rfl) (fun ops hops A3 hA => ?_)
        have hsz : A3.tmps.size = 151 := by rw [hA]; rfl
        have base2 : A3.eval (.tmp 2) = .slice p n cp := by rw [hA]; rfl
        have base6 : A3.eval (.tmp 6) = .pointer (some ⟨w.heap.size, 0, none⟩) := by rw [hA]; rfl
        have base7 : A3.eval (.tmp 7) = .pointer (some ⟨w.heap.size + 1, 0, none⟩) := by rw [hA]; rfl
        have base13 : A3.eval (.tmp 13) = .pointer (some ⟨w0.heap.size, 0, none⟩) := by rw [hA]; rfl
        have base15 : A3.eval (.tmp 15) = .slice (some ⟨R, 0, none⟩) 3 3 := by rw [hA]; rfl
        have base16 : A3.eval (.tmp 16) = .int .i64 (k : Int) := by rw [hA]; rfl
        have base17 : A3.eval (.tmp 17) = .slice (some ⟨gx, 0, none⟩) (n + 5) cx := by rw [hA]; rfl
        have base18 : A3.eval (.tmp 18) = .slice (some ⟨gy, 0, none⟩) (nr + 5) cy := by rw [hA]; rfl
        have HAA := Lib.hid hA; clear hA
        obtain ⟨o0, po0, q0, d0, gd0⟩ : ∃ o, ops[0]? = some o ∧ o.op = .move (.tmp 13) ∧ o.dst = some 109 ∧ o.guard = none := ⟨_, by rw [hops]; rfl, rfl, rfl, rfl⟩
        obtain ⟨o1, po1, q1, d1, gd1⟩ : ∃ o, ops[1]? = some o ∧ o.op = .load 23 (.tmp 6) ∧ o.dst = some 110 ∧ o.guard = none := ⟨_, by rw [hops]; rfl, rfl, rfl, rfl⟩
        obtain ⟨o2, po2, q2, d2, gd2⟩ : ∃ o, ops[2]? = some o ∧ o.op = .load 25 (.tmp 7) ∧ o.dst = some 111 ∧ o.guard = none := ⟨_, by rw [hops]; rfl, rfl, rfl, rfl⟩
        obtain ⟨o3, po3, q3, d3, gd3⟩ : ∃ o, ops[3]? = some o ∧ o.op = .move (.tmp 2) ∧ o.dst = some 112 ∧ o.guard = none := ⟨_, by rw [hops]; rfl, rfl, rfl, rfl⟩
        obtain ⟨o4, po4, q4, d4, gd4⟩ : ∃ o, ops[4]? = some o ∧ o.op = .move (.tmp 15) ∧ o.dst = some 113 ∧ o.guard = none := ⟨_, by rw [hops]; rfl, rfl, rfl, rfl⟩
        obtain ⟨o5, po5, q5, d5, gd5⟩ : ∃ o, ops[5]? = some o ∧ o.op = .move (.tmp 16) ∧ o.dst = some 114 ∧ o.guard = none := ⟨_, by rw [hops]; rfl, rfl, rfl, rfl⟩
        obtain ⟨o6, po6, q6, d6, gd6⟩ : ∃ o, ops[6]? = some o ∧ o.op = .indexAddr 39 (.tmp 113) (.tmp 114) ∧ o.dst = some 115 ∧ o.guard = none := ⟨_, by rw [hops]; rfl, rfl, rfl, rfl⟩
        obtain ⟨o7, po7, q7, d7, gd7⟩ : ∃ o, ops[7]? = some o ∧ o.op = .load 26 (.tmp 115) ∧ o.dst = some 116 ∧ o.guard = none := ⟨_, by rw [hops]; rfl, rfl, rfl, rfl⟩
        obtain ⟨o8, po8, q8, d8, gd8⟩ : ∃ o, ops[8]? = some o ∧ o.op = .call { callee := .value (.func 19), args := #[.tmp 109, .tmp 110, .tmp 111, .tmp 112, .tmp 116], argTypes := #[32, 23, 25, 26, 26] } ∧ o.dst = some 117 ∧ o.guard = none := ⟨_, by rw [hops]; rfl, rfl, rfl, rfl⟩
        obtain ⟨o9, po9, q9, d9, gd9⟩ : ∃ o, ops[9]? = some o ∧ o.op = .move (.tmp 117) ∧ o.dst = some 108 ∧ o.guard = none := ⟨_, by rw [hops]; rfl, rfl, rfl, rfl⟩
        obtain ⟨o10, po10, q10, d10, gd10⟩ : ∃ o, ops[10]? = some o ∧ o.op = .extract (.tmp 108) 0 ∧ o.dst = some 118 ∧ o.guard = none := ⟨_, by rw [hops]; rfl, rfl, rfl, rfl⟩
        obtain ⟨o11, po11, q11, d11, gd11⟩ : ∃ o, ops[11]? = some o ∧ o.op = .extract (.tmp 108) 1 ∧ o.dst = some 119 ∧ o.guard = none := ⟨_, by rw [hops]; rfl, rfl, rfl, rfl⟩
        obtain ⟨o12, po12, q12, d12, gd12⟩ : ∃ o, ops[12]? = some o ∧ o.op = .assign (.tmp 118) ∧ o.dst = some 23 ∧ o.guard = none := ⟨_, by rw [hops]; rfl, rfl, rfl, rfl⟩
        obtain ⟨o13, po13, q13, d13, gd13⟩ : ∃ o, ops[13]? = some o ∧ o.op = .assign (.tmp 119) ∧ o.dst = some 24 ∧ o.guard = none := ⟨_, by rw [hops]; rfl, rfl, rfl, rfl⟩
        clear hops
        refine met_free po0 d0 (wanted_of gd0) (fun w' h' => run_move q0 base13 w') ?_
        refine met_free po1 d1 (wanted_of gd1) (fun w' h' => run_loadKey q1 ((eval_other _ 109 6 _ (by decide)).trans base6) HKL.out h'.kn.key) ?_
        refine met_free po2 d2 (wanted_of gd2) (fun w' h' => run_loadNonce q2 ((eval_other _ 110 7 _ (by decide)).trans ((eval_other _ 109 7 _ (by decide)).trans base7)) HNL.out h'.kn.nonce) ?_
        refine met_free po3 d3 (wanted_of gd3) (fun w' h' => run_move q3 ((eval_other _ 111 2 _ (by decide)).trans ((eval_other _ 110 2 _ (by decide)).trans ((eval_other _ 109 2 _ (by decide)).trans base2))) w') ?_
        refine met_free po4 d4 (wanted_of gd4) (fun w' h' => run_move q4 ((eval_other _ 112 15 _ (by decide)).trans ((eval_other _ 111 15 _ (by decide)).trans ((eval_other _ 110 15 _ (by decide)).trans ((eval_other _ 109 15 _ (by decide)).trans base15)))) w') ?_
        refine met_free po5 d5 (wanted_of gd5) (fun w' h' => run_move q5 ((eval_other _ 113 16 _ (by decide)).trans ((eval_other _ 112 16 _ (by decide)).trans ((eval_other _ 111 16 _ (by decide)).trans ((eval_other _ 110 16 _ (by decide)).trans ((eval_other _ 109 16 _ (by decide)).trans base16))))) w') ?_
        refine met_free po6 d6 (wanted_of gd6) (fun w' h' => r_ixRows q6 ((eval_other _ 114 113 _ (by decide)).trans (eval_same _ _ _ (by simp only [put_size, hsz]; decide))) (eval_same _ _ _ (by simp only [put_size, hsz]; decide)) (by omega) w') ?_
        refine met_free po7 d7 (wanted_of gd7) (fun w' h' => run_loadSlice q7 (eval_same _ _ _ (by simp only [put_size, hsz]; decide)) (h'.cell HV.out)) ?_
        refine m_enter po8 d8 (wanted_of gd8) (run_callf5 q8 rfl ((eval_other _ 116 109 _ (by decide)).trans ((eval_other _ 115 109 _ (by decide)).trans ((eval_other _ 114 109 _ (by decide)).trans ((eval_other _ 113 109 _ (by decide)).trans ((eval_other _ 112 109 _ (by decide)).trans ((eval_other _ 111 109 _ (by decide)).trans ((eval_other _ 110 109 _ (by decide)).trans (eval_same _ _ _ (by rw [hsz]; decide))))))))) ((eval_other _ 116 110 _ (by decide)).trans ((eval_other _ 115 110 _ (by decide)).trans ((eval_other _ 114 110 _ (by decide)).trans ((eval_other _ 113 110 _ (by decide)).trans ((eval_other _ 112 110 _ (by decide)).trans ((eval_other _ 111 110 _ (by decide)).trans (eval_same _ _ _ (by simp only [put_size, hsz]; decide)))))))) ((eval_other _ 116 111 _ (by decide)).trans ((eval_other _ 115 111 _ (by decide)).trans ((eval_other _ 114 111 _ (by decide)).trans ((eval_other _ 113 111 _ (by decide)).trans ((eval_other _ 112 111 _ (by decide)).trans (eval_same _ _ _ (by simp only [put_size, hsz]; decide))))))) ((eval_other _ 116 112 _ (by decide)).trans ((eval_other _ 115 112 _ (by decide)).trans ((eval_other _ 114 112 _ (by decide)).trans ((eval_other _ 113 112 _ (by decide)).trans (eval_same _ _ _ (by simp only [put_size, hsz]; decide)))))) (eval_same _ _ _ (by simp only [put_size, hsz]; decide)) Tryd.func19 (by kernel_rfl) _) (refOpen_any _ key nonce head lr n nr p pr cp cr _ HKL.out HNL.out HHL.out HLR.out (by omega) (by omega) HNC.out ((HW14.out.on ((Below.refl _ _).drew)).lies (p, head) (by simp)) ((HW14.out.on ((Below.refl _ _).drew)).lies (pr, lr) (List.mem_cons_of_mem _ (List.mem_cons_of_mem _ HMEM.out)))) ?_
        rintro e w15 ⟨v15, rfl, ho15, hb15⟩
        rw [← HLO.out] at ho15
        rw [← HD.out]
        obtain ⟨p15, c15, rfl, -, -, -⟩ := ho15.lies
        rw [HNO.out] at ho15 ⊢
        have sz15 : w14.heap.size ≤ w15.heap.size := hb15.size
        have HO15 := Lib.hid ho15
        have HO13n := Lib.hid (HO13.out.below (((Below.refl _ _).drew).trans (hb15.mono (Nat.le_refl _)))); clear HO13; have HO13 := HO13n; clear HO13n
        have HO14n := Lib.hid (HO14.out.below (((Below.refl _ _).drew).trans (hb15.mono (Nat.le_refl _)))); clear HO14; have HO14 := HO14n; clear HO14n
        have HW15 := Lib.hid ((HW14.out.on ((Below.refl _ _).drew)).on hb15); clear hb15 ho15
        refine ⟨_, rfl, HW15.out, ?_⟩
        refine met_free po9 d9 (wanted_of gd9) (fun w' h' => run_move q9 (eval_same _ _ _ (by simp only [put_size, hsz]; decide)) w') ?_
        refine met_free po10 d10 (wanted_of gd10) (fun w' h' => run_extract q10 (eval_same _ _ _ (by simp only [put_size, hsz]; decide)) rfl w') ?_
        refine met_free po11 d11 (wanted_of gd11) (fun w' h' => run_extract q11 ((eval_other _ 118 108 _ (by decide)).trans (eval_same _ _ _ (by simp only [put_size, hsz]; decide))) rfl w') ?_
        refine met_free po12 d12 (wanted_of gd12) (fun w' h' => run_assign q12 ((eval_other _ 119 118 _ (by decide)).trans (eval_same _ _ _ (by simp only [put_size, hsz]; decide))) w') ?_
        refine met_free po13 d13 (wanted_of gd13) (fun w' h' => run_assign q13 ((eval_other _ 23 119 _ (by decide)).trans (eval_same _ _ _ (by simp only [put_size, hsz]; decide))) w') ?_
        show NoPanic _ .normal _ _
        refine NoPanic.normal ?_
        rw [HAA.out]
        go_frame
        clear HAA
        go_wp2_with fail
        refine (same_any lO nO p13 p15 c13 c15 w15 HNO.out (by omega) HO13.out.liesOf HO15.out.liesOf).mono ?_
        rintro e w16 ⟨rfl, hb16⟩
        have HO13' := Lib.hid (HO13.out.below hb16); clear HO13
        have HO14' := Lib.hid (HO14.out.below hb16); clear HO14
        have HO15' := Lib.hid (HO15.out.below hb16); clear HO15
        have HW16 := Lib.hid (HW15.out.on hb16); clear hb16 HW15
        go_wp2_with fail
        refine (spoil_own lO _ nO c13 p13 w16 HNO.out (by omega) HO13'.out).mono ?_
        rintro e w18 ⟨rfl, hg18⟩
        have HW18 : Hid (KnO w key nonce R C [(p15, lO), (p14, lO), (some ⟨gy, 0, none⟩, lr ++ marks 5), (some ⟨gx, 0, none⟩, head ++ marks 5), (some ⟨gt, 0, none⟩, tl.take r), (some ⟨gt, 0, none⟩, tl), (p, head), (q, b)] w18) := show KnO _ _ _ _ _ _ _ by
          refine ((HW16.out.add (p14, lO) HO14'.out.liesOf).add (p15, lO) HO15'.out.liesOf).pastO hg18 (fun g e => ?_) ((HW16.out.add (p14, lO) HO14'.out.liesOf).add (p15, lO) HO15'.out.liesOf).lies
          have hg := HG13.out g e
          refine ⟨by omega, by omega, fun x hx => ?_⟩
          simp only [List.mem_cons, List.not_mem_nil, or_false] at hx
          rcases hx with rfl | rfl | rfl | rfl | rfl | rfl | rfl | rfl
          · exact own_high HO15'.out (by show g < w14.heap.size; omega)
          · exact own_high HO14'.out (by omega)
          · exact lies_apart (HW16.out.lies (some ⟨gy, 0, none⟩, lr ++ marks 5) (by simp)) rfl (by omega)
          · exact lies_apart (HW16.out.lies (some ⟨gx, 0, none⟩, head ++ marks 5) (by simp)) rfl (by omega)
          · exact lies_apart (HW16.out.lies (some ⟨gt, 0, none⟩, tl.take r) (by simp)) rfl (by omega)
          · exact lies_apart (HW16.out.lies (some ⟨gt, 0, none⟩, tl) (by simp)) rfl (by omega)
          · exact lies_low HP.out HW16.out.below (by omega)
          · exact lies_low HB.out HW16.out.below (by omega)
        clear HW16 HO13' HO14' HO15' HG13 hg18
        go_wp2_with fail
        refine (same_any lO nO p14 p15 c14 c15 w18 HNO.out (by omega) (HW18.out.lies (p14, lO) (by simp)) (HW18.out.lies (p15, lO) (by simp))).mono ?_
        rintro e w19 ⟨rfl, hb19⟩
        have HW19 := Lib.hid (HW18.out.on hb19); clear hb19 HW18
        go_wp2_with fail
        refine (kept_any head n (n + 5) (some ⟨gx, 0, none⟩) p cx cp w19 HHL.out (by omega) (by omega) (by omega) (by omega) (HW19.out.lies (some ⟨gx, 0, none⟩, head ++ marks 5) (by simp)) (HW19.out.lies (p, head) (by simp))).mono ?_
        rintro e w20 ⟨rfl, hb20⟩
        have HW20 := Lib.hid (HW19.out.on hb20); clear hb20 HW19
        have e20 := HW20.out.cell HV.out
        go_wp2_with fail
        clear e20
        refine (kept_any lr nr (nr + 5) (some ⟨gy, 0, none⟩) pr cy cr w20 HLR.out (by omega) (by omega) (by omega) (by omega) (HW20.out.lies (some ⟨gy, 0, none⟩, lr ++ marks 5) (by simp)) (HW20.out.lies (pr, lr) (List.mem_cons_of_mem _ (List.mem_cons_of_mem _ (List.mem_cons_of_mem _ (List.mem_cons_of_mem _ HMEM.out)))))).mono ?_
        rintro e w21 ⟨rfl, hb21⟩
        have HW21 := Lib.hid (HW20.out.on hb21); clear hb21 HW20
        go_wp2_with fail
        go_roundw
        case rel => exact ⟨k + 1, by omega, by go_num, HW21.out.drop.drop.drop.drop⟩
        case measure => simp [intOf]; omega
      · have hk3 : ¬ (k : Int) < 3 := by omega
        go_wp2_with fail
        refine (works5_any wr (HQ.out.below HW.out.below hqs)).mono ?_
        rintro e w8 ⟨rfl, hb8⟩
        have HW8 := Lib.hid (HW.out.on hb8); clear hb8
        go_wp2_with fail
        go_ret
        exact ⟨rfl, HW8.out.below⟩
end Go.Proofs.YtagkkihnfipfeaaDoor

/-
  AeadOpens, for any key, nonce, head, bytes, place and bits: the law returns true, and what came in reads afterwards as it read before; the package's table starts as the program's own text lays it (the tie is given).
-/
namespace Go.Proofs.YtagkkihnfipfeaaDoor
open Go.ChangeShapes Go.WideShapes Go.ChangeAt Go.RowKit Go.Proofs.ShaWords

set_option maxRecDepth 100000 in
theorem aeadOpens_lifted (os : Os) (started : os.Started) (H : Type) (enc : TypeId × Value → H) :
    ReturnsInHanded {} Tryd.checked os 4 .any (fun w args => (Rows.aeadOpensSpec.pre enc Tryd.prog Tryd.f4 [] false w args ∧ laidMetH Tryd.prog laid3 w) ∧ sizedMet enc Tryd.prog Tryd.f4 (OpenSpec.ofChange Rows.aeadOpensSpec) false w args)
      (Rows.aeadOpensSpec.post enc Tryd.prog Tryd.f4 false true false false) := by
  refine returnsInHanded_of_change_and (C := Tryd.checked) (X := fun w _ => laidMetH Tryd.prog laid3 w) (fun _ _ _ hh h => h.of_heap hh) own started (by kernel_rfl) Tryd.func4
    (ChangeSpec.witness_shaped (enc := enc) (C := Tryd.checked) (os := os) (X := fun w _ => laidMetH Tryd.prog laid3 w) false (World.doorLaid Tryd.prog 400 os) #[.agg (Array.replicate 32 (.int .u8 0)), .agg (Array.replicate 12 (.int .u8 0)), .slice none 0 0, .slice none 0 0, .int .i64 0, .int .u8 0] 8 rfl (World.shaped_of_RefB (by kernel_rfl) (by kernel_rfl)) (by kernel_rfl) (by kernel_rfl) (by kernel_rfl) (door_met3 os _)) ?_
  intro W base args ds gs before hval0 hW _ hsz hL _
  have hW' := hW
  obtain ⟨p, q, hA0, hV, rfl, hfz, hnd⟩ := hW
  have hA : DataW.TrodAll enc Tryd.prog W 0 (fun _ => true) true Tryd.f4.params.toList args.toList ds p := hA0
  have hval : ∀ (j : Nat) t v, Tryd.f4.params[j]? = some t → args[j]? = some v → Value.okWide Tryd.prog W .any base t v := hval0
  have hsz2 : (DataW.weightsEach Tryd.prog (Tryd.f4.params.toList ++ Rows.aeadOpensSpec.plain.varTypes Tryd.prog) (ds ++ gs)).all (· ≤ reachBytes) = true := hsz
  rw [Tryd.params4] at hA hval hsz2
  obtain ⟨v0, vs0, d0, ds0, p0, q0, hargs, rfl, rfl, h0, r0⟩ := trodAll_cons hA
  obtain ⟨v1, vs1, d1, ds1, p1, q1, rfl, rfl, rfl, h1, r1⟩ := trodAll_cons r0
  obtain ⟨v2, vs2, d2, ds2, p2, q2, rfl, rfl, rfl, h2, r2⟩ := trodAll_cons r1
  obtain ⟨v3, vs3, d3, ds3, p3, q3, rfl, rfl, rfl, h3, r3⟩ := trodAll_cons r2
  obtain ⟨v4, vs4, d4, ds4, p4, q4, rfl, rfl, rfl, h4, r4⟩ := trodAll_cons r3
  obtain ⟨v5, vs5, d5, ds5, p5, q5, rfl, rfl, rfl, h5, r5⟩ := trodAll_cons r4
  obtain ⟨rfl, rfl, rfl⟩ := trodAll_nil r5
  obtain rfl : args = #[v0, v1, v2, v3, v4, v5] := by cases args; simp_all
  obtain ⟨rfl, rfl⟩ := trodVars_none hV
  have hb5 : Tryd.prog.bytesOf 5 = 1 := by kernel_rfl
  obtain ⟨cs0, rfl⟩ := okWide_key (hval 0 23 v0 rfl rfl)
  have k0 := h0
  have lt0 : ∀ x ∈ p0, x.block < W.heap.size := by obtain ⟨m, hm⟩ := k0; exact DataW.trod_lt m _ _ _ hm
  obtain ⟨f0, hf0⟩ := h0
  obtain ⟨xs0, hx0a, hx0b⟩ := open_key hf0
  obtain rfl : cs0 = (bytesV xs0).toArray := by rw [← hx0b]; rfl
  obtain ⟨cs1, rfl⟩ := okWide_nonce (hval 1 25 v1 rfl rfl)
  have k1 := h1
  have lt1 : ∀ x ∈ p1, x.block < W.heap.size := by obtain ⟨m, hm⟩ := k1; exact DataW.trod_lt m _ _ _ hm
  obtain ⟨f1, hf1⟩ := h1
  obtain ⟨xs1, hx1a, hx1b⟩ := open_nonce hf1
  obtain rfl : cs1 = (bytesV xs1).toArray := by rw [← hx1b]; rfl
  obtain ⟨a2, len2, cap2, rfl⟩ := okWide_slice Tryd.underlying26 (hval 2 26 v2 rfl rfl)
  have k2 := h2
  have lt2 : ∀ x ∈ p2, x.block < W.heap.size := by obtain ⟨m, hm⟩ := k2; exact DataW.trod_lt m _ _ _ hm
  obtain ⟨f2, hf2⟩ := h2
  obtain ⟨xs2, hx2a, hx2b, hx2c, hx2d⟩ := open_bytes hf2
  have hc2 : cap2 ≤ 140737488351232 := by
    rcases hx2d with ⟨_, h⟩ | ⟨e, sp, he, hl⟩
    · omega
    · have h := sized_slice hsz2 (j := 2) (t := 26) (elems := e) (spare := sp) rfl (by rw [← he]; rfl) Tryd.underlying26
      rw [hb5] at h; unfold reachBytes at h; omega
  obtain ⟨a3, len3, cap3, rfl⟩ := okWide_slice Tryd.underlying26 (hval 3 26 v3 rfl rfl)
  have k3 := h3
  have lt3 : ∀ x ∈ p3, x.block < W.heap.size := by obtain ⟨m, hm⟩ := k3; exact DataW.trod_lt m _ _ _ hm
  obtain ⟨f3, hf3⟩ := h3
  obtain ⟨xs3, hx3a, hx3b, hx3c, hx3d⟩ := open_bytes hf3
  have hc3 : cap3 ≤ 140737488351232 := by
    rcases hx3d with ⟨_, h⟩ | ⟨e, sp, he, hl⟩
    · omega
    · have h := sized_slice hsz2 (j := 3) (t := 26) (elems := e) (spare := sp) rfl (by rw [← he]; rfl) Tryd.underlying26
      rw [hb5] at h; unfold reachBytes at h; omega
  obtain ⟨z4, rfl, rfl, rfl, wz4⟩ := open_int Tryd.underlying3 (hval 4 3 v4 rfl rfl) h4
  obtain ⟨z5, rfl, rfl, rfl, wz5⟩ := open_int Tryd.underlying5 (hval 5 5 v5 rfl rfl) h5
  have hQ := of_laid3 hL
  clear hA0 hval0
  obtain ⟨c5, rfl⟩ : ∃ c5, z5 = n8 c5 := ⟨BitVec.ofInt 8 z5, (n8_ofInt z5 wz5).symm⟩
  refine (aeOpens_any xs0 xs1 xs2 xs3 z4 c5 len2 len3 a2 a3 cap2 cap3 W hx0a hx1a hx2a hx3a hx2b hx3b hx2c hx3c hQ).mono fun e W' ⟨he, bel⟩ => ?_
  subst he
  exact ⟨_, rfl, _, _, _, [], _, [], hW', trodAll_mk1 (shut_bool Tryd.underlying4 _), (trodAll_cons_mk (Below.trod laidOut (by kernel_rfl) (of_decide_eq_true (by kernel_rfl)) k0 bel lt0) (trodAll_cons_mk (Below.trod laidOut (by kernel_rfl) (of_decide_eq_true (by kernel_rfl)) k1 bel lt1) (trodAll_cons_mk (Below.trod laidOut (by kernel_rfl) (of_decide_eq_true (by kernel_rfl)) k2 bel lt2) (trodAll_cons_mk (Below.trod laidOut (by kernel_rfl) (of_decide_eq_true (by kernel_rfl)) k3 bel lt3) (trodAll_cons_mk (shut_int Tryd.underlying3 wz4) (trodAll_cons_mk (shut_int Tryd.underlying5 wz5) trodAll_mk0)))))), rfl, bel.frame _, fun h => by cases h⟩

theorem aeadOpens_holds : Rows.AeadOpensSaid :=
  OpenClaim.holds_of_wide 4 Tryd.f4 rfl rfl rfl rfl rfl rfl rfl ⟨rfl, rfl, rfl, rfl, rfl⟩ rfl rfl rfl rfl rfl (by kernel_rfl) Tryd.func4 (by kernel_rfl)
    (of_decide_eq_true (by kernel_rfl)) (by unfold Func.isWrapper; first | (rw [if_pos (by decide +kernel)]; kernel_rfl) | (rw [if_neg (by decide +kernel)]; exact ⟨rfl, rfl⟩))
    (fun os started H enc _ => aeadOpens_lifted os started H enc)

theorem aeadOpens_card : Rows.AeadOpensCardSaid :=
  Claim7.holds_tied_plain_at .later [] [.data] true Rows.aeadOpensCard.stood.harness false
    aeadOpens_holds (fun _ h => by cases h) (by kernel_rfl) (fun _ h => by cases h) aeadOpens_row_tie rfl ⟨rfl, rfl⟩ (by kernel_rfl) rfl
    (fun f fn hf hfn => by
      obtain rfl : f = 4 := Option.some.inj (hf.symm.trans (show _ = some 4 by kernel_rfl))
      obtain rfl : fn = Tryd.f4 := (Option.some.inj (Tryd.func4.symm.trans hfn)).symm
      exact ⟨by kernel_rfl, fun j t ht => by
        rw [Tryd.params4] at ht
        have hm : t ∈ [23, 25, 26, 26, 3, 5] := by simpa using Array.mem_of_getElem? ht
        have hall : ([23, 25, 26, 26, 3, 5].all fun u => !Tryd.prog.wantsStandIn u) = true := by kernel_rfl
        exact (show Tryd.prog.wantsStandIn t = false by simpa using List.all_eq_true.1 hall t hm)⟩)
    (by kernel_rfl)
#print axioms aeadOpens_card
end Go.Proofs.YtagkkihnfipfeaaDoor
