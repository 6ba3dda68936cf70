/-
  The walk of the law ShaPieces, for at most 60 pieces: it returns true, and nothing that was there changes.
-/
import Derived.Test.YtgfmjfpafpmghaaDoorPiecesMem
namespace Go.Proofs.YtgfmjfpafpmghaaDoor
open Go.RowKit Go.Proofs.ShaWords
/-- A piece that came in: where it lies, its capacity, its bytes. -/
abbrev Piece := Option Addr × Nat × List (BitVec 8)
def pieceV (q : Piece) : Value := .slice q.1 q.2.2.length q.2.1
def flatOf (ps : List Piece) : List (BitVec 8) := (ps.map (·.2.2)).flatten
theorem flat_take (ps : List Piece) (k : Nat) (hk : k < ps.length) : flatOf (ps.take (k + 1)) = flatOf (ps.take k) ++ ps[k].2.2 := by
  unfold flatOf
  rw [List.take_succ_eq_append_getElem hk, List.map_append, List.flatten_append]
  simp
structure PW (w : World) (g2 B : Nat) (l : List (BitVec 8)) (v : Value) (wr : World) : Prop where
  own : Own B wr l v
  h1 : HashAt wr w.heap.size (writeOf newHS l)
  h2 : HashAt wr g2 newHS
  below : Below w.heap.size w wr
  size : B ≤ wr.heap.size
theorem PW.on {w wr w' : World} {g2 B : Nat} {l : List (BitVec 8)} {v : Value} (h : PW w g2 B l v wr) (hb : Below wr.heap.size wr w') : PW w g2 B l v w' :=
  ⟨h.own.below hb, h.h1.keep hb, h.h2.keep hb, h.below.trans (hb.mono h.below.size), Nat.le_trans h.size hb.size⟩
theorem Own.liesAt {B : Nat} {w : World} {l : List (BitVec 8)} {p : Option Addr} {n c : Nat} (h : Own B w l (.slice p n c)) : Lies w p l := by
  obtain ⟨p', c', h1, -, -, h2⟩ := h.lies
  cases h1; exact h2
theorem HashAt.under {w w' : World} {g B : Nat} {h : HS} (ha : HashAt w g h) (hb : Below B w w') (hg : g < B) : HashAt w' g h := ⟨(hb.block _ hg).trans ha.1, ha.2⟩
theorem HashAt.besides {w w' : World} {g g' : Nat} {h : HS} (ha : HashAt w g h) (hg : w.grownBy w' (some g')) (hne : g ≠ g') : HashAt w' g h :=
  ⟨(hg.block _ ha.size (fun e => hne (Option.some.inj e))).trans ha.1, ha.2⟩
theorem PW.drewOn {w wr : World} {g2 B : Nat} {l : List (BitVec 8)} {v : Value} (h : PW w g2 B l v wr) : PW w g2 B l v wr.drew :=
  h.on ((Below.refl _ _).drew)
theorem writeOf_new_n (l : List (BitVec 8)) : (writeOf newHS l).n = l.length := by rw [writeOf_n]; show 0 + _ = _; omega
theorem sumOf_new (l : List (BitVec 8)) : sumOf (writeOf newHS l) = shaOf l := rfl
theorem sum_sha (g : Nat) (l : List (BitVec 8)) (w : World) (ha : HashAt w g (writeOf newHS l)) (hk : Consts w) (hn : l.length < 549755813888) :
    Calls Tryd.prog 15 #[.pointer (some ⟨g, 0, none⟩)] w fun e w' => e = .returned (.agg (bytesV (shaOf l)).toArray) ∧ Below w.heap.size w w' :=
  sum_any g (writeOf newHS l) w ha hk (by rw [writeOf_new_n]; exact hn)
theorem sum_fresh (g : Nat) (w : World) (ha : HashAt w g newHS) (hk : Consts w) :
    Calls Tryd.prog 15 #[.pointer (some ⟨g, 0, none⟩)] w fun e w' => e = .returned (.agg (bytesV (shaOf [])).toArray) ∧ Below w.heap.size w w' :=
  sum_sha g [] w (by rw [writeOf_nil]; exact ha) hk (by decide)
attribute [local irreducible] writeOf shaOf sumOf
set_option maxRecDepth 100000 in
set_option maxHeartbeats 1000000 in
theorem pieces_main (ps : List Piece) (p : Option Addr) (ca : Nat) (w : World) (hlen : ps.length ≤ 60) (hp : ps = [] ∨ ∃ b off, p = some ⟨b, off, none⟩ ∧ ∀ k (h : k < ps.length), w.cell? ⟨b, off + k, none⟩ = some (pieceV ps[k]))
    (hlies : ∀ k (h : k < ps.length), Lies w ps[k].1 ps[k].2.2 ∧ ps[k].2.2.length ≤ 140737488351232) (hk : Consts w) (hs : Starts w) :
    Calls Tryd.prog 10 #[.slice p ps.length ca] w fun e w' => e = .returned (.bool true) ∧ Below w.heap.size w w' := by
  have hs1 := hk.size
  have HK := Lib.hid hk; clear hk
  have HS := Lib.hid hs; clear hs
  have HP := Lib.hid hp; clear hp
  have HL := Lib.hid hlies; clear hlies
  go_enter Tryd.func10, Tryd.ntmps10
  go_wp2_with fail
  refine (new_any w HS.out).mono ?_
  rintro e w1 ⟨rfl, ha1, hb1⟩
  have sz1 := ha1.size
  have HB1 := Lib.hid hb1; clear hb1
  have HA1 := Lib.hid ha1; clear ha1
  go_wp2_with fail
  refine (new_any w1 (HS.out.below HB1.out (by omega))).mono ?_
  rintro e w2 ⟨rfl, ha2, hb2⟩
  have sz2 := ha2.size
  have HPW : Hid (PW w w1.heap.size w2.heap.size [] (.slice none 0 0) w2) := ⟨Own.nil _ _, by rw [writeOf_nil]; exact HA1.out.keep hb2, ha2, HB1.out.trans (hb2.mono (by omega)), Nat.le_refl _⟩
  clear ha2 hb2 HA1 HB1
  generalize w1.heap.size = g2 at sz1 sz2 HPW
  generalize w2.heap.size = B at sz2 HPW
  go_wp2_with fail
  go_loopw [5, 6, 7] (fun v i _ wr => ∃ k : Nat, k ≤ ps.length ∧ i = .int .i64 (k : Int) ∧ (flatOf (ps.take k)).length ≤ 8192 ∧ PW w g2 B (flatOf (ps.take k)) v wr) (fun _ i _ _ => ps.length - (intOf i).toNat)
  case atStart => exact ⟨0, by omega, rfl, by simp [flatOf], HPW.out⟩
  case round =>
    clear HPW
    obtain ⟨k, hk, rfl, hfl, hpw⟩ := hrel
    by_cases hlt : k < ps.length
    · have HF := Lib.hid (flat_take ps k hlt)
      have hL1 := (HL.out k hlt)
      rcases HP.out with h0 | ⟨b, off, rfl, hcs⟩
      · exfalso; rw [h0] at hlt; simp at hlt
      have hc := hcs k hlt
      have hbl : b < w.heap.size := World.block_lt_of_cell? w _ hc
      unfold pieceV at hc
      clear hcs
      generalize ps[k] = q at hc hL1 HF
      obtain ⟨pq, cq, xs⟩ := q
      dsimp only at hc hL1 HF
      have hcr := (hpw.below.cell hbl).trans hc
      have HC := Lib.hid hc; clear hc
      have hLx := Lib.hid hL1.1
      have hxl := hL1.2
      clear hL1
      have HPW := Lib.hid hpw
      obtain ⟨pv, cv, rfl, -, -, hLa⟩ := hpw.own.lies
      generalize flatOf (ps.take k) = l at HF HPW hfl hLa hpw ⊢
      have HLa := Lib.hid hLa; clear hLa
      have szr := hpw.size
      have HLT : Hid (∀ j, Value.ownBlock (.slice pv l.length cv) = some j → j < wr.heap.size) := fun j hj => (hpw.own.lt j hj).2
      have hbw := hpw.below
      have HBW := Lib.hid hbw; clear hbw hpw
      have k0 : (0 : Int) ≤ (k : Int) := by omega
      have k1 : (k : Int) < (ps.length : Int) := by omega
      by_cases hbig : 8192 < l.length + xs.length
      · have hbig2 : (8192 : Int) < (l.length : Int) + (xs.length : Int) := by omega
        go_wp2_with fail
        refine (works_any wr (HK.out.below HBW.out hs1) (HS.out.below HBW.out (by omega))).mono ?_
        rintro e w' ⟨rfl, hb⟩
        have HB := Lib.hid (HBW.out.trans (hb.mono HBW.out.size)); clear hb
        go_wp2_with fail
        go_ret
        exact ⟨rfl, HB.out⟩
      · have hbig2 : ¬ (8192 : Int) < (l.length : Int) + (xs.length : Int) := by omega
        go_wp2_with fail
        refine (lent_any xs pq cq wr (by omega) (hLx.out.below HBW.out)).mono ?_
        rintro e w3 ⟨v7, rfl, ho7, hb3⟩
        have hl5 : (xs ++ marks 5).length = xs.length + 5 := by rw [List.length_append, marks_length]
        obtain ⟨p7, c7, rfl, hc7, hm7, -⟩ := ho7.lies
        rw [hl5] at hc7
        have hpw3 := HPW.out.on hb3
        have sz3 := hb3.size
        have HO7 : Hid (Own wr.heap.size w3 (xs ++ marks 5) (.slice p7 (xs.length + 5) c7)) := by
          have h1 := ho7; rw [hl5] at h1; exact h1
        rw [hl5]
        clear ho7 HPW HBW
        have HPW := Lib.hid hpw3; clear hpw3 hb3
        have HL5 := Lib.hid hl5; clear hl5
        have j1 : (xs.length : Int) ≤ (c7 : Int) := by omega
        have hcr3 := (HPW.out.below.cell hbl).trans HC.out
        clear hcr
        have hgB : w.heap.size < wr.heap.size := by omega
        go_wp2_with fail
        refine (write_cap w.heap.size (writeOf newHS l) xs p7 c7 w3 HPW.out.h1 (HO7.out.reads _ hgB) (by omega) hm7 (by rw [writeOf_new_n]; omega) (HK.out.below HPW.out.below hs1) (by omega)).mono ?_
        rintro e w4 ⟨rfl, ha4, hg4⟩
        have sz4 : w3.heap.size ≤ w4.heap.size := hg4.size
        have HB4 := Lib.hid (HPW.out.below.grown hg4 (by omega) (fun j hj => by cases hj; exact Nat.le_refl _))
        have HA4 := Lib.hid ha4
        have HG4 := Lib.hid (HPW.out.h2.besides hg4 (by omega))
        have HO4 := Lib.hid (HO7.out.beside hg4 hgB)
        have HV4 := Lib.hid (HPW.out.own.beside hg4 (by omega))
        clear ha4 hg4 hcr3 HO7 HPW
        have hcr4 := (HB4.out.cell hbl).trans HC.out
        go_wp2_with fail
        refine (kept_any xs xs.length (xs.length + 5) p7 pq c7 cq w4 rfl (Nat.le_refl _) (Nat.le_refl _) (by omega) hc7 HO4.out.liesAt (hLx.out.below HB4.out)).mono ?_
        rintro e w5 ⟨rfl, hb5⟩
        have sz5 := hb5.size
        have HB5 := Lib.hid (HB4.out.trans (hb5.mono (by omega)))
        have HA5 := Lib.hid (HA4.out.keep hb5)
        have HG5 := Lib.hid (HG4.out.keep hb5)
        have HO5 := Lib.hid (HO4.out.below hb5)
        have HV5 := Lib.hid (HV4.out.below hb5)
        clear hb5 hcr4 HA4 HG4 HO4 HV4 HB4
        go_wp2_with fail
        refine (spoil_any (xs ++ marks 5) wr.heap.size _ w5 (by rw [HL5.out]; omega) (by intro h0; have h1 := HL5.out; rw [h0] at h1; simp at h1) HO5.out).mono ?_
        rintro e w6 ⟨rfl, hb6⟩
        have sz6 := hb6.size
        have HB6 := Lib.hid (HB5.out.trans (hb6.mono (by omega)))
        have HA6 := Lib.hid (HA5.out.under hb6 (by omega))
        have HG6 := Lib.hid (HG5.out.under hb6 (by omega))
        have HV6 := Lib.hid (HV5.out.under hb6 HLT.out)
        clear hb6 HA5 HG5 HO5 HV5 HB5
        have hcr6 := (HB6.out.cell hbl).trans HC.out
        have HLX := Lib.hid (hLx.out.below HB6.out)
        by_cases hmod : k % 3 = 1
        · have hmod2 : (k : Int) % 3 = 1 := by omega
          go_wp2_with (at_builtin; refine wpList_append_list rfl (.tmp 70) (.tmp 74) rfl B _ l xs pq cq rfl HV6.out rfl HLX.out (by omega) (by omega) ?_; intro v8 w7 ho8 hb7; have HO8 := Lib.hid ho8; have HB7 := Lib.hid hb7; clear ho8 hb7)
          have HP7 : Hid (PW w g2 B (l ++ xs) v8 w7) := ⟨HO8.out, by rw [writeOf_append]; exact HA6.out.under HB7.out (by omega), HG6.out.under HB7.out (by omega), HB6.out.trans (HB7.out.mono (by omega)), Nat.le_trans (by omega) HB7.out.size⟩
          clear HA6 HG6 HV6 HB6 hcr6 HLX
          have hlx : (l ++ xs).length ≤ 8192 := by rw [List.length_append]; omega
          generalize l ++ xs = lx at HP7 HO8 HF hlx
          obtain ⟨p8, c8, rfl, -, -, hl8⟩ := HO8.out.lies
          refine (sum_any w.heap.size (writeOf newHS lx) w7 HP7.out.h1 (HK.out.below HP7.out.below hs1) (by rw [writeOf_new_n]; omega)).mono ?_
          rintro e w8 ⟨rfl, hb8⟩
          rw [sumOf_new]
          have HP8 := Lib.hid (HP7.out.on hb8)
          have HL8 := Lib.hid (hl8.below hb8); clear hb8 hl8 HO8 HB7 HP7
          go_wp2_with fail
          refine (refSum_any lx p8 c8 w8 (by omega) HL8.out).mono ?_
          rintro e w9 ⟨rfl, hb9⟩
          have HP9 := Lib.hid (HP8.out.on hb9); clear hb9 HP8 HL8
          have HE := fun w => equal26 (shaOf lx) (shaOf_length _) w
          go_wp2_with fail
          go_roundw
          case rel => exact ⟨k + 1, by omega, by go_num, by rw [HF.out]; omega, by rw [HF.out]; exact HP9.out⟩
          case measure => simp [intOf]; omega
        · have hmod2 : ¬ (k : Int) % 3 = 1 := by omega
          go_wp2_with (at_builtin; refine wpList_append_list rfl (.tmp 70) (.tmp 74) rfl B _ l xs pq cq rfl HV6.out rfl HLX.out (by omega) (by omega) ?_; intro v8 w7 ho8 hb7; have HO8 := Lib.hid ho8; have HB7 := Lib.hid hb7; clear ho8 hb7)
          have HP7 : Hid (PW w g2 B (l ++ xs) v8 w7) := ⟨HO8.out, by rw [writeOf_append]; exact HA6.out.under HB7.out (by omega), HG6.out.under HB7.out (by omega), HB6.out.trans (HB7.out.mono (by omega)), Nat.le_trans (by omega) HB7.out.size⟩
          clear HA6 HG6 HV6 HB6 hcr6 HLX
          go_roundw
          case rel => exact ⟨k + 1, by omega, by go_num, by rw [HF.out, List.length_append]; omega, by rw [HF.out]; exact HP7.out⟩
          case measure => simp [intOf]; omega
    · have HPW := Lib.hid hpw
      obtain ⟨pv, cv, rfl, -, -, hLa⟩ := hpw.own.lies
      generalize flatOf (ps.take k) = l at HPW hfl hLa hpw ⊢
      clear hpw HP HL
      have HLa := Lib.hid hLa; clear hLa
      go_wp2_with fail
      refine (refSum_any l pv cv wr (by omega) HLa.out).mono ?_
      rintro e w3 ⟨rfl, hb3⟩
      have HP3 := Lib.hid (HPW.out.on hb3); clear hb3 HPW HLa
      have hsl := shaOf_length l
      have HI := Lib.hid ((show (Tryd.prog.info? 33).map (·.size) = some 32 by kernel_rfl).trans (congrArg some (bytesV_size _ 32 hsl).symm))
      have HOLD := Lib.hid (show (bytesV (List.replicate 32 0#8)).toArray.size = (bytesV (shaOf l)).toArray.size by rw [bytesV_size _ 32 hsl]; rfl)
      have HONE := Lib.hid (bytesV_one (shaOf l))
      rw [noughts32] at HOLD
      have HE := fun w => equal26 (shaOf l) hsl w
      have HSN := Lib.hid (sumOf_new l)
      have hnl : (writeOf newHS l).n < 549755813888 := by rw [writeOf_new_n]; omega
      have HNL := Lib.hid hnl; clear hnl
      generalize hfe : (bytesV (shaOf l)).toArray = full at HI HOLD HONE HE ⊢
      have HFE := Lib.hid hfe; clear hfe hsl
      go_wp2_with (refine wpList_store_new rfl 33 (.tmp 8) (.tmp 87) rfl w3.heap.size rfl full rfl rfl HI.out HOLD.out HONE.out ?_; intro w4 hw4 hb4; have HW4 := Lib.hid hw4; have HB4 := Lib.hid hb4; clear hw4 hb4)
      have HP4 := Lib.hid (HP3.out.on HB4.out)
      have s4 : w3.heap.size < w4.heap.size := (Array.getElem?_eq_some_iff.1 HW4.out).1
      generalize w3.heap.size = G at s4 HW4 ⊢
      clear HB4 HP3
      clear HI HOLD HONE HE
      have HRW : Hid (w4.drew.rangeAt G 0 (bytesV (shaOf l))) := fun j v hv => by
        rw [Nat.zero_add, cell_of_row w4.drew G j full 33 (0, 0) HW4.out, ← HFE.out]
        simpa using hv
      refine region_sched [(0, true), (2, true), (1, false), (3, true), (4, true), (5, true), (7, true), (6, false), (8, true), (9, true), (10, true), (11, true), (12, false), (13, false), (14, true), (15, true), (16, true), (17, false), (18, true), (19, true)] (by kernel_rfl) (by kernel_rfl) (by kernel_rfl) (by kernel_rfl) (fun ops hops A hA => ?_)
      have hsz : A.tmps.size = 107 := by rw [hA]; rfl
      have base3 : A.eval (.tmp 3) = .pointer (some ⟨w.heap.size, 0, none⟩) := by rw [hA]; rfl
      have base4 : A.eval (.tmp 4) = .pointer (some ⟨g2, 0, none⟩) := by rw [hA]; rfl
      have base8 : A.eval (.tmp 8) = .pointer (some ⟨G, 0, none⟩) := by rw [hA]; rfl
      have HAA := Lib.hid hA; clear hA
      obtain ⟨o0, po0, q0, d0, gd0⟩ : ∃ o, ops[0]? = some o ∧ o.op = .move (.tmp 3) ∧ o.dst = some 88 ∧ o.guard = none := ⟨_, by rw [hops]; rfl, rfl, rfl, rfl⟩
      obtain ⟨o1, po1, q1, d1, gd1⟩ : ∃ o, ops[1]? = some o ∧ o.op = .call { callee := .value (.func 15), args := #[.tmp 88], argTypes := #[37] } ∧ o.dst = some 89 ∧ o.guard = none := ⟨_, by rw [hops]; rfl, rfl, rfl, rfl⟩
      obtain ⟨o2, po2, q2, d2, gd2⟩ : ∃ o, ops[2]? = some o ∧ o.op = .load 33 (.tmp 8) ∧ o.dst = some 90 ∧ o.guard = none := ⟨_, by rw [hops]; rfl, rfl, rfl, rfl⟩
      obtain ⟨o3, po3, q3, d3, gd3⟩ : ∃ o, ops[3]? = some o ∧ o.op = .binOp .eql 33 (.tmp 89) (.tmp 90) 33 ∧ o.dst = some 91 ∧ o.guard = none := ⟨_, by rw [hops]; rfl, rfl, rfl, rfl⟩
      obtain ⟨o4, po4, q4, d4, gd4⟩ : ∃ o, ops[4]? = some o ∧ o.op = .move (.tmp 91) ∧ o.dst = some 92 ∧ o.guard = none := ⟨_, by rw [hops]; rfl, rfl, rfl, rfl⟩
      obtain ⟨o5, po5, q5, d5, gd5⟩ : ∃ o, ops[5]? = some o ∧ o.op = .move (.tmp 3) ∧ o.dst = some 93 ∧ o.guard = some (4, true) := ⟨_, by rw [hops]; rfl, rfl, rfl, rfl⟩
      obtain ⟨o6, po6, q6, d6, gd6⟩ : ∃ o, ops[6]? = some o ∧ o.op = .call { callee := .value (.func 15), args := #[.tmp 93], argTypes := #[37] } ∧ o.dst = some 94 ∧ o.guard = some (4, true) := ⟨_, by rw [hops]; rfl, rfl, rfl, rfl⟩
      obtain ⟨o7, po7, q7, d7, gd7⟩ : ∃ o, ops[7]? = some o ∧ o.op = .load 33 (.tmp 8) ∧ o.dst = some 95 ∧ o.guard = some (4, true) := ⟨_, by rw [hops]; rfl, rfl, rfl, rfl⟩
      obtain ⟨o8, po8, q8, d8, gd8⟩ : ∃ o, ops[8]? = some o ∧ o.op = .binOp .eql 33 (.tmp 94) (.tmp 95) 33 ∧ o.dst = some 96 ∧ o.guard = some (4, true) := ⟨_, by rw [hops]; rfl, rfl, rfl, rfl⟩
      obtain ⟨o9, po9, q9, d9, gd9⟩ : ∃ o, ops[9]? = some o ∧ o.op = .pick (.tmp 92) (.tmp 96) (.const (.bool false)) ∧ o.dst = some 97 ∧ o.guard = none := ⟨_, by rw [hops]; rfl, rfl, rfl, rfl⟩
      obtain ⟨o10, po10, q10, d10, gd10⟩ : ∃ o, ops[10]? = some o ∧ o.op = .move (.tmp 97) ∧ o.dst = some 98 ∧ o.guard = none := ⟨_, by rw [hops]; rfl, rfl, rfl, rfl⟩
      obtain ⟨o11, po11, q11, d11, gd11⟩ : ∃ o, ops[11]? = some o ∧ o.op = .move (.tmp 4) ∧ o.dst = some 99 ∧ o.guard = some (10, true) := ⟨_, by rw [hops]; rfl, rfl, rfl, rfl⟩
      obtain ⟨o12, po12, q12, d12, gd12⟩ : ∃ o, ops[12]? = some o ∧ o.op = .call { callee := .value (.func 15), args := #[.tmp 99], argTypes := #[37] } ∧ o.dst = some 100 ∧ o.guard = some (10, true) := ⟨_, by rw [hops]; rfl, rfl, rfl, rfl⟩
      obtain ⟨o13, po13, q13, d13, gd13⟩ : ∃ o, ops[13]? = some o ∧ o.op = .call { callee := .value (.func 31), args := #[.const (.slice none 0 0)], argTypes := #[26] } ∧ o.dst = some 101 ∧ o.guard = some (10, true) := ⟨_, by rw [hops]; rfl, rfl, rfl, rfl⟩
      obtain ⟨o14, po14, q14, d14, gd14⟩ : ∃ o, ops[14]? = some o ∧ o.op = .binOp .eql 33 (.tmp 100) (.tmp 101) 33 ∧ o.dst = some 102 ∧ o.guard = some (10, true) := ⟨_, by rw [hops]; rfl, rfl, rfl, rfl⟩
      obtain ⟨o15, po15, q15, d15, gd15⟩ : ∃ o, ops[15]? = some o ∧ o.op = .pick (.tmp 98) (.tmp 102) (.const (.bool false)) ∧ o.dst = some 103 ∧ o.guard = none := ⟨_, by rw [hops]; rfl, rfl, rfl, rfl⟩
      obtain ⟨o16, po16, q16, d16, gd16⟩ : ∃ o, ops[16]? = some o ∧ o.op = .move (.tmp 103) ∧ o.dst = some 104 ∧ o.guard = none := ⟨_, by rw [hops]; rfl, rfl, rfl, rfl⟩
      obtain ⟨o17, po17, q17, d17, gd17⟩ : ∃ o, ops[17]? = some o ∧ o.op = .call { callee := .value (.func 16), args := #[], argTypes := #[] } ∧ o.dst = some 105 ∧ o.guard = some (16, true) := ⟨_, by rw [hops]; rfl, rfl, rfl, rfl⟩
      obtain ⟨o18, po18, q18, d18, gd18⟩ : ∃ o, ops[18]? = some o ∧ o.op = .pick (.tmp 104) (.tmp 105) (.const (.bool false)) ∧ o.dst = some 106 ∧ o.guard = none := ⟨_, by rw [hops]; rfl, rfl, rfl, rfl⟩
      obtain ⟨o19, po19, q19, d19, gd19⟩ : ∃ o, ops[19]? = some o ∧ o.op = .assign (.tmp 106) ∧ o.dst = some 2 ∧ o.guard = none := ⟨_, by rw [hops]; rfl, rfl, rfl, rfl⟩
      clear hops
      refine step_pure po0 d0 (wanted_of gd0) (fun w' _ => run_move q0 base3 w') ?_
      refine step_pure po2 d2 (wanted_of gd2) (fun w' hw' => run_load_sum q2 ((eval_other _ 88 8 _ (by decide)).trans base8) (shaOf_length l) (range_keep (w := w4.drew) HRW.out hw')) ?_
      refine step_call po1 d1 (wanted_of gd1) (run_callf1 q1 rfl ((eval_other _ 90 88 _ (by decide)).trans (eval_same _ _ _ (by rw [hsz]; decide))) Tryd.func15 (by kernel_rfl) _) (sum_sha w.heap.size l w4.drew (HP4.out.drewOn).h1 (HK.out.below (HP4.out.drewOn).below hs1) (by omega)) (fun w' hR => hR) ?_
      intro wz1 hz1
      refine step_pure po3 d3 (wanted_of gd3) (fun w' _ => run_eql_sum q3 (shaOf_length l) (eval_same _ _ _ (by simp only [put_size, hsz]; decide)) ((eval_other _ 89 90 _ (by decide)).trans (eval_same _ _ _ (by simp only [put_size, hsz]; decide))) w') ?_
      refine step_pure po4 d4 (wanted_of gd4) (fun w' _ => run_move q4 (eval_same _ _ _ (by simp only [put_size, hsz]; decide)) w') ?_
      refine step_pure po5 d5 (wanted_guard gd5 po4 d4 (eval_same _ _ _ (by simp only [put_size, hsz]; decide))) (fun w' _ => run_move q5 ((eval_other _ 92 3 _ (by decide)).trans ((eval_other _ 91 3 _ (by decide)).trans ((eval_other _ 89 3 _ (by decide)).trans ((eval_other _ 90 3 _ (by decide)).trans ((eval_other _ 88 3 _ (by decide)).trans base3))))) w') ?_
      refine step_pure po7 d7 (wanted_guard gd7 po4 d4 ((eval_other _ 93 92 _ (by decide)).trans (eval_same _ _ _ (by simp only [put_size, hsz]; decide)))) (fun w' hw' => run_load_sum q7 ((eval_other _ 93 8 _ (by decide)).trans ((eval_other _ 92 8 _ (by decide)).trans ((eval_other _ 91 8 _ (by decide)).trans ((eval_other _ 89 8 _ (by decide)).trans ((eval_other _ 90 8 _ (by decide)).trans ((eval_other _ 88 8 _ (by decide)).trans base8)))))) (shaOf_length l) (range_keep (w := w4.drew) HRW.out hw')) ?_
      refine step_call po6 d6 (wanted_guard gd6 po4 d4 ((eval_other _ 95 92 _ (by decide)).trans ((eval_other _ 93 92 _ (by decide)).trans (eval_same _ _ _ (by simp only [put_size, hsz]; decide))))) (run_callf1 q6 rfl ((eval_other _ 95 93 _ (by decide)).trans (eval_same _ _ _ (by simp only [put_size, hsz]; decide))) Tryd.func15 (by kernel_rfl) _) (sum_sha w.heap.size l wz1 (HP4.out.drewOn.on hz1).h1 (HK.out.below (HP4.out.drewOn.on hz1).below hs1) (by omega)) (fun w' hR => hz1.trans (hR.mono hz1.size)) ?_
      intro wz2 hz2
      replace hz2 := hz1.trans (hz2.mono hz1.size)
      refine step_pure po8 d8 (wanted_guard gd8 po4 d4 ((eval_other _ 94 92 _ (by decide)).trans ((eval_other _ 95 92 _ (by decide)).trans ((eval_other _ 93 92 _ (by decide)).trans (eval_same _ _ _ (by simp only [put_size, hsz]; decide)))))) (fun w' _ => run_eql_sum q8 (shaOf_length l) (eval_same _ _ _ (by simp only [put_size, hsz]; decide)) ((eval_other _ 94 95 _ (by decide)).trans (eval_same _ _ _ (by simp only [put_size, hsz]; decide))) w') ?_
      refine step_pure po9 d9 (wanted_of gd9) (fun w' _ => run_pick_true q9 ((eval_other _ 96 92 _ (by decide)).trans ((eval_other _ 94 92 _ (by decide)).trans ((eval_other _ 95 92 _ (by decide)).trans ((eval_other _ 93 92 _ (by decide)).trans (eval_same _ _ _ (by simp only [put_size, hsz]; decide)))))) (eval_same _ _ _ (by simp only [put_size, hsz]; decide)) w') ?_
      refine step_pure po10 d10 (wanted_of gd10) (fun w' _ => run_move q10 (eval_same _ _ _ (by simp only [put_size, hsz]; decide)) w') ?_
      refine step_pure po11 d11 (wanted_guard gd11 po10 d10 (eval_same _ _ _ (by simp only [put_size, hsz]; decide))) (fun w' _ => run_move q11 ((eval_other _ 98 4 _ (by decide)).trans ((eval_other _ 97 4 _ (by decide)).trans ((eval_other _ 96 4 _ (by decide)).trans ((eval_other _ 94 4 _ (by decide)).trans ((eval_other _ 95 4 _ (by decide)).trans ((eval_other _ 93 4 _ (by decide)).trans ((eval_other _ 92 4 _ (by decide)).trans ((eval_other _ 91 4 _ (by decide)).trans ((eval_other _ 89 4 _ (by decide)).trans ((eval_other _ 90 4 _ (by decide)).trans ((eval_other _ 88 4 _ (by decide)).trans base4))))))))))) w') ?_
      refine step_call po12 d12 (wanted_guard gd12 po10 d10 ((eval_other _ 99 98 _ (by decide)).trans (eval_same _ _ _ (by simp only [put_size, hsz]; decide)))) (run_callf1 q12 rfl (eval_same _ _ _ (by simp only [put_size, hsz]; decide)) Tryd.func15 (by kernel_rfl) _) (sum_fresh g2 wz2 (HP4.out.drewOn.on hz2).h2 (HK.out.below (HP4.out.drewOn.on hz2).below hs1)) (fun w' hR => hz2.trans (hR.mono hz2.size)) ?_
      intro wz3 hz3
      replace hz3 := hz2.trans (hz3.mono hz2.size)
      refine step_call po13 d13 (wanted_guard gd13 po10 d10 ((eval_other _ 100 98 _ (by decide)).trans ((eval_other _ 99 98 _ (by decide)).trans (eval_same _ _ _ (by simp only [put_size, hsz]; decide))))) (run_callf1 q13 rfl rfl Tryd.func31 (by kernel_rfl) _) (refSum_any [] none 0 wz3 (by decide) (.inl rfl)) (fun w' hR => hz3.trans (hR.mono hz3.size)) ?_
      intro wz4 hz4
      replace hz4 := hz3.trans (hz4.mono hz3.size)
      refine step_pure po14 d14 (wanted_guard gd14 po10 d10 ((eval_other _ 101 98 _ (by decide)).trans ((eval_other _ 100 98 _ (by decide)).trans ((eval_other _ 99 98 _ (by decide)).trans (eval_same _ _ _ (by simp only [put_size, hsz]; decide)))))) (fun w' _ => run_eql_sum q14 (shaOf_length []) ((eval_other _ 101 100 _ (by decide)).trans (eval_same _ _ _ (by simp only [put_size, hsz]; decide))) (eval_same _ _ _ (by simp only [put_size, hsz]; decide)) w') ?_
      refine step_pure po15 d15 (wanted_of gd15) (fun w' _ => run_pick_true q15 ((eval_other _ 102 98 _ (by decide)).trans ((eval_other _ 101 98 _ (by decide)).trans ((eval_other _ 100 98 _ (by decide)).trans ((eval_other _ 99 98 _ (by decide)).trans (eval_same _ _ _ (by simp only [put_size, hsz]; decide)))))) (eval_same _ _ _ (by simp only [put_size, hsz]; decide)) w') ?_
      refine step_pure po16 d16 (wanted_of gd16) (fun w' _ => run_move q16 (eval_same _ _ _ (by simp only [put_size, hsz]; decide)) w') ?_
      refine step_call po17 d17 (wanted_guard gd17 po16 d16 (eval_same _ _ _ (by simp only [put_size, hsz]; decide))) (run_callf0 q17 rfl Tryd.func16 (by kernel_rfl) _) (works_any wz4 (HK.out.below (HP4.out.drewOn.on hz4).below hs1) (HS.out.below (HP4.out.drewOn.on hz4).below (by omega))) (fun w' hR => hz4.trans (hR.mono hz4.size)) ?_
      intro wz5 hz5
      replace hz5 := hz4.trans (hz5.mono hz4.size)
      refine step_pure po18 d18 (wanted_of gd18) (fun w' _ => run_pick_true q18 ((eval_other _ 105 104 _ (by decide)).trans (eval_same _ _ _ (by simp only [put_size, hsz]; decide))) (eval_same _ _ _ (by simp only [put_size, hsz]; decide)) w') ?_
      refine step_pure po19 d19 (wanted_of gd19) (fun w' _ => run_assign q19 (eval_same _ _ _ (by simp only [put_size, hsz]; decide)) w') ?_
      have HFIN := Lib.hid ((HP4.out.drewOn.on hz5).below)
      show NoPanic _ .normal _ _
      refine NoPanic.normal ?_
      rw [HAA.out]
      go_frame
      go_wp2_with fail
      go_ret
      exact ⟨rfl, HFIN.out⟩
theorem pieces_any (ps : List Piece) (len : Nat) (p : Option Addr) (ca : Nat) (w : World) (hlen : ps.length = len) (hmax : len ≤ 140737488351232) (hp : ps = [] ∨ ∃ b off, p = some ⟨b, off, none⟩ ∧ ∀ k (h : k < ps.length), w.cell? ⟨b, off + k, none⟩ = some (pieceV ps[k]))
    (hlies : ∀ k (h : k < ps.length), Lies w ps[k].1 ps[k].2.2 ∧ ps[k].2.2.length ≤ 140737488351232) (hk : Consts w) (hs : Starts w) :
    Calls Tryd.prog 10 #[.slice p len ca] w fun e w' => e = .returned (.bool true) ∧ Below w.heap.size w w' := by
  subst hlen
  by_cases h : ps.length ≤ 60
  · exact pieces_main ps p ca w h hp hlies hk hs
  · exact pieces_long ps.length p ca w (by omega) hmax hk hs
end Go.Proofs.YtgfmjfpafpmghaaDoor
