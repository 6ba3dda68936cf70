/-
  The document's block: the same as chacha's, in new memory.
-/
import Derived.Test.YtgfmjfpafpmghaaDoorCcRefSquare
import Derived.Test.YtgfmjfpafpmghaaDoorCcRefPlaces
namespace Go.Proofs.YtgfmjfpafpmghaaDoor
open Go.RowKit Go.Shelf Go.Proofs.ShaWords
attribute [local go_sem] and32 or32 xor32 add32 shl32 shr32 wrap32_n8 wrap8_n32

theorem flat_getD (X : List (BitVec 32)) (i : Nat) (h : i < 4 * X.length) : (X.flatMap leBytes).getD i 0#8 = lo8 (X.getD (i / 4) 0#32 >>> (8 * (i % 4))) := by
  induction X generalizing i with
  | nil => simp at h
  | cons a r ih =>
    rw [List.flatMap_cons]
    by_cases h4 : i < 4
    · rw [getD_append_left8 _ _ _ (by show i < 4; exact h4)]
      rcases i with _ | _ | _ | _ | i
      · show lo8 a = lo8 (a >>> 0); simp
      · rfl
      · rfl
      · rfl
      · omega
    · obtain ⟨j, rfl⟩ : ∃ j, i = 4 + j := ⟨i - 4, by omega⟩
      rw [show 4 + j = (leBytes a).length + j from rfl, getD_append_right8, ih j (by simp only [List.length_cons] at h; omega)]
      show _ = lo8 ((a :: r).getD ((4 + j) / 4) 0#32 >>> (8 * ((4 + j) % 4)))
      rw [show (4 + j) / 4 = j / 4 + 1 by omega, show (4 + j) % 4 = j % 4 by omega]
      simp [List.getD]
/-- The byte of a block at an index. -/
theorem ccBlock_getD (key nonce : List (BitVec 8)) (c : BitVec 32) (i : Nat) (h : i < 64) : (ccBlock key c nonce).getD i 0#8 = lo8 ((blockWords key c nonce).getD (i / 4) 0#32 >>> (8 * (i % 4))) := by
  unfold ccBlock flatTo
  rw [List.take_of_length_le (by rw [blockWords_length]; omega)]
  exact flat_getD _ _ (by rw [blockWords_length]; omega)
/-- What the document's block has in memory: its boxes, the first square, the mixed words, the table of places. -/
structure RB (w : World) (key nonce : List (BitVec 8)) (G1 c1 G2 c2 H : Nat) (sq m : List (BitVec 32)) (wr : World) : Prop where
  kn : KnW w key nonce wr
  first : OwnW w.heap.size wr sq (.slice (some ⟨G1, 0, none⟩) 16 c1)
  l : OwnW w.heap.size wr m (.slice (some ⟨G2, 0, none⟩) 16 c2)
  pl : PlacesAt H wr
theorem RB.step {w wr w' : World} {key nonce : List (BitVec 8)} {G1 c1 G2 c2 H : Nat} {sq m m' : List (BitVec 32)} (h : RB w key nonce G1 c1 G2 c2 H sq m wr) (hg : wr.grownBy w' (some G2)) (hl : OwnW w.heap.size w' m' (.slice (some ⟨G2, 0, none⟩) 16 c2))
    (h2 : w.heap.size + 1 + 1 < G2) (h1 : G1 ≠ G2) (hH : G2 < H) : RB w key nonce G1 c1 G2 c2 H sq m' w' :=
  ⟨⟨h.kn.key.past hg (by omega), h.kn.nonce.past hg (by omega), h.kn.res.past hg (by omega), h.kn.below.grown hg (by have := h.kn.below.size; omega) (fun k hk => by have := Option.some.inj hk; omega)⟩,
    World.ownsRow.kept h.first hg (Or.inr (by simp [Value.ownBlock]; omega)), hl, h.pl.grown hg hH⟩
theorem RB.on {w wr w' : World} {key nonce : List (BitVec 8)} {G1 c1 G2 c2 H : Nat} {sq m : List (BitVec 32)} (h : RB w key nonce G1 c1 G2 c2 H sq m wr) (hb : Below wr.heap.size wr w') : RB w key nonce G1 c1 G2 c2 H sq m w' :=
  ⟨h.kn.on hb, h.first.below hb, h.l.below hb, h.pl.on hb⟩
/-- What it has when it lays its bytes. -/
structure RC (w : World) (G1 c1 G2 c2 D : Nat) (sq m : List (BitVec 32)) (l : List (BitVec 8)) (wr : World) : Prop where
  first : OwnW w.heap.size wr sq (.slice (some ⟨G1, 0, none⟩) 16 c1)
  mid : OwnW w.heap.size wr m (.slice (some ⟨G2, 0, none⟩) 16 c2)
  out : BytesAt wr D 42 l
  res : BytesAt wr (w.heap.size + 1 + 1) 42 (noughts 64)
  below : Below w.heap.size w wr
theorem RC.on {w wr w' : World} {G1 c1 G2 c2 D : Nat} {sq m : List (BitVec 32)} {l : List (BitVec 8)} (h : RC w G1 c1 G2 c2 D sq m l wr) (hb : Below wr.heap.size wr w') : RC w G1 c1 G2 c2 D sq m l w' :=
  ⟨h.first.below hb, h.mid.below hb, h.out.keep hb, h.res.keep hb, h.below.trans (hb.mono h.below.size)⟩
theorem RC.put {w wr : World} {G1 c1 G2 c2 D : Nat} {sq m : List (BitVec 32)} {l : List (BitVec 8)} (h : RC w G1 c1 G2 c2 D sq m l wr) (h1 : G1 < D) (h2 : G2 < D) (h3 : w.heap.size + 1 + 1 < D) (k : Nat) (x : BitVec 8) :
    RC w G1 c1 G2 c2 D sq m (l.set k x) (wr.setCell ⟨D, k, none⟩ (.int .u8 (n8 x))) :=
  ⟨World.ownsRow.kept h.first (grown_setCell _ _ _ _) (Or.inr (by simp [Value.ownBlock]; omega)), World.ownsRow.kept h.mid (grown_setCell _ _ _ _) (Or.inr (by simp [Value.ownBlock]; omega)), h.out.put k x, h.res.putOther (by omega) _ _, h.below.setCell (by show w.heap.size ≤ D; omega) _⟩
attribute [local irreducible] flatTo squareOf doubles blockWords quartersOf ccBlock
set_option maxRecDepth 100000 in
set_option maxHeartbeats 4000000 in
theorem refBlock_any (key nonce : List (BitVec 8)) (c : BitVec 32) (w : World) (hk : key.length = 32) (hn : nonce.length = 12) :
    Calls Tryd.prog 41 #[.agg (bytesV key).toArray, .int .u32 (n32 c), .agg (bytesV nonce).toArray] w
      fun e w' => e = .returned (.agg (bytesV (ccBlock key c nonce)).toArray) ∧ Below w.heap.size w w' := by
  have HKL := Lib.hid hk; clear hk
  have HNL := Lib.hid hn; clear hn
  have HIK := Lib.hid (infoKey key HKL.out)
  have HIN := Lib.hid (infoNonce nonce HNL.out)
  go_enter Tryd.func41, Tryd.ntmps41
  go_upto_region 1 with (fail)
  refine wp_gen (KnW w key nonce) (knw_start w key nonce _ (by rfl)) ?_
  intro w0 hw0
  have HW0 := Lib.hid hw0; clear hw0
  go_wp2_with (first
    | (refine wpList_load_row rfl 44 (.tmp 3) rfl w.heap.size rfl 44 (bytesV key).toArray (0, 0) _ HW0.out.key Tryd.underlying44 rfl HIK.out ?_)
    | (refine wpList_load_row rfl 46 (.tmp 5) rfl (w.heap.size + 1) rfl 46 (bytesV nonce).toArray (0, 0) _ HW0.out.nonce Tryd.underlying46 rfl HIN.out ?_))
  refine (refSquare_any key nonce c w0 HKL.out HNL.out).mono ?_
  rintro e w1 ⟨v1, rfl, ho1, hb1⟩
  have HW1 := Lib.hid (HW0.out.on hb1)
  obtain ⟨G1, c1, rfl, hG1, -, -, -⟩ := ho1.form (fun h => by have := squareOf_length key c nonce; rw [h] at this; simp at this)
  rw [squareOf_length] at ho1 ⊢
  have hr0 := HW0.out.res.size
  have HO1 := Lib.hid (ho1.base (B' := w.heap.size) HW0.out.below.size); clear hb1 ho1
  go_wp2_with (first
    | (refine wpList_load_row rfl 44 (.tmp 3) rfl w.heap.size rfl 44 (bytesV key).toArray (0, 0) _ HW1.out.key Tryd.underlying44 rfl HIK.out ?_)
    | (refine wpList_load_row rfl 46 (.tmp 5) rfl (w.heap.size + 1) rfl 46 (bytesV nonce).toArray (0, 0) _ HW1.out.nonce Tryd.underlying46 rfl HIN.out ?_))
  refine (refSquare_any key nonce c w1 HKL.out HNL.out).mono ?_
  rintro e w2 ⟨v2, rfl, ho2, hb2⟩
  have HW2 := Lib.hid (HW1.out.on hb2)
  obtain ⟨G2, c2, rfl, hG2, -, -, -⟩ := ho2.form (fun h => by have := squareOf_length key c nonce; rw [h] at this; simp at this)
  rw [squareOf_length] at ho2 ⊢
  have h12 : G1 ≠ G2 := by have := HO1.out.at'.2.1; omega
  have h2 : w.heap.size + 1 + 1 < G2 := by have := HW1.out.res.size; omega
  have HO2 := Lib.hid (ho2.base (B' := w.heap.size) HW1.out.below.size)
  have HO1' := Lib.hid (HO1.out.below hb2)
  clear hb2 ho2 HO1 HW0 HW1 hG1 hG2 hr0
  go_wp2_with fail
  refine (places3_any w2).mono ?_
  rintro e w3 ⟨rfl, hp3, hb3⟩
  have h2H : G2 < w2.heap.size := HO2.out.at'.2.1
  have HR3 : Hid (RB w key nonce G1 c1 G2 c2 w2.heap.size (squareOf key c nonce) (doubles (squareOf key c nonce) 0) w3) := show RB _ _ _ _ _ _ _ _ _ _ _ from
    ⟨HW2.out.on hb3, HO1'.out.below hb3, by rw [doubles_zero]; exact HO2.out.below hb3, hp3⟩
  clear hp3 hb3 HW2 HO2 HO1'
  generalize w2.heap.size = H at HR3 h2H ⊢
  have HSL := Lib.hid (squareOf_length key c nonce)
  have HBW := Lib.hid (blockWords_length key c nonce)
  have HBG := Lib.hid (blockWords_get key c nonce)
  have HCG := Lib.hid (ccBlock_getD key nonce c)
  have HCL := Lib.hid (ccBlock_length key c nonce)
  generalize hblk : ccBlock key c nonce = blk at HCG HCL
  have HBLK := Lib.hid hblk; clear hblk
  generalize squareOf key c nonce = sq at HSL HBG HR3
  go_wp2_with fail
  go_loopw [10, 11] (fun n _ wr => ∃ k : Nat, k ≤ 10 ∧ n = .int .i64 (k : Int) ∧ RB w key nonce G1 c1 G2 c2 H sq (doubles sq k) wr) (fun n _ _ => 10 - (intOf n).toNat)
  case atStart => exact ⟨0, by omega, rfl, HR3.out⟩
  case round =>
    clear HR3
    obtain ⟨k, hk, rfl, hr⟩ := hrel
    have HR := Lib.hid hr; clear hr
    by_cases hlt : k < 10
    · have p0 : (k : Int) < 10 := by omega
      have HDL : Hid ((doubles sq k).length = 16) := show _ = _ by rw [doubles_length]; exact HSL.out
      have HDS := Lib.hid (doubles_succ sq k)
      generalize doubles sq k = m at HR HDL HDS
      have HR0 : Hid (RB w key nonce G1 c1 G2 c2 H sq (quartersOf m 0) wr) := show RB _ _ _ _ _ _ _ _ _ _ _ by rw [quartersOf_zero]; exact HR.out
      clear HR
      go_wp2_with fail
      rename World => w4
      go_loopw [11] (fun i wr => ∃ j : Nat, j ≤ 8 ∧ i = .int .i64 (j : Int) ∧ RB w key nonce G1 c1 G2 c2 H sq (quartersOf m j) wr) (fun i _ => 8 - (intOf i).toNat)
      case atStart => exact ⟨0, by omega, rfl, HR0.out⟩
      case round =>
        clear HR0
        obtain ⟨j, hj, rfl, hr⟩ := hrel
        by_cases hltj : j < 8
        · have r0 : (j : Int) < 8 := by omega
          have d0 := hr.pl.cell j hltj
          obtain ⟨d1, d2, d3, d4⟩ := hr.pl.row j hltj
          have HR := Lib.hid hr; clear hr
          have HQS := Lib.hid (quartersOf_succ m j)
          have HAP := Lib.hid (qi_apart j hltj)
          have z0 := qi_lt j 0
          have z1 := qi_lt j 1
          have z2 := qi_lt j 2
          have z3 := qi_lt j 3
          generalize qi j 0 = i0 at d1 HQS HAP z0
          generalize qi j 1 = i1 at d2 HQS HAP z1
          generalize qi j 2 = i2 at d3 HQS HAP z2
          generalize qi j 3 = i3 at d4 HQS HAP z3
          obtain ⟨e01, e02, e03, e12, e13, e23⟩ := HAP.out
          have HE01 := Lib.hid e01; have HE02 := Lib.hid e02; have HE03 := Lib.hid e03; have HE12 := Lib.hid e12; have HE13 := Lib.hid e13; have HE23 := Lib.hid e23
          clear e01 e02 e03 e12 e13 e23 HAP
          go_wp2_with fail
          go_still_tail 25, (by kernel_rfl)
          change wpList _ _ _ _ _ wr.drew
          go_wp2_with fail
          refine (refQuarter_any (quartersOf m j) w.heap.size G2 16 c2 i0 i1 i2 i3 wr.drew z0 z1 z2 z3 HE01.out HE02.out HE03.out HE12.out HE13.out HE23.out (HR.out.l.below ((Below.refl _ _).drew))).mono ?_
          rintro e w5 ⟨rfl, ho5, hg5⟩
          rw [← HQS.out] at ho5
          have HR5 := Lib.hid ((HR.out.on ((Below.refl _ _).drew)).step hg5 ho5 h2 h12 h2H)
          clear ho5 hg5 HR d0 d1 d2 d3 d4
          go_wp2_with fail
          go_roundw
          case rel => exact ⟨j + 1, by omega, by go_num, HR5.out⟩
          case measure => simp [intOf]; omega
        · have r0 : ¬ (j : Int) < 8 := by omega
          have HR5 : Hid (RB w key nonce G1 c1 G2 c2 H sq (doubles sq (k + 1)) wr) := show RB _ _ _ _ _ _ _ _ _ _ _ by
            rw [HDS.out, show 8 = j by omega]; exact hr
          clear hr
          go_wp2_with fail
          go_roundw
          case rel => exact ⟨k + 1, by omega, by go_num, HR5.out⟩
          case measure => simp [intOf]; omega
    · have p0 : ¬ (k : Int) < 10 := by omega
      obtain rfl : k = 10 := by omega
      have HDL : Hid ((doubles sq 10).length = 16) := show _ = _ by rw [doubles_length]; exact HSL.out
      generalize doubles sq 10 = mx at HR HBG HDL
      go_wp2_with fail
      have HG1 : Hid (G1 < wr.heap.size) := HR.out.first.at'.2.1
      have HG2 : Hid (G2 < wr.heap.size) := HR.out.l.at'.2.1
      have HG3 : Hid (w.heap.size + 1 + 1 < wr.heap.size) := HR.out.kn.res.size
      refine wp_gen (RC w G1 c1 G2 c2 wr.heap.size sq mx (xorTo' blk 0)) ?_ ?_
      · have hb : Below wr.heap.size wr (wr.alloc (.cells (bytesV (noughts 64)).toArray 42)) := (Below.refl _ _).alloc (Nat.le_refl _) _
        have h1 := HR.out.on hb
        exact ⟨h1.first, h1.l, by rw [xorTo'_zero, HCL.out]; exact heap_new_at rfl, h1.kn.res, h1.kn.below⟩
      intro w5 hw5
      have HW5 := Lib.hid hw5; clear hw5 HR
      generalize wr.heap.size = D at HW5 HG1 HG2 HG3 ⊢
      have HTS := Lib.hid (xorTo'_set blk)
      have HTL := Lib.hid (xorTo'_length blk)
      go_loopw [13, 14, 15] (fun iv _ _ wr => ∃ i : Nat, i ≤ 64 ∧ iv = .int .i64 (i : Int) ∧ RC w G1 c1 G2 c2 D sq mx (xorTo' blk i) wr) (fun iv _ _ _ => 64 - (intOf iv).toNat)
      case atStart => exact ⟨0, by omega, rfl, HW5.out⟩
      case round =>
        clear HW5
        obtain ⟨i, hi, rfl, hr⟩ := hrel
        have HR := Lib.hid hr; clear hr
        by_cases hlti : i < 64
        · have HLEN : Hid ((xorTo' blk i).length = 64) := show _ = _ by rw [HTL.out i (by rw [HCL.out]; exact hi)]; exact HCL.out
          have HSET := Lib.hid (HTS.out i (by rw [HCL.out]; exact hlti))
          have HX := Lib.hid (HCG.out i hlti)
          have t0 : (i : Int).tdiv 4 = ((i / 4 : Nat) : Int) := by rw [Int.tdiv_eq_ediv_of_nonneg (by omega)]; rfl
          have t1 : (i : Int).tmod 4 = ((i % 4 : Nat) : Int) := by rw [Int.tmod_eq_emod_of_nonneg (by omega)]; rfl
          have hq4 : i / 4 < 16 := by omega
          have hr4 : i % 4 < 4 := by omega
          have HXW := Lib.hid (HBG.out (i / 4) hq4)
          rw [HXW.out] at HX
          have cl := HR.out.mid.cell (i / 4) (by rw [HDL.out]; exact hq4)
          have cf := HR.out.first.cell (i / 4) (by rw [HSL.out]; exact hq4)
          generalize mx.getD (i / 4) 0#32 = xa at cl HX
          generalize sq.getD (i / 4) 0#32 = xb at cf HX
          generalize i / 4 = t at t0 hq4 cl cf
          generalize i % 4 = s4 at t1 hr4 HX
          have p1 : (i : Int) < 64 := by omega
          have p2 : (t : Int) < 16 := by omega
          clear HXW
          go_wp2_with fail
          go_quiet (fail)
          clear cl cf t0 p2 hq4
          have HR6 : Hid (RC w G1 c1 G2 c2 D sq mx (xorTo' blk i) (wr.drewN nq)) := show RC _ _ _ _ _ _ _ _ _ _ from HR.out.on ⟨rfl, rfl, rfl, Nat.le_refl _, fun _ _ => rfl⟩
          clear HR
          generalize wr.drewN nq = w6 at HR6 ⊢
          generalize xa + xb = X at HX ⊢
          have hx0 : X >>> (8 * 0) = X := by simp
          go_wp2_with fail
          go_loopw [14, 15] (fun x kk w7 => ∃ q : Nat, q ≤ s4 ∧ kk = .int .i64 (q : Int) ∧ x = .int .u32 (n32 (X >>> (8 * q))) ∧ w7 = w6) (fun _ kk _ => s4 - (intOf kk).toNat)
          case atStart => exact ⟨0, by omega, rfl, by rw [hx0], rfl⟩
          case round =>
            clear hx0
            obtain ⟨q, hq, rfl, rfl, rfl⟩ := hrel
            by_cases hltq : q < s4
            · have p3 : (q : Int) < (s4 : Int) := by omega
              have HSH : Hid (X >>> (8 * (q + 1)) = (X >>> (8 * q)) >>> 8) := show _ = _ by rw [← BitVec.shiftRight_add]; rfl
              generalize X >>> (8 * q) = y at HSH ⊢
              have r2 := quo256 y
              go_wp2_with fail
              go_roundw
              case rel => exact ⟨q + 1, by omega, by go_num, by rw [HSH.out], by first | rfl | trivial⟩
              case measure => simp [intOf]; omega
            · have p3 : ¬ (q : Int) < (s4 : Int) := by omega
              obtain rfl : q = s4 := by omega
              generalize X >>> (8 * q) = y at HX ⊢
              have r1 := rem256 y
              have co := HR6.out.out.cell i (by rw [HLEN.out]; exact hlti)
              have fo := HR6.out.out.frozenAt i
              rw [HX.out] at HSET
              have HR7 := Lib.hid (HR6.out.put HG1.out HG2.out HG3.out i (lo8 y))
              rw [HSET.out] at HR7
              clear HR6 HX
              go_wp2_with fail
              go_roundw
              case rel => exact ⟨i + 1, by omega, by go_num, HR7.out⟩
              case measure => simp [intOf]; omega
        · have p1 : ¬ (i : Int) < 64 := by omega
          have hfull : BytesAt wr D 42 blk := by
            have h1 := HR.out.out
            rw [show i = blk.length by rw [HCL.out]; omega, xorTo'_full] at h1
            exact h1
          have HI := Lib.hid (infoBlk _ HCL.out)
          have HOLD := Lib.hid (show (bytesV (noughts 64)).toArray.size = (bytesV blk).toArray.size by rw [bytesV_size _ 64 HCL.out, bytesV_size _ 64 (noughts_length 64)])
          have HONE := Lib.hid (bytesV_one blk)
          have HZ := Lib.hid HR.out.res
          have HB := Lib.hid HR.out.below
          have HFULL : Hid (wr.heap[D]? = some (.cells (bytesV blk).toArray 42 (0, 0))) := hfull
          clear HR hfull
          generalize hfe : (bytesV blk).toArray = full at HFULL HI HOLD HONE
          have HFE := Lib.hid hfe; clear hfe
          go_wp2_with (first
            | (refine wpList_load_row rfl 42 (.tmp 12) rfl D rfl 42 full (0, 0) _ HFULL.out Tryd.underlying42 rfl HI.out ?_)
            | (refine wpList_store_row rfl 42 (.tmp 6) (.tmp 89) rfl (w.heap.size + 1 + 1) full rfl rfl 42 _ HZ.out HI.out HOLD.out HONE.out ?_))
          have hrow := setRow_heap wr (w.heap.size + 1 + 1) _ full 42 _ HZ.out
          have hbel := below_setRow HB.out (show w.heap.size ≤ w.heap.size + 1 + 1 by omega) full
          generalize wr.setRow (w.heap.size + 1 + 1) full = wz at hrow hbel ⊢
          have hres : ∀ tmps : Array Value, tmps.getD 6 undef = .pointer (some ⟨w.heap.size + 1 + 1, 0, none⟩) → Sem.run Tryd.prog (results Tryd.f41 tmps) wz = .ok (.agg full) wz := fun tmps h =>
            results_cell_row (P := Tryd.prog) (p := 6) (ty := 42) Tryd.results41 tmps wz (w.heap.size + 1 + 1) 42 full (0, 0) (TypeDesc.array 64 5) h hrow Tryd.underlying42 rfl HI.out
          exact bodyPost_ret (v := .agg full) (hres _ rfl) rfl ⟨by rw [HBLK.out, HFE.out], hbel⟩
end Go.Proofs.YtgfmjfpafpmghaaDoor
