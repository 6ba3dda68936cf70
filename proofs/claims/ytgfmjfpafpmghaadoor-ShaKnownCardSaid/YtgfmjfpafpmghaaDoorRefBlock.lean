/- The document's answer: what a block makes of eight words is what the code's mix makes (function 26). -/
import Derived.Test.YtgfmjfpafpmghaaDoorRefConsts
import Derived.Test.YtgfmjfpafpmghaaDoorMix
import Derived.Deep.Onto
namespace Go.Proofs.YtgfmjfpafpmghaaDoor
open Go.RowKit Go.Proofs.ShaWords
attribute [local go_sem] and32 or32 xor32 add32 shl32 shr32 wrap32_n8 wrap8_n32 shl32_8 shl32_16 shl32_24 shr32_3 shr32_8 shr32_10 shr32_16 shr32_24 not32
theorem stepR_vals (y x : BitVec 32) (r : St) : wordsV (stepR y x r).list = [.int .u32 (n32 (r.h + (rr r.e 6 ^^^ rr r.e 11 ^^^ rr r.e 25) + (r.e &&& r.f ||| ~~~r.e &&& r.g) + y + x + ((rr r.a 2 ^^^ rr r.a 13 ^^^ rr r.a 22) + (r.a &&& r.b ||| r.a &&& r.c ||| r.b &&& r.c)))), .int .u32 (n32 r.a), .int .u32 (n32 r.b), .int .u32 (n32 r.c), .int .u32 (n32 (r.d + (r.h + (rr r.e 6 ^^^ rr r.e 11 ^^^ rr r.e 25) + (r.e &&& r.f ||| ~~~r.e &&& r.g) + y + x))), .int .u32 (n32 r.e), .int .u32 (n32 r.f), .int .u32 (n32 r.g)] := rfl
theorem addSt_take (s r : St) : ∀ k, k < 8 → (addSt s r).list.take (k + 1) = (addSt s r).list.take k ++ [s.list.getD k 0#32 + r.list.getD k 0#32]
  | 0, _ | 1, _ | 2, _ | 3, _ | 4, _ | 5, _ | 6, _ | 7, _ => rfl
  | k + 8, h => absurd h (by omega)
theorem range_new (w : World) (vs : List Value) : (w.alloc (.cells vs.toArray 25)).rangeAt w.heap.size 0 vs := fun j v hv => by
  rw [Nat.zero_add, cell_of_row _ _ j vs.toArray 25 (0, 0) (heap_alloc_new w _)]
  simpa using hv
attribute [local irreducible] rounds stepR scheduleOf uOf vOf addSt kTable mixOf spreadBy first16

/-- A word of a row that lies in a block. -/
theorem word_at {w : World} {g : Nat} {l : List (BitVec 32)} (h : w.rangeAt g 0 (wordsV l)) (j : Nat) (hj : j < l.length) : w.cell? ⟨g, j, none⟩ = some (.int .u32 (n32 (l.getD j 0#32))) := by
  have := h j (.int .u32 (n32 (l.getD j 0#32))) (by simp [wordsV, List.getD, hj])
  rwa [Nat.zero_add] at this
theorem range_below {w w' : World} {B g off : Nat} {xs : List Value} (hb : Below B w w') (h : w.rangeAt g off xs) (hg : g < B) : w'.rangeAt g off xs := fun j v hv => (hb.cell (p := ⟨g, off + j, none⟩) hg).trans (h j v hv)
theorem scheduleOf_length (blk : List (BitVec 8)) : (scheduleOf blk).length = 64 := by
  unfold scheduleOf; rw [spreadBy_length, first16_length]
set_option maxRecDepth 100000 in
set_option maxHeartbeats 1000000 in
theorem block_any (s : St) (blk : List (BitVec 8)) (hb hc b off cap : Nat) (w : World) (hl : blk.length = 64) (hh : w.rangeAt hb 0 (wordsV s.list)) (hr : w.rangeAt b off (bytesV blk)) :
    Calls Tryd.prog 47 #[.slice (some ⟨hb, 0, none⟩) 8 hc, .slice (some ⟨b, off, none⟩) 64 cap] w fun e w' => ∃ v, e = .returned v ∧ OwnW w.heap.size w' (mixOf s blk).list v ∧ Below w.heap.size w w' := by
  obtain ⟨i0, hi, hz0, hz1, hz2⟩ := info_parts info41
  have HI := Lib.hid hi; clear hi
  have HZ0 := Lib.hid hz0; clear hz0
  have HZ1 := Lib.hid hz1; clear hz1
  have HZ2 := Lib.hid hz2; clear hz2
  have HL := Lib.hid hl; clear hl
  have HR := Lib.hid hr; clear hr
  have HH := Lib.hid hh; clear hh
  go_enter Tryd.func47, Tryd.ntmps47
  go_wp2_with fail
  refine (words_any blk b off cap w HL.out HR.out).mono ?_
  rintro e w1 ⟨v1, rfl, ho1, hb1⟩
  have HO1 := Lib.hid ho1; clear ho1
  have HB1 := Lib.hid hb1; clear hb1
  go_wp2_with fail
  refine (spread_any (first16 blk) v1 w.heap.size w1 (first16_length blk) HO1.out HB1.out.size).mono ?_
  rintro e w2 ⟨v2, rfl, ho2, hb2⟩
  have ho2 : OwnW w.heap.size w2 (scheduleOf blk) v2 := by unfold scheduleOf; exact ho2
  have HO2 := Lib.hid ho2; clear ho2
  have HB2 := Lib.hid (HB1.out.trans hb2); clear hb2 HB1 HO1
  go_wp2_with fail
  refine (constants_any w2).mono ?_
  rintro e w3 ⟨v3, rfl, ho3, hb3⟩
  have HO3 := Lib.hid ho3
  have HO4 := Lib.hid (HO2.out.below hb3)
  have HB3 := Lib.hid (HB2.out.trans (hb3.mono HB2.out.size)); clear hb3 ho3 HB2 HO2
  go_wp2_with fail
  obtain ⟨gw, cw, rfl, hgw, -, -, hrw⟩ := HO4.out.form (fun h0 => by have h1 := scheduleOf_length blk; rw [h0] at h1; cases h1)
  obtain ⟨gk, ck, rfl, hgk, -, -, hrk⟩ := HO3.out.form (by unfold kTable; simp)
  have hrh := range_below HB3.out HH.out (World.block_lt_of_cell? w _ (HH.out 0 _ rfl))
  rw [scheduleOf_length, show kTable.length = 64 from by unfold kTable; rfl]
  have HRW := Lib.hid hrw; clear hrw
  have HRK := Lib.hid hrk; clear hrk
  have HRH := Lib.hid hrh; clear hrh
  clear HO4 HO3 hgw hgk
  go_loopw [7, 8, 9, 10, 11, 12] (fun sv i _ _ _ _ wr => ∃ t g c : Nat, t ≤ 64 ∧ i = .int .i64 (t : Int) ∧ sv = .slice (some ⟨g, 0, none⟩) 8 c ∧ wr.rangeAt g 0 (wordsV (rounds (scheduleOf blk) s t).list) ∧ Below w3.heap.size w3 wr) (fun _ i _ _ _ _ _ => 64 - (intOf i).toNat)
  case atStart => exact ⟨0, hb, hc, by omega, rfl, rfl, by rw [rounds_zero]; exact HRH.out, Below.refl _ _⟩
  case round =>
    obtain ⟨t, g, c, ht, rfl, rfl, hr, hb⟩ := hrel
    by_cases hlt : t < 64
    · have HST : Hid (rounds (scheduleOf blk) s (t + 1) = stepR (kTable.getD t 0#32) ((scheduleOf blk).getD t 0#32) (rounds (scheduleOf blk) s t)) := rounds_succ _ _ _
      have hw := word_at HRW.out t (by rw [scheduleOf_length]; omega)
      have hk := word_at HRK.out t (by rw [show kTable.length = 64 from by unfold kTable; rfl]; omega)
      have hw := (hb.cell (World.block_lt_of_cell? w3 _ hw)).trans hw
      have hk := (hb.cell (World.block_lt_of_cell? w3 _ hk)).trans hk
      generalize rounds (scheduleOf blk) s t = r at hr HST
      generalize (scheduleOf blk).getD t 0#32 = x at hw HST
      generalize kTable.getD t 0#32 = y at hk HST
      have c0 : wr.cell? ⟨g, 0, none⟩ = some (.int .u32 (n32 r.a)) := word_at hr 0 (by simp [St.list])
      have c1 : wr.cell? ⟨g, 1, none⟩ = some (.int .u32 (n32 r.b)) := word_at hr 1 (by simp [St.list])
      have c2 : wr.cell? ⟨g, 2, none⟩ = some (.int .u32 (n32 r.c)) := word_at hr 2 (by simp [St.list])
      have c3 : wr.cell? ⟨g, 3, none⟩ = some (.int .u32 (n32 r.d)) := word_at hr 3 (by simp [St.list])
      have c4 : wr.cell? ⟨g, 4, none⟩ = some (.int .u32 (n32 r.e)) := word_at hr 4 (by simp [St.list])
      have c5 : wr.cell? ⟨g, 5, none⟩ = some (.int .u32 (n32 r.f)) := word_at hr 5 (by simp [St.list])
      have c6 : wr.cell? ⟨g, 6, none⟩ = some (.int .u32 (n32 r.g)) := word_at hr 6 (by simp [St.list])
      have c7 : wr.cell? ⟨g, 7, none⟩ = some (.int .u32 (n32 r.h)) := word_at hr 7 (by simp [St.list])
      have HB := Lib.hid hb; clear hb hr
      have k0 : (0 : Int) ≤ (t : Int) := by omega
      have k1 : (t : Int) < 64 := by omega
      go_wp2_with fail
      go_quiet (fail)
      go_wp2_with fail
      refine wp_gen (fun w' => Below w3.heap.size w3 w' ∧ w'.cell? ⟨gw, t, none⟩ = some (.int .u32 (n32 x)) ∧ w'.cell? ⟨gk, t, none⟩ = some (.int .u32 (n32 y)) ∧ w'.cell? ⟨g, 0, none⟩ = some (.int .u32 (n32 r.a)) ∧ w'.cell? ⟨g, 1, none⟩ = some (.int .u32 (n32 r.b)) ∧ w'.cell? ⟨g, 2, none⟩ = some (.int .u32 (n32 r.c)) ∧ w'.cell? ⟨g, 3, none⟩ = some (.int .u32 (n32 r.d)) ∧ w'.cell? ⟨g, 4, none⟩ = some (.int .u32 (n32 r.e)) ∧ w'.cell? ⟨g, 5, none⟩ = some (.int .u32 (n32 r.f)) ∧ w'.cell? ⟨g, 6, none⟩ = some (.int .u32 (n32 r.g)) ∧ w'.cell? ⟨g, 7, none⟩ = some (.int .u32 (n32 r.h))) ⟨⟨HB.out.os, HB.out.tape, HB.out.output, HB.out.size, HB.out.block⟩, hw, hk, c0, c1, c2, c3, c4, c5, c6, c7⟩ ?_
      clear c0 c1 c2 c3 c4 c5 c6 c7 hw hk HB
      rintro wr ⟨hb, hw, hk, c0, c1, c2, c3, c4, c5, c6, c7⟩
      have HB := Lib.hid hb; clear hb
      go_quiet (fail)
      go_wp2_with fail
      refine wp_gen (fun w' => Below w3.heap.size w3 w' ∧ w'.cell? ⟨gw, t, none⟩ = some (.int .u32 (n32 x)) ∧ w'.cell? ⟨gk, t, none⟩ = some (.int .u32 (n32 y)) ∧ w'.cell? ⟨g, 0, none⟩ = some (.int .u32 (n32 r.a)) ∧ w'.cell? ⟨g, 1, none⟩ = some (.int .u32 (n32 r.b)) ∧ w'.cell? ⟨g, 2, none⟩ = some (.int .u32 (n32 r.c)) ∧ w'.cell? ⟨g, 3, none⟩ = some (.int .u32 (n32 r.d)) ∧ w'.cell? ⟨g, 4, none⟩ = some (.int .u32 (n32 r.e)) ∧ w'.cell? ⟨g, 5, none⟩ = some (.int .u32 (n32 r.f)) ∧ w'.cell? ⟨g, 6, none⟩ = some (.int .u32 (n32 r.g)) ∧ w'.cell? ⟨g, 7, none⟩ = some (.int .u32 (n32 r.h))) ⟨⟨HB.out.os, HB.out.tape, HB.out.output, HB.out.size, HB.out.block⟩, hw, hk, c0, c1, c2, c3, c4, c5, c6, c7⟩ ?_
      clear c0 c1 c2 c3 c4 c5 c6 c7 hw hk HB
      rintro wr ⟨hb, hw, hk, c0, c1, c2, c3, c4, c5, c6, c7⟩
      have HB := Lib.hid hb; clear hb
      go_quiet (first | (go_at_call 57; refine Calls.quiet_of_same (right_any r.e _ _ (by decide) (by decide))))
      go_wp2_with fail
      refine wp_gen (fun w' => Below w3.heap.size w3 w' ∧ w'.cell? ⟨gw, t, none⟩ = some (.int .u32 (n32 x)) ∧ w'.cell? ⟨gk, t, none⟩ = some (.int .u32 (n32 y)) ∧ w'.cell? ⟨g, 0, none⟩ = some (.int .u32 (n32 r.a)) ∧ w'.cell? ⟨g, 1, none⟩ = some (.int .u32 (n32 r.b)) ∧ w'.cell? ⟨g, 2, none⟩ = some (.int .u32 (n32 r.c)) ∧ w'.cell? ⟨g, 3, none⟩ = some (.int .u32 (n32 r.d)) ∧ w'.cell? ⟨g, 4, none⟩ = some (.int .u32 (n32 r.e)) ∧ w'.cell? ⟨g, 5, none⟩ = some (.int .u32 (n32 r.f)) ∧ w'.cell? ⟨g, 6, none⟩ = some (.int .u32 (n32 r.g)) ∧ w'.cell? ⟨g, 7, none⟩ = some (.int .u32 (n32 r.h))) ⟨⟨HB.out.os, HB.out.tape, HB.out.output, HB.out.size, HB.out.block⟩, hw, hk, c0, c1, c2, c3, c4, c5, c6, c7⟩ ?_
      clear c0 c1 c2 c3 c4 c5 c6 c7 hw hk HB
      rintro wr ⟨hb, hw, hk, c0, c1, c2, c3, c4, c5, c6, c7⟩
      have HB := Lib.hid hb; clear hb
      go_quiet (first | (go_at_call 57; refine Calls.quiet_of_same (right_any r.a _ _ (by decide) (by decide))))
      go_wp2_with fail
      refine wp_gen (fun w' => Below w3.heap.size w3 w' ∧ w'.cell? ⟨gw, t, none⟩ = some (.int .u32 (n32 x)) ∧ w'.cell? ⟨gk, t, none⟩ = some (.int .u32 (n32 y)) ∧ w'.cell? ⟨g, 0, none⟩ = some (.int .u32 (n32 r.a)) ∧ w'.cell? ⟨g, 1, none⟩ = some (.int .u32 (n32 r.b)) ∧ w'.cell? ⟨g, 2, none⟩ = some (.int .u32 (n32 r.c)) ∧ w'.cell? ⟨g, 3, none⟩ = some (.int .u32 (n32 r.d)) ∧ w'.cell? ⟨g, 4, none⟩ = some (.int .u32 (n32 r.e)) ∧ w'.cell? ⟨g, 5, none⟩ = some (.int .u32 (n32 r.f)) ∧ w'.cell? ⟨g, 6, none⟩ = some (.int .u32 (n32 r.g)) ∧ w'.cell? ⟨g, 7, none⟩ = some (.int .u32 (n32 r.h))) ⟨⟨HB.out.os, HB.out.tape, HB.out.output, HB.out.size, HB.out.block⟩, hw, hk, c0, c1, c2, c3, c4, c5, c6, c7⟩ ?_
      clear c0 c1 c2 c3 c4 c5 c6 c7 hw hk HB
      rintro wr ⟨hb, hw, hk, c0, c1, c2, c3, c4, c5, c6, c7⟩
      have HB := Lib.hid hb; clear hb
      go_region_held3 (fun w' => w'.cell? ⟨g, 0, none⟩ = some (.int .u32 (n32 r.a)) ∧ w'.cell? ⟨g, 1, none⟩ = some (.int .u32 (n32 r.b)) ∧ w'.cell? ⟨g, 2, none⟩ = some (.int .u32 (n32 r.c)) ∧ w'.cell? ⟨g, 3, none⟩ = some (.int .u32 (n32 r.d)) ∧ w'.cell? ⟨g, 4, none⟩ = some (.int .u32 (n32 r.e)) ∧ w'.cell? ⟨g, 5, none⟩ = some (.int .u32 (n32 r.f)) ∧ w'.cell? ⟨g, 6, none⟩ = some (.int .u32 (n32 r.g)))
        (go_keep)
        (fail)
      have HNEW : Hid ((wr.alloc (.cells (wordsV (stepR y x r).list).toArray 25)).rangeAt wr.heap.size 0 (wordsV (stepR y x r).list)) := range_new wr _
      rw [stepR_vals] at HNEW
      have HBN := Lib.hid ((HB.out.alloc HB.out.size (.cells (wordsV (stepR y x r).list).toArray 25)).drew)
      rw [stepR_vals] at HBN
      have HSV := Lib.hid (stepR_vals y x r)
      clear c0 c1 c2 c3 c4 c5 c6 c7 hw hk
      go_wp2_with fail
      go_roundw
      case rel => exact ⟨t + 1, wr.heap.size, 8, by omega, by go_num, rfl, by rw [HST.out, HSV.out]; exact HNEW.out, HBN.out⟩
      case measure => simp [intOf]; omega
    · have HK : Hid (t = 64) := show t = 64 by omega
      have HB := Lib.hid hb; clear hb
      have hgl : g < wr.heap.size := World.block_lt_of_cell? wr _ (word_at hr 0 (by simp [St.list]))
      have hmx : mixOf s blk = addSt s (rounds (scheduleOf blk) s t) := by rw [HK.out]; exact mixOf_eq s blk
      generalize rounds (scheduleOf blk) s t = r at hr hmx
      have hrh := range_below HB.out HRH.out (World.block_lt_of_cell? w3 _ (word_at HRH.out 0 (by simp [St.list])))
      have hhl : hb < wr.heap.size := World.block_lt_of_cell? wr _ (word_at hrh 0 (by simp [St.list]))
      have HR2 := Lib.hid hr; clear hr
      have HRH2 := Lib.hid hrh; clear hrh
      have HMX := Lib.hid hmx; clear hmx
      have HBW := Lib.hid (HB3.out.trans (HB.out.mono HB3.out.size)); clear HB HB3 HRH HRW HRK
      go_wp2_with fail
      rename World => w4
      go_loopw [13, 14] (fun v i w' => ∃ k : Nat, k ≤ 8 ∧ i = .int .i64 (k : Int) ∧ OwnW w4.heap.size w' ((addSt s r).list.take k) v ∧ Below w4.heap.size w4 w') (fun _ i _ => 8 - (intOf i).toNat)
      case atStart => exact ⟨0, by omega, rfl, OwnW.nil _ _, Below.refl _ _⟩
      case round =>
        obtain ⟨k, hk, rfl, ho, hb'⟩ := hrel
        by_cases hk8 : k < 8
        · have HT := Lib.hid (addSt_take s r k hk8)
          have hlen : ((addSt s r).list.take k).length = k := by unfold addSt; simp [St.list]; omega
          have c0 := (hb'.cell hhl).trans (word_at HRH2.out k (by simp [St.list]; omega))
          have c1 := (hb'.cell hgl).trans (word_at HR2.out k (by simp [St.list]; omega))
          generalize s.list.getD k 0#32 = x at c0 HT
          generalize r.list.getD k 0#32 = y at c1 HT
          have sz := hb'.size
          have HO : Hid (wr.ownsRow w4.heap.size 25 1 u13 k (wordsV ((addSt s r).list.take k))) := by
            have h1 : World.ownsRow _ _ _ _ _ _ _ := ho
            rw [hlen] at h1
            exact h1
          have HNE : Hid (∀ j, Value.ownBlock u13 = some j → w4.heap.size ≤ j) := fun j hj => (World.ownsRow.lt ho j hj).1
          have HLEN := Lib.hid hlen; clear hlen
          have HB' := Lib.hid hb'; clear hb' ho
          have k0 : (0 : Int) ≤ (k : Int) := by omega
          have k1 : (k : Int) < 8 := by omega
          go_wp2_with fail
          go_region_held3 (fun w' => w'.cell? ⟨hb, k, none⟩ = some (.int .u32 (n32 x)) ∧ w'.cell? ⟨g, k, none⟩ = some (.int .u32 (n32 y)))
            (first
              | go_keep
              | (go_split_ands
                 refine ⟨?_, ?_⟩ <;> (rw [hgrow.cell_far _ (by simp; omega) (fun hh => absurd (HNE.out _ hh.symm) (by simp; omega))]; assumption)))
            ((refine step_append_lies _ (by rfl) _ _ _ (by rfl) w4.heap.size 25 i0 _ 1 4 Tryd.underlying22 HI.out HZ0.out HZ1.out HZ2.out rfl (by omega) u13 k _ (by rfl) ((HO.out.alloc _).drew)
                ⟨wr.heap.size, 0, none⟩ 1 1 [.int .u32 (n32 (x + y))] (by rfl) (by rfl) (World.news_of_block (cs := #[.int .u32 (n32 (x + y))]) (t := 25) (fr := (0, 0)) (heap_alloc_new wr _)) (by simp [Value.oneCell'])
                (by omega) (by unfold maxLen; omega) (by omega) (by simp; omega) (wr.heap.size + 1) (by simp) ?_; intro gg cap w1 hown1 hgrow hat hltg))
          have HO1 : Hid (OwnW w4.heap.size w1 ((addSt s r).list.take (k + 1)) (.slice (some ⟨gg, 0, none⟩) (k + 1) cap)) := by
            show OwnW _ _ _ _
            unfold OwnW
            rw [HT.out, List.length_append, HLEN.out, wordsV_append]
            exact hown1
          have HB1 : Hid (Below w4.heap.size w4 w1) := ((HB'.out.alloc sz _).drew).grown hgrow (by simp; omega) HNE.out
          clear hown1 hgrow hat hltg
          go_wp2_with fail
          go_roundw
          case rel => exact ⟨k + 1, by omega, by go_num, HO1.out, HB1.out⟩
          case measure => simp [intOf]; omega
        · have HK8 : Hid (k = 8) := show k = 8 by omega
          have HO := Lib.hid ho; clear ho
          have HB' := Lib.hid hb'; clear hb'
          go_wp2_with fail
          go_ret
          refine ⟨_, rfl, ?_, HBW.out.trans (HB'.out.mono HBW.out.size)⟩
          have h1 := HO.out
          rw [HK8.out, show (addSt s r).list.take 8 = (addSt s r).list from rfl, ← HMX.out] at h1
          exact World.ownsRow.mono h1 HBW.out.size
end Go.Proofs.YtgfmjfpafpmghaaDoor
