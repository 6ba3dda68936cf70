/- The document's answer: a block's words, and those behind them (function 32). -/
import Derived.Test.YtgfmjfpafpmghaaDoorRefWords
namespace Go.Proofs.YtgfmjfpafpmghaaDoor
open Go.RowKit Go.Proofs.ShaWords
attribute [local go_sem] and32 or32 xor32 add32 shl32 shr32 wrap32_n8 wrap8_n32 shl32_8 shl32_16 shl32_24 shr32_3 shr32_8 shr32_10 shr32_16 shr32_24 not32

theorem n32_nonneg (x : BitVec 32) : 0 ≤ n32 x := Int.natCast_nonneg _
theorem quo32_8 (x : BitVec 32) : (n32 x).tdiv 8 = n32 (x >>> 3) := (Int.tdiv_eq_ediv_of_nonneg (n32_nonneg x)).trans (shr32_3 x)
theorem quo32_256 (x : BitVec 32) : (n32 x).tdiv 256 = n32 (x >>> 8) := (Int.tdiv_eq_ediv_of_nonneg (n32_nonneg x)).trans (shr32_8 x)
theorem quo32_1024 (x : BitVec 32) : (n32 x).tdiv 1024 = n32 (x >>> 10) := (Int.tdiv_eq_ediv_of_nonneg (n32_nonneg x)).trans (shr32_10 x)
theorem mod32 (x : BitVec 32) : n32 x % 4294967296 = n32 x := by
  unfold n32; have := x.isLt; omega
attribute [local go_sem] quo32_8 quo32_256 quo32_1024 mod32

set_option maxRecDepth 100000 in
set_option maxHeartbeats 1000000 in
theorem spread_any (l : List (BitVec 32)) (v : Value) (B : Nat) (w : World) (hl : l.length = 16) (ho : OwnW B w l v) (hB : B ≤ w.heap.size) :
    Calls Tryd.prog 55 #[v] w fun e w' => ∃ v', e = .returned v' ∧ OwnW B w' (spreadBy 48 l) v' ∧ Below B w w' := by
  obtain ⟨i0, hi, hz0, hz1, hz2⟩ := info_parts info41
  have HI := Lib.hid hi; clear hi
  have HZ0 := Lib.hid hz0; clear hz0
  have HZ1 := Lib.hid hz1; clear hz1
  have HZ2 := Lib.hid hz2; clear hz2
  have HL := Lib.hid hl; clear hl
  have HO := Lib.hid ho; clear ho
  go_enter Tryd.func55, Tryd.ntmps55
  go_wp2_with fail
  go_loopw [0, 3, 4, 5, 6, 7] (fun v' i _ _ _ _ wr => ∃ t : Nat, 16 ≤ t ∧ t ≤ 64 ∧ i = .int .i64 (t : Int) ∧ OwnW B wr (spreadBy (t - 16) l) v' ∧ Below B w wr) (fun _ i _ _ _ _ _ => 64 - (intOf i).toNat)
  case atStart => exact ⟨16, by omega, by omega, rfl, HO.out, Below.refl _ _⟩
  case round =>
    obtain ⟨t, ht0, ht, rfl, ho, hb⟩ := hrel
    by_cases hlt : t < 64
    · have hlen : (spreadBy (t - 16) l).length = t := by rw [spreadBy_length, HL.out]; omega
      have sz := hb.size
      have HN : Hid (spreadBy (t + 1 - 16) l = spreadBy (t - 16) l ++ [nextW (spreadBy (t - 16) l)]) := by
        show _ = _
        rw [show t + 1 - 16 = (t - 16) + 1 by omega]; exact spreadBy_snoc _ _
      generalize spreadBy (t - 16) l = r at ho hlen HN
      obtain ⟨g, cap, rfl, hg, hc, hm, hr⟩ := ho.form (by intro h0; rw [h0] at hlen; simp at hlen; omega)
      have hw : ∀ j, j < t → wr.cell? ⟨g, j, none⟩ = some (.int .u32 (n32 (r.getD j 0#32))) := fun j hj => by
        have := hr j (.int .u32 (n32 (r.getD j 0#32))) (by simp [wordsV, List.getD, hlen, hj])
        rwa [Nat.zero_add] at this
      have c16 := hw (t - 16) (by omega)
      have c15 := hw (t - 15) (by omega)
      have c7 := hw (t - 7) (by omega)
      have c2 := hw (t - 2) (by omega)
      have HW : Hid (nextW r = r.getD (t - 16) 0#32 + (rr (r.getD (t - 15) 0#32) 7 ^^^ rr (r.getD (t - 15) 0#32) 18 ^^^ r.getD (t - 15) 0#32 >>> 3) + r.getD (t - 7) 0#32 + (rr (r.getD (t - 2) 0#32) 17 ^^^ rr (r.getD (t - 2) 0#32) 19 ^^^ r.getD (t - 2) 0#32 >>> 10)) := by
        show _ = _
        unfold nextW; rw [hlen]
      generalize r.getD (t - 16) 0#32 = x16 at c16 HW
      generalize r.getD (t - 15) 0#32 = x15 at c15 HW
      generalize r.getD (t - 7) 0#32 = x7 at c7 HW
      generalize r.getD (t - 2) 0#32 = x2 at c2 HW
      have HO1 : Hid (wr.ownsRow B 25 1 (.slice (some ⟨g, 0, none⟩) t cap) t (wordsV r)) := by
        have h1 : World.ownsRow _ _ _ _ _ _ _ := ho
        rw [hlen] at h1
        exact h1
      have HB := Lib.hid hb; clear hb ho hw hr
      have HLEN := Lib.hid hlen
      rw [hlen]
      clear hlen
      have m16 : IntKind.i64.wrap ((t : Int) - 16) = (t : Int) - 16 := IntWalk.i64_in _ (by omega)
      have m15 : IntKind.i64.wrap ((t : Int) - 15) = (t : Int) - 15 := IntWalk.i64_in _ (by omega)
      have m7 : IntKind.i64.wrap ((t : Int) - 7) = (t : Int) - 7 := IntWalk.i64_in _ (by omega)
      have m2 : IntKind.i64.wrap ((t : Int) - 2) = (t : Int) - 2 := IntWalk.i64_in _ (by omega)
      have n16 : ((t : Int) - 16).toNat = t - 16 := by omega
      have n15 : ((t : Int) - 15).toNat = t - 15 := by omega
      have n7 : ((t : Int) - 7).toNat = t - 7 := by omega
      have n2 : ((t : Int) - 2).toNat = t - 2 := by omega
      have p16 : (0 : Int) ≤ (t : Int) - 16 := by omega
      have p15 : (0 : Int) ≤ (t : Int) - 15 := by omega
      have p7 : (0 : Int) ≤ (t : Int) - 7 := by omega
      have p2 : (0 : Int) ≤ (t : Int) - 2 := by omega
      have r16 : (16 : Int) ≤ (t : Int) := by omega
      have r7 : (7 : Int) ≤ (t : Int) := by omega
      have q16 : (t : Int) - 16 < (t : Int) := by omega
      have q15 : (t : Int) - 15 < (t : Int) := by omega
      have q7 : (t : Int) - 7 < (t : Int) := by omega
      have q2 : (t : Int) - 2 < (t : Int) := by omega
      go_wp2_with (go_at_call 57; refine (right_any _ _ _ (by decide) (by decide)).mono ?_; rintro e w' ⟨rfl, rfl⟩)
      go_region_law
        ((refine step_append_lies _ (by rfl) _ _ _ (by rfl) B 25 i0 _ 1 4 Tryd.underlying22 HI.out HZ0.out HZ1.out HZ2.out rfl (by omega) (.slice (some ⟨g, 0, none⟩) t cap) t _ (by rfl) ((HO1.out.alloc _).drew)
            ⟨w'.heap.size, 0, none⟩ 1 1 [.int .u32 (n32 (x16 + (rr x15 7 ^^^ rr x15 18 ^^^ x15 >>> 3) + x7 + (rr x2 17 ^^^ rr x2 19 ^^^ x2 >>> 10)))] (by rfl) (by rfl) (World.news_of_block (cs := #[.int .u32 (n32 (x16 + (rr x15 7 ^^^ rr x15 18 ^^^ x15 >>> 3) + x7 + (rr x2 17 ^^^ rr x2 19 ^^^ x2 >>> 10)))]) (t := 25) (fr := (0, 0)) (heap_alloc_new w' _)) (by simp [Value.oneCell'])
            (by omega) (by unfold maxLen; omega) (by omega) (by simp; omega) (w'.heap.size + 1) (by simp) ?_; intro gg cap w1 hown1 hgrow hat hltg))
      all_goals
        have HO2 : Hid (OwnW B w1 (spreadBy (t + 1 - 16) l) (.slice (some ⟨gg, 0, none⟩) (t + 1) cap)) := by
          show OwnW _ _ _ _
          unfold OwnW
          rw [HN.out, HW.out, List.length_append, HLEN.out, wordsV_append]
          exact hown1
        have HB1 : Hid (Below B w w1) := ((HB.out.alloc (by omega) _).drew).grown hgrow (by simp; omega) (fun j hj => by cases hj; exact hg)
        clear hown1 hgrow hat hltg
        go_wp2_with fail
        go_roundw
        case rel => exact ⟨t + 1, by omega, by omega, by go_num, HO2.out, HB1.out⟩
        case measure => simp [intOf]; omega
    · have HO := Lib.hid ho; clear ho
      have HB := Lib.hid hb; clear hb
      have HK : Hid (t = 64) := show t = 64 by omega
      go_wp2_with fail
      go_ret
      refine ⟨_, rfl, ?_, HB.out⟩
      have h1 := HO.out
      rw [HK.out] at h1
      exact h1
end Go.Proofs.YtgfmjfpafpmghaaDoor
