/- sha.Hash.Write and sha.Sum of a slice of whatever capacity (functions 14 and 10): as Write and Digest have them, with a wider bound on the capacity. -/
import Derived.Test.YtgfmjfpafpmghaaDoorDigest
import Derived.Test.YtgfmjfpafpmghaaDoorBytes
namespace Go.Proofs.YtgfmjfpafpmghaaDoor
open Go.RowKit Go.Proofs.ShaWords
section

set_option maxRecDepth 100000 in
set_option maxHeartbeats 1000000 in
theorem write_cap (g : Nat) (h : HS) (bs : List (BitVec 8)) (p : Option Addr) (cap : Nat) (w : World) (ha : HashAt w g h) (hr : Reads w g p bs) (hcap : bs.length ≤ cap) (hcm : cap ≤ 9223372036854775807)
    (hn : h.n + bs.length < 1099511627776) (hk : Consts w) (hg : g ≠ 2) :
    Calls Tryd.prog 33 #[.pointer (some ⟨g, 0, none⟩), .slice p bs.length cap] w fun e w' => e = .returned (.tuple #[]) ∧ HashAt w' g (writeOf h bs) ∧ w.grownBy w' (some g) := by
  have HG := Lib.hid hg; clear hg
  have HK := Lib.hid hk; clear hk
  have HA := Lib.hid ha; clear ha
  have HR := Lib.hid hr; clear hr
  go_enter Tryd.func33, Tryd.ntmps33
  go_wp2_with fail
  go_loopw [1, 4, 5] (fun b _ _ wr => ∃ (done rest : List (BitVec 8)) (p' : Option Addr) (cap' : Nat), bs = done ++ rest ∧ b = .slice p' rest.length cap' ∧ rest.length ≤ cap' ∧ cap' ≤ 9223372036854775807 ∧
      Reads wr g p' rest ∧ HashAt wr g (writeOf h done) ∧ w.grownBy wr (some g)) (fun b _ _ _ => match b with | .slice _ n _ => n | _ => 0)
  case atStart => exact ⟨[], bs, p, cap, rfl, rfl, hcap, hcm, HR.out, HA.out, World.grownBy.refl _ _⟩
  case round =>
    clear HR HA hcap hcm
    obtain ⟨done, rest, p', cap', hbs, rfl, hc1, hc2, hr, ha, hgr⟩ := hrel
    by_cases hne : rest = []
    · subst hne
      have HB := Lib.hid hbs; clear hbs
      have HA := Lib.hid ha; clear ha
      have HGR := Lib.hid hgr; clear hgr hr
      go_wp2_with fail
      go_end0
      refine ⟨rfl, ?_, HGR.out⟩
      have h1 := HB.out
      rw [List.append_nil] at h1
      rw [h1]; exact HA.out
    · have hpos : 0 < rest.length := List.length_pos_iff.2 hne
      have hblk := ha.2
      have hnn := writeOf_n h done
      have hlen : bs.length = done.length + rest.length := by rw [hbs, List.length_append]
      generalize hH : writeOf h done = H at ha hblk hnn
      have hnb : H.n + rest.length < 1099511627776 := by omega
      have cn := ha.cellN
      have HH := Lib.hid hH; clear hH hnn hlen
      have HB := Lib.hid hbs; clear hbs
      rcases hr with hr | ⟨b, off, rfl, hbg, hrg⟩
      · exact absurd hr hne
      have HR := Lib.hid hrg; clear hrg
      have HBG := Lib.hid hbg; clear hbg
      have HA := Lib.hid ha; clear ha
      have HBLK := Lib.hid hblk; clear hblk
      have HGR := Lib.hid hgr; clear hgr
      have HNE := Lib.hid hne; clear hne
      obtain ⟨m, hm, hm64⟩ : ∃ m : Nat, (H.n : Int) % 64 = (m : Int) ∧ m < 64 := ⟨H.n % 64, by omega, by omega⟩
      have hm0 : (m : Int) ≤ 64 := by omega
      have hm1 : ¬ (64 = m) := by omega
      have hm2 : ¬ (m = 64) := by omega
      obtain ⟨k, hk, hk1, hk2, hk3⟩ : ∃ k : Nat, k = Nat.min rest.length (64 - m) ∧ k ≤ rest.length ∧ m + k ≤ 64 ∧ 0 < k := ⟨_, rfl, Nat.min_le_left _ _, by have h2 : Nat.min rest.length (64 - m) ≤ 64 - m := Nat.min_le_right _ _; omega, by
        show 0 < Nat.min rest.length (64 - m); exact Nat.lt_min.2 ⟨hpos, by omega⟩⟩
      have HKK := Lib.hid hk; clear hk
      have hkc : (k : Int) ≤ (cap' : Int) := by omega
      obtain ⟨p2, hsl, hp3⟩ : ∃ p2 : Option Addr, (if cap' = k then some (⟨b, off, none⟩ : Addr) else some ⟨b, off + k, none⟩) = p2 ∧ (∀ w2 : World, w2.rangeAt b off (bytesV rest) → Reads w2 g p2 (rest.drop k)) := by
        by_cases hck : cap' = k
        · exact ⟨some ⟨b, off, none⟩, by rw [if_pos hck], fun _ _ => Or.inl (List.drop_of_length_le (by omega))⟩
        · exact ⟨some ⟨b, off + k, none⟩, by rw [if_neg hck], fun w2 hw2 => Or.inr ⟨b, off + k, rfl, HBG.out, range_drop hw2⟩⟩
      have HP3 := Lib.hid hp3; clear hp3
      by_cases hz : (H.n + k) % 64 = 0
      · have hzb : (((H.n : Int) + (k : Int)) % 64 == 0) = true := by rw [beq_iff_eq]; omega
        have HCH : Hid (writeOf h (done ++ rest.take k) = ⟨mixOf H.s (splice H.blk m (rest.take k)), splice H.blk m (rest.take k), H.n + k⟩) := by
          have hl : (rest.take k).length = k := by rw [List.length_take]; omega
          have hmn : H.n % 64 = m := by omega
          have e := writeOf_chunk H (rest.take k) HBLK.out (fun e => by rw [e] at hl; simp at hl; omega) (by omega)
          rw [hl, if_pos hz, hmn] at e
          show _ = _
          rw [writeOf_append, HH.out, e]
        clear hz
        go_wp2_with (refine wpList_copy_hash rfl (.tmp 18) (.tmp 19) 26 26 rfl 5 Tryd.underlying26 (by kernel_rfl) g m b off rest.length cap' k H rest rfl rfl HA.out rfl HKK.out hm64 HR.out ?_; intro w1 ha1 hg1; have cn := ha1.cellN; have fn := ha1.frozen 72; have HA1 := Lib.hid ha1; have HG1 := Lib.hid hg1; clear ha1 hg1)
        refine wp_gen (fun w2 => HashAt w2 g ⟨H.s, splice H.blk m (rest.take k), H.n + k⟩ ∧ wr.grownBy w2 (some g)) ⟨?_, ?_⟩ ?_
        · have h2 := HA1.out.setN (H.n + k)
          rw [Int.natCast_add] at h2; exact h2
        · exact grown_trans HG1.out (grown_setCell _ _ _ _)
        clear cn fn HA1 HG1 w1 HA
        rintro w2 ⟨ha2, hg2⟩
        have HA2 := Lib.hid ha2; clear ha2
        have HG2 := Lib.hid hg2; clear hg2
        have HCO := Lib.hid ((HK.out.grown HGR.out HG.out).grown HG2.out HG.out)
        have HB2 := Lib.hid HA2.out.2
        generalize hB : splice H.blk m (rest.take k) = B at HA2 HCH HB2
        clear hB
        refine wp_act (fun A hA => ?_)
        have h0 : A.eval (.tmp 0) = .pointer (some ⟨g, 0, none⟩) := by rw [hA]; rfl
        have hsz : A.tmps.size = 51 := by rw [hA]; rfl
        have HAA := Lib.hid hA; clear hA
        have hf0 : ∀ w, (Instr.fieldAt 64 (.pointer (some ⟨g, 0, none⟩)) 0).run Tryd.prog w = .ok (.pointer (some ⟨g, 0, none⟩)) w := fun _ => by kernel_rfl
        have hf1 : ∀ w, (Instr.fieldAt 64 (.pointer (some ⟨g, 0, none⟩)) 1).run Tryd.prog w = .ok (.pointer (some ⟨g, 8, none⟩)) w := fun _ => by kernel_rfl
        refine wp_region_noPanic ?_
        refine wp_region_any (by kernel_rfl) ?_
        change wpAny Tryd.prog .any _ _ 13 (Array.replicate 13 false) _ w2.drew
        refine abs_ops (fun ops hops => ?_)
        obtain ⟨o0, po0, q0, d0, u0g⟩ : ∃ o, ops[0]? = some o ∧ o.op = .move (.tmp 0) ∧ o.dst = some 39 ∧ o.guard = none := ⟨_, by rw [hops]; rfl, rfl, rfl, rfl⟩
        obtain ⟨o1, po1, q1, d1, u1g⟩ : ∃ o, ops[1]? = some o ∧ o.op = .move (.tmp 0) ∧ o.dst = some 40 ∧ o.guard = none := ⟨_, by rw [hops]; rfl, rfl, rfl, rfl⟩
        obtain ⟨o2, po2, q2, d2, u2g⟩ : ∃ o, ops[2]? = some o ∧ o.op = .nilCheck (.tmp 40) ∧ o.dst = some 41 ∧ o.guard = none := ⟨_, by rw [hops]; rfl, rfl, rfl, rfl⟩
        obtain ⟨o3, po3, q3, d3, u3g⟩ : ∃ o, ops[3]? = some o ∧ o.op = .fieldAddr 64 (.tmp 41) 0 ∧ o.dst = some 42 ∧ o.guard = none := ⟨_, by rw [hops]; rfl, rfl, rfl, rfl⟩
        obtain ⟨o4, po4, q4, d4, u4g⟩ : ∃ o, ops[4]? = some o ∧ o.op = .load 35 (.tmp 42) ∧ o.dst = some 43 ∧ o.guard = none := ⟨_, by rw [hops]; rfl, rfl, rfl, rfl⟩
        obtain ⟨o5, po5, q5, d5, u5g⟩ : ∃ o, ops[5]? = some o ∧ o.op = .move (.tmp 0) ∧ o.dst = some 44 ∧ o.guard = none := ⟨_, by rw [hops]; rfl, rfl, rfl, rfl⟩
        obtain ⟨o6, po6, q6, d6, u6g⟩ : ∃ o, ops[6]? = some o ∧ o.op = .nilCheck (.tmp 44) ∧ o.dst = some 45 ∧ o.guard = none := ⟨_, by rw [hops]; rfl, rfl, rfl, rfl⟩
        obtain ⟨o7, po7, q7, d7, u7g⟩ : ∃ o, ops[7]? = some o ∧ o.op = .fieldAddr 64 (.tmp 45) 1 ∧ o.dst = some 46 ∧ o.guard = none := ⟨_, by rw [hops]; rfl, rfl, rfl, rfl⟩
        obtain ⟨o8, po8, q8, d8, u8g⟩ : ∃ o, ops[8]? = some o ∧ o.op = .load 42 (.tmp 46) ∧ o.dst = some 47 ∧ o.guard = none := ⟨_, by rw [hops]; rfl, rfl, rfl, rfl⟩
        obtain ⟨o9, po9, q9, d9, u9g⟩ : ∃ o, ops[9]? = some o ∧ o.op = .call { callee := .value (.func 48), args := #[.tmp 43, .tmp 47], argTypes := #[35, 42] } ∧ o.dst = some 48 ∧ o.guard = none := ⟨_, by rw [hops]; rfl, rfl, rfl, rfl⟩
        obtain ⟨o10, po10, q10, d10, u10g⟩ : ∃ o, ops[10]? = some o ∧ o.op = .nilCheck (.tmp 39) ∧ o.dst = some 49 ∧ o.guard = none := ⟨_, by rw [hops]; rfl, rfl, rfl, rfl⟩
        obtain ⟨o11, po11, q11, d11, u11g⟩ : ∃ o, ops[11]? = some o ∧ o.op = .fieldAddr 64 (.tmp 49) 0 ∧ o.dst = some 50 ∧ o.guard = none := ⟨_, by rw [hops]; rfl, rfl, rfl, rfl⟩
        obtain ⟨o12, po12, q12, d12, u12g⟩ : ∃ o, ops[12]? = some o ∧ o.op = .store 35 (.tmp 50) (.tmp 48) ∧ o.dst = none ∧ o.guard = none := ⟨_, by rw [hops]; rfl, rfl, rfl, rfl⟩
        have hns : Region.noSelect ops = true := by rw [hops]; kernel_rfl
        have f0 : Region.free .any ops (Array.replicate 13 false) 0 = true := by rw [hops]; kernel_rfl
        have r0 : (Region.ready .any ops (Array.replicate 13 false)).contains 0 = true := by rw [hops]; kernel_rfl
        have f1 : Region.free .any ops ((Array.replicate 13 false).setIfInBounds 0 true) 1 = true := by rw [hops]; kernel_rfl
        have r1 : (Region.ready .any ops ((Array.replicate 13 false).setIfInBounds 0 true)).contains 1 = true := by rw [hops]; kernel_rfl
        have f2 : Region.free .any ops (((Array.replicate 13 false).setIfInBounds 0 true).setIfInBounds 1 true) 2 = true := by rw [hops]; kernel_rfl
        have r2 : (Region.ready .any ops (((Array.replicate 13 false).setIfInBounds 0 true).setIfInBounds 1 true)).contains 2 = true := by rw [hops]; kernel_rfl
        have f3 : Region.free .any ops ((((Array.replicate 13 false).setIfInBounds 0 true).setIfInBounds 1 true).setIfInBounds 2 true) 3 = true := by rw [hops]; kernel_rfl
        have r3 : (Region.ready .any ops ((((Array.replicate 13 false).setIfInBounds 0 true).setIfInBounds 1 true).setIfInBounds 2 true)).contains 3 = true := by rw [hops]; kernel_rfl
        have f5 : Region.free .any ops (((((Array.replicate 13 false).setIfInBounds 0 true).setIfInBounds 1 true).setIfInBounds 2 true).setIfInBounds 3 true) 5 = true := by rw [hops]; kernel_rfl
        have r5 : (Region.ready .any ops (((((Array.replicate 13 false).setIfInBounds 0 true).setIfInBounds 1 true).setIfInBounds 2 true).setIfInBounds 3 true)).contains 5 = true := by rw [hops]; kernel_rfl
        have f6 : Region.free .any ops ((((((Array.replicate 13 false).setIfInBounds 0 true).setIfInBounds 1 true).setIfInBounds 2 true).setIfInBounds 3 true).setIfInBounds 5 true) 6 = true := by rw [hops]; kernel_rfl
        have r6 : (Region.ready .any ops ((((((Array.replicate 13 false).setIfInBounds 0 true).setIfInBounds 1 true).setIfInBounds 2 true).setIfInBounds 3 true).setIfInBounds 5 true)).contains 6 = true := by rw [hops]; kernel_rfl
        have f7 : Region.free .any ops (((((((Array.replicate 13 false).setIfInBounds 0 true).setIfInBounds 1 true).setIfInBounds 2 true).setIfInBounds 3 true).setIfInBounds 5 true).setIfInBounds 6 true) 7 = true := by rw [hops]; kernel_rfl
        have r7 : (Region.ready .any ops (((((((Array.replicate 13 false).setIfInBounds 0 true).setIfInBounds 1 true).setIfInBounds 2 true).setIfInBounds 3 true).setIfInBounds 5 true).setIfInBounds 6 true)).contains 7 = true := by rw [hops]; kernel_rfl
        have r48 : Region.ready .any ops ((((((((Array.replicate 13 false).setIfInBounds 0 true).setIfInBounds 1 true).setIfInBounds 2 true).setIfInBounds 3 true).setIfInBounds 5 true).setIfInBounds 6 true).setIfInBounds 7 true) = [4, 8] := by rw [hops]; kernel_rfl
        have r8a : Region.ready .any ops (((((((((Array.replicate 13 false).setIfInBounds 0 true).setIfInBounds 1 true).setIfInBounds 2 true).setIfInBounds 3 true).setIfInBounds 5 true).setIfInBounds 6 true).setIfInBounds 7 true).setIfInBounds 4 true) = [8] := by rw [hops]; kernel_rfl
        have r4a : Region.ready .any ops (((((((((Array.replicate 13 false).setIfInBounds 0 true).setIfInBounds 1 true).setIfInBounds 2 true).setIfInBounds 3 true).setIfInBounds 5 true).setIfInBounds 6 true).setIfInBounds 7 true).setIfInBounds 8 true) = [4] := by rw [hops]; kernel_rfl
        have hLL : ((((((((((Array.replicate 13 false).setIfInBounds 0 true).setIfInBounds 1 true).setIfInBounds 2 true).setIfInBounds 3 true).setIfInBounds 5 true).setIfInBounds 6 true).setIfInBounds 7 true).setIfInBounds 8 true).setIfInBounds 4 true) = ((((((((((Array.replicate 13 false).setIfInBounds 0 true).setIfInBounds 1 true).setIfInBounds 2 true).setIfInBounds 3 true).setIfInBounds 5 true).setIfInBounds 6 true).setIfInBounds 7 true).setIfInBounds 4 true).setIfInBounds 8 true) := by kernel_rfl
        have r9 : Region.ready .any ops ((((((((((Array.replicate 13 false).setIfInBounds 0 true).setIfInBounds 1 true).setIfInBounds 2 true).setIfInBounds 3 true).setIfInBounds 5 true).setIfInBounds 6 true).setIfInBounds 7 true).setIfInBounds 4 true).setIfInBounds 8 true) = [9] := by rw [hops]; kernel_rfl
        have r10 : Region.ready .any ops (((((((((((Array.replicate 13 false).setIfInBounds 0 true).setIfInBounds 1 true).setIfInBounds 2 true).setIfInBounds 3 true).setIfInBounds 5 true).setIfInBounds 6 true).setIfInBounds 7 true).setIfInBounds 4 true).setIfInBounds 8 true).setIfInBounds 9 true) = [10] := by rw [hops]; kernel_rfl
        have r11 : Region.ready .any ops ((((((((((((Array.replicate 13 false).setIfInBounds 0 true).setIfInBounds 1 true).setIfInBounds 2 true).setIfInBounds 3 true).setIfInBounds 5 true).setIfInBounds 6 true).setIfInBounds 7 true).setIfInBounds 4 true).setIfInBounds 8 true).setIfInBounds 9 true).setIfInBounds 10 true) = [11] := by rw [hops]; kernel_rfl
        have r12 : Region.ready .any ops (((((((((((((Array.replicate 13 false).setIfInBounds 0 true).setIfInBounds 1 true).setIfInBounds 2 true).setIfInBounds 3 true).setIfInBounds 5 true).setIfInBounds 6 true).setIfInBounds 7 true).setIfInBounds 4 true).setIfInBounds 8 true).setIfInBounds 9 true).setIfInBounds 10 true).setIfInBounds 11 true) = [12] := by rw [hops]; kernel_rfl
        have r13 : Region.ready .any ops ((((((((((((((Array.replicate 13 false).setIfInBounds 0 true).setIfInBounds 1 true).setIfInBounds 2 true).setIfInBounds 3 true).setIfInBounds 5 true).setIfInBounds 6 true).setIfInBounds 7 true).setIfInBounds 4 true).setIfInBounds 8 true).setIfInBounds 9 true).setIfInBounds 10 true).setIfInBounds 11 true).setIfInBounds 12 true) = [] := by rw [hops]; kernel_rfl
        clear hops
        refine wpAny_take (v := .pointer (some ⟨g, 0, none⟩)) po0 hns f0 r0 (fun _ _ _ h => h) (Or.inl ⟨wanted_of u0g, run_move q0 h0⟩) ?_
        rw [d0]
        refine wpAny_take (v := .pointer (some ⟨g, 0, none⟩)) po1 hns f1 r1 (fun _ _ _ h => h) (Or.inl ⟨wanted_of u1g, run_move q1 (by rw [eval_other _ 39 0 _ (by decide)]; exact h0)⟩) ?_
        rw [d1]
        refine wpAny_take (v := .pointer (some ⟨g, 0, none⟩)) po2 hns f2 r2 (fun _ _ _ h => h) (Or.inl ⟨wanted_of u2g, run_nilCheck q2 (eval_same _ _ _ (by simp only [put_size, hsz]; decide))⟩) ?_
        rw [d2]
        refine wpAny_take (v := .pointer (some ⟨g, 0, none⟩)) po3 hns f3 r3 (fun _ _ _ h => h) (Or.inl ⟨wanted_of u3g, run_field q3 hf0 (eval_same _ _ _ (by simp only [put_size, hsz]; decide))⟩) ?_
        rw [d3]
        refine wpAny_take (v := .pointer (some ⟨g, 0, none⟩)) po5 hns f5 r5 (fun _ _ _ h => h) (Or.inl ⟨wanted_of u5g, run_move q5 (by rw [eval_other _ 42 0 _ (by decide), eval_other _ 41 0 _ (by decide), eval_other _ 40 0 _ (by decide), eval_other _ 39 0 _ (by decide)]; exact h0)⟩) ?_
        rw [d5]
        refine wpAny_take (v := .pointer (some ⟨g, 0, none⟩)) po6 hns f6 r6 (fun _ _ _ h => h) (Or.inl ⟨wanted_of u6g, run_nilCheck q6 (eval_same _ _ _ (by simp only [put_size, hsz]; decide))⟩) ?_
        rw [d6]
        refine wpAny_take (v := .pointer (some ⟨g, 8, none⟩)) po7 hns f7 r7 (fun _ _ _ h => h) (Or.inl ⟨wanted_of u7g, run_field q7 hf1 (eval_same _ _ _ (by simp only [put_size, hsz]; decide))⟩) ?_
        rw [d7]
        have htail : ∀ (Qx : Exit → Act → World → Prop) (A1 : Act), A1.tmps.size = 51 → A1.eval (.tmp 43) = .agg (wordsV H.s.list).toArray → A1.eval (.tmp 47) = .agg (bytesV B).toArray → A1.eval (.tmp 39) = .pointer (some ⟨g, 0, none⟩) →
            (∀ w3 : World, HashAt w3 g ⟨mixOf H.s B, B, H.n + k⟩ → w2.grownBy w3 (some g) → Qx .normal ((((A1.put (some 48) (.agg (wordsV (mixOf H.s B).list).toArray)).put (some 49) (.pointer (some ⟨g, 0, none⟩))).put (some 50) (.pointer (some ⟨g, 0, none⟩))).put none undef) w3) →
            wpAny Tryd.prog .any ops Qx 4 ((((((((((Array.replicate 13 false).setIfInBounds 0 true).setIfInBounds 1 true).setIfInBounds 2 true).setIfInBounds 3 true).setIfInBounds 5 true).setIfInBounds 6 true).setIfInBounds 7 true).setIfInBounds 4 true).setIfInBounds 8 true) A1 w2.drew := by
          intro Qx A1 s1 e43 e47 e39 hend
          refine wpAny_one 9 r9 (wpOp_of_wp po9 u9g (wp_enter (run_call28 q9 rfl e43 e47 _) (mix_any H.s B w2.drew HB2.out HCO.out) ?_))
          intro w3 hb3
          have ha3 := HashAt.keep (w := w2.drew) HA2.out hb3
          rw [d9]
          refine wpAny_one 10 r10 (Yields.wpOp po10 (Or.inl ⟨wanted_of u10g, run_nilCheck q10 (by rw [eval_other _ 48 39 _ (by decide)]; exact e39)⟩) ?_)
          rw [d10]
          refine wpAny_one 11 r11 (Yields.wpOp po11 (Or.inl ⟨wanted_of u11g, run_field q11 hf0 (eval_same _ _ _ (by simp only [put_size, s1]; decide))⟩) ?_)
          rw [d11]
          refine wpAny_one 12 r12 (wpOp_of_wp po12 u12g (wp_store_mid 35 (.tmp 50) (.tmp 48) q12 g 0 (wordsV (mixOf H.s B).list).toArray (eval_same _ _ _ (by simp only [put_size, s1]; decide)) ?_ ?_ (info44 _) (wordsV_one _) ?_))
          · rw [eval_other _ 50 48 _ (by decide), eval_other _ 49 48 _ (by decide)]; exact eval_same _ _ _ (by rw [s1]; decide)
          · exact ha3.there 0 8 (by omega)
          · rw [d12]
            exact wpAny_done r13 (hend _ (ha3.setWords _) (grown_trans (grown_below (w := w2) ⟨hb3.os, hb3.tape, hb3.output, hb3.size, hb3.block⟩ (Nat.le_refl _) _) (grown_setCells _ _ _ _))) _
        refine wpAny_two 4 8 r48 ?_ ?_
        · refine wpOp_of_wp po4 u4g (wp_load_mid 35 (.tmp 42) q4 g 0 (by rw [eval_other _ 46 42 _ (by decide), eval_other _ 45 42 _ (by decide), eval_other _ 44 42 _ (by decide)]; exact eval_same _ _ _ (by simp only [put_size, hsz]; decide)) (wordsV H.s.list) (.array 8 25) HA2.out.words Tryd.underlying35 rfl (by rw [wordsV_length]; kernel_rfl) ?_)
          rw [d4]
          refine wpAny_one 8 r8a (wpOp_of_wp po8 u8g (wp_load_mid 42 (.tmp 46) q8 g 8 (by rw [eval_other _ 43 46 _ (by decide)]; exact eval_same _ _ _ (by simp only [put_size, hsz]; decide)) (bytesV B) (.array 64 5) HA2.out.bytes Tryd.underlying42 rfl (by rw [bytesV_length, HB2.out]; kernel_rfl) ?_))
          rw [d8]
          refine htail _ _ (by simp only [put_size, hsz]) (by rw [eval_other _ 47 43 _ (by decide)]; exact eval_same _ _ _ (by simp only [put_size, hsz]; decide)) (eval_same _ _ _ (by simp only [put_size, hsz]; decide)) ?_ ?_
          · rw [eval_other _ 47 39 _ (by decide), eval_other _ 43 39 _ (by decide), eval_other _ 46 39 _ (by decide), eval_other _ 45 39 _ (by decide), eval_other _ 44 39 _ (by decide), eval_other _ 42 39 _ (by decide), eval_other _ 41 39 _ (by decide), eval_other _ 40 39 _ (by decide)]
            exact eval_same _ _ _ (by rw [hsz]; decide)
          · intro w3 ha3 hg3
            refine NoPanic.normal ?_
            rw [HAA.out]
            have HA3 := Lib.hid ha3
            have HG3 := Lib.hid (grown_trans HG2.out hg3)
            clear ha3 hg3 htail
            go_frame
            go_wp2_with fail
            go_roundw
            case rel =>
              refine ⟨done ++ rest.take k, rest.drop k, p2, cap' - k, ?_, ?_, ?_, by omega, ?_, ?_, ?_⟩
              · rw [HB.out, List.append_assoc, List.take_append_drop]
              · rw [List.length_drop]
              · rw [List.length_drop]; omega
              · exact HP3.out _ (Reads.grown HR.out HG3.out HBG.out)
              · rw [HCH.out]; exact HA3.out
              · exact grown_trans HGR.out HG3.out
            case measure => simp; omega
        · refine wpOp_of_wp po8 u8g (wp_load_mid 42 (.tmp 46) q8 g 8 (eval_same _ _ _ (by simp only [put_size, hsz]; decide)) (bytesV B) (.array 64 5) HA2.out.bytes Tryd.underlying42 rfl (by rw [bytesV_length, HB2.out]; kernel_rfl) ?_)
          rw [d8]
          refine wpAny_one 4 r4a (wpOp_of_wp po4 u4g (wp_load_mid 35 (.tmp 42) q4 g 0 (by rw [eval_other _ 47 42 _ (by decide), eval_other _ 46 42 _ (by decide), eval_other _ 45 42 _ (by decide), eval_other _ 44 42 _ (by decide)]; exact eval_same _ _ _ (by simp only [put_size, hsz]; decide)) (wordsV H.s.list) (.array 8 25) HA2.out.words Tryd.underlying35 rfl (by rw [wordsV_length]; kernel_rfl) ?_))
          rw [d4, hLL]
          refine htail _ _ (by simp only [put_size, hsz]) (eval_same _ _ _ (by simp only [put_size, hsz]; decide)) (by rw [eval_other _ 43 47 _ (by decide)]; exact eval_same _ _ _ (by simp only [put_size, hsz]; decide)) ?_ ?_
          · rw [eval_other _ 43 39 _ (by decide), eval_other _ 47 39 _ (by decide), eval_other _ 46 39 _ (by decide), eval_other _ 45 39 _ (by decide), eval_other _ 44 39 _ (by decide), eval_other _ 42 39 _ (by decide), eval_other _ 41 39 _ (by decide), eval_other _ 40 39 _ (by decide)]
            exact eval_same _ _ _ (by rw [hsz]; decide)
          · intro w3 ha3 hg3
            refine NoPanic.normal ?_
            rw [HAA.out]
            have HA3 := Lib.hid ha3
            have HG3 := Lib.hid (grown_trans HG2.out hg3)
            clear ha3 hg3 htail
            go_frame
            go_wp2_with fail
            go_roundw
            case rel =>
              refine ⟨done ++ rest.take k, rest.drop k, p2, cap' - k, ?_, ?_, ?_, by omega, ?_, ?_, ?_⟩
              · rw [HB.out, List.append_assoc, List.take_append_drop]
              · rw [List.length_drop]
              · rw [List.length_drop]; omega
              · exact HP3.out _ (Reads.grown HR.out HG3.out HBG.out)
              · rw [HCH.out]; exact HA3.out
              · exact grown_trans HGR.out HG3.out
            case measure => simp; omega
      · have hzb : (((H.n : Int) + (k : Int)) % 64 == 0) = false := by rw [beq_eq_false_iff_ne]; omega
        have HCH : Hid (writeOf h (done ++ rest.take k) = ⟨H.s, splice H.blk m (rest.take k), H.n + k⟩) := by
          have hl : (rest.take k).length = k := by rw [List.length_take]; omega
          have hmn : H.n % 64 = m := by omega
          have e := writeOf_chunk H (rest.take k) HBLK.out (fun e => by rw [e] at hl; simp at hl; omega) (by omega)
          rw [hl, if_neg hz, hmn] at e
          show _ = _
          rw [writeOf_append, HH.out, e]
        clear hz
        go_wp2_with (refine wpList_copy_hash rfl (.tmp 18) (.tmp 19) 26 26 rfl 5 Tryd.underlying26 (by kernel_rfl) g m b off rest.length cap' k H rest rfl rfl HA.out rfl HKK.out hm64 HR.out ?_; intro w1 ha1 hg1; have cn := ha1.cellN; have fn := ha1.frozen 72; have HA1 := Lib.hid ha1; have HG1 := Lib.hid hg1; clear ha1 hg1)
        have hg3 := grown_trans HG1.out (grown_setCell w1 g 72 (.int .u64 ((H.n : Int) + (k : Int))))
        have ha3 := HA1.out.setN (H.n + k)
        rw [Int.natCast_add] at ha3
        go_roundw
        case rel =>
          refine ⟨done ++ rest.take k, rest.drop k, p2, cap' - k, ?_, ?_, ?_, by omega, ?_, ?_, ?_⟩
          · rw [HB.out, List.append_assoc, List.take_append_drop]
          · rw [List.length_drop]
          · rw [List.length_drop]; omega
          · exact HP3.out _ (Reads.grown HR.out hg3 HBG.out)
          · rw [HCH.out]; exact ha3
          · exact grown_trans HGR.out hg3
        case measure => simp; omega
end
section
attribute [local go_sem] and32 or32 xor32 add32 shl32 shr32 wrap32_n8 wrap8_n32 shl32_8 shl32_16 shl32_24 shr32_3 shr32_8 shr32_10 shr32_16 shr32_24
set_option maxRecDepth 100000 in
set_option maxHeartbeats 1000000 in
theorem shaSum_cap (bs : List (BitVec 8)) (p : Option Addr) (cap : Nat) (w : World) (hr : Lies w p bs) (hcap : bs.length ≤ cap) (hcm : cap ≤ 9223372036854775807) (hn : bs.length < 549755813888) (hk : Consts w) (hs : Starts w) :
    Calls Tryd.prog 13 #[.slice p bs.length cap] w fun e w' => e = .returned (.agg (bytesV (shaOf bs)).toArray) ∧ Below w.heap.size w w' := by
  have hs1 := hk.size
  have HK := Lib.hid hk; clear hk
  have HS := Lib.hid hs; clear hs
  have HR := Lib.hid hr; clear hr
  go_enter Tryd.func13, Tryd.ntmps13
  go_wp2_with fail
  have z0 := heap_new_at (w := w) (o := Obj.cells (bytesV (List.replicate 32 0#8)).toArray 33) rfl
  have b0 := (Below.refl w.heap.size w).alloc (Nat.le_refl _) (Obj.cells (bytesV (List.replicate 32 0#8)).toArray 33)
  have s0 := size_alloc w (Obj.cells (bytesV (List.replicate 32 0#8)).toArray 33)
  rw [noughts32] at z0 b0 s0
  generalize w.alloc (Obj.cells #[Value.int IntKind.u8 0, Value.int IntKind.u8 0, Value.int IntKind.u8 0, Value.int IntKind.u8 0, Value.int IntKind.u8 0, Value.int IntKind.u8 0, Value.int IntKind.u8 0, Value.int IntKind.u8 0, Value.int IntKind.u8 0, Value.int IntKind.u8 0, Value.int IntKind.u8 0, Value.int IntKind.u8 0, Value.int IntKind.u8 0, Value.int IntKind.u8 0, Value.int IntKind.u8 0, Value.int IntKind.u8 0, Value.int IntKind.u8 0, Value.int IntKind.u8 0, Value.int IntKind.u8 0, Value.int IntKind.u8 0, Value.int IntKind.u8 0, Value.int IntKind.u8 0, Value.int IntKind.u8 0, Value.int IntKind.u8 0, Value.int IntKind.u8 0, Value.int IntKind.u8 0, Value.int IntKind.u8 0, Value.int IntKind.u8 0, Value.int IntKind.u8 0, Value.int IntKind.u8 0, Value.int IntKind.u8 0, Value.int IntKind.u8 0] 33) = w0 at z0 b0 s0 ⊢
  rw [← noughts32] at z0
  refine (new_any w0 (HS.out.below b0 (by omega))).mono ?_
  rintro e w1 ⟨rfl, ha1, hb1⟩
  have B1 := Lib.hid (b0.trans (hb1.mono (by omega)))
  have Z1 := Lib.hid ((hb1.block w.heap.size (by omega)).trans z0)
  have HA1 := Lib.hid ha1
  have S1 := Lib.hid s0
  clear z0 hb1 ha1 b0
  generalize hg0 : w0.heap.size = g0 at HA1 S1 ⊢
  clear hg0 s0
  have hg0 : w.heap.size < g0 := by have := S1.out; omega
  clear S1
  go_wp2_with fail
  refine (write_cap g0 newHS bs p cap w1 HA1.out (HR.out.reads B1.out g0 (by omega)) hcap hcm (by show 0 + bs.length < _; omega) (HK.out.below B1.out hs1) (by omega)).mono ?_
  rintro e w2 ⟨rfl, ha2, hg2⟩
  have hs2 := HA1.out.size
  have HA2 := Lib.hid ha2
  have B2 := Lib.hid (B1.out.grown hg2 (by omega) (fun k hk => by have := Option.some.inj hk; omega))
  have Z2 := Lib.hid ((hg2.block w.heap.size (by omega) (fun e => by have := Option.some.inj e; omega)).trans Z1.out)
  clear ha2 hg2 HA1 B1 Z1
  go_wp2_with fail
  refine (sum_any g0 (writeOf newHS bs) w2 HA2.out (HK.out.below B2.out hs1) (by rw [writeOf_n]; show 0 + bs.length < _; omega)).mono ?_
  rintro e w3 ⟨rfl, hb3⟩
  have s2 := HA2.out.size
  have B3 := Lib.hid (B2.out.trans (hb3.mono (by omega)))
  have Z3 := Lib.hid ((hb3.block w.heap.size (by omega)).trans Z2.out)
  have hdl : (shaOf bs).length = 32 := by rw [shaOf, sumOf, ← digTo_full, digTo_length _ 8 (by omega)]
  have HI := Lib.hid ((show (Tryd.prog.info? 33).map (·.size) = some 32 by kernel_rfl).trans (congrArg some (bytesV_size _ 32 hdl).symm))
  have HOLD := Lib.hid (show (bytesV (List.replicate 32 0#8)).toArray.size = (bytesV (shaOf bs)).toArray.size by rw [bytesV_size _ 32 hdl]; rfl)
  have HONE := Lib.hid (bytesV_one (shaOf bs))
  clear hb3 B2 Z2 HA2 hdl
  rw [show sumOf (writeOf newHS bs) = shaOf bs from rfl]
  generalize hfe : (bytesV (shaOf bs)).toArray = full at HI HOLD HONE ⊢
  have HFE := Lib.hid hfe; clear hfe
  go_wp2_with (refine wpList_store_row rfl 33 (.tmp 2) (.tmp 9) rfl w.heap.size full rfl rfl 33 _ Z3.out HI.out HOLD.out HONE.out ?_)
  have hrow := setRow_heap w3 w.heap.size _ full 33 _ Z3.out
  have hbel := below_setRow B3.out (Nat.le_refl w.heap.size) full
  generalize w3.setRow w.heap.size full = wz at hrow hbel ⊢
  have hres : ∀ tmps : Array Value, tmps.getD 2 undef = .pointer (some ⟨w.heap.size, 0, none⟩) → Sem.run Tryd.prog (results Tryd.f13 tmps) wz = .ok (.agg full) wz := fun tmps h =>
    results_cell_row (P := Tryd.prog) (p := 2) (ty := 33) Tryd.results13 tmps wz w.heap.size 33 _ (0, 0) (TypeDesc.array 32 5) h hrow Tryd.underlying33 rfl HI.out
  exact bodyPost_ret (v := .agg full) (hres _ rfl) rfl ⟨by rw [HFE.out], hbel⟩

end
end Go.Proofs.YtgfmjfpafpmghaaDoor
