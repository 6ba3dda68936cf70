/-
  What other texts lean on: DkPure, DkCalls2, DkCrash, DkKn, DkL, OpenS, DkOpen, OpenSW.
-/
import Derived.Test.YtoidjapenompiaaDoorPkA
import Derived.Test.YtoidjapenompiaaDoorPkY
import Derived.BigQuiet
import Derived.SizedLaws
/-
  A disk as plain data, while nothing is armed and the power is on.
-/
namespace Go.Proofs.YtoidjapenompiaaDoor
open Go.Proofs.ShaWords
structure DiskM.Calm (d : DiskM) : Prop where
  down : d.down = false
  left : d.left = -1
theorem calm_new (room : Int) : (DiskM.new room).Calm := ⟨rfl, rfl⟩
theorem calm_crash (d : DiskM) (keep : List Int) : (d.crash keep).Calm := ⟨rfl, rfl⟩
section
variable {d : DiskM}
theorem DiskM.Calm.tick (h : d.Calm) : d.tick = d := by
  obtain ⟨F, r, c, dn, lf⟩ := d
  obtain ⟨h1, h2⟩ := h
  simp only at h1 h2
  subst h1 h2
  rfl
theorem DiskM.Calm.openE (h : d.Calm) {f : Int} (hf : 0 ≤ f ∧ f ≤ 32) : d.openE f = 0 := by unfold DiskM.openE; rw [if_neg (by rw [h.down]; decide), if_pos hf]
theorem DiskM.Calm.exec (h : d.Calm) (eff : (Nat → FileM) → Nat → FileM) (write : Bool) : d.exec eff write = { d with files := eff d.files, count := d.count + 1 } := by
  unfold DiskM.exec
  rw [if_pos (by simp [h.left]), h.tick]
theorem DiskM.Calm.execE (h : d.Calm) : d.execE = 0 := by unfold DiskM.execE; rw [if_neg (by rw [h.left]; decide)]
theorem DiskM.Calm.write (h : d.Calm) {f : Int} (hf : 0 ≤ f ∧ f ≤ 32) (b : List (BitVec 8)) (hr : d.used + b.length ≤ d.room) : d.write f b = ({ d with files := writeF f.toNat b d.files, count := d.count + 1 }, 0) := by
  unfold DiskM.write
  rw [if_neg (by rw [h.openE hf]; decide), if_neg (by omega), h.exec, h.execE]
theorem DiskM.Calm.sync (h : d.Calm) {f : Int} (hf : 0 ≤ f ∧ f ≤ 32) : d.sync f = ({ d with files := syncF f.toNat d.files, count := d.count + 1 }, 0) := by
  unfold DiskM.sync
  rw [if_neg (by rw [h.openE hf]; decide), h.exec, h.execE]
theorem DiskM.Calm.over (h : d.Calm) {f k : Int} (hf : 0 ≤ f ∧ f ≤ 32) (b : List (BitVec 8)) (hk : 0 ≤ k ∧ (b.length : Int) ≤ ((d.files f.toNat).dur : Int) - k) : d.over f k b = ({ d with files := overF f.toNat k.toNat b d.files, count := d.count + 1 }, 0) := by
  unfold DiskM.over
  rw [if_neg (by rw [h.openE hf]; decide), if_neg (by omega), h.exec, h.execE]
theorem used_write (d : DiskM) (f : Nat) (hf : f < 33) (b : List (BitVec 8)) : sumTo (writeF f b d.files) 33 = d.used + b.length := by
  have h := used_setF d f hf ⟨(d.files f).all ++ b, (d.files f).dur⟩
  unfold writeF
  rw [List.length_append] at h
  omega
theorem used_sync (d : DiskM) (f : Nat) (hf : f < 33) : sumTo (syncF f d.files) 33 = d.used := by
  have h := used_setF d f hf ⟨(d.files f).all, (d.files f).all.length⟩
  unfold syncF
  dsimp only at h
  omega
end
end Go.Proofs.YtoidjapenompiaaDoor

/-
  The program's disk: Sync, Cut, Over.
-/
namespace Go.Proofs.YtoidjapenompiaaDoor
open Go.RowKit Go.Proofs.ShaWords
theorem w_notF {ops : Array Oper} {a : Act} {o : Oper} {j : Nat} {dj : Tmp} {oj : Oper} (hg : o.guard = some (j, false)) (hj : ops[j]? = some oj) (hd : oj.dst = some dj) (he : a.eval (.tmp dj) = .bool true) : Region.wanted o (yielded ops a.tmps) = false := by
  have h2 := tmp_at he
  unfold Region.wanted
  rw [hg]
  simp only [yielded, hj, Option.bind_some, hd, h2]
  rfl
section
variable {ρ : Operand → Value} {o : Oper} {x y : Operand}
theorem run_lssT {a b : Int} {ty : TypeId} (ho : o.op = .binOp .lss 3 x y ty) (hx : ρ x = .int .i64 a) (hy : ρ y = .int .i64 b) (h : a < b) (w : World) : (execOp ρ o).run Tryd.prog w = .ok (.value (.bool true)) w := by
  obtain ⟨dst, op, ty', pos, after, guard⟩ := o
  simp only at ho
  subst ho
  go_simp
theorem run_lssF {a b : Int} {ty : TypeId} (ho : o.op = .binOp .lss 3 x y ty) (hx : ρ x = .int .i64 a) (hy : ρ y = .int .i64 b) (h : ¬ a < b) (w : World) : (execOp ρ o).run Tryd.prog w = .ok (.value (.bool false)) w := by
  obtain ⟨dst, op, ty', pos, after, guard⟩ := o
  simp only at ho
  subst ho
  go_simp
end
set_option maxRecDepth 100000 in
set_option maxHeartbeats 2000000 in
theorem dkSync_any (S : Nat → Prop) (g : Nat) (d : DiskM) (f : Int) (w : World) (h : DkAt S w g d) (hc : d.count < 1000000000) :
    Calls Tryd.prog 52 #[.pointer (some ⟨g, 0, none⟩), .int .i64 f] w fun e w' => e = .returned (.int .i64 (d.sync f).2) ∧ DkGo S g (d.sync f).1 w w' := by
  have HA := Lib.hid h
  have HC := Lib.hid hc
  have HW := Lib.hid (DiskM.sync_ok h.2.1 f)
  obtain ⟨⟨vs, hV⟩, hok, -⟩ := h
  go_enter Tryd.func52, Tryd.ntmps52
  go_wp2_with fail
  have hb0 : Below w.heap.size w w := Below.refl _ _
  have hs0 : w.heap.size = w.heap.size + 0 := rfl
  have HSZ := Lib.hid hs0; clear hs0
  have HB0 := Lib.hid hb0
  have HV1 := Lib.hid (hV.below hb0)
  cases hd : d.down with
  | true =>
    have e0 : d.openE f = 9 := by unfold DiskM.openE; rw [if_pos hd]
    have HE1 : Hid (d.sync f = (d, 9)) := show _ = _ by unfold DiskM.sync; rw [if_pos (by rw [e0]; decide), e0]
    refine (dkOpen_down g f S vs d w HV1.out hd).mono ?_
    rintro e w2 ⟨rfl, rfl⟩
    clear e0 hb0 hV hok HW
    go_wp2_with fail
    go_ret
    rw [HE1.out]
    exact ⟨rfl, HA.out.go (HB0.out.alloc HB0.out.size _)⟩
  | false =>
    by_cases hf : 0 ≤ f ∧ f ≤ 32
    · obtain ⟨k, rfl⟩ : ∃ k : Nat, f = (k : Int) := ⟨f.toNat, by omega⟩
      have hk : k < 33 := by omega
      have e0 : d.openE (k : Int) = 0 := by unfold DiskM.openE; rw [if_neg (by rw [hd]; decide), if_pos hf]
      have hu := hok.used
      have hr := hok.room
      have hle := sumTo_le d.files k 33 hk
      have hlk : (d.files k).all.length < 9223372036854775808 := by unfold DiskM.used at hu; omega
      have HOD := Lib.hid (hok.dur k hk)
      have hbw : Below w.heap.size w (w.alloc (.cells #[.pointer (some ⟨g, k * 2, none⟩)] 93)) := hb0.alloc hb0.size _
      have hxp : (w.alloc (.cells #[.pointer (some ⟨g, k * 2, none⟩)] 93)).cell? ⟨w.heap.size, 0, none⟩ = some (.pointer (some ⟨g, k * 2, none⟩)) := by rw [cell_of_row _ _ _ _ _ _ (heap_alloc_new w _)]; rfl
      refine (dkOpen_yes g k S vs d w HV1.out hd hk).mono ?_
      rintro e w2 ⟨rfl, rfl⟩
      clear hf
      go_upto_region 4 with fail
      generalize w.alloc (.cells #[.pointer (some ⟨g, k * 2, none⟩)] 93) = w2 at hbw hxp ⊢
      have HB2 := Lib.hid hbw
      have HV2 := Lib.hid (hV.below hbw)
      have HXP := Lib.hid hxp
      have HS7 : Hid (∀ k', S k' → k' < w.heap.size) := show ∀ k', _ → _ from hV.dom
      have HOK := Lib.hid hok
      clear hb0 hbw hxp  hV HV1 hle hok hu hr
      have HE1 : Hid (d.sync (k : Int) = (d.exec (syncF k) false, d.execE)) := show _ = _ by unfold DiskM.sync; rw [if_neg (by rw [e0]; decide), Int.toNat_natCast]
      rw [HE1.out] at HW
      have HE := Lib.hid (dkExec_any S g vs d 77 Tryd.f77 #[.pointer (some ⟨w.heap.size, 0, none⟩)] false (syncF k) w2 (HV2.out.below (Below.refl w2.heap.size w2)) HOK.out hc Tryd.func77 (by kernel_rfl) (fun w3 hv3 hs3 => by
        have hgS := HV2.out.here
        have hnP : ¬ S w.heap.size := fun s => by have := HS7.out _ s; have := HB0.out.size; omega
        have hgP : w.heap.size ≠ g := fun e => hnP (e ▸ hgS)
        have kP := World.block_lt_of_cell? w2 _ HXP.out
        obtain h1 := dkSyncC_any S g w.heap.size k vs d.tick w3 hv3 hk ((World.cell?_of_block (a := ⟨w.heap.size, 0, none⟩) (hs3.block _ kP hgP)).trans HXP.out)
        exact h1.mono fun e w4 ⟨h2, h3, h4⟩ => ⟨h2, S, vs, h3, fun _ s => Or.inl s, h4.more (fun k e => e ▸ hgS)⟩))
      clear HXP HS7 HOK HV2 hc hlk hk hd HOD
      go_wp2_with fail
      with_reducible refine HE.out.mono ?_
      rintro e w3 ⟨rfl, hgo⟩
      have HGO := Lib.hid hgo; clear hgo
      go_wp2_with fail
      go_ret
      rw [HE1.out]
      exact ⟨rfl, (HGO.out.below HB2.out).go HW.out (DiskM.exec_count _ _ _ HC.out)⟩
    · have e0 : d.openE f = 1 := by unfold DiskM.openE; rw [if_neg (by rw [hd]; decide), if_neg hf]
      have HE1 : Hid (d.sync f = (d, 1)) := show _ = _ by unfold DiskM.sync; rw [if_pos (by rw [e0]; decide), e0]
      refine (dkOpen_no g f S vs d w HV1.out hd hf).mono ?_
      rintro e w2 ⟨rfl, rfl⟩
      clear e0 hb0 hV hok HW hf
      go_wp2_with fail
      go_ret
      rw [HE1.out]
      exact ⟨rfl, HA.out.go (HB0.out.alloc HB0.out.size _)⟩
set_option maxRecDepth 100000 in
set_option maxHeartbeats 2000000 in
theorem dkCut_any (S : Nat → Prop) (g : Nat) (d : DiskM) (f : Int) (n : Int) (w : World) (h : DkAt S w g d) (hc : d.count < 1000000000) :
    Calls Tryd.prog 73 #[.pointer (some ⟨g, 0, none⟩), .int .i64 f, .int .i64 n] w fun e w' => e = .returned (.int .i64 (d.cut f n).2) ∧ DkGo S g (d.cut f n).1 w w' := by
  have HA := Lib.hid h
  have HC := Lib.hid hc
  have HW := Lib.hid (DiskM.cut_ok h.2.1 f n)
  obtain ⟨⟨vs, hV⟩, hok, -⟩ := h
  have hb0 : Below w.heap.size w (w.alloc (.cells #[.int .i64 n] 3)) := (Below.refl _ _).alloc (Nat.le_refl _) _
  have hx0 : (w.alloc (.cells #[.int .i64 n] 3)).cell? ⟨w.heap.size, 0, none⟩ = some (.int .i64 n) := by rw [cell_of_row _ _ _ _ _ _ (heap_alloc_new w _)]; rfl
  have hs0 : (w.alloc (.cells #[.int .i64 n] 3)).heap.size = w.heap.size + 1 := size_alloc _ _
  go_enter Tryd.func73, Tryd.ntmps73
  go_wp2_with fail
  generalize (w.alloc (.cells #[.int .i64 n] 3)) = w1 at hb0 hx0 hs0 ⊢
  have HSZ := Lib.hid hs0; clear hs0
  have HB0 := Lib.hid hb0
  have HV1 := Lib.hid (hV.below hb0)
  cases hd : d.down with
  | true =>
    have e0 : d.openE f = 9 := by unfold DiskM.openE; rw [if_pos hd]
    have HE1 : Hid (d.cut f n = (d, 9)) := show _ = _ by unfold DiskM.cut; rw [if_pos (by rw [e0]; decide), e0]
    refine (dkOpen_down g f S vs d w1 HV1.out hd).mono ?_
    rintro e w2 ⟨rfl, rfl⟩
    clear e0 hb0 hV hok HW
    go_wp2_with fail
    go_ret
    rw [HE1.out]
    exact ⟨rfl, HA.out.go (HB0.out.alloc HB0.out.size _)⟩
  | false =>
    by_cases hf : 0 ≤ f ∧ f ≤ 32
    · obtain ⟨k, rfl⟩ : ∃ k : Nat, f = (k : Int) := ⟨f.toNat, by omega⟩
      have hk : k < 33 := by omega
      have e0 : d.openE (k : Int) = 0 := by unfold DiskM.openE; rw [if_neg (by rw [hd]; decide), if_pos hf]
      have hu := hok.used
      have hr := hok.room
      have hle := sumTo_le d.files k 33 hk
      have hlk : (d.files k).all.length < 9223372036854775808 := by unfold DiskM.used at hu; omega
      have HOD := Lib.hid (hok.dur k hk)
      have hbw : Below w.heap.size w (w1.alloc (.cells #[.pointer (some ⟨g, k * 2, none⟩)] 93)) := hb0.alloc hb0.size _
      have hxp : (w1.alloc (.cells #[.pointer (some ⟨g, k * 2, none⟩)] 93)).cell? ⟨w1.heap.size, 0, none⟩ = some (.pointer (some ⟨g, k * 2, none⟩)) := by rw [cell_of_row _ _ _ _ _ _ (heap_alloc_new w1 _)]; rfl
      have hy0 : (w1.alloc (.cells #[.pointer (some ⟨g, k * 2, none⟩)] 93)).cell? ⟨w.heap.size, 0, none⟩ = some (.int .i64 n) := (((Below.refl w1.heap.size w1).alloc (Nat.le_refl _) _).cell (p := ⟨w.heap.size, 0, none⟩) (by show w.heap.size < w1.heap.size; have := HSZ.out; omega)).trans hx0
      refine (dkOpen_yes g k S vs d w1 HV1.out hd hk).mono ?_
      rintro e w2 ⟨rfl, rfl⟩
      clear hx0 hf
      go_upto_region 4 with fail
      generalize w1.alloc (.cells #[.pointer (some ⟨g, k * 2, none⟩)] 93) = w2 at hbw hxp hy0 ⊢
      have HB2 := Lib.hid hbw
      have HV2 := Lib.hid (hV.below hbw)
      have HXP := Lib.hid hxp
      have HS7 : Hid (∀ k', S k' → k' < w.heap.size) := show ∀ k', _ → _ from hV.dom
      have HOK := Lib.hid hok
      have HY0 := Lib.hid hy0
      clear hb0 hbw hxp hy0 hV HV1 hle hok hu hr
      obtain ⟨q, cq, hvq, -, -, -⟩ := HV2.out.all k hk
      have hcq := HV2.out.c0 k hk
      rw [hvq] at hcq
      have H0 : Hid (w2.drew.cell? ⟨w.heap.size, 0, none⟩ = some (.int .i64 n) ∧ w2.drew.cell? ⟨w1.heap.size, 0, none⟩ = some (.pointer (some ⟨g, k * 2, none⟩)) ∧ w2.drew.cell? ⟨g, k * 2, none⟩ = some (.slice q (d.files k).all.length cq)) := show _ ∧ _ ∧ _ from ⟨HY0.out, HXP.out, hcq⟩
      clear hvq hcq
      by_cases hq : n < 0
      · have _t := trivial
        have HE1 : Hid (d.cut (k : Int) n = (d, 1)) := show _ = _ by unfold DiskM.cut; rw [if_neg (by rw [e0]; decide), Int.toNat_natCast, if_pos (by omega)]
        clear HW
        refine region_phase (fun w' => w'.cell? ⟨w.heap.size, 0, none⟩ = some (.int .i64 n) ∧ w'.cell? ⟨w1.heap.size, 0, none⟩ = some (.pointer (some ⟨g, k * 2, none⟩)) ∧ w'.cell? ⟨g, k * 2, none⟩ = some (.slice q (d.files k).all.length cq)) (fun _ => True) 99 (H0.out) trivial [(0, .free), (1, .free), (2, .free), (3, .free), (4, .free), (5, .free), (6, .free), (7, .free), (8, .free), (9, .free), (10, .free)] (by kernel_rfl) (by kernel_rfl) (by kernel_rfl) (by kernel_rfl) (fun ops hops A hA => ?_)
        have hsz : A.tmps.size = 32 := by rw [hA]; rfl
        have base5 : A.eval (.tmp 5) = .pointer (some ⟨w.heap.size, 0, none⟩) := by rw [hA]; rfl
        have base7 : A.eval (.tmp 7) = .pointer (some ⟨w1.heap.size, 0, none⟩) := by rw [hA]; rfl
        have HAA := Lib.hid hA; clear hA
        obtain ⟨o0, po0, q0, d0, gd0⟩ : ∃ o, ops[0]? = some o ∧ o.op = .load 3 (.tmp 5) ∧ o.dst = some 18 ∧ o.guard = none := ⟨_, by rw [hops]; rfl, rfl, rfl, rfl⟩
        obtain ⟨o1, po1, q1, d1, gd1⟩ : ∃ o, ops[1]? = some o ∧ o.op = .binOp .lss 3 (.tmp 18) (.const (.int .i64 0)) 3 ∧ o.dst = some 19 ∧ o.guard = none := ⟨_, by rw [hops]; rfl, rfl, rfl, rfl⟩
        obtain ⟨o2, po2, q2, d2, gd2⟩ : ∃ o, ops[2]? = some o ∧ o.op = .move (.tmp 19) ∧ o.dst = some 20 ∧ o.guard = none := ⟨_, by rw [hops]; rfl, rfl, rfl, rfl⟩
        obtain ⟨o3, po3, q3, d3, gd3⟩ : ∃ o, ops[3]? = some o ∧ o.op = .load 3 (.tmp 5) ∧ o.dst = some 21 ∧ o.guard = some (2, false) := ⟨_, by rw [hops]; rfl, rfl, rfl, rfl⟩
        obtain ⟨o4, po4, q4, d4, gd4⟩ : ∃ o, ops[4]? = some o ∧ o.op = .load 93 (.tmp 7) ∧ o.dst = some 22 ∧ o.guard = some (2, false) := ⟨_, by rw [hops]; rfl, rfl, rfl, rfl⟩
        obtain ⟨o5, po5, q5, d5, gd5⟩ : ∃ o, ops[5]? = some o ∧ o.op = .nilCheck (.tmp 22) ∧ o.dst = some 23 ∧ o.guard = some (2, false) := ⟨_, by rw [hops]; rfl, rfl, rfl, rfl⟩
        obtain ⟨o6, po6, q6, d6, gd6⟩ : ∃ o, ops[6]? = some o ∧ o.op = .fieldAddr 62 (.tmp 23) 0 ∧ o.dst = some 24 ∧ o.guard = some (2, false) := ⟨_, by rw [hops]; rfl, rfl, rfl, rfl⟩
        obtain ⟨o7, po7, q7, d7, gd7⟩ : ∃ o, ops[7]? = some o ∧ o.op = .load 37 (.tmp 24) ∧ o.dst = some 25 ∧ o.guard = some (2, false) := ⟨_, by rw [hops]; rfl, rfl, rfl, rfl⟩
        obtain ⟨o8, po8, q8, d8, gd8⟩ : ∃ o, ops[8]? = some o ∧ o.op = .call { callee := .builtin .len, args := #[.tmp 25], argTypes := #[37] } ∧ o.dst = some 26 ∧ o.guard = some (2, false) := ⟨_, by rw [hops]; rfl, rfl, rfl, rfl⟩
        obtain ⟨o9, po9, q9, d9, gd9⟩ : ∃ o, ops[9]? = some o ∧ o.op = .binOp .gtr 3 (.tmp 21) (.tmp 26) 3 ∧ o.dst = some 27 ∧ o.guard = some (2, false) := ⟨_, by rw [hops]; rfl, rfl, rfl, rfl⟩
        obtain ⟨o10, po10, q10, d10, gd10⟩ : ∃ o, ops[10]? = some o ∧ o.op = .pick (.tmp 20) (.const (.bool true)) (.tmp 27) ∧ o.dst = some 28 ∧ o.guard = none := ⟨_, by rw [hops]; rfl, rfl, rfl, rfl⟩
        clear hops
        refine met_free po0 d0 (wanted_of gd0) (fun w' h' => run_loadIn q0 base5 h'.1) ?_
        refine met_free po1 d1 (wanted_of gd1) (fun w' h' => run_lssT q1 (eval_same _ _ _ (by rw [hsz]; decide)) rfl hq w') ?_
        refine met_free po2 d2 (wanted_of gd2) (fun w' h' => run_move q2 (eval_same _ _ _ (by simp only [put_size, hsz]; decide)) w') ?_
        refine m_unwanted po3 d3 (w_notF gd3 po2 d2 (eval_same _ _ _ (by simp only [put_size, hsz]; decide))) ?_
        refine m_unwanted po4 d4 (w_notF gd4 po2 d2 ((eval_other _ 21 20 _ (by decide)).trans (eval_same _ _ _ (by simp only [put_size, hsz]; decide)))) ?_
        refine m_unwanted po5 d5 (w_notF gd5 po2 d2 ((eval_other _ 22 20 _ (by decide)).trans ((eval_other _ 21 20 _ (by decide)).trans (eval_same _ _ _ (by simp only [put_size, hsz]; decide))))) ?_
        refine m_unwanted po6 d6 (w_notF gd6 po2 d2 ((eval_other _ 23 20 _ (by decide)).trans ((eval_other _ 22 20 _ (by decide)).trans ((eval_other _ 21 20 _ (by decide)).trans (eval_same _ _ _ (by simp only [put_size, hsz]; decide)))))) ?_
        refine m_unwanted po7 d7 (w_notF gd7 po2 d2 ((eval_other _ 24 20 _ (by decide)).trans ((eval_other _ 23 20 _ (by decide)).trans ((eval_other _ 22 20 _ (by decide)).trans ((eval_other _ 21 20 _ (by decide)).trans (eval_same _ _ _ (by simp only [put_size, hsz]; decide))))))) ?_
        refine m_unwanted po8 d8 (w_notF gd8 po2 d2 ((eval_other _ 25 20 _ (by decide)).trans ((eval_other _ 24 20 _ (by decide)).trans ((eval_other _ 23 20 _ (by decide)).trans ((eval_other _ 22 20 _ (by decide)).trans ((eval_other _ 21 20 _ (by decide)).trans (eval_same _ _ _ (by simp only [put_size, hsz]; decide)))))))) ?_
        refine m_unwanted po9 d9 (w_notF gd9 po2 d2 ((eval_other _ 26 20 _ (by decide)).trans ((eval_other _ 25 20 _ (by decide)).trans ((eval_other _ 24 20 _ (by decide)).trans ((eval_other _ 23 20 _ (by decide)).trans ((eval_other _ 22 20 _ (by decide)).trans ((eval_other _ 21 20 _ (by decide)).trans (eval_same _ _ _ (by simp only [put_size, hsz]; decide))))))))) ?_
        refine met_free po10 d10 (wanted_of gd10) (fun w' h' => run_pick_true q10 ((eval_other _ 27 20 _ (by decide)).trans ((eval_other _ 26 20 _ (by decide)).trans ((eval_other _ 25 20 _ (by decide)).trans ((eval_other _ 24 20 _ (by decide)).trans ((eval_other _ 23 20 _ (by decide)).trans ((eval_other _ 22 20 _ (by decide)).trans ((eval_other _ 21 20 _ (by decide)).trans (eval_same _ _ _ (by simp only [put_size, hsz]; decide))))))))) rfl w') ?_
        show NoPanic _ .normal _ _
        refine NoPanic.normal ?_
        rw [HAA.out]
        go_frame
        clear HAA
        go_wp2_with fail
        go_ret
        rw [HE1.out]
        exact ⟨rfl, HA.out.go (HB2.out.trans ((Below.refl w2.heap.size w2).drew.mono HB2.out.size))⟩
      · have hq0 := hq
        clear hq
        by_cases hq : ((d.files k).all.length : Int) < n
        · have _t := trivial
          have HE1 : Hid (d.cut (k : Int) n = (d, 1)) := show _ = _ by unfold DiskM.cut; rw [if_neg (by rw [e0]; decide), Int.toNat_natCast, if_pos (by omega)]
          clear HW
          refine region_phase (fun w' => w'.cell? ⟨w.heap.size, 0, none⟩ = some (.int .i64 n) ∧ w'.cell? ⟨w1.heap.size, 0, none⟩ = some (.pointer (some ⟨g, k * 2, none⟩)) ∧ w'.cell? ⟨g, k * 2, none⟩ = some (.slice q (d.files k).all.length cq)) (fun _ => True) 99 (H0.out) trivial [(0, .free), (1, .free), (2, .free), (3, .free), (4, .free), (5, .free), (6, .free), (7, .free), (8, .free), (9, .free), (10, .free)] (by kernel_rfl) (by kernel_rfl) (by kernel_rfl) (by kernel_rfl) (fun ops hops A hA => ?_)
          have hsz : A.tmps.size = 32 := by rw [hA]; rfl
          have base5 : A.eval (.tmp 5) = .pointer (some ⟨w.heap.size, 0, none⟩) := by rw [hA]; rfl
          have base7 : A.eval (.tmp 7) = .pointer (some ⟨w1.heap.size, 0, none⟩) := by rw [hA]; rfl
          have HAA := Lib.hid hA; clear hA
          obtain ⟨o0, po0, q0, d0, gd0⟩ : ∃ o, ops[0]? = some o ∧ o.op = .load 3 (.tmp 5) ∧ o.dst = some 18 ∧ o.guard = none := ⟨_, by rw [hops]; rfl, rfl, rfl, rfl⟩
          obtain ⟨o1, po1, q1, d1, gd1⟩ : ∃ o, ops[1]? = some o ∧ o.op = .binOp .lss 3 (.tmp 18) (.const (.int .i64 0)) 3 ∧ o.dst = some 19 ∧ o.guard = none := ⟨_, by rw [hops]; rfl, rfl, rfl, rfl⟩
          obtain ⟨o2, po2, q2, d2, gd2⟩ : ∃ o, ops[2]? = some o ∧ o.op = .move (.tmp 19) ∧ o.dst = some 20 ∧ o.guard = none := ⟨_, by rw [hops]; rfl, rfl, rfl, rfl⟩
          obtain ⟨o3, po3, q3, d3, gd3⟩ : ∃ o, ops[3]? = some o ∧ o.op = .load 3 (.tmp 5) ∧ o.dst = some 21 ∧ o.guard = some (2, false) := ⟨_, by rw [hops]; rfl, rfl, rfl, rfl⟩
          obtain ⟨o4, po4, q4, d4, gd4⟩ : ∃ o, ops[4]? = some o ∧ o.op = .load 93 (.tmp 7) ∧ o.dst = some 22 ∧ o.guard = some (2, false) := ⟨_, by rw [hops]; rfl, rfl, rfl, rfl⟩
          obtain ⟨o5, po5, q5, d5, gd5⟩ : ∃ o, ops[5]? = some o ∧ o.op = .nilCheck (.tmp 22) ∧ o.dst = some 23 ∧ o.guard = some (2, false) := ⟨_, by rw [hops]; rfl, rfl, rfl, rfl⟩
          obtain ⟨o6, po6, q6, d6, gd6⟩ : ∃ o, ops[6]? = some o ∧ o.op = .fieldAddr 62 (.tmp 23) 0 ∧ o.dst = some 24 ∧ o.guard = some (2, false) := ⟨_, by rw [hops]; rfl, rfl, rfl, rfl⟩
          obtain ⟨o7, po7, q7, d7, gd7⟩ : ∃ o, ops[7]? = some o ∧ o.op = .load 37 (.tmp 24) ∧ o.dst = some 25 ∧ o.guard = some (2, false) := ⟨_, by rw [hops]; rfl, rfl, rfl, rfl⟩
          obtain ⟨o8, po8, q8, d8, gd8⟩ : ∃ o, ops[8]? = some o ∧ o.op = .call { callee := .builtin .len, args := #[.tmp 25], argTypes := #[37] } ∧ o.dst = some 26 ∧ o.guard = some (2, false) := ⟨_, by rw [hops]; rfl, rfl, rfl, rfl⟩
          obtain ⟨o9, po9, q9, d9, gd9⟩ : ∃ o, ops[9]? = some o ∧ o.op = .binOp .gtr 3 (.tmp 21) (.tmp 26) 3 ∧ o.dst = some 27 ∧ o.guard = some (2, false) := ⟨_, by rw [hops]; rfl, rfl, rfl, rfl⟩
          obtain ⟨o10, po10, q10, d10, gd10⟩ : ∃ o, ops[10]? = some o ∧ o.op = .pick (.tmp 20) (.const (.bool true)) (.tmp 27) ∧ o.dst = some 28 ∧ o.guard = none := ⟨_, by rw [hops]; rfl, rfl, rfl, rfl⟩
          clear hops
          refine met_free po0 d0 (wanted_of gd0) (fun w' h' => run_loadIn q0 base5 h'.1) ?_
          refine met_free po1 d1 (wanted_of gd1) (fun w' h' => run_lssF q1 (eval_same _ _ _ (by rw [hsz]; decide)) rfl hq0 w') ?_
          refine met_free po2 d2 (wanted_of gd2) (fun w' h' => run_move q2 (eval_same _ _ _ (by simp only [put_size, hsz]; decide)) w') ?_
          refine met_free po3 d3 (w_false gd3 po2 d2 (eval_same _ _ _ (by simp only [put_size, hsz]; decide))) (fun w' h' => run_loadIn q3 ((eval_other _ 20 5 _ (by decide)).trans ((eval_other _ 19 5 _ (by decide)).trans ((eval_other _ 18 5 _ (by decide)).trans base5))) h'.1) ?_
          refine met_free po4 d4 (w_false gd4 po2 d2 ((eval_other _ 21 20 _ (by decide)).trans (eval_same _ _ _ (by simp only [put_size, hsz]; decide)))) (fun w' h' => run_loadFile q4 ((eval_other _ 21 7 _ (by decide)).trans ((eval_other _ 20 7 _ (by decide)).trans ((eval_other _ 19 7 _ (by decide)).trans ((eval_other _ 18 7 _ (by decide)).trans base7)))) h'.2.1) ?_
          refine met_free po5 d5 (w_false gd5 po2 d2 ((eval_other _ 22 20 _ (by decide)).trans ((eval_other _ 21 20 _ (by decide)).trans (eval_same _ _ _ (by simp only [put_size, hsz]; decide))))) (fun w' h' => run_nilCheck q5 (eval_same _ _ _ (by simp only [put_size, hsz]; decide)) w') ?_
          refine met_free po6 d6 (w_false gd6 po2 d2 ((eval_other _ 23 20 _ (by decide)).trans ((eval_other _ 22 20 _ (by decide)).trans ((eval_other _ 21 20 _ (by decide)).trans (eval_same _ _ _ (by simp only [put_size, hsz]; decide)))))) (fun w' h' => run_fieldF0 q6 (eval_same _ _ _ (by simp only [put_size, hsz]; decide)) w') ?_
          refine met_free po7 d7 (w_false gd7 po2 d2 ((eval_other _ 24 20 _ (by decide)).trans ((eval_other _ 23 20 _ (by decide)).trans ((eval_other _ 22 20 _ (by decide)).trans ((eval_other _ 21 20 _ (by decide)).trans (eval_same _ _ _ (by simp only [put_size, hsz]; decide))))))) (fun w' h' => run_loadBs q7 (eval_same _ _ _ (by simp only [put_size, hsz]; decide)) h'.2.2) ?_
          refine met_free po8 d8 (w_false gd8 po2 d2 ((eval_other _ 25 20 _ (by decide)).trans ((eval_other _ 24 20 _ (by decide)).trans ((eval_other _ 23 20 _ (by decide)).trans ((eval_other _ 22 20 _ (by decide)).trans ((eval_other _ 21 20 _ (by decide)).trans (eval_same _ _ _ (by simp only [put_size, hsz]; decide)))))))) (fun w' h' => run_len26 q8 (eval_same _ _ _ (by simp only [put_size, hsz]; decide)) w') ?_
          refine met_free po9 d9 (w_false gd9 po2 d2 ((eval_other _ 26 20 _ (by decide)).trans ((eval_other _ 25 20 _ (by decide)).trans ((eval_other _ 24 20 _ (by decide)).trans ((eval_other _ 23 20 _ (by decide)).trans ((eval_other _ 22 20 _ (by decide)).trans ((eval_other _ 21 20 _ (by decide)).trans (eval_same _ _ _ (by simp only [put_size, hsz]; decide))))))))) (fun w' h' => run_gtrT q9 ((eval_other _ 26 21 _ (by decide)).trans ((eval_other _ 25 21 _ (by decide)).trans ((eval_other _ 24 21 _ (by decide)).trans ((eval_other _ 23 21 _ (by decide)).trans ((eval_other _ 22 21 _ (by decide)).trans (eval_same _ _ _ (by simp only [put_size, hsz]; decide))))))) (eval_same _ _ _ (by simp only [put_size, hsz]; decide)) hq w') ?_
          refine met_free po10 d10 (wanted_of gd10) (fun w' h' => r_pickF q10 ((eval_other _ 27 20 _ (by decide)).trans ((eval_other _ 26 20 _ (by decide)).trans ((eval_other _ 25 20 _ (by decide)).trans ((eval_other _ 24 20 _ (by decide)).trans ((eval_other _ 23 20 _ (by decide)).trans ((eval_other _ 22 20 _ (by decide)).trans ((eval_other _ 21 20 _ (by decide)).trans (eval_same _ _ _ (by simp only [put_size, hsz]; decide))))))))) (eval_same _ _ _ (by simp only [put_size, hsz]; decide)) w') ?_
          show NoPanic _ .normal _ _
          refine NoPanic.normal ?_
          rw [HAA.out]
          go_frame
          clear HAA
          go_wp2_with fail
          go_ret
          rw [HE1.out]
          exact ⟨rfl, HA.out.go (HB2.out.trans ((Below.refl w2.heap.size w2).drew.mono HB2.out.size))⟩
        · obtain ⟨m, rfl⟩ : ∃ m : Nat, n = (m : Int) := ⟨n.toNat, by omega⟩
          have HE1 : Hid (d.cut (k : Int) (m : Int) = (d.exec (cutF k m) false, d.execE)) := show _ = _ by unfold DiskM.cut; rw [if_neg (by rw [e0]; decide), Int.toNat_natCast, if_neg (by omega), Int.toNat_natCast]
          rw [HE1.out] at HW
          refine region_phase (fun w' => w'.cell? ⟨w.heap.size, 0, none⟩ = some (.int .i64 (m : Int)) ∧ w'.cell? ⟨w1.heap.size, 0, none⟩ = some (.pointer (some ⟨g, k * 2, none⟩)) ∧ w'.cell? ⟨g, k * 2, none⟩ = some (.slice q (d.files k).all.length cq)) (fun _ => True) 99 (H0.out) trivial [(0, .free), (1, .free), (2, .free), (3, .free), (4, .free), (5, .free), (6, .free), (7, .free), (8, .free), (9, .free), (10, .free)] (by kernel_rfl) (by kernel_rfl) (by kernel_rfl) (by kernel_rfl) (fun ops hops A hA => ?_)
          have hsz : A.tmps.size = 32 := by rw [hA]; rfl
          have base5 : A.eval (.tmp 5) = .pointer (some ⟨w.heap.size, 0, none⟩) := by rw [hA]; rfl
          have base7 : A.eval (.tmp 7) = .pointer (some ⟨w1.heap.size, 0, none⟩) := by rw [hA]; rfl
          have HAA := Lib.hid hA; clear hA
          obtain ⟨o0, po0, q0, d0, gd0⟩ : ∃ o, ops[0]? = some o ∧ o.op = .load 3 (.tmp 5) ∧ o.dst = some 18 ∧ o.guard = none := ⟨_, by rw [hops]; rfl, rfl, rfl, rfl⟩
          obtain ⟨o1, po1, q1, d1, gd1⟩ : ∃ o, ops[1]? = some o ∧ o.op = .binOp .lss 3 (.tmp 18) (.const (.int .i64 0)) 3 ∧ o.dst = some 19 ∧ o.guard = none := ⟨_, by rw [hops]; rfl, rfl, rfl, rfl⟩
          obtain ⟨o2, po2, q2, d2, gd2⟩ : ∃ o, ops[2]? = some o ∧ o.op = .move (.tmp 19) ∧ o.dst = some 20 ∧ o.guard = none := ⟨_, by rw [hops]; rfl, rfl, rfl, rfl⟩
          obtain ⟨o3, po3, q3, d3, gd3⟩ : ∃ o, ops[3]? = some o ∧ o.op = .load 3 (.tmp 5) ∧ o.dst = some 21 ∧ o.guard = some (2, false) := ⟨_, by rw [hops]; rfl, rfl, rfl, rfl⟩
          obtain ⟨o4, po4, q4, d4, gd4⟩ : ∃ o, ops[4]? = some o ∧ o.op = .load 93 (.tmp 7) ∧ o.dst = some 22 ∧ o.guard = some (2, false) := ⟨_, by rw [hops]; rfl, rfl, rfl, rfl⟩
          obtain ⟨o5, po5, q5, d5, gd5⟩ : ∃ o, ops[5]? = some o ∧ o.op = .nilCheck (.tmp 22) ∧ o.dst = some 23 ∧ o.guard = some (2, false) := ⟨_, by rw [hops]; rfl, rfl, rfl, rfl⟩
          obtain ⟨o6, po6, q6, d6, gd6⟩ : ∃ o, ops[6]? = some o ∧ o.op = .fieldAddr 62 (.tmp 23) 0 ∧ o.dst = some 24 ∧ o.guard = some (2, false) := ⟨_, by rw [hops]; rfl, rfl, rfl, rfl⟩
          obtain ⟨o7, po7, q7, d7, gd7⟩ : ∃ o, ops[7]? = some o ∧ o.op = .load 37 (.tmp 24) ∧ o.dst = some 25 ∧ o.guard = some (2, false) := ⟨_, by rw [hops]; rfl, rfl, rfl, rfl⟩
          obtain ⟨o8, po8, q8, d8, gd8⟩ : ∃ o, ops[8]? = some o ∧ o.op = .call { callee := .builtin .len, args := #[.tmp 25], argTypes := #[37] } ∧ o.dst = some 26 ∧ o.guard = some (2, false) := ⟨_, by rw [hops]; rfl, rfl, rfl, rfl⟩
          obtain ⟨o9, po9, q9, d9, gd9⟩ : ∃ o, ops[9]? = some o ∧ o.op = .binOp .gtr 3 (.tmp 21) (.tmp 26) 3 ∧ o.dst = some 27 ∧ o.guard = some (2, false) := ⟨_, by rw [hops]; rfl, rfl, rfl, rfl⟩
          obtain ⟨o10, po10, q10, d10, gd10⟩ : ∃ o, ops[10]? = some o ∧ o.op = .pick (.tmp 20) (.const (.bool true)) (.tmp 27) ∧ o.dst = some 28 ∧ o.guard = none := ⟨_, by rw [hops]; rfl, rfl, rfl, rfl⟩
          clear hops
          refine met_free po0 d0 (wanted_of gd0) (fun w' h' => run_loadIn q0 base5 h'.1) ?_
          refine met_free po1 d1 (wanted_of gd1) (fun w' h' => run_lssF q1 (eval_same _ _ _ (by rw [hsz]; decide)) rfl hq0 w') ?_
          refine met_free po2 d2 (wanted_of gd2) (fun w' h' => run_move q2 (eval_same _ _ _ (by simp only [put_size, hsz]; decide)) w') ?_
          refine met_free po3 d3 (w_false gd3 po2 d2 (eval_same _ _ _ (by simp only [put_size, hsz]; decide))) (fun w' h' => run_loadIn q3 ((eval_other _ 20 5 _ (by decide)).trans ((eval_other _ 19 5 _ (by decide)).trans ((eval_other _ 18 5 _ (by decide)).trans base5))) h'.1) ?_
          refine met_free po4 d4 (w_false gd4 po2 d2 ((eval_other _ 21 20 _ (by decide)).trans (eval_same _ _ _ (by simp only [put_size, hsz]; decide)))) (fun w' h' => run_loadFile q4 ((eval_other _ 21 7 _ (by decide)).trans ((eval_other _ 20 7 _ (by decide)).trans ((eval_other _ 19 7 _ (by decide)).trans ((eval_other _ 18 7 _ (by decide)).trans base7)))) h'.2.1) ?_
          refine met_free po5 d5 (w_false gd5 po2 d2 ((eval_other _ 22 20 _ (by decide)).trans ((eval_other _ 21 20 _ (by decide)).trans (eval_same _ _ _ (by simp only [put_size, hsz]; decide))))) (fun w' h' => run_nilCheck q5 (eval_same _ _ _ (by simp only [put_size, hsz]; decide)) w') ?_
          refine met_free po6 d6 (w_false gd6 po2 d2 ((eval_other _ 23 20 _ (by decide)).trans ((eval_other _ 22 20 _ (by decide)).trans ((eval_other _ 21 20 _ (by decide)).trans (eval_same _ _ _ (by simp only [put_size, hsz]; decide)))))) (fun w' h' => run_fieldF0 q6 (eval_same _ _ _ (by simp only [put_size, hsz]; decide)) w') ?_
          refine met_free po7 d7 (w_false gd7 po2 d2 ((eval_other _ 24 20 _ (by decide)).trans ((eval_other _ 23 20 _ (by decide)).trans ((eval_other _ 22 20 _ (by decide)).trans ((eval_other _ 21 20 _ (by decide)).trans (eval_same _ _ _ (by simp only [put_size, hsz]; decide))))))) (fun w' h' => run_loadBs q7 (eval_same _ _ _ (by simp only [put_size, hsz]; decide)) h'.2.2) ?_
          refine met_free po8 d8 (w_false gd8 po2 d2 ((eval_other _ 25 20 _ (by decide)).trans ((eval_other _ 24 20 _ (by decide)).trans ((eval_other _ 23 20 _ (by decide)).trans ((eval_other _ 22 20 _ (by decide)).trans ((eval_other _ 21 20 _ (by decide)).trans (eval_same _ _ _ (by simp only [put_size, hsz]; decide)))))))) (fun w' h' => run_len26 q8 (eval_same _ _ _ (by simp only [put_size, hsz]; decide)) w') ?_
          refine met_free po9 d9 (w_false gd9 po2 d2 ((eval_other _ 26 20 _ (by decide)).trans ((eval_other _ 25 20 _ (by decide)).trans ((eval_other _ 24 20 _ (by decide)).trans ((eval_other _ 23 20 _ (by decide)).trans ((eval_other _ 22 20 _ (by decide)).trans ((eval_other _ 21 20 _ (by decide)).trans (eval_same _ _ _ (by simp only [put_size, hsz]; decide))))))))) (fun w' h' => run_gtrF q9 ((eval_other _ 26 21 _ (by decide)).trans ((eval_other _ 25 21 _ (by decide)).trans ((eval_other _ 24 21 _ (by decide)).trans ((eval_other _ 23 21 _ (by decide)).trans ((eval_other _ 22 21 _ (by decide)).trans (eval_same _ _ _ (by simp only [put_size, hsz]; decide))))))) (eval_same _ _ _ (by simp only [put_size, hsz]; decide)) hq w') ?_
          refine met_free po10 d10 (wanted_of gd10) (fun w' h' => r_pickF q10 ((eval_other _ 27 20 _ (by decide)).trans ((eval_other _ 26 20 _ (by decide)).trans ((eval_other _ 25 20 _ (by decide)).trans ((eval_other _ 24 20 _ (by decide)).trans ((eval_other _ 23 20 _ (by decide)).trans ((eval_other _ 22 20 _ (by decide)).trans ((eval_other _ 21 20 _ (by decide)).trans (eval_same _ _ _ (by simp only [put_size, hsz]; decide))))))))) (eval_same _ _ _ (by simp only [put_size, hsz]; decide)) w') ?_
          show NoPanic _ .normal _ _
          refine NoPanic.normal ?_
          rw [HAA.out]
          go_frame
          clear HAA
          have HE := Lib.hid (dkExec_any S g vs d 82 Tryd.f82 #[.pointer (some ⟨w1.heap.size, 0, none⟩), .pointer (some ⟨w.heap.size, 0, none⟩)] false (cutF k m) w2.drew (HV2.out.below (Below.refl w2.heap.size w2).drew) HOK.out hc Tryd.func82 (by kernel_rfl) (fun w3 hv3 hs3 => by
            have hgS := HV2.out.here
            have hnP : ¬ S w1.heap.size := fun s => by have := HS7.out _ s; have := HB0.out.size; omega
            have hgP : w1.heap.size ≠ g := fun e => hnP (e ▸ hgS)
            have kP := World.block_lt_of_cell? w2 _ HXP.out
            have hn0 : ¬ S (w.heap.size) := fun s => by have := HS7.out _ s; omega
            have hg0 : w.heap.size ≠ g := fun e => hn0 (e ▸ hgS)
            have k0 := World.block_lt_of_cell? w2 _ HY0.out
            exact dkCutC_any S g w1.heap.size w.heap.size k m vs d.tick w3 hv3 hk (by show m ≤ (d.files k).all.length; omega) hlk ((World.cell?_of_block (a := ⟨w1.heap.size, 0, none⟩) (hs3.block _ kP hgP)).trans HXP.out) ((World.cell?_of_block (a := ⟨w.heap.size, 0, none⟩) (hs3.block _ k0 hg0)).trans HY0.out)))
          clear HXP HS7 HOK HV2 hc hlk hk hd HOD HY0
          go_wp2_with fail
          with_reducible refine HE.out.mono ?_
          rintro e w3 ⟨rfl, hgo⟩
          have HGO := Lib.hid hgo; clear hgo
          go_wp2_with fail
          go_ret
          rw [HE1.out]
          exact ⟨rfl, (HGO.out.below (HB2.out.trans ((Below.refl w2.heap.size w2).drew.mono HB2.out.size))).go HW.out (DiskM.exec_count _ _ _ HC.out)⟩
    · have e0 : d.openE f = 1 := by unfold DiskM.openE; rw [if_neg (by rw [hd]; decide), if_neg hf]
      have HE1 : Hid (d.cut f n = (d, 1)) := show _ = _ by unfold DiskM.cut; rw [if_pos (by rw [e0]; decide), e0]
      refine (dkOpen_no g f S vs d w1 HV1.out hd hf).mono ?_
      rintro e w2 ⟨rfl, rfl⟩
      clear e0 hb0 hV hok HW hf
      go_wp2_with fail
      go_ret
      rw [HE1.out]
      exact ⟨rfl, HA.out.go (HB0.out.alloc HB0.out.size _)⟩
set_option maxRecDepth 100000 in
set_option maxHeartbeats 2000000 in
theorem dkOver_any (S : Nat → Prop) (g : Nat) (d : DiskM) (f : Int) (n : Int) (m c : Nat) (p : Option Addr) (b : List (BitVec 8)) (w : World) (h : DkAt S w g d) (hc : d.count < 1000000000) (hn64 : -9223372036854775808 ≤ n ∧ n ≤ 9223372036854775807) (hb : b.length = m) (hL : Lies w p b) :
    Calls Tryd.prog 55 #[.pointer (some ⟨g, 0, none⟩), .int .i64 f, .int .i64 n, .slice p m c] w fun e w' => e = .returned (.int .i64 (d.over f n b).2) ∧ DkGo S g (d.over f n b).1 w w' := by
  have HA := Lib.hid h
  have HC := Lib.hid hc
  have HW := Lib.hid (DiskM.over_ok h.2.1 f n b)
  obtain ⟨⟨vs, hV⟩, hok, -⟩ := h
  have hb0 : Below w.heap.size w ((w.alloc (.cells #[.int .i64 n] 3)).alloc (.cells #[.slice p m c] 37)) := ((Below.refl _ _).alloc (Nat.le_refl _) _).alloc (by rw [size_alloc]; omega) _
  have hx0 : ((w.alloc (.cells #[.int .i64 n] 3)).alloc (.cells #[.slice p m c] 37)).cell? ⟨w.heap.size, 0, none⟩ = some (.int .i64 n) := by rw [cell_of_row _ _ _ _ _ _ (show _ = some (Obj.cells _ _ (0, 0)) from by rw [Below.heap_alloc _ _ _ (by rw [size_alloc]; omega)]; exact heap_alloc_new w _)]; rfl
  have hx1 : ((w.alloc (.cells #[.int .i64 n] 3)).alloc (.cells #[.slice p m c] 37)).cell? ⟨w.heap.size + 1, 0, none⟩ = some (.slice p m c) := by rw [cell_of_row _ _ _ _ _ _ (heap_new_at (by rw [size_alloc]))]; rfl
  have hs0 : ((w.alloc (.cells #[.int .i64 n] 3)).alloc (.cells #[.slice p m c] 37)).heap.size = w.heap.size + 2 := by rw [size_alloc, size_alloc]
  go_enter Tryd.func55, Tryd.ntmps55
  go_wp2_with fail
  generalize ((w.alloc (.cells #[.int .i64 n] 3)).alloc (.cells #[.slice p m c] 37)) = w1 at hb0 hx0 hx1 hs0 ⊢
  have HSZ := Lib.hid hs0; clear hs0
  have HB0 := Lib.hid hb0
  have HV1 := Lib.hid (hV.below hb0)
  cases hd : d.down with
  | true =>
    have e0 : d.openE f = 9 := by unfold DiskM.openE; rw [if_pos hd]
    have HE1 : Hid (d.over f n b = (d, 9)) := show _ = _ by unfold DiskM.over; rw [if_pos (by rw [e0]; decide), e0]
    refine (dkOpen_down g f S vs d w1 HV1.out hd).mono ?_
    rintro e w2 ⟨rfl, rfl⟩
    clear e0 hb0 hV hok HW
    go_wp2_with fail
    go_ret
    rw [HE1.out]
    exact ⟨rfl, HA.out.go (HB0.out.alloc HB0.out.size _)⟩
  | false =>
    by_cases hf : 0 ≤ f ∧ f ≤ 32
    · obtain ⟨k, rfl⟩ : ∃ k : Nat, f = (k : Int) := ⟨f.toNat, by omega⟩
      have hk : k < 33 := by omega
      have e0 : d.openE (k : Int) = 0 := by unfold DiskM.openE; rw [if_neg (by rw [hd]; decide), if_pos hf]
      have hu := hok.used
      have hr := hok.room
      have hle := sumTo_le d.files k 33 hk
      have hlk : (d.files k).all.length < 9223372036854775808 := by unfold DiskM.used at hu; omega
      have HOD := Lib.hid (hok.dur k hk)
      have hbw : Below w.heap.size w (w1.alloc (.cells #[.pointer (some ⟨g, k * 2, none⟩)] 93)) := hb0.alloc hb0.size _
      have hxp : (w1.alloc (.cells #[.pointer (some ⟨g, k * 2, none⟩)] 93)).cell? ⟨w1.heap.size, 0, none⟩ = some (.pointer (some ⟨g, k * 2, none⟩)) := by rw [cell_of_row _ _ _ _ _ _ (heap_alloc_new w1 _)]; rfl
      have hy0 : (w1.alloc (.cells #[.pointer (some ⟨g, k * 2, none⟩)] 93)).cell? ⟨w.heap.size, 0, none⟩ = some (.int .i64 n) := (((Below.refl w1.heap.size w1).alloc (Nat.le_refl _) _).cell (p := ⟨w.heap.size, 0, none⟩) (by show w.heap.size < w1.heap.size; have := HSZ.out; omega)).trans hx0
      have hy1 : (w1.alloc (.cells #[.pointer (some ⟨g, k * 2, none⟩)] 93)).cell? ⟨w.heap.size + 1, 0, none⟩ = some (.slice p m c) := (((Below.refl w1.heap.size w1).alloc (Nat.le_refl _) _).cell (p := ⟨w.heap.size + 1, 0, none⟩) (by show w.heap.size + 1 < w1.heap.size; have := HSZ.out; omega)).trans hx1
      refine (dkOpen_yes g k S vs d w1 HV1.out hd hk).mono ?_
      rintro e w2 ⟨rfl, rfl⟩
      clear hx0 hx1 hf
      go_upto_region 4 with fail
      generalize w1.alloc (.cells #[.pointer (some ⟨g, k * 2, none⟩)] 93) = w2 at hbw hxp hy0 hy1 ⊢
      have HB2 := Lib.hid hbw
      have HV2 := Lib.hid (hV.below hbw)
      have HXP := Lib.hid hxp
      have HS7 : Hid (∀ k', S k' → k' < w.heap.size) := show ∀ k', _ → _ from hV.dom
      have HOK := Lib.hid hok
      have HY0 := Lib.hid hy0
      have HY1 := Lib.hid hy1
      clear hb0 hbw hxp hy0 hy1 hV HV1 hle hok hu hr
      have hcq := HV2.out.c1 k hk
      have HLL := Lib.hid (hL.below HB2.out)
      have HBL := Lib.hid hb
      have H0 : Hid (w2.drew.cell? ⟨w.heap.size, 0, none⟩ = some (.int .i64 n) ∧ w2.drew.cell? ⟨w.heap.size + 1, 0, none⟩ = some (.slice p m c) ∧ w2.drew.cell? ⟨w1.heap.size, 0, none⟩ = some (.pointer (some ⟨g, k * 2, none⟩)) ∧ w2.drew.cell? ⟨g, k * 2 + 1, none⟩ = some (.int .i64 ((d.files k).dur : Int))) := show _ ∧ _ ∧ _ ∧ _ from ⟨HY0.out, HY1.out, HXP.out, hcq⟩
      clear hcq hL hb
      by_cases hq : n < 0
      · have _t := trivial
        have HE1 : Hid (d.over (k : Int) n b = (d, 1)) := show _ = _ by unfold DiskM.over; rw [if_neg (by rw [e0]; decide), Int.toNat_natCast, HBL.out, if_pos (by omega)]
        clear HW
        refine region_phase (fun w' => w'.cell? ⟨w.heap.size, 0, none⟩ = some (.int .i64 n) ∧ w'.cell? ⟨w.heap.size + 1, 0, none⟩ = some (.slice p m c) ∧ w'.cell? ⟨w1.heap.size, 0, none⟩ = some (.pointer (some ⟨g, k * 2, none⟩)) ∧ w'.cell? ⟨g, k * 2 + 1, none⟩ = some (.int .i64 ((d.files k).dur : Int))) (fun _ => True) 99 (H0.out) trivial [(0, .free), (1, .free), (2, .free), (3, .free), (4, .free), (5, .free), (6, .free), (7, .free), (8, .free), (9, .free), (10, .free), (11, .free), (12, .free)] (by kernel_rfl) (by kernel_rfl) (by kernel_rfl) (by kernel_rfl) (fun ops hops A hA => ?_)
        have hsz : A.tmps.size = 36 := by rw [hA]; rfl
        have base6 : A.eval (.tmp 6) = .pointer (some ⟨w.heap.size, 0, none⟩) := by rw [hA]; rfl
        have base7 : A.eval (.tmp 7) = .pointer (some ⟨w.heap.size + 1, 0, none⟩) := by rw [hA]; rfl
        have base9 : A.eval (.tmp 9) = .pointer (some ⟨w1.heap.size, 0, none⟩) := by rw [hA]; rfl
        have HAA := Lib.hid hA; clear hA
        obtain ⟨o0, po0, q0, d0, gd0⟩ : ∃ o, ops[0]? = some o ∧ o.op = .load 3 (.tmp 6) ∧ o.dst = some 20 ∧ o.guard = none := ⟨_, by rw [hops]; rfl, rfl, rfl, rfl⟩
        obtain ⟨o1, po1, q1, d1, gd1⟩ : ∃ o, ops[1]? = some o ∧ o.op = .binOp .lss 3 (.tmp 20) (.const (.int .i64 0)) 3 ∧ o.dst = some 21 ∧ o.guard = none := ⟨_, by rw [hops]; rfl, rfl, rfl, rfl⟩
        obtain ⟨o2, po2, q2, d2, gd2⟩ : ∃ o, ops[2]? = some o ∧ o.op = .move (.tmp 21) ∧ o.dst = some 22 ∧ o.guard = none := ⟨_, by rw [hops]; rfl, rfl, rfl, rfl⟩
        obtain ⟨o3, po3, q3, d3, gd3⟩ : ∃ o, ops[3]? = some o ∧ o.op = .load 37 (.tmp 7) ∧ o.dst = some 23 ∧ o.guard = some (2, false) := ⟨_, by rw [hops]; rfl, rfl, rfl, rfl⟩
        obtain ⟨o4, po4, q4, d4, gd4⟩ : ∃ o, ops[4]? = some o ∧ o.op = .call { callee := .builtin .len, args := #[.tmp 23], argTypes := #[37] } ∧ o.dst = some 24 ∧ o.guard = some (2, false) := ⟨_, by rw [hops]; rfl, rfl, rfl, rfl⟩
        obtain ⟨o5, po5, q5, d5, gd5⟩ : ∃ o, ops[5]? = some o ∧ o.op = .load 93 (.tmp 9) ∧ o.dst = some 25 ∧ o.guard = some (2, false) := ⟨_, by rw [hops]; rfl, rfl, rfl, rfl⟩
        obtain ⟨o6, po6, q6, d6, gd6⟩ : ∃ o, ops[6]? = some o ∧ o.op = .nilCheck (.tmp 25) ∧ o.dst = some 26 ∧ o.guard = some (2, false) := ⟨_, by rw [hops]; rfl, rfl, rfl, rfl⟩
        obtain ⟨o7, po7, q7, d7, gd7⟩ : ∃ o, ops[7]? = some o ∧ o.op = .fieldAddr 62 (.tmp 26) 1 ∧ o.dst = some 27 ∧ o.guard = some (2, false) := ⟨_, by rw [hops]; rfl, rfl, rfl, rfl⟩
        obtain ⟨o8, po8, q8, d8, gd8⟩ : ∃ o, ops[8]? = some o ∧ o.op = .load 3 (.tmp 27) ∧ o.dst = some 28 ∧ o.guard = some (2, false) := ⟨_, by rw [hops]; rfl, rfl, rfl, rfl⟩
        obtain ⟨o9, po9, q9, d9, gd9⟩ : ∃ o, ops[9]? = some o ∧ o.op = .load 3 (.tmp 6) ∧ o.dst = some 29 ∧ o.guard = some (2, false) := ⟨_, by rw [hops]; rfl, rfl, rfl, rfl⟩
        obtain ⟨o10, po10, q10, d10, gd10⟩ : ∃ o, ops[10]? = some o ∧ o.op = .binOp .sub 3 (.tmp 28) (.tmp 29) 3 ∧ o.dst = some 30 ∧ o.guard = some (2, false) := ⟨_, by rw [hops]; rfl, rfl, rfl, rfl⟩
        obtain ⟨o11, po11, q11, d11, gd11⟩ : ∃ o, ops[11]? = some o ∧ o.op = .binOp .gtr 3 (.tmp 24) (.tmp 30) 3 ∧ o.dst = some 31 ∧ o.guard = some (2, false) := ⟨_, by rw [hops]; rfl, rfl, rfl, rfl⟩
        obtain ⟨o12, po12, q12, d12, gd12⟩ : ∃ o, ops[12]? = some o ∧ o.op = .pick (.tmp 22) (.const (.bool true)) (.tmp 31) ∧ o.dst = some 32 ∧ o.guard = none := ⟨_, by rw [hops]; rfl, rfl, rfl, rfl⟩
        clear hops
        refine met_free po0 d0 (wanted_of gd0) (fun w' h' => run_loadIn q0 base6 h'.1) ?_
        refine met_free po1 d1 (wanted_of gd1) (fun w' h' => run_lssT q1 (eval_same _ _ _ (by rw [hsz]; decide)) rfl hq w') ?_
        refine met_free po2 d2 (wanted_of gd2) (fun w' h' => run_move q2 (eval_same _ _ _ (by simp only [put_size, hsz]; decide)) w') ?_
        refine m_unwanted po3 d3 (w_notF gd3 po2 d2 (eval_same _ _ _ (by simp only [put_size, hsz]; decide))) ?_
        refine m_unwanted po4 d4 (w_notF gd4 po2 d2 ((eval_other _ 23 22 _ (by decide)).trans (eval_same _ _ _ (by simp only [put_size, hsz]; decide)))) ?_
        refine m_unwanted po5 d5 (w_notF gd5 po2 d2 ((eval_other _ 24 22 _ (by decide)).trans ((eval_other _ 23 22 _ (by decide)).trans (eval_same _ _ _ (by simp only [put_size, hsz]; decide))))) ?_
        refine m_unwanted po6 d6 (w_notF gd6 po2 d2 ((eval_other _ 25 22 _ (by decide)).trans ((eval_other _ 24 22 _ (by decide)).trans ((eval_other _ 23 22 _ (by decide)).trans (eval_same _ _ _ (by simp only [put_size, hsz]; decide)))))) ?_
        refine m_unwanted po7 d7 (w_notF gd7 po2 d2 ((eval_other _ 26 22 _ (by decide)).trans ((eval_other _ 25 22 _ (by decide)).trans ((eval_other _ 24 22 _ (by decide)).trans ((eval_other _ 23 22 _ (by decide)).trans (eval_same _ _ _ (by simp only [put_size, hsz]; decide))))))) ?_
        refine m_unwanted po8 d8 (w_notF gd8 po2 d2 ((eval_other _ 27 22 _ (by decide)).trans ((eval_other _ 26 22 _ (by decide)).trans ((eval_other _ 25 22 _ (by decide)).trans ((eval_other _ 24 22 _ (by decide)).trans ((eval_other _ 23 22 _ (by decide)).trans (eval_same _ _ _ (by simp only [put_size, hsz]; decide)))))))) ?_
        refine m_unwanted po9 d9 (w_notF gd9 po2 d2 ((eval_other _ 28 22 _ (by decide)).trans ((eval_other _ 27 22 _ (by decide)).trans ((eval_other _ 26 22 _ (by decide)).trans ((eval_other _ 25 22 _ (by decide)).trans ((eval_other _ 24 22 _ (by decide)).trans ((eval_other _ 23 22 _ (by decide)).trans (eval_same _ _ _ (by simp only [put_size, hsz]; decide))))))))) ?_
        refine m_unwanted po10 d10 (w_notF gd10 po2 d2 ((eval_other _ 29 22 _ (by decide)).trans ((eval_other _ 28 22 _ (by decide)).trans ((eval_other _ 27 22 _ (by decide)).trans ((eval_other _ 26 22 _ (by decide)).trans ((eval_other _ 25 22 _ (by decide)).trans ((eval_other _ 24 22 _ (by decide)).trans ((eval_other _ 23 22 _ (by decide)).trans (eval_same _ _ _ (by simp only [put_size, hsz]; decide)))))))))) ?_
        refine m_unwanted po11 d11 (w_notF gd11 po2 d2 ((eval_other _ 30 22 _ (by decide)).trans ((eval_other _ 29 22 _ (by decide)).trans ((eval_other _ 28 22 _ (by decide)).trans ((eval_other _ 27 22 _ (by decide)).trans ((eval_other _ 26 22 _ (by decide)).trans ((eval_other _ 25 22 _ (by decide)).trans ((eval_other _ 24 22 _ (by decide)).trans ((eval_other _ 23 22 _ (by decide)).trans (eval_same _ _ _ (by simp only [put_size, hsz]; decide))))))))))) ?_
        refine met_free po12 d12 (wanted_of gd12) (fun w' h' => run_pick_true q12 ((eval_other _ 31 22 _ (by decide)).trans ((eval_other _ 30 22 _ (by decide)).trans ((eval_other _ 29 22 _ (by decide)).trans ((eval_other _ 28 22 _ (by decide)).trans ((eval_other _ 27 22 _ (by decide)).trans ((eval_other _ 26 22 _ (by decide)).trans ((eval_other _ 25 22 _ (by decide)).trans ((eval_other _ 24 22 _ (by decide)).trans ((eval_other _ 23 22 _ (by decide)).trans (eval_same _ _ _ (by simp only [put_size, hsz]; decide))))))))))) rfl w') ?_
        show NoPanic _ .normal _ _
        refine NoPanic.normal ?_
        rw [HAA.out]
        go_frame
        clear HAA
        go_wp2_with fail
        go_ret
        rw [HE1.out]
        exact ⟨rfl, HA.out.go (HB2.out.trans ((Below.refl w2.heap.size w2).drew.mono HB2.out.size))⟩
      · have hq0 := hq
        clear hq
        have hsub : -9223372036854775808 ≤ ((d.files k).dur : Int) - n ∧ ((d.files k).dur : Int) - n ≤ 9223372036854775807 := by have := HOD.out; omega
        by_cases hq : ((d.files k).dur : Int) - n < (m : Int)
        · have _t := trivial
          have HE1 : Hid (d.over (k : Int) n b = (d, 1)) := show _ = _ by unfold DiskM.over; rw [if_neg (by rw [e0]; decide), Int.toNat_natCast, HBL.out, if_pos (by omega)]
          clear HW
          refine region_phase (fun w' => w'.cell? ⟨w.heap.size, 0, none⟩ = some (.int .i64 n) ∧ w'.cell? ⟨w.heap.size + 1, 0, none⟩ = some (.slice p m c) ∧ w'.cell? ⟨w1.heap.size, 0, none⟩ = some (.pointer (some ⟨g, k * 2, none⟩)) ∧ w'.cell? ⟨g, k * 2 + 1, none⟩ = some (.int .i64 ((d.files k).dur : Int))) (fun _ => True) 99 (H0.out) trivial [(0, .free), (1, .free), (2, .free), (3, .free), (4, .free), (5, .free), (6, .free), (7, .free), (8, .free), (9, .free), (10, .free), (11, .free), (12, .free)] (by kernel_rfl) (by kernel_rfl) (by kernel_rfl) (by kernel_rfl) (fun ops hops A hA => ?_)
          have hsz : A.tmps.size = 36 := by rw [hA]; rfl
          have base6 : A.eval (.tmp 6) = .pointer (some ⟨w.heap.size, 0, none⟩) := by rw [hA]; rfl
          have base7 : A.eval (.tmp 7) = .pointer (some ⟨w.heap.size + 1, 0, none⟩) := by rw [hA]; rfl
          have base9 : A.eval (.tmp 9) = .pointer (some ⟨w1.heap.size, 0, none⟩) := by rw [hA]; rfl
          have HAA := Lib.hid hA; clear hA
          obtain ⟨o0, po0, q0, d0, gd0⟩ : ∃ o, ops[0]? = some o ∧ o.op = .load 3 (.tmp 6) ∧ o.dst = some 20 ∧ o.guard = none := ⟨_, by rw [hops]; rfl, rfl, rfl, rfl⟩
          obtain ⟨o1, po1, q1, d1, gd1⟩ : ∃ o, ops[1]? = some o ∧ o.op = .binOp .lss 3 (.tmp 20) (.const (.int .i64 0)) 3 ∧ o.dst = some 21 ∧ o.guard = none := ⟨_, by rw [hops]; rfl, rfl, rfl, rfl⟩
          obtain ⟨o2, po2, q2, d2, gd2⟩ : ∃ o, ops[2]? = some o ∧ o.op = .move (.tmp 21) ∧ o.dst = some 22 ∧ o.guard = none := ⟨_, by rw [hops]; rfl, rfl, rfl, rfl⟩
          obtain ⟨o3, po3, q3, d3, gd3⟩ : ∃ o, ops[3]? = some o ∧ o.op = .load 37 (.tmp 7) ∧ o.dst = some 23 ∧ o.guard = some (2, false) := ⟨_, by rw [hops]; rfl, rfl, rfl, rfl⟩
          obtain ⟨o4, po4, q4, d4, gd4⟩ : ∃ o, ops[4]? = some o ∧ o.op = .call { callee := .builtin .len, args := #[.tmp 23], argTypes := #[37] } ∧ o.dst = some 24 ∧ o.guard = some (2, false) := ⟨_, by rw [hops]; rfl, rfl, rfl, rfl⟩
          obtain ⟨o5, po5, q5, d5, gd5⟩ : ∃ o, ops[5]? = some o ∧ o.op = .load 93 (.tmp 9) ∧ o.dst = some 25 ∧ o.guard = some (2, false) := ⟨_, by rw [hops]; rfl, rfl, rfl, rfl⟩
          obtain ⟨o6, po6, q6, d6, gd6⟩ : ∃ o, ops[6]? = some o ∧ o.op = .nilCheck (.tmp 25) ∧ o.dst = some 26 ∧ o.guard = some (2, false) := ⟨_, by rw [hops]; rfl, rfl, rfl, rfl⟩
          obtain ⟨o7, po7, q7, d7, gd7⟩ : ∃ o, ops[7]? = some o ∧ o.op = .fieldAddr 62 (.tmp 26) 1 ∧ o.dst = some 27 ∧ o.guard = some (2, false) := ⟨_, by rw [hops]; rfl, rfl, rfl, rfl⟩
          obtain ⟨o8, po8, q8, d8, gd8⟩ : ∃ o, ops[8]? = some o ∧ o.op = .load 3 (.tmp 27) ∧ o.dst = some 28 ∧ o.guard = some (2, false) := ⟨_, by rw [hops]; rfl, rfl, rfl, rfl⟩
          obtain ⟨o9, po9, q9, d9, gd9⟩ : ∃ o, ops[9]? = some o ∧ o.op = .load 3 (.tmp 6) ∧ o.dst = some 29 ∧ o.guard = some (2, false) := ⟨_, by rw [hops]; rfl, rfl, rfl, rfl⟩
          obtain ⟨o10, po10, q10, d10, gd10⟩ : ∃ o, ops[10]? = some o ∧ o.op = .binOp .sub 3 (.tmp 28) (.tmp 29) 3 ∧ o.dst = some 30 ∧ o.guard = some (2, false) := ⟨_, by rw [hops]; rfl, rfl, rfl, rfl⟩
          obtain ⟨o11, po11, q11, d11, gd11⟩ : ∃ o, ops[11]? = some o ∧ o.op = .binOp .gtr 3 (.tmp 24) (.tmp 30) 3 ∧ o.dst = some 31 ∧ o.guard = some (2, false) := ⟨_, by rw [hops]; rfl, rfl, rfl, rfl⟩
          obtain ⟨o12, po12, q12, d12, gd12⟩ : ∃ o, ops[12]? = some o ∧ o.op = .pick (.tmp 22) (.const (.bool true)) (.tmp 31) ∧ o.dst = some 32 ∧ o.guard = none := ⟨_, by rw [hops]; rfl, rfl, rfl, rfl⟩
          clear hops
          refine met_free po0 d0 (wanted_of gd0) (fun w' h' => run_loadIn q0 base6 h'.1) ?_
          refine met_free po1 d1 (wanted_of gd1) (fun w' h' => run_lssF q1 (eval_same _ _ _ (by rw [hsz]; decide)) rfl hq0 w') ?_
          refine met_free po2 d2 (wanted_of gd2) (fun w' h' => run_move q2 (eval_same _ _ _ (by simp only [put_size, hsz]; decide)) w') ?_
          refine met_free po3 d3 (w_false gd3 po2 d2 (eval_same _ _ _ (by simp only [put_size, hsz]; decide))) (fun w' h' => run_loadBs q3 ((eval_other _ 22 7 _ (by decide)).trans ((eval_other _ 21 7 _ (by decide)).trans ((eval_other _ 20 7 _ (by decide)).trans base7))) h'.2.1) ?_
          refine met_free po4 d4 (w_false gd4 po2 d2 ((eval_other _ 23 22 _ (by decide)).trans (eval_same _ _ _ (by simp only [put_size, hsz]; decide)))) (fun w' h' => run_len26 q4 (eval_same _ _ _ (by simp only [put_size, hsz]; decide)) w') ?_
          refine met_free po5 d5 (w_false gd5 po2 d2 ((eval_other _ 24 22 _ (by decide)).trans ((eval_other _ 23 22 _ (by decide)).trans (eval_same _ _ _ (by simp only [put_size, hsz]; decide))))) (fun w' h' => run_loadFile q5 ((eval_other _ 24 9 _ (by decide)).trans ((eval_other _ 23 9 _ (by decide)).trans ((eval_other _ 22 9 _ (by decide)).trans ((eval_other _ 21 9 _ (by decide)).trans ((eval_other _ 20 9 _ (by decide)).trans base9))))) h'.2.2.1) ?_
          refine met_free po6 d6 (w_false gd6 po2 d2 ((eval_other _ 25 22 _ (by decide)).trans ((eval_other _ 24 22 _ (by decide)).trans ((eval_other _ 23 22 _ (by decide)).trans (eval_same _ _ _ (by simp only [put_size, hsz]; decide)))))) (fun w' h' => run_nilCheck q6 (eval_same _ _ _ (by simp only [put_size, hsz]; decide)) w') ?_
          refine met_free po7 d7 (w_false gd7 po2 d2 ((eval_other _ 26 22 _ (by decide)).trans ((eval_other _ 25 22 _ (by decide)).trans ((eval_other _ 24 22 _ (by decide)).trans ((eval_other _ 23 22 _ (by decide)).trans (eval_same _ _ _ (by simp only [put_size, hsz]; decide))))))) (fun w' h' => run_fieldF1 q7 (eval_same _ _ _ (by simp only [put_size, hsz]; decide)) w') ?_
          refine met_free po8 d8 (w_false gd8 po2 d2 ((eval_other _ 27 22 _ (by decide)).trans ((eval_other _ 26 22 _ (by decide)).trans ((eval_other _ 25 22 _ (by decide)).trans ((eval_other _ 24 22 _ (by decide)).trans ((eval_other _ 23 22 _ (by decide)).trans (eval_same _ _ _ (by simp only [put_size, hsz]; decide)))))))) (fun w' h' => run_loadIn q8 (eval_same _ _ _ (by simp only [put_size, hsz]; decide)) h'.2.2.2) ?_
          refine met_free po9 d9 (w_false gd9 po2 d2 ((eval_other _ 28 22 _ (by decide)).trans ((eval_other _ 27 22 _ (by decide)).trans ((eval_other _ 26 22 _ (by decide)).trans ((eval_other _ 25 22 _ (by decide)).trans ((eval_other _ 24 22 _ (by decide)).trans ((eval_other _ 23 22 _ (by decide)).trans (eval_same _ _ _ (by simp only [put_size, hsz]; decide))))))))) (fun w' h' => run_loadIn q9 ((eval_other _ 28 6 _ (by decide)).trans ((eval_other _ 27 6 _ (by decide)).trans ((eval_other _ 26 6 _ (by decide)).trans ((eval_other _ 25 6 _ (by decide)).trans ((eval_other _ 24 6 _ (by decide)).trans ((eval_other _ 23 6 _ (by decide)).trans ((eval_other _ 22 6 _ (by decide)).trans ((eval_other _ 21 6 _ (by decide)).trans ((eval_other _ 20 6 _ (by decide)).trans base6))))))))) h'.1) ?_
          refine met_free po10 d10 (w_false gd10 po2 d2 ((eval_other _ 29 22 _ (by decide)).trans ((eval_other _ 28 22 _ (by decide)).trans ((eval_other _ 27 22 _ (by decide)).trans ((eval_other _ 26 22 _ (by decide)).trans ((eval_other _ 25 22 _ (by decide)).trans ((eval_other _ 24 22 _ (by decide)).trans ((eval_other _ 23 22 _ (by decide)).trans (eval_same _ _ _ (by simp only [put_size, hsz]; decide)))))))))) (fun w' h' => run_subI q10 ((eval_other _ 29 28 _ (by decide)).trans (eval_same _ _ _ (by simp only [put_size, hsz]; decide))) (eval_same _ _ _ (by simp only [put_size, hsz]; decide)) hsub w') ?_
          refine met_free po11 d11 (w_false gd11 po2 d2 ((eval_other _ 30 22 _ (by decide)).trans ((eval_other _ 29 22 _ (by decide)).trans ((eval_other _ 28 22 _ (by decide)).trans ((eval_other _ 27 22 _ (by decide)).trans ((eval_other _ 26 22 _ (by decide)).trans ((eval_other _ 25 22 _ (by decide)).trans ((eval_other _ 24 22 _ (by decide)).trans ((eval_other _ 23 22 _ (by decide)).trans (eval_same _ _ _ (by simp only [put_size, hsz]; decide))))))))))) (fun w' h' => run_gtrT q11 ((eval_other _ 30 24 _ (by decide)).trans ((eval_other _ 29 24 _ (by decide)).trans ((eval_other _ 28 24 _ (by decide)).trans ((eval_other _ 27 24 _ (by decide)).trans ((eval_other _ 26 24 _ (by decide)).trans ((eval_other _ 25 24 _ (by decide)).trans (eval_same _ _ _ (by simp only [put_size, hsz]; decide)))))))) (eval_same _ _ _ (by simp only [put_size, hsz]; decide)) hq w') ?_
          refine met_free po12 d12 (wanted_of gd12) (fun w' h' => r_pickF q12 ((eval_other _ 31 22 _ (by decide)).trans ((eval_other _ 30 22 _ (by decide)).trans ((eval_other _ 29 22 _ (by decide)).trans ((eval_other _ 28 22 _ (by decide)).trans ((eval_other _ 27 22 _ (by decide)).trans ((eval_other _ 26 22 _ (by decide)).trans ((eval_other _ 25 22 _ (by decide)).trans ((eval_other _ 24 22 _ (by decide)).trans ((eval_other _ 23 22 _ (by decide)).trans (eval_same _ _ _ (by simp only [put_size, hsz]; decide))))))))))) (eval_same _ _ _ (by simp only [put_size, hsz]; decide)) w') ?_
          show NoPanic _ .normal _ _
          refine NoPanic.normal ?_
          rw [HAA.out]
          go_frame
          clear HAA
          go_wp2_with fail
          go_ret
          rw [HE1.out]
          exact ⟨rfl, HA.out.go (HB2.out.trans ((Below.refl w2.heap.size w2).drew.mono HB2.out.size))⟩
        · obtain ⟨j, rfl⟩ : ∃ j : Nat, n = (j : Int) := ⟨n.toNat, by omega⟩
          have HE1 : Hid (d.over (k : Int) (j : Int) b = (d.exec (overF k j b) false, d.execE)) := show _ = _ by unfold DiskM.over; rw [if_neg (by rw [e0]; decide), Int.toNat_natCast, HBL.out, if_neg (by omega), Int.toNat_natCast]
          rw [HE1.out] at HW
          have hjl : j + m ≤ (d.files k).all.length := by have := HOD.out; omega
          refine region_phase (fun w' => w'.cell? ⟨w.heap.size, 0, none⟩ = some (.int .i64 (j : Int)) ∧ w'.cell? ⟨w.heap.size + 1, 0, none⟩ = some (.slice p m c) ∧ w'.cell? ⟨w1.heap.size, 0, none⟩ = some (.pointer (some ⟨g, k * 2, none⟩)) ∧ w'.cell? ⟨g, k * 2 + 1, none⟩ = some (.int .i64 ((d.files k).dur : Int))) (fun _ => True) 99 (H0.out) trivial [(0, .free), (1, .free), (2, .free), (3, .free), (4, .free), (5, .free), (6, .free), (7, .free), (8, .free), (9, .free), (10, .free), (11, .free), (12, .free)] (by kernel_rfl) (by kernel_rfl) (by kernel_rfl) (by kernel_rfl) (fun ops hops A hA => ?_)
          have hsz : A.tmps.size = 36 := by rw [hA]; rfl
          have base6 : A.eval (.tmp 6) = .pointer (some ⟨w.heap.size, 0, none⟩) := by rw [hA]; rfl
          have base7 : A.eval (.tmp 7) = .pointer (some ⟨w.heap.size + 1, 0, none⟩) := by rw [hA]; rfl
          have base9 : A.eval (.tmp 9) = .pointer (some ⟨w1.heap.size, 0, none⟩) := by rw [hA]; rfl
          have HAA := Lib.hid hA; clear hA
          obtain ⟨o0, po0, q0, d0, gd0⟩ : ∃ o, ops[0]? = some o ∧ o.op = .load 3 (.tmp 6) ∧ o.dst = some 20 ∧ o.guard = none := ⟨_, by rw [hops]; rfl, rfl, rfl, rfl⟩
          obtain ⟨o1, po1, q1, d1, gd1⟩ : ∃ o, ops[1]? = some o ∧ o.op = .binOp .lss 3 (.tmp 20) (.const (.int .i64 0)) 3 ∧ o.dst = some 21 ∧ o.guard = none := ⟨_, by rw [hops]; rfl, rfl, rfl, rfl⟩
          obtain ⟨o2, po2, q2, d2, gd2⟩ : ∃ o, ops[2]? = some o ∧ o.op = .move (.tmp 21) ∧ o.dst = some 22 ∧ o.guard = none := ⟨_, by rw [hops]; rfl, rfl, rfl, rfl⟩
          obtain ⟨o3, po3, q3, d3, gd3⟩ : ∃ o, ops[3]? = some o ∧ o.op = .load 37 (.tmp 7) ∧ o.dst = some 23 ∧ o.guard = some (2, false) := ⟨_, by rw [hops]; rfl, rfl, rfl, rfl⟩
          obtain ⟨o4, po4, q4, d4, gd4⟩ : ∃ o, ops[4]? = some o ∧ o.op = .call { callee := .builtin .len, args := #[.tmp 23], argTypes := #[37] } ∧ o.dst = some 24 ∧ o.guard = some (2, false) := ⟨_, by rw [hops]; rfl, rfl, rfl, rfl⟩
          obtain ⟨o5, po5, q5, d5, gd5⟩ : ∃ o, ops[5]? = some o ∧ o.op = .load 93 (.tmp 9) ∧ o.dst = some 25 ∧ o.guard = some (2, false) := ⟨_, by rw [hops]; rfl, rfl, rfl, rfl⟩
          obtain ⟨o6, po6, q6, d6, gd6⟩ : ∃ o, ops[6]? = some o ∧ o.op = .nilCheck (.tmp 25) ∧ o.dst = some 26 ∧ o.guard = some (2, false) := ⟨_, by rw [hops]; rfl, rfl, rfl, rfl⟩
          obtain ⟨o7, po7, q7, d7, gd7⟩ : ∃ o, ops[7]? = some o ∧ o.op = .fieldAddr 62 (.tmp 26) 1 ∧ o.dst = some 27 ∧ o.guard = some (2, false) := ⟨_, by rw [hops]; rfl, rfl, rfl, rfl⟩
          obtain ⟨o8, po8, q8, d8, gd8⟩ : ∃ o, ops[8]? = some o ∧ o.op = .load 3 (.tmp 27) ∧ o.dst = some 28 ∧ o.guard = some (2, false) := ⟨_, by rw [hops]; rfl, rfl, rfl, rfl⟩
          obtain ⟨o9, po9, q9, d9, gd9⟩ : ∃ o, ops[9]? = some o ∧ o.op = .load 3 (.tmp 6) ∧ o.dst = some 29 ∧ o.guard = some (2, false) := ⟨_, by rw [hops]; rfl, rfl, rfl, rfl⟩
          obtain ⟨o10, po10, q10, d10, gd10⟩ : ∃ o, ops[10]? = some o ∧ o.op = .binOp .sub 3 (.tmp 28) (.tmp 29) 3 ∧ o.dst = some 30 ∧ o.guard = some (2, false) := ⟨_, by rw [hops]; rfl, rfl, rfl, rfl⟩
          obtain ⟨o11, po11, q11, d11, gd11⟩ : ∃ o, ops[11]? = some o ∧ o.op = .binOp .gtr 3 (.tmp 24) (.tmp 30) 3 ∧ o.dst = some 31 ∧ o.guard = some (2, false) := ⟨_, by rw [hops]; rfl, rfl, rfl, rfl⟩
          obtain ⟨o12, po12, q12, d12, gd12⟩ : ∃ o, ops[12]? = some o ∧ o.op = .pick (.tmp 22) (.const (.bool true)) (.tmp 31) ∧ o.dst = some 32 ∧ o.guard = none := ⟨_, by rw [hops]; rfl, rfl, rfl, rfl⟩
          clear hops
          refine met_free po0 d0 (wanted_of gd0) (fun w' h' => run_loadIn q0 base6 h'.1) ?_
          refine met_free po1 d1 (wanted_of gd1) (fun w' h' => run_lssF q1 (eval_same _ _ _ (by rw [hsz]; decide)) rfl hq0 w') ?_
          refine met_free po2 d2 (wanted_of gd2) (fun w' h' => run_move q2 (eval_same _ _ _ (by simp only [put_size, hsz]; decide)) w') ?_
          refine met_free po3 d3 (w_false gd3 po2 d2 (eval_same _ _ _ (by simp only [put_size, hsz]; decide))) (fun w' h' => run_loadBs q3 ((eval_other _ 22 7 _ (by decide)).trans ((eval_other _ 21 7 _ (by decide)).trans ((eval_other _ 20 7 _ (by decide)).trans base7))) h'.2.1) ?_
          refine met_free po4 d4 (w_false gd4 po2 d2 ((eval_other _ 23 22 _ (by decide)).trans (eval_same _ _ _ (by simp only [put_size, hsz]; decide)))) (fun w' h' => run_len26 q4 (eval_same _ _ _ (by simp only [put_size, hsz]; decide)) w') ?_
          refine met_free po5 d5 (w_false gd5 po2 d2 ((eval_other _ 24 22 _ (by decide)).trans ((eval_other _ 23 22 _ (by decide)).trans (eval_same _ _ _ (by simp only [put_size, hsz]; decide))))) (fun w' h' => run_loadFile q5 ((eval_other _ 24 9 _ (by decide)).trans ((eval_other _ 23 9 _ (by decide)).trans ((eval_other _ 22 9 _ (by decide)).trans ((eval_other _ 21 9 _ (by decide)).trans ((eval_other _ 20 9 _ (by decide)).trans base9))))) h'.2.2.1) ?_
          refine met_free po6 d6 (w_false gd6 po2 d2 ((eval_other _ 25 22 _ (by decide)).trans ((eval_other _ 24 22 _ (by decide)).trans ((eval_other _ 23 22 _ (by decide)).trans (eval_same _ _ _ (by simp only [put_size, hsz]; decide)))))) (fun w' h' => run_nilCheck q6 (eval_same _ _ _ (by simp only [put_size, hsz]; decide)) w') ?_
          refine met_free po7 d7 (w_false gd7 po2 d2 ((eval_other _ 26 22 _ (by decide)).trans ((eval_other _ 25 22 _ (by decide)).trans ((eval_other _ 24 22 _ (by decide)).trans ((eval_other _ 23 22 _ (by decide)).trans (eval_same _ _ _ (by simp only [put_size, hsz]; decide))))))) (fun w' h' => run_fieldF1 q7 (eval_same _ _ _ (by simp only [put_size, hsz]; decide)) w') ?_
          refine met_free po8 d8 (w_false gd8 po2 d2 ((eval_other _ 27 22 _ (by decide)).trans ((eval_other _ 26 22 _ (by decide)).trans ((eval_other _ 25 22 _ (by decide)).trans ((eval_other _ 24 22 _ (by decide)).trans ((eval_other _ 23 22 _ (by decide)).trans (eval_same _ _ _ (by simp only [put_size, hsz]; decide)))))))) (fun w' h' => run_loadIn q8 (eval_same _ _ _ (by simp only [put_size, hsz]; decide)) h'.2.2.2) ?_
          refine met_free po9 d9 (w_false gd9 po2 d2 ((eval_other _ 28 22 _ (by decide)).trans ((eval_other _ 27 22 _ (by decide)).trans ((eval_other _ 26 22 _ (by decide)).trans ((eval_other _ 25 22 _ (by decide)).trans ((eval_other _ 24 22 _ (by decide)).trans ((eval_other _ 23 22 _ (by decide)).trans (eval_same _ _ _ (by simp only [put_size, hsz]; decide))))))))) (fun w' h' => run_loadIn q9 ((eval_other _ 28 6 _ (by decide)).trans ((eval_other _ 27 6 _ (by decide)).trans ((eval_other _ 26 6 _ (by decide)).trans ((eval_other _ 25 6 _ (by decide)).trans ((eval_other _ 24 6 _ (by decide)).trans ((eval_other _ 23 6 _ (by decide)).trans ((eval_other _ 22 6 _ (by decide)).trans ((eval_other _ 21 6 _ (by decide)).trans ((eval_other _ 20 6 _ (by decide)).trans base6))))))))) h'.1) ?_
          refine met_free po10 d10 (w_false gd10 po2 d2 ((eval_other _ 29 22 _ (by decide)).trans ((eval_other _ 28 22 _ (by decide)).trans ((eval_other _ 27 22 _ (by decide)).trans ((eval_other _ 26 22 _ (by decide)).trans ((eval_other _ 25 22 _ (by decide)).trans ((eval_other _ 24 22 _ (by decide)).trans ((eval_other _ 23 22 _ (by decide)).trans (eval_same _ _ _ (by simp only [put_size, hsz]; decide)))))))))) (fun w' h' => run_subI q10 ((eval_other _ 29 28 _ (by decide)).trans (eval_same _ _ _ (by simp only [put_size, hsz]; decide))) (eval_same _ _ _ (by simp only [put_size, hsz]; decide)) hsub w') ?_
          refine met_free po11 d11 (w_false gd11 po2 d2 ((eval_other _ 30 22 _ (by decide)).trans ((eval_other _ 29 22 _ (by decide)).trans ((eval_other _ 28 22 _ (by decide)).trans ((eval_other _ 27 22 _ (by decide)).trans ((eval_other _ 26 22 _ (by decide)).trans ((eval_other _ 25 22 _ (by decide)).trans ((eval_other _ 24 22 _ (by decide)).trans ((eval_other _ 23 22 _ (by decide)).trans (eval_same _ _ _ (by simp only [put_size, hsz]; decide))))))))))) (fun w' h' => run_gtrF q11 ((eval_other _ 30 24 _ (by decide)).trans ((eval_other _ 29 24 _ (by decide)).trans ((eval_other _ 28 24 _ (by decide)).trans ((eval_other _ 27 24 _ (by decide)).trans ((eval_other _ 26 24 _ (by decide)).trans ((eval_other _ 25 24 _ (by decide)).trans (eval_same _ _ _ (by simp only [put_size, hsz]; decide)))))))) (eval_same _ _ _ (by simp only [put_size, hsz]; decide)) hq w') ?_
          refine met_free po12 d12 (wanted_of gd12) (fun w' h' => r_pickF q12 ((eval_other _ 31 22 _ (by decide)).trans ((eval_other _ 30 22 _ (by decide)).trans ((eval_other _ 29 22 _ (by decide)).trans ((eval_other _ 28 22 _ (by decide)).trans ((eval_other _ 27 22 _ (by decide)).trans ((eval_other _ 26 22 _ (by decide)).trans ((eval_other _ 25 22 _ (by decide)).trans ((eval_other _ 24 22 _ (by decide)).trans ((eval_other _ 23 22 _ (by decide)).trans (eval_same _ _ _ (by simp only [put_size, hsz]; decide))))))))))) (eval_same _ _ _ (by simp only [put_size, hsz]; decide)) w') ?_
          show NoPanic _ .normal _ _
          refine NoPanic.normal ?_
          rw [HAA.out]
          go_frame
          clear HAA
          have HE := Lib.hid (dkExec_any S g vs d 78 Tryd.f78 #[.pointer (some ⟨w1.heap.size, 0, none⟩), .pointer (some ⟨w.heap.size, 0, none⟩), .pointer (some ⟨w.heap.size + 1, 0, none⟩)] false (overF k j b) w2.drew (HV2.out.below (Below.refl w2.heap.size w2).drew) HOK.out hc Tryd.func78 (by kernel_rfl) (fun w3 hv3 hs3 => by
            have hgS := HV2.out.here
            have hnP : ¬ S w1.heap.size := fun s => by have := HS7.out _ s; have := HB0.out.size; omega
            have hgP : w1.heap.size ≠ g := fun e => hnP (e ▸ hgS)
            have kP := World.block_lt_of_cell? w2 _ HXP.out
            have hn0 : ¬ S (w.heap.size) := fun s => by have := HS7.out _ s; omega
            have hg0 : w.heap.size ≠ g := fun e => hn0 (e ▸ hgS)
            have k0 := World.block_lt_of_cell? w2 _ HY0.out
            have hn1 : ¬ S (w.heap.size + 1) := fun s => by have := HS7.out _ s; omega
            have hg1 : w.heap.size + 1 ≠ g := fun e => hn1 (e ▸ hgS)
            have k1 := World.block_lt_of_cell? w2 _ HY1.out
            exact dkOverC_any S g w1.heap.size w.heap.size (w.heap.size + 1) k j m c p b vs d.tick w3 hv3 hk HBL.out ((HLL.out.below (Below.refl w2.heap.size w2).drew).stay hs3 (fun off x hc => dk_noByte (HV2.out.below (Below.refl w2.heap.size w2).drew) off x hc)) hjl hlk ((World.cell?_of_block (a := ⟨w1.heap.size, 0, none⟩) (hs3.block _ kP hgP)).trans HXP.out) ((World.cell?_of_block (a := ⟨w.heap.size, 0, none⟩) (hs3.block _ k0 hg0)).trans HY0.out) ((World.cell?_of_block (a := ⟨w.heap.size + 1, 0, none⟩) (hs3.block _ k1 hg1)).trans HY1.out)))
          clear HXP HS7 HOK HV2 hc hlk hk hd HOD HY0 HY1 HLL HBL hsub hjl
          go_wp2_with fail
          with_reducible refine HE.out.mono ?_
          rintro e w3 ⟨rfl, hgo⟩
          have HGO := Lib.hid hgo; clear hgo
          go_wp2_with fail
          go_ret
          rw [HE1.out]
          exact ⟨rfl, (HGO.out.below (HB2.out.trans ((Below.refl w2.heap.size w2).drew.mono HB2.out.size))).go HW.out (DiskM.exec_count _ _ _ HC.out)⟩
    · have e0 : d.openE f = 1 := by unfold DiskM.openE; rw [if_neg (by rw [hd]; decide), if_neg hf]
      have HE1 : Hid (d.over f n b = (d, 1)) := show _ = _ by unfold DiskM.over; rw [if_pos (by rw [e0]; decide), e0]
      refine (dkOpen_no g f S vs d w1 HV1.out hd hf).mono ?_
      rintro e w2 ⟨rfl, rfl⟩
      clear e0 hb0 hV hok HW hf
      go_wp2_with fail
      go_ret
      rw [HE1.out]
      exact ⟨rfl, HA.out.go (HB0.out.alloc HB0.out.size _)⟩
end Go.Proofs.YtoidjapenompiaaDoor

/-
  The program's disk: Crash, New, Arm. Slices of any whole numbers.
-/
namespace Go.Proofs.YtoidjapenompiaaDoor
open Go.RowKit Go.Proofs.ShaWords
def intsV (l : List Int) : List Value := l.map fun n => .int .i64 n
/-- Numbers that a slice's address leads to. -/
def LiesZ (w : World) (p : Option Addr) (l : List Int) : Prop := l = [] ∨ ∃ b off, p = some ⟨b, off, none⟩ ∧ w.rangeAt b off (intsV l)
theorem LiesZ.below {w w' : World} {p : Option Addr} {l : List Int} (h : LiesZ w p l) (hb : Below w.heap.size w w') : LiesZ w' p l := by
  rcases h with h | ⟨b, off, hp, hr⟩
  · exact Or.inl h
  · exact Or.inr ⟨b, off, hp, range_keep hr hb⟩
/-- Numbers that lie in no block of S. -/
def LiesZO (S : Nat → Prop) (w : World) (p : Option Addr) (l : List Int) : Prop := l = [] ∨ ∃ b off, p = some ⟨b, off, none⟩ ∧ ¬ S b ∧ b < w.heap.size ∧ w.rangeAt b off (intsV l)
theorem LiesZO.stay {S S' : Nat → Prop} {w w' : World} {p : Option Addr} {l : List Int} (h : LiesZO S w p l) (hs : Stays S w w') (hS : ∀ k, S' k → S k ∨ w.heap.size ≤ k) : LiesZO S' w' p l := by
  rcases h with h | ⟨b, off, hp, h1, h2, hr⟩
  · exact Or.inl h
  · exact Or.inr ⟨b, off, hp, fun s => (hS b s).elim h1 (fun h => by omega), Nat.lt_of_lt_of_le h2 hs.size, range_of_block hr (hs.block b h2 h1)⟩
theorem LiesZO.tail {S : Nat → Prop} {w : World} {b off : Nat} {x : Int} {l : List Int} (h : LiesZO S w (some ⟨b, off, none⟩) (x :: l)) : LiesZO S w (some ⟨b, off + 1, none⟩) l := by
  rcases h with h | ⟨b', off', hp, h1, h2, hr⟩
  · cases h
  · cases hp
    exact Or.inr ⟨b, off + 1, rfl, h1, h2, fun j v hv => by rw [Nat.add_assoc, Nat.add_comm 1 j]; exact hr (j + 1) v (by simpa [intsV] using hv)⟩
set_option maxRecDepth 100000 in
theorem dkVol_any (S : Nat → Prop) (g f : Nat) (vs : Nat → Value) (d : DiskM) (w : World) (h : DkV S w g vs d) (hf : f < 33) (hd : (d.files f).dur ≤ (d.files f).all.length) (hm63 : (d.files f).all.length < 9223372036854775808) :
    Calls Tryd.prog 56 #[.pointer (some ⟨g, f * 2, none⟩)] w fun e w' => e = .returned (.int .i64 (((d.files f).all.length - (d.files f).dur : Nat) : Int)) ∧ Below w.heap.size w w' := by
  obtain ⟨q, c, hv, h1, h2, hl⟩ := h.all f hf
  have c0 := h.c0 f hf
  rw [hv] at c0
  have c1 := h.c1 f hf
  clear h hv hl h1 h2
  generalize (d.files f).all.length = n at *
  generalize (d.files f).dur = m at *
  have q1 : (n : Int) - (m : Int) = ((n - m : Nat) : Int) := by omega
  have q2 : IntKind.i64.wrap ((n : Int) - (m : Int)) = ((n - m : Nat) : Int) := by rw [IntWalk.i64_in _ (by omega)]; exact q1
  clear q1
  go_enter Tryd.func56, Tryd.ntmps56
  go_wp2_with fail
  go_quiet (fail)
  go_wp2_with fail
  go_ret
  exact ⟨rfl, ⟨rfl, rfl, rfl, Nat.le_refl _, fun _ _ => rfl⟩⟩
section
variable {ρ : Operand → Value} {o : Oper} {x y : Operand}
theorem run_maxI {a b c : Int} (ho : o.op = .call { callee := .builtin .max, args := #[x, y], argTypes := #[3, 3] }) (hx : ρ x = .int .i64 a) (hy : ρ y = .int .i64 b) (hc : c = max a b) (w : World) : (execOp ρ o).run Tryd.prog w = .ok (.value (.int .i64 c)) w := by
  obtain ⟨dst, op, ty', pos, after, guard⟩ := o
  simp only at ho
  subst ho
  by_cases h : a < b
  · have q2 : ¬ b < a := by omega
    have q3 : a ≤ b := by omega
    obtain rfl : c = b := by omega
    clear hc
    go_simp
  · by_cases h2 : b < a
    · have q3 : b ≤ a := by omega
      obtain rfl : c = a := by omega
      clear hc
      go_simp
    · obtain rfl : a = b := by omega
      obtain rfl : c = a := by omega
      clear hc
      go_simp
theorem run_minI {a b c : Int} (ho : o.op = .call { callee := .builtin .min, args := #[x, y], argTypes := #[3, 3] }) (hx : ρ x = .int .i64 a) (hy : ρ y = .int .i64 b) (hc : c = min a b) (w : World) : (execOp ρ o).run Tryd.prog w = .ok (.value (.int .i64 c)) w := by
  obtain ⟨dst, op, ty', pos, after, guard⟩ := o
  simp only at ho
  subst ho
  by_cases h : a < b
  · have q2 : ¬ b < a := by omega
    have q3 : a ≤ b := by omega
    obtain rfl : c = a := by omega
    clear hc
    go_simp
  · by_cases h2 : b < a
    · have q3 : b ≤ a := by omega
      obtain rfl : c = b := by omega
      clear hc
      go_simp
    · obtain rfl : a = b := by omega
      obtain rfl : c = a := by omega
      clear hc
      go_simp
theorem run_addI {a b : Int} {ty : TypeId} (ho : o.op = .binOp .add 3 x y ty) (hx : ρ x = .int .i64 a) (hy : ρ y = .int .i64 b) (h1 : -9223372036854775808 ≤ a + b ∧ a + b ≤ 9223372036854775807) (w : World) : (execOp ρ o).run Tryd.prog w = .ok (.value (.int .i64 (a + b))) w := by
  have h2 : IntKind.i64.wrap (a + b) = a + b := IntWalk.i64_in _ h1
  obtain ⟨dst, op, ty', pos, after, guard⟩ := o
  simp only at ho
  subst ho
  go_simp
end
theorem dkArm_any (S : Nat → Prop) (g : Nat) (d : DiskM) (n : Int) (w : World) (h : DkAt S w g d) (hn : n < 9223372036854775808) :
    Calls Tryd.prog 36 #[.pointer (some ⟨g, 0, none⟩), .int .i64 n] w fun e w' => e = .returned (.tuple #[]) ∧ DkGo S g (d.arm n) w w' := by
  have HK := Lib.hid (DiskM.arm_ok h.2.1 n hn)
  obtain ⟨⟨vs, hV⟩, hok, hc⟩ := h
  have HC := Lib.hid hc
  have c9 := hV.left
  have t9 := hV.thaw 69
  have HD : Hid (DkGoV S g (d.arm n) w (w.setCell ⟨g, 69, none⟩ (.int .i64 (max n (-1))))) := show DkGoV _ _ _ _ _ from ⟨S, vs, hV.putLeft (max n (-1)), fun _ s => Or.inl s, (stays_set w g 69 _).more (fun k e => e ▸ hV.here)⟩
  generalize d.left = L at c9
  clear hV hok hc hn
  by_cases h1 : n < -1
  · have e1 : max n (-1) = -1 := by omega
    rw [e1] at HD
    have q2 : ¬ -1 < n := by omega
    have q3 : n ≤ -1 := by omega
    clear e1
    go_enter Tryd.func36, Tryd.ntmps36
    go_wp2_with fail
    go_end0
    exact ⟨rfl, HD.out.go HK.out HC.out⟩
  · by_cases h2 : -1 < n
    · have e1 : max n (-1) = n := by omega
      rw [e1] at HD
      have q3 : -1 ≤ n := by omega
      clear e1
      go_enter Tryd.func36, Tryd.ntmps36
      go_wp2_with fail
      go_end0
      exact ⟨rfl, HD.out.go HK.out HC.out⟩
    · obtain rfl : n = -1 := by omega
      have e1 : max (-1 : Int) (-1) = -1 := by omega
      rw [e1] at HD
      clear e1 h1 h2
      go_enter Tryd.func36, Tryd.ntmps36
      go_wp2_with fail
      go_end0
      exact ⟨rfl, HD.out.go HK.out HC.out⟩
/-- A disk that was just made. -/
def dkNewCells (room : Int) : List Value := (List.replicate 33 [Value.slice none 0 0, Value.int .i64 0]).flatten ++ [.int .i64 room, .int .i64 0, .bool false, .int .i64 (-1)]
def dkNewCell (room : Int) (j : Nat) : Value := if j < 66 then (if j % 2 = 0 then .slice none 0 0 else .int .i64 0) else if j = 66 then .int .i64 room else if j = 67 then .int .i64 0 else if j = 68 then .bool false else .int .i64 (-1)
set_option maxRecDepth 100000 in
theorem dkNew_list (room : Int) : dkNewCells room = (List.range 70).map (dkNewCell room) := by kernel_rfl
theorem dkNew_at (w w' : World) (g : Nat) (room : Int) (_hg : w.heap.size ≤ g) (h : w'.heap[g]? = some (.cells (dkNewCells (min (max room 0) 262144)).toArray 65 (0, 0))) : DkAt (fun k => k = g) w' g (DiskM.new room) := by
  refine ⟨⟨fun _ => .slice none 0 0, (Array.getElem?_eq_some_iff.1 h).1, fun j hj => ?_, fun j => frozen_of_row _ _ _ _ _ h, fun f _ => Own.nil _ _, rfl, fun f b _ e => by simp [Value.ownBlock] at e, fun f k b _ _ e => by simp [Value.ownBlock] at e, fun k e => e ▸ (Array.getElem?_eq_some_iff.1 h).1, fun j hj => ?_⟩, DiskM.new_ok room, Nat.zero_le _⟩
  · rw [cell_of_row w' g j _ _ _ h, dkNew_list]
    have e : (DiskM.new room).room = (min (max room 0) 262144).toNat := rfl
    have e2 : (((min (max room 0) 262144).toNat : Nat) : Int) = min (max room 0) 262144 := by omega
    rw [List.getElem?_toArray, List.getElem?_map, List.getElem?_range hj, Option.map_some]
    congr 1
    unfold dkNewCell dkCell
    rw [e, e2]
    rfl
  · rw [cell_of_row w' g j _ _ _ h, dkNew_list]
    exact Array.getElem?_eq_none (by simp; omega)
set_option maxRecDepth 100000 in
theorem dkZero (n : Int) : (Tryd.zeroCells65.setIfInBounds 66 (.int .i64 n)).setIfInBounds 69 (.int .i64 (-1)) = (dkNewCells n).toArray := by kernel_rfl
set_option maxRecDepth 100000 in
set_option maxHeartbeats 1000000 in
theorem dkNew_any (room : Int) (w : World) :
    Calls Tryd.prog 7 #[.int .i64 room] w fun e w' => ∃ g, e = .returned (.pointer (some ⟨g, 0, none⟩)) ∧ w.heap.size ≤ g ∧ DkAt (fun k => k = g) w' g (DiskM.new room) ∧ Below w.heap.size w w' := by
  have HN : Hid (∀ n, n = min (max room 0) 262144 → DkAt (fun k => k = w.heap.size) (w.alloc (.cells ((Tryd.zeroCells65.setIfInBounds 66 (.int .i64 n)).setIfInBounds 69 (.int .i64 (-1))) 65)) w.heap.size (DiskM.new room)) := show ∀ _, _ → DkAt _ _ _ _ from fun n e => by
    rw [dkZero, e]
    exact dkNew_at w _ _ room (Nat.le_refl _) (heap_alloc_new w _)
  go_enter Tryd.func7, Tryd.ntmps7
  go_wp2_with fail
  all_goals
    go_ret
    exact ⟨w.heap.size, rfl, Nat.le_refl _, HN.out _ (by omega), (Below.refl _ _).alloc (Nat.le_refl _) _⟩
/-- A crash on the way: the first n files are cut. -/
def crashD (d : DiskM) (keep : List Int) (n : Nat) : DiskM := { d with files := (crashTo d.files keep n).1 }
def CrW (S : Nat → Prop) (g : Nat) (d : DiskM) (keep : List Int) (n : Nat) (q : Option Addr) (W w : World) : Prop :=
  ∃ S1 vs1, DkV S1 w g vs1 (crashD d keep n) ∧ (∀ k, S1 k → S k ∨ (W.heap.size ≤ k ∧ k < w.heap.size)) ∧ Stays S W w ∧ LiesZO S1 w q (crashTo d.files keep n).2
theorem crash_same (d : DiskM) (keep : List Int) (k : Nat) (h : (d.files k).all.length = (d.files k).dur) : crashTo d.files keep (k + 1) = crashTo d.files keep k := by
  conv => lhs; unfold crashTo
  dsimp only
  rw [if_pos h]
theorem crash_cut (d : DiskM) (keep : List Int) (k : Nat) (h : ¬ (d.files k).all.length = (d.files k).dur) : crashTo d.files keep (k + 1) = (setF (crashTo d.files keep k).1 k (cutTo (d.files k) ((crashTo d.files keep k).2.headD 0)), (crashTo d.files keep k).2.tail) := by
  conv => lhs; unfold crashTo
  dsimp only
  rw [if_neg h]
theorem crashD_at (d : DiskM) (keep : List Int) (k : Nat) : (crashD d keep k).files k = d.files k := crashTo_at d.files keep k k (Nat.le_refl _)
/-- A file is cut: one step on. -/
theorem CrW.cut {S S1 : Nat → Prop} {g k m : Nat} {d : DiskM} {keep : List Int} {q2 : Option Addr} {a : Int} {W w w' : World} (h2 : ∀ k, S1 k → S k ∨ (W.heap.size ≤ k ∧ k < w.heap.size)) (h3 : Stays S W w) (h4 : LiesZO S1 w q2 (crashTo d.files keep k).2.tail)
    (hne : ¬ (d.files k).all.length = (d.files k).dur) (ha : a = (crashTo d.files keep k).2.headD 0) (hm : m = (min (max a 0) (((d.files k).all.length - (d.files k).dur : Nat) : Int)).toNat)
    (hgo : DkGoV S1 g { crashD d keep k with files := cutF k ((d.files k).dur + m) (crashD d keep k).files } w w') : CrW S g d keep (k + 1) q2 W w' := by
  obtain ⟨S2, vs2, g1, g2, g3⟩ := hgo
  refine ⟨S2, vs2, ?_, fun j s => ?_, ?_, ?_⟩
  · have e : crashD d keep (k + 1) = { crashD d keep k with files := cutF k ((d.files k).dur + m) (crashD d keep k).files } := by
      unfold crashD
      rw [crash_cut d keep k hne]
      dsimp only
      congr 1
      unfold cutF cutTo
      rw [crashTo_at d.files keep k k (Nat.le_refl _), ← ha, ← hm]
    rw [e]; exact g1
  · rcases g2 j s with s | s
    · rcases h2 j s with s | s
      · exact Or.inl s
      · exact Or.inr ⟨s.1, Nat.lt_of_lt_of_le s.2 g3.size⟩
    · exact Or.inr ⟨Nat.le_trans h3.size s.1, s.2⟩
  · exact h3.trans g3 (fun j s hj => (h2 j s).elim id (fun h => absurd h.1 (by omega)))
  · rw [crash_cut d keep k hne]
    exact h4.stay g3 (fun j s => (g2 j s).imp id (fun h => h.1))
theorem run_addNN {ρ : Operand → Value} {o : Oper} {x y : Operand} {n m : Nat} {ty : TypeId} (ho : o.op = .binOp .add 3 x y ty) (hx : ρ x = .int .i64 (n : Int)) (hy : ρ y = .int .i64 (m : Int)) (hb : n + m < 9223372036854775808) (w : World) : (execOp ρ o).run Tryd.prog w = .ok (.value (.int .i64 ((n + m : Nat) : Int))) w := by
  have h := run_addI ho hx hy (by omega) w
  rw [h, Int.natCast_add]
set_option maxRecDepth 100000 in
set_option maxHeartbeats 2000000 in
theorem dkCrash_any (S : Nat → Prop) (g : Nat) (d : DiskM) (keep : List Int) (n c : Nat) (p : Option Addr) (w : World) (h : DkAt S w g d) (hn : keep.length = n) (hnc : n ≤ c) (hL : LiesZO S w p keep) :
    Calls Tryd.prog 28 #[.pointer (some ⟨g, 0, none⟩), .slice p n c] w fun e w' => e = .returned (.tuple #[]) ∧ DkGo S g (d.crash keep) w w' := by
  have HK := Lib.hid (DiskM.crash_ok h.2.1 keep)
  obtain ⟨⟨vs, hV⟩, hok, hc⟩ := h
  have HC := Lib.hid hc
  have HOK := Lib.hid hok
  have HW0 : Hid (CrW S g d keep 0 p w w) := show CrW _ _ _ _ _ _ _ _ from ⟨S, vs, hV, fun _ s => Or.inl s, Stays.refl _ _, hL⟩
  have HLen : Hid (∀ k, (crashTo d.files keep k).2.length ≤ n) := show ∀ k, _ from fun k => by
    induction k with
    | zero => exact Nat.le_of_eq hn
    | succ k ih =>
      by_cases e : (d.files k).all.length = (d.files k).dur
      · rw [crash_same d keep k e]; exact ih
      · rw [crash_cut d keep k e]
        show (crashTo d.files keep k).2.tail.length ≤ n
        rw [List.length_tail]; omega
  have HN0 : Hid ((crashTo d.files keep 0).2.length = n) := show _ = _ from hn
  have hSM : ∀ f, f < 33 → (d.files f).all.length ≤ 262144 := fun f hf => by
    have h1 := sumTo_le d.files f 33 hf
    have h2 := hok.used
    have h3 := hok.room
    unfold DiskM.used at h2
    omega
  have HSM := Lib.hid hSM
  clear hV hok hc hL hn hSM
  go_enter Tryd.func28, Tryd.ntmps28
  go_wp2_with fail
  go_loopw [1, 7] (fun kv i wr => ∃ (k m c' : Nat) (q : Option Addr), k ≤ 33 ∧ i = .int .i64 (k : Int) ∧ kv = .slice q m c' ∧ m = (crashTo d.files keep k).2.length ∧ m ≤ c' ∧ CrW S g d keep k q w wr) (fun _ i _ => 33 - (intOf i).toNat)
  case atStart => exact ⟨0, n, c, p, by omega, rfl, rfl, HN0.out.symm, hnc, HW0.out⟩
  case round =>
    clear HW0 HN0
    obtain ⟨k, m, c', q, hk, rfl, rfl, hm, hmc, hcr⟩ := hrel
    obtain ⟨S1, vs1, h1, h2, h3, h4⟩ := hcr
    by_cases hlt : k < 33
    · have hvol := dkVol_any S1 g k vs1 (crashD d keep k) wr h1 hlt (by rw [crashD_at]; exact HOK.out.dur k hlt) (by rw [crashD_at]; have := HSM.out k hlt; omega)
      rw [crashD_at] at hvol
      have HV := Lib.hid hvol
      have H1 := Lib.hid h1; have H2 := Lib.hid h2; have H3 := Lib.hid h3; have H4 := Lib.hid h4; have HM := Lib.hid hm
      have q0 : (0 : Int) ≤ (k : Int) := by omega
      have q1 : (k : Int) < 33 := by omega
      clear hvol h1 h2 h3 h4 hm
      go_wp2_with fail
      refine HV.out.mono ?_
      rintro e w2 ⟨rfl, hb⟩
      have HB2 := Lib.hid hb
      clear hb HV
      have HD := Lib.hid (HOK.out.dur k hlt)
      by_cases hz : (d.files k).all.length = (d.files k).dur
      · have e0 : (d.files k).all.length - (d.files k).dur = 0 := by omega
        have HR : Hid (CrW S g d keep (k + 1) q w w2) := show CrW _ _ _ _ _ _ _ _ from by
          have e : crashD d keep (k + 1) = crashD d keep k := by unfold crashD; rw [crash_same d keep k hz]
          refine ⟨S1, vs1, by rw [e]; exact H1.out.below HB2.out, fun j s => (H2.out j s).imp id (fun h => ⟨h.1, Nat.lt_of_lt_of_le h.2 HB2.out.size⟩), H3.out.trans (Below.stays (F := fun _ => False) HB2.out) (fun _ f _ => f.elim), ?_⟩
          rw [crash_same d keep k hz]
          exact H4.out.stay (Below.stays (F := S1) HB2.out) (fun _ s => Or.inl s)
        have HM2 : Hid (m = (crashTo d.files keep (k + 1)).2.length) := show _ = _ by rw [crash_same d keep k hz]; exact HM.out
        rw [e0]
        clear e0 H1 H2 H3 H4 HM hz
        go_wp2_with fail
        go_roundw
        case rel => exact ⟨k + 1, m, c', q, by omega, by go_num, rfl, HM2.out, hmc, HR.out⟩
        case measure => simp [intOf]; omega
      · have hpos : 0 < (d.files k).all.length - (d.files k).dur := by have := HD.out; omega
        have HZ := Lib.hid hz
        have HSK := Lib.hid (HSM.out k hlt)
        clear hz
        have HE : Hid (DkV S1 w2 g vs1 (crashD d keep k)) := show DkV _ _ _ _ _ from H1.out.below HB2.out
        have HH2 : Hid (∀ j, S1 j → S j ∨ (w.heap.size ≤ j ∧ j < w2.heap.size)) := show ∀ j, _ → _ from fun j s => (H2.out j s).imp id (fun h => ⟨h.1, Nat.lt_of_lt_of_le h.2 HB2.out.size⟩)
        have HH3 : Hid (Stays S w w2) := show Stays _ _ _ from H3.out.trans (Below.stays (F := fun _ => False) HB2.out) (fun _ f _ => f.elim)
        have HH4 : Hid (LiesZO S1 w2 q (crashTo d.files keep k).2) := show LiesZO _ _ _ _ from H4.out.stay (Below.stays (F := S1) HB2.out) (fun _ s => Or.inl s)
        clear H1 H2 H3 H4 HB2
        generalize hvl : (d.files k).all.length - (d.files k).dur = vl at hpos ⊢
        have HVL := Lib.hid hvl
        clear hvl
        have q2 : ¬ (vl : Int) = 0 := by omega
        by_cases hm0 : m = 0
        · subst hm0
          have HL0 : Hid ((crashTo d.files keep k).2 = []) := show _ = _ from List.length_eq_zero_iff.1 HM.out.symm
          have q3 : ¬ ((0 : Nat) : Int) > 0 := by omega
          clear HM
          go_upto_region 8 with fail
          have HH5 : Hid (LiesZO S1 w2 q (crashTo d.files keep k).2.tail) := show LiesZO _ _ _ _ by rw [HL0.out]; exact Or.inl rfl
          have HHD : Hid ((0 : Int) = (crashTo d.files keep k).2.headD 0) := show _ = _ by rw [HL0.out]; rfl
          have HM2 : Hid (0 = (crashTo d.files keep k).2.tail.length) := show _ = _ by rw [HL0.out]; rfl
          clear HH4 HL0
          have HE8 : Hid (DkV S1 w2.drew g vs1 (crashD d keep k) ∧ Stays S w w2.drew ∧ (∀ j, S1 j → S j ∨ (w.heap.size ≤ j ∧ j < w2.drew.heap.size)) ∧ LiesZO S1 w2.drew q (crashTo d.files keep k).2.tail) := show _ ∧ _ ∧ _ ∧ _ from ⟨HE.out.below (Below.refl _ _).drew, HH3.out.trans (Below.stays (F := fun _ => False) (Below.refl w2.heap.size w2).drew) (fun _ f _ => f.elim), HH2.out, HH5.out.stay (Below.stays (F := S1) (Below.refl w2.heap.size w2).drew) (fun _ s => Or.inl s)⟩
          refine region_phase (fun _ => True) (fun w' => DkV S1 w' g vs1 (crashD d keep k) ∧ Stays S w w' ∧ (∀ j, S1 j → S j ∨ (w.heap.size ≤ j ∧ j < w'.heap.size)) ∧ LiesZO S1 w' q (crashTo d.files keep k).2.tail) 10 (trivial) HE8.out [(0, .free), (1, .free), (2, .free), (3, .free), (5, .free), (6, .free), (7, .free), (4, .early), (8, .before), (9, .free), (10, .behind), (11, .behind)] (by kernel_rfl) (by kernel_rfl) (by kernel_rfl) (by kernel_rfl) (fun ops hops A hA => ?_)
          have hsz : A.tmps.size = 45 := by rw [hA]; rfl
          have base5 : A.eval (.tmp 5) = .pointer (some ⟨g, k * 2, none⟩) := by rw [hA]; rfl
          have base6 : A.eval (.tmp 6) = .int .i64 0 := by rw [hA]; rfl
          have HAA := Lib.hid hA; clear hA
          obtain ⟨o0, po0, q0, d0, gd0⟩ : ∃ o, ops[0]? = some o ∧ o.op = .move (.tmp 5) ∧ o.dst = some 26 ∧ o.guard = none := ⟨_, by rw [hops]; rfl, rfl, rfl, rfl⟩
          obtain ⟨o1, po1, q1, d1, gd1⟩ : ∃ o, ops[1]? = some o ∧ o.op = .move (.tmp 5) ∧ o.dst = some 27 ∧ o.guard = none := ⟨_, by rw [hops]; rfl, rfl, rfl, rfl⟩
          obtain ⟨o2, po2, q2, d2, gd2⟩ : ∃ o, ops[2]? = some o ∧ o.op = .nilCheck (.tmp 27) ∧ o.dst = some 28 ∧ o.guard = none := ⟨_, by rw [hops]; rfl, rfl, rfl, rfl⟩
          obtain ⟨o3, po3, q3, d3, gd3⟩ : ∃ o, ops[3]? = some o ∧ o.op = .fieldAddr 62 (.tmp 28) 1 ∧ o.dst = some 29 ∧ o.guard = none := ⟨_, by rw [hops]; rfl, rfl, rfl, rfl⟩
          obtain ⟨o4, po4, q4, d4, gd4⟩ : ∃ o, ops[4]? = some o ∧ o.op = .load 3 (.tmp 29) ∧ o.dst = some 30 ∧ o.guard = none := ⟨_, by rw [hops]; rfl, rfl, rfl, rfl⟩
          obtain ⟨o5, po5, q5, d5, gd5⟩ : ∃ o, ops[5]? = some o ∧ o.op = .move (.tmp 6) ∧ o.dst = some 31 ∧ o.guard = none := ⟨_, by rw [hops]; rfl, rfl, rfl, rfl⟩
          obtain ⟨o6, po6, q6, d6, gd6⟩ : ∃ o, ops[6]? = some o ∧ o.op = .call { callee := .builtin .max, args := #[.tmp 31, .const (.int .i64 0)], argTypes := #[3, 3] } ∧ o.dst = some 32 ∧ o.guard = none := ⟨_, by rw [hops]; rfl, rfl, rfl, rfl⟩
          obtain ⟨o7, po7, q7, d7, gd7⟩ : ∃ o, ops[7]? = some o ∧ o.op = .move (.tmp 5) ∧ o.dst = some 33 ∧ o.guard = none := ⟨_, by rw [hops]; rfl, rfl, rfl, rfl⟩
          obtain ⟨o8, po8, q8, d8, gd8⟩ : ∃ o, ops[8]? = some o ∧ o.op = .call { callee := .value (.func 56), args := #[.tmp 33], argTypes := #[93] } ∧ o.dst = some 34 ∧ o.guard = none := ⟨_, by rw [hops]; rfl, rfl, rfl, rfl⟩
          obtain ⟨o9, po9, q9, d9, gd9⟩ : ∃ o, ops[9]? = some o ∧ o.op = .call { callee := .builtin .min, args := #[.tmp 32, .tmp 34], argTypes := #[3, 3] } ∧ o.dst = some 35 ∧ o.guard = none := ⟨_, by rw [hops]; rfl, rfl, rfl, rfl⟩
          obtain ⟨o10, po10, q10, d10, gd10⟩ : ∃ o, ops[10]? = some o ∧ o.op = .binOp .add 3 (.tmp 30) (.tmp 35) 3 ∧ o.dst = some 36 ∧ o.guard = none := ⟨_, by rw [hops]; rfl, rfl, rfl, rfl⟩
          obtain ⟨o11, po11, q11, d11, gd11⟩ : ∃ o, ops[11]? = some o ∧ o.op = .call { callee := .value (.func 57), args := #[.tmp 26, .tmp 36], argTypes := #[93, 3] } ∧ o.dst = some 37 ∧ o.guard = none := ⟨_, by rw [hops]; rfl, rfl, rfl, rfl⟩
          clear hops
          refine met_free po0 d0 (wanted_of gd0) (fun w' h' => run_move q0 base5 w') ?_
          refine met_free po1 d1 (wanted_of gd1) (fun w' h' => run_move q1 ((eval_other _ 26 5 _ (by decide)).trans base5) w') ?_
          refine met_free po2 d2 (wanted_of gd2) (fun w' h' => run_nilCheck q2 (eval_same _ _ _ (by simp only [put_size, hsz]; decide)) w') ?_
          refine met_free po3 d3 (wanted_of gd3) (fun w' h' => run_fieldF1 q3 (eval_same _ _ _ (by simp only [put_size, hsz]; decide)) w') ?_
          refine met_free po5 d5 (wanted_of gd5) (fun w' h' => run_move q5 ((eval_other _ 29 6 _ (by decide)).trans ((eval_other _ 28 6 _ (by decide)).trans ((eval_other _ 27 6 _ (by decide)).trans ((eval_other _ 26 6 _ (by decide)).trans base6)))) w') ?_
          refine met_free po6 d6 (wanted_of gd6) (fun w' h' => run_maxI (c := max 0 0) q6 (eval_same _ _ _ (by simp only [put_size, hsz]; decide)) rfl rfl w') ?_
          refine met_free po7 d7 (wanted_of gd7) (fun w' h' => run_move q7 ((eval_other _ 32 5 _ (by decide)).trans ((eval_other _ 31 5 _ (by decide)).trans ((eval_other _ 29 5 _ (by decide)).trans ((eval_other _ 28 5 _ (by decide)).trans ((eval_other _ 27 5 _ (by decide)).trans ((eval_other _ 26 5 _ (by decide)).trans base5)))))) w') ?_
          refine met_early po4 d4 (wanted_of gd4) (fun w' _ h' => run_loadIn (n := ((d.files k).dur : Int)) q4 ((eval_other _ 33 29 _ (by decide)).trans ((eval_other _ 32 29 _ (by decide)).trans ((eval_other _ 31 29 _ (by decide)).trans (eval_same _ _ _ (by simp only [put_size, hsz]; decide))))) (by rw [← crashD_at d keep k]; exact h'.1.c1 k hlt)) ?_
          refine mb_enter po8 d8 (wanted_of gd8) (run_callf1 q8 rfl ((eval_other _ 30 33 _ (by decide)).trans (eval_same _ _ _ (by simp only [put_size, hsz]; decide))) Tryd.func56 (by kernel_rfl) _) (dkVol_any S1 g k vs1 (crashD d keep k) _ HE8.out.1 hlt (by rw [crashD_at]; exact HD.out) (by rw [crashD_at]; have := HSK.out; omega)) ?_
          rintro e w3 ⟨rfl, hb⟩
          have HE9 : Hid (DkV S1 w3 g vs1 (crashD d keep k) ∧ Stays S w w3 ∧ (∀ j, S1 j → S j ∨ (w.heap.size ≤ j ∧ j < w3.heap.size)) ∧ LiesZO S1 w3 q (crashTo d.files keep k).2.tail) := show _ ∧ _ ∧ _ ∧ _ from ⟨HE8.out.1.below hb, HE8.out.2.1.trans (Below.stays (F := fun _ => False) hb) (fun _ f _ => f.elim), fun j s => (HE8.out.2.2.1 j s).imp id (fun h => ⟨h.1, Nat.lt_of_lt_of_le h.2 hb.size⟩), HE8.out.2.2.2.stay (Below.stays (F := S1) hb) (fun _ s => Or.inl s)⟩
          clear hb
          rw [crashD_at, HVL.out]
          refine ⟨_, rfl, ⟨trivial, HE9.out⟩, ?_⟩
          obtain ⟨mm, hmm⟩ : ∃ mm : Nat, mm = (min (max 0 0) (vl : Int)).toNat := ⟨_, rfl⟩
          refine met_free po9 d9 (wanted_of gd9) (fun w' h' => run_minI (c := (mm : Int)) q9 ((eval_other _ 34 32 _ (by decide)).trans ((eval_other _ 30 32 _ (by decide)).trans ((eval_other _ 33 32 _ (by decide)).trans (eval_same _ _ _ (by simp only [put_size, hsz]; decide))))) (eval_same _ _ _ (by simp only [put_size, hsz]; decide)) (by omega) w') ?_
          refine met_op po10 d10 (wanted_of gd10) (run_addNN q10 ((eval_other _ 35 30 _ (by decide)).trans ((eval_other _ 34 30 _ (by decide)).trans (eval_same _ _ _ (by simp only [put_size, hsz]; decide)))) (eval_same _ _ _ (by simp only [put_size, hsz]; decide)) (by have := HSK.out; have := HD.out; have := HVL.out; omega) w3) trivial ?_
          have hcutc := dkCutF_any S1 g k ((d.files k).dur + mm) vs1 (crashD d keep k) w3 HE9.out.1 hlt (by rw [crashD_at]; have := HVL.out; have := HD.out; omega) (by rw [crashD_at]; have := HSK.out; omega)
          refine m_enter po11 d11 (wanted_of gd11) (run_callf2 q11 rfl ((eval_other _ 36 26 _ (by decide)).trans ((eval_other _ 35 26 _ (by decide)).trans ((eval_other _ 34 26 _ (by decide)).trans ((eval_other _ 30 26 _ (by decide)).trans ((eval_other _ 33 26 _ (by decide)).trans ((eval_other _ 32 26 _ (by decide)).trans ((eval_other _ 31 26 _ (by decide)).trans ((eval_other _ 29 26 _ (by decide)).trans ((eval_other _ 28 26 _ (by decide)).trans ((eval_other _ 27 26 _ (by decide)).trans (eval_same _ _ _ (by rw [hsz]; decide)))))))))))) (eval_same _ _ _ (by simp only [put_size, hsz]; decide)) Tryd.func57 (by kernel_rfl) _) hcutc ?_
          rintro e w4 ⟨rfl, hgo⟩
          have HR : Hid (CrW S g d keep (k + 1) q w w4) := show CrW _ _ _ _ _ _ _ _ from CrW.cut HE9.out.2.2.1 HE9.out.2.1 HE9.out.2.2.2 HZ.out HHD.out (by rw [HVL.out]; exact hmm) hgo
          have HM3 : Hid (0 = (crashTo d.files keep (k + 1)).2.length) := show _ = _ by rw [crash_cut d keep k HZ.out]; exact HM2.out
          clear hgo hcutc hmm HE9 HE8
          refine ⟨_, rfl, trivial, ?_⟩
          show NoPanic _ .normal _ _
          refine NoPanic.normal ?_
          rw [HAA.out]
          go_frame
          clear HAA
          clear HE HH2 HH3 HH5 HZ HSK HVL HHD
          go_wp2_with fail
          go_roundw
          case rel => exact ⟨k + 1, 0, c', q, by omega, by go_num, rfl, HM3.out, hmc, HR.out⟩
          case measure => simp [intOf]; omega
        · obtain ⟨x, l, hxl⟩ : ∃ x l, (crashTo d.files keep k).2 = x :: l := by
            cases hx : (crashTo d.files keep k).2 with
            | nil => rw [hx] at HM; exact absurd HM.out hm0
            | cons x l => exact ⟨x, l, rfl⟩
          obtain ⟨b, off, rfl, hr⟩ : ∃ b off, q = some ⟨b, off, none⟩ ∧ w2.rangeAt b off (intsV (crashTo d.files keep k).2) := by
            rcases HH4.out with h | ⟨b, off, hp, _, _, hr⟩
            · rw [hxl] at h; cases h
            · exact ⟨b, off, hp, hr⟩
          have cx : w2.cell? ⟨b, off, none⟩ = some (.int .i64 x) := by
            have h := hr 0 (.int .i64 x) (by rw [hxl]; rfl)
            rwa [Nat.add_zero] at h
          have hml : m = l.length + 1 := by have := HM.out; rw [hxl] at this; exact this
          have HXL := Lib.hid hxl
          have HML := Lib.hid hml
          obtain ⟨q5, hq5⟩ : ∃ q5 : Option Addr, q5 = if c' = 1 then some ⟨b, off, none⟩ else some ⟨b, off + 1, none⟩ := ⟨_, rfl⟩
          have HL5 : Hid (LiesZO S1 w2 q5 (crashTo d.files keep k).2.tail) := show LiesZO _ _ _ _ from by
            have h := HH4.out
            rw [hxl] at h ⊢
            by_cases e : c' = 1
            · have : l = [] := List.length_eq_zero_iff.1 (by omega)
              rw [this]; exact Or.inl rfl
            · rw [hq5, if_neg e]; exact h.tail
          have HHD : Hid (x = (crashTo d.files keep k).2.headD 0) := show _ = _ by rw [hxl]; rfl
          have HM2 : Hid (m - 1 = (crashTo d.files keep k).2.tail.length) := show _ = _ by rw [hxl]; show m - 1 = l.length; omega
          have q3 : (m : Int) > 0 := by omega
          have q4 : (1 : Int) ≤ (m : Int) := by omega
          have q6 : (m : Int) ≤ (c' : Int) := by omega
          have q7 : (m : Int) - 1 = ((m - 1 : Nat) : Int) := by omega
          have q8 : (c' : Int) - 1 = ((c' - 1 : Nat) : Int) := by omega
          have q9 : (m - 1 : Nat) ≤ c' - 1 := by omega
          have Q9 := Lib.hid q9
          clear hr hxl hml HM q9
          have HQ5 := Lib.hid hq5; clear hq5
          by_cases hc1 : c' = 1
          · have e5 : q5 = some ⟨b, off, none⟩ := by rw [HQ5.out, if_pos hc1]
            subst e5
            clear HQ5
            have Q9Z : Hid (m - 1 ≤ 0) := show m - 1 ≤ 0 by have := Q9.out; omega
            go_upto_region 7 with fail
            go_quiet (fail)
            go_upto_region 8 with fail
            refine wp_gen (fun wx => Below w2.heap.size w2 wx) ⟨rfl, rfl, rfl, Nat.le_refl _, fun _ _ => rfl⟩ ?_
            intro w5 hb5
            have HB5 := Lib.hid hb5
            clear hb5 cx
            have HEb : Hid (DkV S1 w5 g vs1 (crashD d keep k)) := show DkV _ _ _ _ _ from HE.out.below HB5.out
            have HH2b : Hid (∀ j, S1 j → S j ∨ (w.heap.size ≤ j ∧ j < w5.heap.size)) := show ∀ j, _ → _ from fun j s => (HH2.out j s).imp id (fun h => ⟨h.1, Nat.lt_of_lt_of_le h.2 HB5.out.size⟩)
            have HH3b : Hid (Stays S w w5) := show Stays _ _ _ from HH3.out.trans (Below.stays (F := fun _ => False) HB5.out) (fun _ f _ => f.elim)
            have HH5 := Lib.hid (LiesZO.stay HL5.out (Below.stays (F := S1) HB5.out) (fun _ s => Or.inl s))
            clear HE HH2 HH3 HH4 HL5 HB5
            have HE8 : Hid (DkV S1 w5.drew g vs1 (crashD d keep k) ∧ Stays S w w5.drew ∧ (∀ j, S1 j → S j ∨ (w.heap.size ≤ j ∧ j < w5.drew.heap.size)) ∧ LiesZO S1 w5.drew (some ⟨b, off, none⟩) (crashTo d.files keep k).2.tail) := show _ ∧ _ ∧ _ ∧ _ from ⟨HEb.out.below (Below.refl _ _).drew, HH3b.out.trans (Below.stays (F := fun _ => False) (Below.refl w5.heap.size w5).drew) (fun _ f _ => f.elim), HH2b.out, HH5.out.stay (Below.stays (F := S1) (Below.refl w5.heap.size w5).drew) (fun _ s => Or.inl s)⟩
            refine region_phase (fun _ => True) (fun w' => DkV S1 w' g vs1 (crashD d keep k) ∧ Stays S w w' ∧ (∀ j, S1 j → S j ∨ (w.heap.size ≤ j ∧ j < w'.heap.size)) ∧ LiesZO S1 w' (some ⟨b, off, none⟩) (crashTo d.files keep k).2.tail) 10 (trivial) HE8.out [(0, .free), (1, .free), (2, .free), (3, .free), (5, .free), (6, .free), (7, .free), (4, .early), (8, .before), (9, .free), (10, .behind), (11, .behind)] (by kernel_rfl) (by kernel_rfl) (by kernel_rfl) (by kernel_rfl) (fun ops hops A hA => ?_)
            have hsz : A.tmps.size = 45 := by rw [hA]; rfl
            have base5 : A.eval (.tmp 5) = .pointer (some ⟨g, k * 2, none⟩) := by rw [hA]; rfl
            have base6 : A.eval (.tmp 6) = .int .i64 x := by rw [hA]; rfl
            have HAA := Lib.hid hA; clear hA
            obtain ⟨o0, po0, q0, d0, gd0⟩ : ∃ o, ops[0]? = some o ∧ o.op = .move (.tmp 5) ∧ o.dst = some 26 ∧ o.guard = none := ⟨_, by rw [hops]; rfl, rfl, rfl, rfl⟩
            obtain ⟨o1, po1, q1, d1, gd1⟩ : ∃ o, ops[1]? = some o ∧ o.op = .move (.tmp 5) ∧ o.dst = some 27 ∧ o.guard = none := ⟨_, by rw [hops]; rfl, rfl, rfl, rfl⟩
            obtain ⟨o2, po2, q2, d2, gd2⟩ : ∃ o, ops[2]? = some o ∧ o.op = .nilCheck (.tmp 27) ∧ o.dst = some 28 ∧ o.guard = none := ⟨_, by rw [hops]; rfl, rfl, rfl, rfl⟩
            obtain ⟨o3, po3, q3, d3, gd3⟩ : ∃ o, ops[3]? = some o ∧ o.op = .fieldAddr 62 (.tmp 28) 1 ∧ o.dst = some 29 ∧ o.guard = none := ⟨_, by rw [hops]; rfl, rfl, rfl, rfl⟩
            obtain ⟨o4, po4, q4, d4, gd4⟩ : ∃ o, ops[4]? = some o ∧ o.op = .load 3 (.tmp 29) ∧ o.dst = some 30 ∧ o.guard = none := ⟨_, by rw [hops]; rfl, rfl, rfl, rfl⟩
            obtain ⟨o5, po5, q5, d5, gd5⟩ : ∃ o, ops[5]? = some o ∧ o.op = .move (.tmp 6) ∧ o.dst = some 31 ∧ o.guard = none := ⟨_, by rw [hops]; rfl, rfl, rfl, rfl⟩
            obtain ⟨o6, po6, q6, d6, gd6⟩ : ∃ o, ops[6]? = some o ∧ o.op = .call { callee := .builtin .max, args := #[.tmp 31, .const (.int .i64 0)], argTypes := #[3, 3] } ∧ o.dst = some 32 ∧ o.guard = none := ⟨_, by rw [hops]; rfl, rfl, rfl, rfl⟩
            obtain ⟨o7, po7, q7, d7, gd7⟩ : ∃ o, ops[7]? = some o ∧ o.op = .move (.tmp 5) ∧ o.dst = some 33 ∧ o.guard = none := ⟨_, by rw [hops]; rfl, rfl, rfl, rfl⟩
            obtain ⟨o8, po8, q8, d8, gd8⟩ : ∃ o, ops[8]? = some o ∧ o.op = .call { callee := .value (.func 56), args := #[.tmp 33], argTypes := #[93] } ∧ o.dst = some 34 ∧ o.guard = none := ⟨_, by rw [hops]; rfl, rfl, rfl, rfl⟩
            obtain ⟨o9, po9, q9, d9, gd9⟩ : ∃ o, ops[9]? = some o ∧ o.op = .call { callee := .builtin .min, args := #[.tmp 32, .tmp 34], argTypes := #[3, 3] } ∧ o.dst = some 35 ∧ o.guard = none := ⟨_, by rw [hops]; rfl, rfl, rfl, rfl⟩
            obtain ⟨o10, po10, q10, d10, gd10⟩ : ∃ o, ops[10]? = some o ∧ o.op = .binOp .add 3 (.tmp 30) (.tmp 35) 3 ∧ o.dst = some 36 ∧ o.guard = none := ⟨_, by rw [hops]; rfl, rfl, rfl, rfl⟩
            obtain ⟨o11, po11, q11, d11, gd11⟩ : ∃ o, ops[11]? = some o ∧ o.op = .call { callee := .value (.func 57), args := #[.tmp 26, .tmp 36], argTypes := #[93, 3] } ∧ o.dst = some 37 ∧ o.guard = none := ⟨_, by rw [hops]; rfl, rfl, rfl, rfl⟩
            clear hops
            refine met_free po0 d0 (wanted_of gd0) (fun w' h' => run_move q0 base5 w') ?_
            refine met_free po1 d1 (wanted_of gd1) (fun w' h' => run_move q1 ((eval_other _ 26 5 _ (by decide)).trans base5) w') ?_
            refine met_free po2 d2 (wanted_of gd2) (fun w' h' => run_nilCheck q2 (eval_same _ _ _ (by simp only [put_size, hsz]; decide)) w') ?_
            refine met_free po3 d3 (wanted_of gd3) (fun w' h' => run_fieldF1 q3 (eval_same _ _ _ (by simp only [put_size, hsz]; decide)) w') ?_
            refine met_free po5 d5 (wanted_of gd5) (fun w' h' => run_move q5 ((eval_other _ 29 6 _ (by decide)).trans ((eval_other _ 28 6 _ (by decide)).trans ((eval_other _ 27 6 _ (by decide)).trans ((eval_other _ 26 6 _ (by decide)).trans base6)))) w') ?_
            refine met_free po6 d6 (wanted_of gd6) (fun w' h' => run_maxI (c := max x 0) q6 (eval_same _ _ _ (by simp only [put_size, hsz]; decide)) rfl rfl w') ?_
            refine met_free po7 d7 (wanted_of gd7) (fun w' h' => run_move q7 ((eval_other _ 32 5 _ (by decide)).trans ((eval_other _ 31 5 _ (by decide)).trans ((eval_other _ 29 5 _ (by decide)).trans ((eval_other _ 28 5 _ (by decide)).trans ((eval_other _ 27 5 _ (by decide)).trans ((eval_other _ 26 5 _ (by decide)).trans base5)))))) w') ?_
            refine met_early po4 d4 (wanted_of gd4) (fun w' _ h' => run_loadIn (n := ((d.files k).dur : Int)) q4 ((eval_other _ 33 29 _ (by decide)).trans ((eval_other _ 32 29 _ (by decide)).trans ((eval_other _ 31 29 _ (by decide)).trans (eval_same _ _ _ (by simp only [put_size, hsz]; decide))))) (by rw [← crashD_at d keep k]; exact h'.1.c1 k hlt)) ?_
            refine mb_enter po8 d8 (wanted_of gd8) (run_callf1 q8 rfl ((eval_other _ 30 33 _ (by decide)).trans (eval_same _ _ _ (by simp only [put_size, hsz]; decide))) Tryd.func56 (by kernel_rfl) _) (dkVol_any S1 g k vs1 (crashD d keep k) _ HE8.out.1 hlt (by rw [crashD_at]; exact HD.out) (by rw [crashD_at]; have := HSK.out; omega)) ?_
            rintro e w3 ⟨rfl, hb⟩
            have HE9 : Hid (DkV S1 w3 g vs1 (crashD d keep k) ∧ Stays S w w3 ∧ (∀ j, S1 j → S j ∨ (w.heap.size ≤ j ∧ j < w3.heap.size)) ∧ LiesZO S1 w3 (some ⟨b, off, none⟩) (crashTo d.files keep k).2.tail) := show _ ∧ _ ∧ _ ∧ _ from ⟨HE8.out.1.below hb, HE8.out.2.1.trans (Below.stays (F := fun _ => False) hb) (fun _ f _ => f.elim), fun j s => (HE8.out.2.2.1 j s).imp id (fun h => ⟨h.1, Nat.lt_of_lt_of_le h.2 hb.size⟩), HE8.out.2.2.2.stay (Below.stays (F := S1) hb) (fun _ s => Or.inl s)⟩
            clear hb
            rw [crashD_at, HVL.out]
            refine ⟨_, rfl, ⟨trivial, HE9.out⟩, ?_⟩
            obtain ⟨mm, hmm⟩ : ∃ mm : Nat, mm = (min (max x 0) (vl : Int)).toNat := ⟨_, rfl⟩
            refine met_free po9 d9 (wanted_of gd9) (fun w' h' => run_minI (c := (mm : Int)) q9 ((eval_other _ 34 32 _ (by decide)).trans ((eval_other _ 30 32 _ (by decide)).trans ((eval_other _ 33 32 _ (by decide)).trans (eval_same _ _ _ (by simp only [put_size, hsz]; decide))))) (eval_same _ _ _ (by simp only [put_size, hsz]; decide)) (by omega) w') ?_
            refine met_op po10 d10 (wanted_of gd10) (run_addNN q10 ((eval_other _ 35 30 _ (by decide)).trans ((eval_other _ 34 30 _ (by decide)).trans (eval_same _ _ _ (by simp only [put_size, hsz]; decide)))) (eval_same _ _ _ (by simp only [put_size, hsz]; decide)) (by have := HSK.out; have := HD.out; have := HVL.out; omega) w3) trivial ?_
            have hcutc := dkCutF_any S1 g k ((d.files k).dur + mm) vs1 (crashD d keep k) w3 HE9.out.1 hlt (by rw [crashD_at]; have := HVL.out; have := HD.out; omega) (by rw [crashD_at]; have := HSK.out; omega)
            refine m_enter po11 d11 (wanted_of gd11) (run_callf2 q11 rfl ((eval_other _ 36 26 _ (by decide)).trans ((eval_other _ 35 26 _ (by decide)).trans ((eval_other _ 34 26 _ (by decide)).trans ((eval_other _ 30 26 _ (by decide)).trans ((eval_other _ 33 26 _ (by decide)).trans ((eval_other _ 32 26 _ (by decide)).trans ((eval_other _ 31 26 _ (by decide)).trans ((eval_other _ 29 26 _ (by decide)).trans ((eval_other _ 28 26 _ (by decide)).trans ((eval_other _ 27 26 _ (by decide)).trans (eval_same _ _ _ (by rw [hsz]; decide)))))))))))) (eval_same _ _ _ (by simp only [put_size, hsz]; decide)) Tryd.func57 (by kernel_rfl) _) hcutc ?_
            rintro e w4 ⟨rfl, hgo⟩
            have HR : Hid (CrW S g d keep (k + 1) (some ⟨b, off, none⟩) w w4) := show CrW _ _ _ _ _ _ _ _ from CrW.cut HE9.out.2.2.1 HE9.out.2.1 HE9.out.2.2.2 HZ.out HHD.out (by rw [HVL.out]; exact hmm) hgo
            have HM3 : Hid (m - 1 = (crashTo d.files keep (k + 1)).2.length) := show _ = _ by rw [crash_cut d keep k HZ.out]; exact HM2.out
            clear hgo hcutc hmm HE9 HE8
            refine ⟨_, rfl, trivial, ?_⟩
            show NoPanic _ .normal _ _
            refine NoPanic.normal ?_
            rw [HAA.out]
            go_frame
            clear HAA
            clear HEb HH2b HH3b HH5 HZ HSK HVL HHD
            go_wp2_with fail
            go_roundw
            case rel => exact ⟨k + 1, m - 1, 0, (some ⟨b, off, none⟩), by omega, by go_num, rfl, HM3.out, Q9Z.out, HR.out⟩
            case measure => simp [intOf]; omega
          · have e5 : q5 = some ⟨b, off + 1, none⟩ := by rw [HQ5.out, if_neg hc1]
            subst e5
            clear HQ5
            go_upto_region 7 with fail
            go_quiet (fail)
            go_upto_region 8 with fail
            refine wp_gen (fun wx => Below w2.heap.size w2 wx) ⟨rfl, rfl, rfl, Nat.le_refl _, fun _ _ => rfl⟩ ?_
            intro w5 hb5
            have HB5 := Lib.hid hb5
            clear hb5 cx
            have HEb : Hid (DkV S1 w5 g vs1 (crashD d keep k)) := show DkV _ _ _ _ _ from HE.out.below HB5.out
            have HH2b : Hid (∀ j, S1 j → S j ∨ (w.heap.size ≤ j ∧ j < w5.heap.size)) := show ∀ j, _ → _ from fun j s => (HH2.out j s).imp id (fun h => ⟨h.1, Nat.lt_of_lt_of_le h.2 HB5.out.size⟩)
            have HH3b : Hid (Stays S w w5) := show Stays _ _ _ from HH3.out.trans (Below.stays (F := fun _ => False) HB5.out) (fun _ f _ => f.elim)
            have HH5 := Lib.hid (LiesZO.stay HL5.out (Below.stays (F := S1) HB5.out) (fun _ s => Or.inl s))
            clear HE HH2 HH3 HH4 HL5 HB5
            have HE8 : Hid (DkV S1 w5.drew g vs1 (crashD d keep k) ∧ Stays S w w5.drew ∧ (∀ j, S1 j → S j ∨ (w.heap.size ≤ j ∧ j < w5.drew.heap.size)) ∧ LiesZO S1 w5.drew (some ⟨b, off + 1, none⟩) (crashTo d.files keep k).2.tail) := show _ ∧ _ ∧ _ ∧ _ from ⟨HEb.out.below (Below.refl _ _).drew, HH3b.out.trans (Below.stays (F := fun _ => False) (Below.refl w5.heap.size w5).drew) (fun _ f _ => f.elim), HH2b.out, HH5.out.stay (Below.stays (F := S1) (Below.refl w5.heap.size w5).drew) (fun _ s => Or.inl s)⟩
            refine region_phase (fun _ => True) (fun w' => DkV S1 w' g vs1 (crashD d keep k) ∧ Stays S w w' ∧ (∀ j, S1 j → S j ∨ (w.heap.size ≤ j ∧ j < w'.heap.size)) ∧ LiesZO S1 w' (some ⟨b, off + 1, none⟩) (crashTo d.files keep k).2.tail) 10 (trivial) HE8.out [(0, .free), (1, .free), (2, .free), (3, .free), (5, .free), (6, .free), (7, .free), (4, .early), (8, .before), (9, .free), (10, .behind), (11, .behind)] (by kernel_rfl) (by kernel_rfl) (by kernel_rfl) (by kernel_rfl) (fun ops hops A hA => ?_)
            have hsz : A.tmps.size = 45 := by rw [hA]; rfl
            have base5 : A.eval (.tmp 5) = .pointer (some ⟨g, k * 2, none⟩) := by rw [hA]; rfl
            have base6 : A.eval (.tmp 6) = .int .i64 x := by rw [hA]; rfl
            have HAA := Lib.hid hA; clear hA
            obtain ⟨o0, po0, q0, d0, gd0⟩ : ∃ o, ops[0]? = some o ∧ o.op = .move (.tmp 5) ∧ o.dst = some 26 ∧ o.guard = none := ⟨_, by rw [hops]; rfl, rfl, rfl, rfl⟩
            obtain ⟨o1, po1, q1, d1, gd1⟩ : ∃ o, ops[1]? = some o ∧ o.op = .move (.tmp 5) ∧ o.dst = some 27 ∧ o.guard = none := ⟨_, by rw [hops]; rfl, rfl, rfl, rfl⟩
            obtain ⟨o2, po2, q2, d2, gd2⟩ : ∃ o, ops[2]? = some o ∧ o.op = .nilCheck (.tmp 27) ∧ o.dst = some 28 ∧ o.guard = none := ⟨_, by rw [hops]; rfl, rfl, rfl, rfl⟩
            obtain ⟨o3, po3, q3, d3, gd3⟩ : ∃ o, ops[3]? = some o ∧ o.op = .fieldAddr 62 (.tmp 28) 1 ∧ o.dst = some 29 ∧ o.guard = none := ⟨_, by rw [hops]; rfl, rfl, rfl, rfl⟩
            obtain ⟨o4, po4, q4, d4, gd4⟩ : ∃ o, ops[4]? = some o ∧ o.op = .load 3 (.tmp 29) ∧ o.dst = some 30 ∧ o.guard = none := ⟨_, by rw [hops]; rfl, rfl, rfl, rfl⟩
            obtain ⟨o5, po5, q5, d5, gd5⟩ : ∃ o, ops[5]? = some o ∧ o.op = .move (.tmp 6) ∧ o.dst = some 31 ∧ o.guard = none := ⟨_, by rw [hops]; rfl, rfl, rfl, rfl⟩
            obtain ⟨o6, po6, q6, d6, gd6⟩ : ∃ o, ops[6]? = some o ∧ o.op = .call { callee := .builtin .max, args := #[.tmp 31, .const (.int .i64 0)], argTypes := #[3, 3] } ∧ o.dst = some 32 ∧ o.guard = none := ⟨_, by rw [hops]; rfl, rfl, rfl, rfl⟩
            obtain ⟨o7, po7, q7, d7, gd7⟩ : ∃ o, ops[7]? = some o ∧ o.op = .move (.tmp 5) ∧ o.dst = some 33 ∧ o.guard = none := ⟨_, by rw [hops]; rfl, rfl, rfl, rfl⟩
            obtain ⟨o8, po8, q8, d8, gd8⟩ : ∃ o, ops[8]? = some o ∧ o.op = .call { callee := .value (.func 56), args := #[.tmp 33], argTypes := #[93] } ∧ o.dst = some 34 ∧ o.guard = none := ⟨_, by rw [hops]; rfl, rfl, rfl, rfl⟩
            obtain ⟨o9, po9, q9, d9, gd9⟩ : ∃ o, ops[9]? = some o ∧ o.op = .call { callee := .builtin .min, args := #[.tmp 32, .tmp 34], argTypes := #[3, 3] } ∧ o.dst = some 35 ∧ o.guard = none := ⟨_, by rw [hops]; rfl, rfl, rfl, rfl⟩
            obtain ⟨o10, po10, q10, d10, gd10⟩ : ∃ o, ops[10]? = some o ∧ o.op = .binOp .add 3 (.tmp 30) (.tmp 35) 3 ∧ o.dst = some 36 ∧ o.guard = none := ⟨_, by rw [hops]; rfl, rfl, rfl, rfl⟩
            obtain ⟨o11, po11, q11, d11, gd11⟩ : ∃ o, ops[11]? = some o ∧ o.op = .call { callee := .value (.func 57), args := #[.tmp 26, .tmp 36], argTypes := #[93, 3] } ∧ o.dst = some 37 ∧ o.guard = none := ⟨_, by rw [hops]; rfl, rfl, rfl, rfl⟩
            clear hops
            refine met_free po0 d0 (wanted_of gd0) (fun w' h' => run_move q0 base5 w') ?_
            refine met_free po1 d1 (wanted_of gd1) (fun w' h' => run_move q1 ((eval_other _ 26 5 _ (by decide)).trans base5) w') ?_
            refine met_free po2 d2 (wanted_of gd2) (fun w' h' => run_nilCheck q2 (eval_same _ _ _ (by simp only [put_size, hsz]; decide)) w') ?_
            refine met_free po3 d3 (wanted_of gd3) (fun w' h' => run_fieldF1 q3 (eval_same _ _ _ (by simp only [put_size, hsz]; decide)) w') ?_
            refine met_free po5 d5 (wanted_of gd5) (fun w' h' => run_move q5 ((eval_other _ 29 6 _ (by decide)).trans ((eval_other _ 28 6 _ (by decide)).trans ((eval_other _ 27 6 _ (by decide)).trans ((eval_other _ 26 6 _ (by decide)).trans base6)))) w') ?_
            refine met_free po6 d6 (wanted_of gd6) (fun w' h' => run_maxI (c := max x 0) q6 (eval_same _ _ _ (by simp only [put_size, hsz]; decide)) rfl rfl w') ?_
            refine met_free po7 d7 (wanted_of gd7) (fun w' h' => run_move q7 ((eval_other _ 32 5 _ (by decide)).trans ((eval_other _ 31 5 _ (by decide)).trans ((eval_other _ 29 5 _ (by decide)).trans ((eval_other _ 28 5 _ (by decide)).trans ((eval_other _ 27 5 _ (by decide)).trans ((eval_other _ 26 5 _ (by decide)).trans base5)))))) w') ?_
            refine met_early po4 d4 (wanted_of gd4) (fun w' _ h' => run_loadIn (n := ((d.files k).dur : Int)) q4 ((eval_other _ 33 29 _ (by decide)).trans ((eval_other _ 32 29 _ (by decide)).trans ((eval_other _ 31 29 _ (by decide)).trans (eval_same _ _ _ (by simp only [put_size, hsz]; decide))))) (by rw [← crashD_at d keep k]; exact h'.1.c1 k hlt)) ?_
            refine mb_enter po8 d8 (wanted_of gd8) (run_callf1 q8 rfl ((eval_other _ 30 33 _ (by decide)).trans (eval_same _ _ _ (by simp only [put_size, hsz]; decide))) Tryd.func56 (by kernel_rfl) _) (dkVol_any S1 g k vs1 (crashD d keep k) _ HE8.out.1 hlt (by rw [crashD_at]; exact HD.out) (by rw [crashD_at]; have := HSK.out; omega)) ?_
            rintro e w3 ⟨rfl, hb⟩
            have HE9 : Hid (DkV S1 w3 g vs1 (crashD d keep k) ∧ Stays S w w3 ∧ (∀ j, S1 j → S j ∨ (w.heap.size ≤ j ∧ j < w3.heap.size)) ∧ LiesZO S1 w3 (some ⟨b, off + 1, none⟩) (crashTo d.files keep k).2.tail) := show _ ∧ _ ∧ _ ∧ _ from ⟨HE8.out.1.below hb, HE8.out.2.1.trans (Below.stays (F := fun _ => False) hb) (fun _ f _ => f.elim), fun j s => (HE8.out.2.2.1 j s).imp id (fun h => ⟨h.1, Nat.lt_of_lt_of_le h.2 hb.size⟩), HE8.out.2.2.2.stay (Below.stays (F := S1) hb) (fun _ s => Or.inl s)⟩
            clear hb
            rw [crashD_at, HVL.out]
            refine ⟨_, rfl, ⟨trivial, HE9.out⟩, ?_⟩
            obtain ⟨mm, hmm⟩ : ∃ mm : Nat, mm = (min (max x 0) (vl : Int)).toNat := ⟨_, rfl⟩
            refine met_free po9 d9 (wanted_of gd9) (fun w' h' => run_minI (c := (mm : Int)) q9 ((eval_other _ 34 32 _ (by decide)).trans ((eval_other _ 30 32 _ (by decide)).trans ((eval_other _ 33 32 _ (by decide)).trans (eval_same _ _ _ (by simp only [put_size, hsz]; decide))))) (eval_same _ _ _ (by simp only [put_size, hsz]; decide)) (by omega) w') ?_
            refine met_op po10 d10 (wanted_of gd10) (run_addNN q10 ((eval_other _ 35 30 _ (by decide)).trans ((eval_other _ 34 30 _ (by decide)).trans (eval_same _ _ _ (by simp only [put_size, hsz]; decide)))) (eval_same _ _ _ (by simp only [put_size, hsz]; decide)) (by have := HSK.out; have := HD.out; have := HVL.out; omega) w3) trivial ?_
            have hcutc := dkCutF_any S1 g k ((d.files k).dur + mm) vs1 (crashD d keep k) w3 HE9.out.1 hlt (by rw [crashD_at]; have := HVL.out; have := HD.out; omega) (by rw [crashD_at]; have := HSK.out; omega)
            refine m_enter po11 d11 (wanted_of gd11) (run_callf2 q11 rfl ((eval_other _ 36 26 _ (by decide)).trans ((eval_other _ 35 26 _ (by decide)).trans ((eval_other _ 34 26 _ (by decide)).trans ((eval_other _ 30 26 _ (by decide)).trans ((eval_other _ 33 26 _ (by decide)).trans ((eval_other _ 32 26 _ (by decide)).trans ((eval_other _ 31 26 _ (by decide)).trans ((eval_other _ 29 26 _ (by decide)).trans ((eval_other _ 28 26 _ (by decide)).trans ((eval_other _ 27 26 _ (by decide)).trans (eval_same _ _ _ (by rw [hsz]; decide)))))))))))) (eval_same _ _ _ (by simp only [put_size, hsz]; decide)) Tryd.func57 (by kernel_rfl) _) hcutc ?_
            rintro e w4 ⟨rfl, hgo⟩
            have HR : Hid (CrW S g d keep (k + 1) (some ⟨b, off + 1, none⟩) w w4) := show CrW _ _ _ _ _ _ _ _ from CrW.cut HE9.out.2.2.1 HE9.out.2.1 HE9.out.2.2.2 HZ.out HHD.out (by rw [HVL.out]; exact hmm) hgo
            have HM3 : Hid (m - 1 = (crashTo d.files keep (k + 1)).2.length) := show _ = _ by rw [crash_cut d keep k HZ.out]; exact HM2.out
            clear hgo hcutc hmm HE9 HE8
            refine ⟨_, rfl, trivial, ?_⟩
            show NoPanic _ .normal _ _
            refine NoPanic.normal ?_
            rw [HAA.out]
            go_frame
            clear HAA
            clear HEb HH2b HH3b HH5 HZ HSK HVL HHD
            go_wp2_with fail
            go_roundw
            case rel => exact ⟨k + 1, m - 1, c' - 1, (some ⟨b, off + 1, none⟩), by omega, by go_num, rfl, HM3.out, Q9.out, HR.out⟩
            case measure => simp [intOf]; omega
    · obtain rfl : k = 33 := by omega
      have q1 : ¬ ((33 : Nat) : Int) < 33 := by omega
      have t8 := h1.thaw 68
      have t9 := h1.thaw 69
      have c8 := h1.down
      have c9 := h1.left
      have HE : Hid (DkGoV S g (d.crash keep) w ((wr.setCell ⟨g, 68, none⟩ (.bool false)).setCell ⟨g, 69, none⟩ (.int .i64 (-1)))) := show DkGoV _ _ _ _ _ from by
        have hg := h1.here
        refine ⟨S1, vs1, (h1.putDown false).putLeft (-1), fun j s => (h2 j s).imp id (fun h => ⟨h.1, by simpa using h.2⟩), ?_⟩
        have s2 := (stays_set wr g 68 (.bool false)).trans (stays_set _ g 69 (.int .i64 (-1))) (fun k e _ => e)
        exact h3.trans s2 (fun j e hj => (h2 j (e ▸ hg)).elim id (fun h => absurd h.1 (by omega)))
      clear h1 h2 h3 h4 hm HSM HLen HOK
      go_wp2_with fail
      go_end0
      exact ⟨rfl, HE.out.go HK.out HC.out⟩
end Go.Proofs.YtoidjapenompiaaDoor

/-
  The statement's example of layer 8; a disk of the call's own.
-/
namespace Go.Proofs.YtoidjapenompiaaDoor
open Go.RowKit Go.Proofs.ShaWords
/-- A disk whose blocks are all new since lo. -/
def DkIn (lo : Nat) (w : World) (g : Nat) (d : DiskM) : Prop := ∃ S, DkAt S w g d ∧ ∀ k, S k → lo ≤ k
theorem DkIn.below {lo : Nat} {w w' : World} {g : Nat} {d : DiskM} (h : DkIn lo w g d) (hb : Below w.heap.size w w') : DkIn lo w' g d := by
  obtain ⟨S, h1, h2⟩ := h
  exact ⟨S, h1.below hb, h2⟩
theorem DkGo.into {S : Nat → Prop} {lo g : Nat} {d : DiskM} {w w' : World} (h : DkGo S g d w w') (hS : ∀ k, S k → lo ≤ k) (hlo : lo ≤ w.heap.size) : DkIn lo w' g d ∧ Below lo w w' := by
  obtain ⟨S', h1, h2, h3⟩ := h
  exact ⟨⟨S', h1, fun k s => (h2 k s).elim (hS k) (fun h => by omega)⟩, h3.below hS hlo⟩
theorem DkIn.go {lo g : Nat} {d d' : DiskM} {w : World} {f : FuncId} {args : Array Value} {v : Ending} (h : DkIn lo w g d) (hlo : lo ≤ w.heap.size) (hc : ∀ S, DkAt S w g d → Calls Tryd.prog f args w fun e w' => e = v ∧ DkGo S g d' w w') :
    Calls Tryd.prog f args w fun e w' => e = v ∧ DkIn lo w' g d' ∧ Below lo w w' := by
  obtain ⟨S, h1, h2⟩ := h
  exact (hc S h1).mono fun e w' ⟨a, b⟩ => ⟨a, b.into h2 hlo⟩
theorem DkIn.ok {lo g : Nat} {d : DiskM} {w : World} (h : DkIn lo w g d) : d.Ok := by obtain ⟨_, h, _⟩ := h; exact h.2.1
theorem DkIn.read {lo g : Nat} {d : DiskM} {w : World} (h : DkIn lo w g d) (f : Int) : Calls Tryd.prog 15 #[.pointer (some ⟨g, 0, none⟩), .int .i64 f] w fun e w' => ∃ v, e = .returned v ∧ Own w.heap.size w' (d.read f) v ∧ Below w.heap.size w w' := by
  obtain ⟨S, h1, -⟩ := h
  exact dkRead_any S g d f w h1
theorem DkIn.used {lo g : Nat} {d : DiskM} {w : World} (h : DkIn lo w g d) : Calls Tryd.prog 59 #[.pointer (some ⟨g, 0, none⟩)] w fun e w' => e = .returned (.int .i64 (d.used : Int)) ∧ w = w' := by
  obtain ⟨S, ⟨⟨vs, h1⟩, h2, -⟩, -⟩ := h
  exact dkUsedV S g vs d w h1 (Nat.le_trans h2.used h2.room)
theorem DkIn.count {lo g : Nat} {d : DiskM} {w : World} (h : DkIn lo w g d) : Calls Tryd.prog 19 #[.pointer (some ⟨g, 0, none⟩)] w fun e w' => e = .returned (.int .i64 (d.count : Int)) ∧ w = w' := by
  obtain ⟨S, h1, -⟩ := h
  exact dkCount_any S g d w h1
theorem DkIn.down {lo g : Nat} {d : DiskM} {w : World} (h : DkIn lo w g d) : Calls Tryd.prog 17 #[.pointer (some ⟨g, 0, none⟩)] w fun e w' => e = .returned (.bool d.down) ∧ w = w' := by
  obtain ⟨S, h1, -⟩ := h
  exact dkDown_any S g d w h1
theorem dkNewI (lo : Nat) (room : Int) (w : World) (hlo : lo ≤ w.heap.size) : Calls Tryd.prog 7 #[.int .i64 room] w fun e w' => ∃ g, e = .returned (.pointer (some ⟨g, 0, none⟩)) ∧ DkIn lo w' g (DiskM.new room) ∧ Below w.heap.size w w' :=
  (dkNew_any room w).mono fun _ _ ⟨g, h1, h2, h3, h4⟩ => ⟨g, h1, ⟨_, h3, fun k e => by omega⟩, h4⟩
/-- A crash whose numbers were just laid. -/
theorem DkIn.crash {lo g n c b : Nat} {d : DiskM} {keep : List Int} {w w' : World} {cs : Array Value} {t : TypeId} (h : DkIn lo w g d) (hlo : lo ≤ w.heap.size) (hb : Below w.heap.size w w') (hg : w.heap.size ≤ b) (hcs : w'.heap[b]? = some (.cells cs t (0, 0))) (hk : cs = (intsV keep).toArray) (hn : keep.length = n) (hc : n ≤ c) :
    Calls Tryd.prog 28 #[.pointer (some ⟨g, 0, none⟩), .slice (some ⟨b, 0, none⟩) n c] w' fun e w'' => e = .returned (.tuple #[]) ∧ DkIn lo w'' g (d.crash keep) ∧ Below lo w' w'' := by
  obtain ⟨S, h1, h2⟩ := h
  have hd := h1.1
  obtain ⟨vs, hv⟩ := hd
  refine (dkCrash_any S g d keep n c (some ⟨b, 0, none⟩) w' (h1.below hb) hn hc (Or.inr ⟨b, 0, rfl, fun s => by have := hv.dom b s; omega, (Array.getElem?_eq_some_iff.1 hcs).1, fun j v hv' => ?_⟩)).mono fun e w'' ⟨a, b⟩ => ⟨a, b.into h2 (Nat.le_trans hlo hb.size)⟩
  rw [Nat.zero_add, cell_of_row w' b j _ _ _ hcs, hk]
  simpa using hv'
end Go.Proofs.YtoidjapenompiaaDoor

/-
  A disk of the call's own, and blocks that its calls leave alone.
-/
namespace Go.Proofs.YtoidjapenompiaaDoor
open Go.RowKit Go.Proofs.ShaWords
/-- A disk whose blocks are all new since lo, and blocks of others with what they hold. -/
def DkL (lo : Nat) (w : World) (g : Nat) (d : DiskM) (L : List (Nat × Obj)) : Prop := ∃ S, DkAt S w g d ∧ (∀ k, S k → lo ≤ k) ∧ ∀ x ∈ L, ¬ S x.1 ∧ w.heap[x.1]? = some x.2
section
variable {lo g : Nat} {d d' : DiskM} {w w' : World} {L : List (Nat × Obj)}
theorem DkL.below (h : DkL lo w g d L) (hb : Below w.heap.size w w') : DkL lo w' g d L := by
  obtain ⟨S, h1, h2, h3⟩ := h
  exact ⟨S, h1.below hb, h2, fun x hx => ⟨(h3 x hx).1, (hb.block _ (Array.getElem?_eq_some_iff.1 (h3 x hx).2).1).trans (h3 x hx).2⟩⟩
theorem DkL.of (h : DkIn lo w g d) : DkL lo w g d [] := by
  obtain ⟨S, h1, h2⟩ := h
  exact ⟨S, h1, h2, fun x hx => absurd hx List.not_mem_nil⟩
theorem DkL.fewer {L' : List (Nat × Obj)} (h : DkL lo w g d L) (hL : ∀ x ∈ L', x ∈ L) : DkL lo w g d L' := by
  obtain ⟨S, h1, h2, h3⟩ := h
  exact ⟨S, h1, h2, fun x hx => h3 x (hL x hx)⟩
theorem DkL.add (h : DkL lo w g d L) (hb : Below w.heap.size w w') {k : Nat} {o : Obj} (hk : w.heap.size ≤ k) (ho : w'.heap[k]? = some o) : DkL lo w' g d ((k, o) :: L) := by
  have h' := h
  obtain ⟨S, h1, h2, h3⟩ := h
  obtain ⟨⟨vs, hv⟩, -⟩ := h1
  obtain ⟨S', h1', h2', h3'⟩ := h'.below hb
  refine ⟨S, (by obtain ⟨S, h1, h2, h3⟩ := h'; exact ⟨⟨vs, hv.keep (F := fun _ => False) (Below.stays hb) (fun _ f => f.elim)⟩, h1.2⟩), h2, fun x hx => ?_⟩
  rcases List.mem_cons.1 hx with rfl | hx
  · exact ⟨fun s => by have := hv.dom k s; omega, ho⟩
  · exact ⟨(h3 x hx).1, (hb.block _ (Array.getElem?_eq_some_iff.1 (h3 x hx).2).1).trans (h3 x hx).2⟩
/-- A block of the list is written to. -/
theorem DkL.set (h : DkL lo w g d L) {k : Nat} {o o' : Obj} (hk : (k, o) ∈ L) (hs : Stays (fun x => x = k) w w') (ho : w'.heap[k]? = some o') {L' : List (Nat × Obj)} (hL : ∀ x ∈ L', x = (k, o') ∨ x ∈ L ∧ x.1 ≠ k) : DkL lo w' g d L' := by
  obtain ⟨S, h1, h2, h3⟩ := h
  refine ⟨S, h1.keep hs (fun x e => e ▸ (h3 _ hk).1), h2, fun x hx => ?_⟩
  rcases hL x hx with rfl | ⟨hx, hne⟩
  · exact ⟨(h3 _ hk).1, ho⟩
  · exact ⟨(h3 x hx).1, (hs.block _ (Array.getElem?_eq_some_iff.1 (h3 x hx).2).1 hne).trans (h3 x hx).2⟩
theorem DkL.at (h : DkL lo w g d L) {k : Nat} {o : Obj} (hk : (k, o) ∈ L) : w.heap[k]? = some o := by
  obtain ⟨S, -, -, h3⟩ := h
  exact (h3 _ hk).2
theorem DkGo.intoL {S : Nat → Prop} (h : DkGo S g d' w w') (hS : ∀ k, S k → lo ≤ k) (hlo : lo ≤ w.heap.size) (h3 : ∀ x ∈ L, ¬ S x.1 ∧ w.heap[x.1]? = some x.2) : DkL lo w' g d' L ∧ Below lo w w' := by
  obtain ⟨S', h1, h2, hs⟩ := h
  refine ⟨⟨S', h1, fun k s => (h2 k s).elim (hS k) (fun h => by omega), fun x hx => ⟨fun s => ?_, ?_⟩⟩, hs.below hS hlo⟩
  · have hlt := (Array.getElem?_eq_some_iff.1 (h3 x hx).2).1
    exact (h2 _ s).elim (h3 x hx).1 (fun h => by omega)
  · exact (hs.block _ (Array.getElem?_eq_some_iff.1 (h3 x hx).2).1 (h3 x hx).1).trans (h3 x hx).2
theorem DkL.go {f : FuncId} {args : Array Value} {v : Ending} (h : DkL lo w g d L) (hlo : lo ≤ w.heap.size) (hc : ∀ S, DkAt S w g d → Calls Tryd.prog f args w fun e w' => e = v ∧ DkGo S g d' w w') :
    Calls Tryd.prog f args w fun e w' => e = v ∧ DkL lo w' g d' L ∧ Below lo w w' := by
  obtain ⟨S, h1, h2, h3⟩ := h
  exact (hc S h1).mono fun e w' ⟨a, b⟩ => ⟨a, b.intoL h2 hlo h3⟩
theorem DkL.ok (h : DkL lo w g d L) : d.Ok := by obtain ⟨_, h, _⟩ := h; exact h.2.1
theorem DkL.read (h : DkL lo w g d L) (f : Int) : Calls Tryd.prog 15 #[.pointer (some ⟨g, 0, none⟩), .int .i64 f] w fun e w' => ∃ v, e = .returned v ∧ Own w.heap.size w' (d.read f) v ∧ Below w.heap.size w w' := by
  obtain ⟨S, h1, -⟩ := h
  exact dkRead_any S g d f w h1
theorem DkL.used (h : DkL lo w g d L) : Calls Tryd.prog 59 #[.pointer (some ⟨g, 0, none⟩)] w fun e w' => e = .returned (.int .i64 (d.used : Int)) ∧ w = w' := by
  obtain ⟨S, ⟨⟨vs, h1⟩, h2, -⟩, -⟩ := h
  exact dkUsedV S g vs d w h1 (Nat.le_trans h2.used h2.room)
theorem DkL.count (h : DkL lo w g d L) : Calls Tryd.prog 19 #[.pointer (some ⟨g, 0, none⟩)] w fun e w' => e = .returned (.int .i64 (d.count : Int)) ∧ w = w' := by
  obtain ⟨S, h1, -⟩ := h
  exact dkCount_any S g d w h1
theorem DkL.down (h : DkL lo w g d L) : Calls Tryd.prog 17 #[.pointer (some ⟨g, 0, none⟩)] w fun e w' => e = .returned (.bool d.down) ∧ w = w' := by
  obtain ⟨S, h1, -⟩ := h
  exact dkDown_any S g d w h1
/-- A crash whose numbers were just laid; one whose numbers came in. -/
theorem DkL.crash {n c b : Nat} {keep : List Int} {cs : Array Value} {t : TypeId} (h : DkL lo w g d L) (hlo : lo ≤ w.heap.size) (hb : Below w.heap.size w w') (hg : w.heap.size ≤ b) (hcs : w'.heap[b]? = some (.cells cs t (0, 0))) (hk : cs = (intsV keep).toArray) (hn : keep.length = n) (hc : n ≤ c) :
    Calls Tryd.prog 28 #[.pointer (some ⟨g, 0, none⟩), .slice (some ⟨b, 0, none⟩) n c] w' fun e w'' => e = .returned (.tuple #[]) ∧ DkL lo w'' g (d.crash keep) L ∧ Below lo w' w'' := by
  have h' := h.below hb
  obtain ⟨S, h1, h2, h3⟩ := h
  have hd := h1.1
  obtain ⟨vs, hv⟩ := hd
  refine (dkCrash_any S g d keep n c (some ⟨b, 0, none⟩) w' (h1.below hb) hn hc (Or.inr ⟨b, 0, rfl, fun s => by have := hv.dom b s; omega, (Array.getElem?_eq_some_iff.1 hcs).1, fun j v hv' => ?_⟩)).mono fun e w'' ⟨a, b⟩ => ⟨a, b.intoL h2 (Nat.le_trans hlo hb.size) (fun x hx => ⟨(h3 x hx).1, (hb.block _ (Array.getElem?_eq_some_iff.1 (h3 x hx).2).1).trans (h3 x hx).2⟩)⟩
  rw [Nat.zero_add, cell_of_row w' b j _ _ _ hcs, hk]
  simpa using hv'
end
/-- A slice that was just made: its block, for the list. -/
theorem DkL.own {lo g : Nat} {d : DiskM} {w w' : World} {L : List (Nat × Obj)} (h : DkL lo w g d L) (hb : Below w.heap.size w w') {l : List (BitVec 8)} {v : Value} (ho : Own w.heap.size w' l v) :
    ∃ L' : List (Nat × Obj), DkL lo w' g d (L' ++ L) ∧ ∃ q c, v = .slice q l.length c ∧ l.length ≤ c ∧ ∀ w'' : World, (∀ x ∈ L', w''.heap[x.1]? = some x.2) → Lies w'' q l := by
  obtain ⟨q, c, rfl, h1, -, hl⟩ := ho.lies
  rcases ho.2 with ⟨he, h0⟩ | ⟨b, cap, cur, he, hg, hh, -⟩
  · have hl0 : l = [] := List.length_eq_zero_iff.1 h0
    exact ⟨[], h.below hb, q, c, rfl, h1, fun _ _ => Or.inl hl0⟩
  · refine ⟨[(b, .cells cur 5 (0, 0))], h.add hb hg hh, q, c, rfl, h1, fun w'' hw => ?_⟩
    cases he
    have hw0 := hw _ List.mem_cons_self
    rcases hl with hl | ⟨b2, off, he2, hr⟩
    · exact Or.inl hl
    · cases he2
      exact Or.inr ⟨b, 0, rfl, range_of_block hr (hw0.trans hh.symm)⟩
theorem DkL.all {lo g : Nat} {d : DiskM} {w : World} {L : List (Nat × Obj)} (h : DkL lo w g d L) : ∀ x ∈ L, w.heap[x.1]? = some x.2 := by
  obtain ⟨S, -, -, h3⟩ := h
  exact fun x hx => (h3 x hx).2
end Go.Proofs.YtoidjapenompiaaDoor

/-
  What came in, opened: slices of structs of any kind; slices of bytes and of whole numbers as fields.
-/
namespace Go.Proofs.YtoidjapenompiaaDoor
open Go.ChangeShapes Go.WideShapes Go.ChangeAt Go.RowKit Go.Proofs.ShaWords Go.Deep
/-- Things of N cells each, one behind the other. -/
structure RowOf {α : Type} (N : Nat) (cells : α → List Value) (W : World) (a : Option Addr) (os : List α) : Prop where
  at' : os = [] ∨ ∃ b off, a = some ⟨b, off, none⟩ ∧ ∀ k (h : k < os.length), W.rangeAt b (off + k * N) (cells os[k])
theorem RowOf.below {α : Type} {N : Nat} {cells : α → List Value} {w w' : World} {a : Option Addr} {os : List α} (h : RowOf N cells w a os) (hb : Below w.heap.size w w') : RowOf N cells w' a os := by
  refine ⟨?_⟩
  rcases h.at' with h0 | ⟨b, off, h1, h2⟩
  · exact Or.inl h0
  · exact Or.inr ⟨b, off, h1, fun k hk => range_keep (h2 k hk) hb⟩
end Go.Proofs.YtoidjapenompiaaDoor

/-
  What comes in at layer 8, opened.
-/
namespace Go.Proofs.YtoidjapenompiaaDoor
open Go.ChangeShapes Go.WideShapes Go.ChangeAt Go.RowKit Go.Proofs.ShaWords Go.Deep
theorem wf64k {n : Int} (h : (Lit.int .i64 n).wf = true) : -9223372036854775808 ≤ n ∧ n ≤ 9223372036854775807 := by
  have := bounds_i64 h
  omega
/-- DiskOvers' argument. -/
structure Laid8 where
  p1 : Option Addr
  c1 : Nat
  row : List (BitVec 8)
  p2 : Option Addr
  c2 : Nat
  over : List (BitVec 8)
  p3 : Option Addr
  c3 : Nat
  loose : List (BitVec 8)
  at_ : Int
def Laid8.cells (x : Laid8) : List Value := [.slice x.p1 x.row.length x.c1, .slice x.p2 x.over.length x.c2, .slice x.p3 x.loose.length x.c3, .int .i64 x.at_]
structure Laid8.Ok (W : World) (x : Laid8) : Prop where
  cap1 : x.row.length ≤ x.c1
  l1 : Lies W x.p1 x.row
  cap2 : x.over.length ≤ x.c2
  l2 : Lies W x.p2 x.over
  cap3 : x.loose.length ≤ x.c3
  l3 : Lies W x.p3 x.loose
  atw : (Lit.int .i64 x.at_).wf = true
/-- Bytes for a file. -/
structure Put8 where
  file : Int
  p : Option Addr
  c : Nat
  b : List (BitVec 8)
instance : Inhabited Put8 := ⟨⟨0, none, 0, []⟩⟩
def Put8.cells (x : Put8) : List Value := [.int .i64 x.file, .slice x.p x.b.length x.c]
structure Put8.Ok (W : World) (x : Put8) : Prop where
  filew : (Lit.int .i64 x.file).wf = true
  cap : x.b.length ≤ x.c
  lies : Lies W x.p x.b
/-- DiskLasts' argument. -/
structure Days8 where
  room : Int
  p1 : Option Addr
  c1 : Nat
  first : List Put8
  p2 : Option Addr
  c2 : Nat
  second : List Put8
  p3 : Option Addr
  c3 : Nat
  keep : List Int
def Days8.cells (x : Days8) : List Value := [.int .i64 x.room, .slice x.p1 x.first.length x.c1, .slice x.p2 x.second.length x.c2, .slice x.p3 x.keep.length x.c3]
structure Days8.Ok (W : World) (x : Days8) : Prop where
  roomw : (Lit.int .i64 x.room).wf = true
  r1 : RowOf 2 Put8.cells W x.p1 x.first
  o1 : ∀ o ∈ x.first, o.Ok W
  r2 : RowOf 2 Put8.cells W x.p2 x.second
  o2 : ∀ o ∈ x.second, o.Ok W
  cap3 : x.keep.length ≤ x.c3
  l3 : LiesZ W x.p3 x.keep
/-- A slice of slices of bytes. -/
structure Piece8 where
  p : Option Addr
  c : Nat
  b : List (BitVec 8)
instance : Inhabited Piece8 := ⟨⟨none, 0, []⟩⟩
def Piece8.cells (x : Piece8) : List Value := [.slice x.p x.b.length x.c]
structure Piece8.Ok (W : World) (x : Piece8) : Prop where
  cap : x.b.length ≤ x.c
  lies : Lies W x.p x.b
/-- A call that is to be made. -/
structure Op8 where
  kind : Int
  file : Int
  n : Int
  p : Option Addr
  c : Nat
  b : List (BitVec 8)
  kp : Option Addr
  kc : Nat
  keep : List Int
instance : Inhabited Op8 := ⟨⟨0, 0, 0, none, 0, [], none, 0, []⟩⟩
def Op8.cells (x : Op8) : List Value := [.int .i64 x.kind, .int .i64 x.file, .int .i64 x.n, .slice x.p x.b.length x.c, .slice x.kp x.keep.length x.kc]
structure Op8.Ok (W : World) (x : Op8) : Prop where
  kindw : (Lit.int .i64 x.kind).wf = true
  filew : (Lit.int .i64 x.file).wf = true
  nw : (Lit.int .i64 x.n).wf = true
  cap : x.b.length ≤ x.c
  lies : Lies W x.p x.b
  kcap : x.keep.length ≤ x.kc
  klies : LiesZ W x.kp x.keep
end Go.Proofs.YtoidjapenompiaaDoor

/-
  What came in, opened, with its sizes: slices of structs of any kind; a field that is a slice of bytes.
-/
namespace Go.Proofs.YtoidjapenompiaaDoor
open Go.ChangeShapes Go.WideShapes Go.ChangeAt Go.RowKit Go.Proofs.ShaWords Go.Deep
theorem weights_in_all {H : Type} {P : Program} {e : TypeId} : ∀ {l : List (DataW H)} {d : DataW H}, d ∈ l → ∀ n ∈ d.weights P e, n ∈ DataW.weightsAll P e l
  | x :: l, d, hd, n, hn => by
    simp only [DataW.weightsAll, List.mem_append]
    rcases List.mem_cons.1 hd with rfl | hd
    · exact Or.inl hn
    · exact Or.inr (weights_in_all hd n hn)
set_option maxRecDepth 100000 in
theorem open_structsW {H : Type} {enc : TypeId × Value → H} {W : World} {fuel : Nat} {a : Option Addr} {len cap : Nat} {x : DataW H × List MemPlace} {ts te : TypeId} {N : Nat} {α : Type} [Inhabited α] (cells : α → List Value) (Ok : α → Prop)
    (hts : Tryd.prog.underlying ts = some (.slice te)) (hN : Tryd.prog.cellsOf te = N) (h0N : 0 < N) (hbt : 1 ≤ Tryd.prog.bytesOf te) (hc : ∀ o, Ok o → (cells o).length = N)
    (hopen : ∀ n cs y, DataW.trod enc Tryd.prog W 0 (fun _ => true) true n te cs = some y → (∀ k ∈ y.1.weights Tryd.prog te, k ≤ reachBytes) → ∃ o, cs = cells o ∧ Ok o)
    (hsz : ∀ n ∈ x.1.weights Tryd.prog ts, n ≤ reachBytes)
    (h : DataW.trod enc Tryd.prog W 0 (fun _ => true) true fuel ts (Value.cells (.slice a len cap)).toList = some x) :
    ∃ os : List α, os.length = len ∧ len ≤ cap ∧ len ≤ 140737488351232 ∧ RowOf N cells W a os ∧ ∀ o ∈ os, Ok o := by
  rcases open_slice hts h with ⟨hcs, _⟩ | ⟨y, l, c, m, n, D, Pl, hcs, _, hl, hm, hmm, hxx, hx⟩
  · simp [Value.cells] at hcs
    obtain ⟨rfl, rfl, rfl⟩ := hcs
    exact ⟨[], rfl, Nat.le_refl _, by omega, ⟨.inl rfl⟩, by simp⟩
  · simp [Value.cells] at hcs
    obtain ⟨rfl, rfl, rfl⟩ := hcs
    simp only [if_true] at hmm
    rw [hN] at hx
    have hx1 := congrArg Prod.fst hxx
    dsimp only at hx1
    rw [hx1] at hsz
    have hlen : len ≤ 140737488351232 := by
      have h1 := hsz ((len + (m - len)) * Tryd.prog.bytesOf te) (by simp [DataW.weights, hts])
      have h2 : len * 1 ≤ (len + (m - len)) * Tryd.prog.bytesOf te := Nat.mul_le_mul (by omega) hbt
      unfold reachBytes at h1
      omega
    obtain ⟨O, hO⟩ := choose_lt (α := α) (n := len) (p := fun i o => W.cells? 0 (y.add (i * N)) N = some (cells o) ∧ Ok o) (fun i hi => by
      obtain ⟨cs', h1, h2⟩ := hx i (by omega)
      obtain ⟨o, rfl, ho⟩ := hopen _ _ _ h2 (fun k hk => hsz k (by
        simp only [DataW.weights, hts, List.mem_cons, List.mem_append]
        exact .inr (.inl (weights_in_all (List.mem_map.2 ⟨i, List.mem_range.2 hi, rfl⟩) k hk))))
      exact ⟨o, h1, ho⟩)
    refine ⟨(List.range len).map O, by simp, hl, hlen, ⟨?_⟩, fun o ho => ?_⟩
    · by_cases h0 : len = 0
      · left; subst h0; rfl
      · right
        have hl0 := hc _ (hO 0 (by omega)).2
        obtain ⟨b, off, hb⟩ : ∃ b off, y = ⟨b, off, none⟩ := by
          obtain ⟨_, hlen7, hc7⟩ := World.cells?_some (hO 0 (by omega)).1
          have h1 := hc7 0 (by omega)
          obtain ⟨b, off, s⟩ := y
          obtain ⟨v, hv⟩ : ∃ v, (cells (O 0))[0]? = some v := ⟨(cells (O 0))[0]'(by omega), List.getElem?_eq_getElem (by omega)⟩
          rw [hv] at h1
          have h2 : W.cell? (⟨b, off, s⟩ : Addr) = some v := by simpa [Addr.add] using h1
          have hspot : s = none := World.cell?_spot h2
          exact ⟨b, off, by rw [hspot]⟩
        subst hb
        refine ⟨b, off, rfl, fun k hk j v hv => ?_⟩
        simp at hk
        obtain ⟨_, hlen7, hc7⟩ := World.cells?_some (hO k hk).1
        have hv' : (cells (O k))[j]? = some v := by simpa using hv
        have hj : j < N := by have := (List.getElem?_eq_some_iff.1 hv').1; have := hc _ (hO k hk).2; omega
        have h1 := hc7 j hj
        rw [Addr.add_mid, Addr.add_mid, hv'] at h1
        exact h1
    · obtain ⟨i, hi, rfl⟩ := List.mem_map.1 ho
      exact (hO i (List.mem_range.1 hi)).2
set_option maxRecDepth 100000 in
/-- A field that is a slice of bytes, with its size. -/
theorem open_bytesFW {H : Type} {enc : TypeId × Value → H} {W : World} {fuel : Nat} {cs : List Value} {x : DataW H × List MemPlace} (h : DataW.trod enc Tryd.prog W 0 (fun _ => true) true fuel 37 cs = some x)
    (hsz : ∀ n ∈ x.1.weights Tryd.prog 37, n ≤ reachBytes) :
    ∃ (a : Option Addr) (cap : Nat) (bs : List (BitVec 8)), cs = [.slice a bs.length cap] ∧ bs.length ≤ cap ∧ Lies W a bs ∧ bs.length ≤ 140737488351232 := by
  obtain ⟨a, len, cap, rfl, hl⟩ : ∃ a len cap, cs = [.slice a len cap] ∧ len ≤ 140737488351232 := by
    have b5 : Tryd.prog.bytesOf 5 = 1 := by kernel_rfl
    rcases open_ints Tryd.underlying37 Tryd.underlying5 (by kernel_rfl) h with ⟨hcs, _⟩ | ⟨y, l, c, zs, hcs, _, hl, hm, hz, hx, _⟩
    · exact ⟨_, _, _, hcs, by omega⟩
    · refine ⟨_, _, _, hcs, ?_⟩
      have hx1 := congrArg Prod.fst hx
      dsimp only at hx1
      rw [hx1] at hsz
      have h1 := hsz (((lits (H := H) .u8 (zs.take l)).length + (lits (H := H) .u8 (zs.drop l)).length) * 1) (by simp [DataW.weights, Tryd.underlying37, b5])
      simp [lits] at h1
      simp only [if_true] at hz
      unfold reachBytes at h1
      omega
  obtain ⟨bs, hl', h1, h2, -⟩ := open_bytes (a := a) (len := len) (cap := cap) h
  exact ⟨a, cap, bs, by rw [hl'], by omega, h2, by omega⟩
end Go.Proofs.YtoidjapenompiaaDoor
