/-
  DiskStrikes, for any rows and any number: the law returns true, and what came in reads afterwards as it read before. Without any condition.
-/
import Derived.Test.YtadlpidhemjkgaaPkA
import Derived.Test.YtadlpidhemjkgaaPkZ
import Derived.BigQuiet
/- The kit's Pick: some number below its bound. -/
namespace Go.Proofs.Ytadlpidhemjkgaa
open Go.RowKit Go.Proofs.ShaWords

theorem tmod_bounds (v n : Int) (h : 1 ≤ n) : -n < v.tmod n ∧ v.tmod n < n := by
  have h1 := Int.tmod_lt_of_pos v (show 0 < n by omega)
  have h2 := Int.tmod_lt_of_pos (-v) (show 0 < n by omega)
  rw [Int.neg_tmod] at h2
  omega
def SomeIn (n : Int) (w : World) (e : Ending) (w' : World) : Prop := ∃ r : Nat, (r : Int) < n ∧ e = .returned (.int .i64 (r : Int)) ∧ w = w'
set_option maxHeartbeats 400000 in
theorem pick_any (v n : Int) (w : World) (h1 : 1 ≤ n) (h2 : n ≤ 1000000) : Calls Try.prog 27 #[.int .i64 v, .int .i64 n] w (SomeIn n w) := by
  have hb := tmod_bounds v n h1
  obtain ⟨hb1, hb2⟩ := hb
  have hn0 : ¬ n = 0 := by omega
  by_cases hneg : v.tmod n < 0
  · go_enter Try.func27, Try.ntmps27
    go_wp2_with fail
    go_ret
    exact ⟨(v.tmod n + n).toNat, by omega, by
      have : ((v.tmod n + n).toNat : Int) = v.tmod n + n := by omega
      rw [this]; rfl, rfl⟩
  · go_enter Try.func27, Try.ntmps27
    go_wp2_with fail
    go_ret
    exact ⟨(v.tmod n).toNat, by omega, by
      have : ((v.tmod n).toNat : Int) = v.tmod n := by omega
      rw [this]; rfl, rfl⟩

end Go.Proofs.Ytadlpidhemjkgaa

/-
  DiskStrikes' walk.
-/
namespace Go.Proofs.Ytadlpidhemjkgaa
open Go.RowKit Go.Proofs.ShaWords
section
variable {ρ : Operand → Value} {o : Oper} {x y : Operand}
theorem run_ixRow8 {b off n c k : Nat} (ho : o.op = .indexAddr 66 x y) (hx : ρ x = .slice (some ⟨b, off, none⟩) n c) (hy : ρ y = .int .i64 (k : Int)) (hk : k < n) (w : World) :
    (execOp ρ o).run Try.prog w = .ok (.value (.pointer (some ⟨b, off + k, none⟩))) w := by
  obtain ⟨dst, op, ty', pos, after, guard⟩ := o
  simp only at ho
  subst ho
  go_simp
theorem run_loadRow8 {a : Addr} {p : Option Addr} {n c : Nat} (ho : o.op = .load 23 x) (hx : ρ x = .pointer (some a)) {w : World} (hc : w.cell? a = some (.slice p n c)) : (execOp ρ o).run Try.prog w = .ok (.value (.slice p n c)) w := by
  obtain ⟨dst, op, ty', pos, after, guard⟩ := o
  simp only at ho
  subst ho
  go_simp
theorem run_to8 {p : Option Addr} {n cp k : Nat} (ho : o.op = .slice 23 x none (some y) none) (hk : k ≤ cp) (hx : ρ x = .slice p n cp) (hy : ρ y = .int .i64 (k : Int)) (w : World) :
    (execOp ρ o).run Try.prog w = .ok (.value (.slice p k cp)) w := by
  obtain ⟨dst, op, ty', pos, after, guard⟩ := o
  simp only at ho
  subst ho
  have h0 : (0 : Int) ≤ (k : Int) := by omega
  have h1 : (k : Int) ≤ (cp : Int) := by omega
  cases p <;> go_simp
end
theorem stepA8 {lo ga gb r k mm c : Nat} {p : Option Addr} {os : List Piece8} {w : World} (h : Dk2 lo w ga (dkA os r k) gb (dkB os r k)) (hlo : lo ≤ w.heap.size) (hk : k < os.length) (h40 : os.length ≤ 40) (hm : (os[k].b.take 200).length = mm) (hl : Lies w p (os[k].b.take 200)) :
    Calls Try.prog 36 #[.pointer (some ⟨ga, 0, none⟩), .int .i64 3, .slice p mm c] w fun e w' => e = .returned (.int .i64 (if k < r then 0 else 9)) ∧ Dk2 lo w' ga (dkA os r (k + 1)) gb (dkB os r k) ∧ Below lo w w' := by
  have hc : (dkA os r k).count < 1000000000 := by show min k (r + 1) < _; omega
  have h2 : mm < 140737488000000 := by rw [← hm, List.length_take]; omega
  have h1 := Dk2.go h hlo (fun S h => dkWrite_any S ga (dkA os r k) 3 (os[k].b.take 200) mm c p w h hc hm h2 hl)
  rw [dkA_step os r k hk h40] at h1
  exact h1
theorem stepB8 {lo ga gb r k mm c : Nat} {p : Option Addr} {os : List Piece8} {w : World} (h : Dk2 lo w ga (dkA os r (k + 1)) gb (dkB os r k)) (hlo : lo ≤ w.heap.size) (hk : k < os.length) (h40 : os.length ≤ 40) (hkr : k ≤ r) (hm : (os[k].b.take 200).length = mm) (hl : Lies w p (os[k].b.take 200)) :
    Calls Try.prog 36 #[.pointer (some ⟨gb, 0, none⟩), .int .i64 3, .slice p mm c] w fun e w' => e = .returned (.int .i64 0) ∧ Dk2 lo w' ga (dkA os r (k + 1)) gb (dkB os r (k + 1)) ∧ Below lo w w' := by
  have hc : (dkB os r k).count < 1000000000 := by show min k (r + 1) < _; omega
  have h2 : mm < 140737488000000 := by rw [← hm, List.length_take]; omega
  have h1 := Dk2.go h.symm hlo (fun S h => dkWrite_any S gb (dkB os r k) 3 (os[k].b.take 200) mm c p w h hc hm h2 hl)
  rw [dkB_step os r k hk h40 hkr] at h1
  exact h1.mono fun e w' ⟨a, b, d⟩ => ⟨a, b.symm, d⟩
theorem downs8 {lo ga gb : Nat} {d db : DiskM} {w : World} (h : Dk2 lo w ga d gb db) (hlo : lo ≤ w.heap.size) (hd : d.down = true) (hc : d.count < 1000000000) :
    (Calls Try.prog 29 #[.pointer (some ⟨ga, 0, none⟩), .int .i64 3] w fun e w' => e = .returned (.int .i64 9) ∧ Dk2 lo w' ga d gb db ∧ Below lo w w') ∧
    (Calls Try.prog 38 #[.pointer (some ⟨ga, 0, none⟩), .int .i64 3, .int .i64 0] w fun e w' => e = .returned (.int .i64 9) ∧ Dk2 lo w' ga d gb db ∧ Below lo w w') ∧
    (Calls Try.prog 39 #[.pointer (some ⟨ga, 0, none⟩), .int .i64 3, .int .i64 0, .slice none 0 0] w fun e w' => e = .returned (.int .i64 9) ∧ Dk2 lo w' ga d gb db ∧ Below lo w w') ∧
    (Calls Try.prog 36 #[.pointer (some ⟨ga, 0, none⟩), .int .i64 99, .slice none 0 0] w fun e w' => e = .returned (.int .i64 9) ∧ Dk2 lo w' ga d gb db ∧ Below lo w w') := by
  obtain ⟨e1, e2, e3, e4⟩ := dk_down d hd
  refine ⟨?_, ?_, ?_, ?_⟩
  · have h1 := Dk2.go h hlo (fun S h => dkSync_any S ga d 3 w h hc)
    rw [e1] at h1; exact h1
  · have h1 := Dk2.go h hlo (fun S h => dkCut_any S ga d 3 0 w h hc)
    rw [e2] at h1; exact h1
  · have h1 := Dk2.go h hlo (fun S h => dkOver_any S ga d 3 0 0 0 none [] w h hc (by omega) rfl (Or.inl rfl))
    rw [e3] at h1; exact h1
  · have h1 := Dk2.go h hlo (fun S h => dkWrite_any S ga d 99 [] 0 0 none w h hc rfl (by omega) (Or.inl rfl))
    rw [e4] at h1; exact h1
theorem sync8 {lo ga gb : Nat} {d db : DiskM} {w : World} (h : Dk2 lo w ga d gb db) (hlo : lo ≤ w.heap.size) (hd : d.Calm) (hc : d.count < 1000000000) :
    Calls Try.prog 29 #[.pointer (some ⟨ga, 0, none⟩), .int .i64 3] w fun e w' => e = .returned (.int .i64 0) ∧ Below lo w w' := by
  have h1 := Dk2.go h hlo (fun S h => dkSync_any S ga d 3 w h hc)
  rw [hd.sync (by omega)] at h1
  exact h1.mono fun e w' ⟨a, _, b⟩ => ⟨a, b⟩
theorem arm8 {lo ga gb r : Nat} {os : List Piece8} {w : World} (h : Dk2 lo w ga (DiskM.new 16384) gb (DiskM.new 16384)) (hlo : lo ≤ w.heap.size) (hr : r ≤ 40) :
    Calls Try.prog 35 #[.pointer (some ⟨ga, 0, none⟩), .int .i64 (r : Int)] w fun e w' => e = .returned (.tuple #[]) ∧ Dk2 lo w' ga (dkA os r 0) gb (dkB os r 0) ∧ Below lo w w' := by
  have h1 := Dk2.go h hlo (fun S h => dkArm_any S ga (DiskM.new 16384) (r : Int) w h (by omega))
  rw [dkA_zero os r] at h1
  rw [dkB_zero os r] at h1
  exact h1
set_option maxRecDepth 100000 in
set_option maxHeartbeats 4000000 in
theorem diskStrikes_any (os : List Piece8) (n : Int) (len0 cap0 : Nat) (a0 : Option Addr) (W : World) (hlen : os.length = len0) (hcp : len0 ≤ cap0) (hT : RowOf 1 Piece8.cells W a0 os) (hO : ∀ o ∈ os, o.Ok W) :
    Calls Try.prog 6 #[.slice a0 len0 cap0, .int .i64 n] W fun e W' => e = .returned (.bool true) ∧ Below W.heap.size W W' := by
  have HT := Lib.hid hT; clear hT
  have HN := Lib.hid hlen; clear hlen
  have HO := Lib.hid hO; clear hO
  have HCP := Lib.hid hcp; clear hcp
  have HWK : Hid (∀ w' : World, Below W.heap.size W w' → Calls Try.prog 24 #[] w' fun e w'' => e = .returned (.bool true) ∧ Below W.heap.size W w'') := show ∀ _, _ from fun w' h => (known8_any w').mono fun e w'' ⟨h1, h2⟩ => ⟨h1, h.trans (h2.mono h.size)⟩
  go_enter Try.func6, Try.ntmps6
  go_wp2_with fail
  refine (dkNewI W.heap.size 16384 W (Nat.le_refl _)).mono ?_
  rintro e w1 ⟨ga, rfl, hi, hb⟩
  have HI1 := Lib.hid hi; have HB1 := Lib.hid hb; clear hi hb
  go_wp2_with fail
  refine (dkNewI w1.heap.size 16384 w1 (Nat.le_refl _)).mono ?_
  rintro e w2 ⟨gb, rfl, hi, hb⟩
  have HI2 := Lib.hid (Dk2.of HI1.out hb hi HB1.out.size); have HB2 := Lib.hid (HB1.out.trans (hb.mono HB1.out.size)); clear hi hb HI1 HB1
  by_cases big : len0 > 40
  · have q : (len0 : Int) > 40 := by omega
    have HW := Lib.hid (HWK.out w2 HB2.out)
    go_wp2_with fail
    refine HW.out.mono ?_
    rintro e w3 ⟨rfl, hb⟩
    have HB3 := Lib.hid hb; clear hb
    go_wp2_with fail
    go_ret
    exact ⟨rfl, HB3.out⟩
  · have q : ¬ (len0 : Int) > 40 := by omega
    go_wp2_with fail
    refine (pick_any n ((len0 : Int) + 1) w2 (by omega) (by omega)).mono ?_
    rintro e w3 ⟨r, hr, rfl, rfl⟩
    have hr0 : r ≤ len0 := by omega
    clear hr
    go_wp2_with fail
    refine (arm8 (os := os) HI2.out HB2.out.size (by omega)).mono ?_
    rintro e w3 ⟨rfl, hi, hb⟩
    have HI3 := Lib.hid hi; have HB3 := Lib.hid (HB2.out.trans hb); clear hi hb HI2 HB2
    go_wp2_with fail
    go_loopw [7] (fun i wr => ∃ k : Nat, k ≤ len0 ∧ i = .int .i64 (k : Int) ∧ Dk2 W.heap.size wr ga (dkA os r k) gb (dkB os r k) ∧ Below W.heap.size W wr) (fun i _ => len0 - (intOf i).toNat)
    case atStart => exact ⟨0, by omega, rfl, HI3.out, HB3.out⟩
    case round =>
      clear HI3 HB3
      obtain ⟨k, hk, rfl, hi, hb⟩ := hrel
      have HI := Lib.hid hi; have HB := Lib.hid hb; clear hi hb
      by_cases hlt : k < len0
      · have q1 : (k : Int) < (len0 : Int) := by omega
        have hkt : k < os.length := by rw [HN.out]; exact hlt
        have h40 : os.length ≤ 40 := by rw [HN.out]; omega
        have HH40 := Lib.hid h40; have HKT := Lib.hid hkt
        clear h40
        have hd0 : Below wr.heap.size wr wr.drew := (Below.refl _ _).drew
        have HID : Hid (Dk2 W.heap.size wr.drew ga (dkA os r k) gb (dkB os r k)) := show Dk2 _ _ _ _ _ _ from HI.out.below hd0
        have HBD : Hid (Below W.heap.size W wr.drew) := show Below _ _ _ from HB.out.trans (hd0.mono HB.out.size)
        rcases (HT.out.below HBD.out).at' with h0 | ⟨b, off, rfl, hr'⟩
        · exfalso; rw [h0] at hkt; simp at hkt
        have hok := HO.out os[k] (List.getElem_mem hkt)
        have hc0 : wr.drew.cell? ⟨b, off + k, none⟩ = some (.slice os[k].p os[k].b.length os[k].c) := by
          have h := hr' k hkt 0 _ rfl
          rwa [Nat.mul_one, Nat.add_zero] at h
        have hlo := lies_takeB hok.lies 200
        obtain ⟨m0, hm0⟩ : ∃ m0, os[k].b.length = m0 := ⟨_, rfl⟩
        obtain ⟨mm, hmm⟩ : ∃ mm, mm = min m0 200 := ⟨_, rfl⟩
        have hml : (os[k].b.take 200).length = mm := by rw [List.length_take, hm0]; omega
        have hcp : mm ≤ os[k].c := by have := hok.cap; rw [hm0] at this; omega
        rw [hm0] at hc0
        have HLO := Lib.hid hlo; have HML := Lib.hid hml; have HC0 := Lib.hid hc0; have HMM := Lib.hid hmm
        clear hr' hok hlo hm0 hml hc0 hd0 HI HB hkt
        generalize os[k].p = pk at HC0 HLO
        generalize os[k].c = ck at HC0 hcp
        have HA := Lib.hid (fun (c : Nat) => stepA8 (c := c) HID.out HBD.out.size HKT.out HH40.out HML.out (HLO.out.below HBD.out))
        have HCK := Lib.hid hcp
        clear hcp hmm
        go_upto_region 10 with fail
        refine region_phase (fun w' => w'.cell? ⟨b, off + k, none⟩ = some (.slice pk m0 ck)) (fun _ => True) 99 (HC0.out) trivial [(0, .free), (1, .free), (2, .free), (3, .free), (4, .free), (5, .free), (6, .free), (7, .free), (8, .free), (9, .free), (10, .free), (11, .free)] (by kernel_rfl) (by kernel_rfl) (by kernel_rfl) (by kernel_rfl) (fun ops hops A hA => ?_)
        have hsz : A.tmps.size = 149 := by rw [hA]; rfl
        have base0 : A.eval (.tmp 0) = .slice (some ⟨b, off, none⟩) len0 cap0 := by rw [hA]; rfl
        have base7 : A.eval (.tmp 7) = .int .i64 (k : Int) := by rw [hA]; rfl
        have HAA := Lib.hid hA; clear hA
        obtain ⟨o0, po0, q0, d0, gd0⟩ : ∃ o, ops[0]? = some o ∧ o.op = .move (.tmp 0) ∧ o.dst = some 47 ∧ o.guard = none := ⟨_, by rw [hops]; rfl, rfl, rfl, rfl⟩
        obtain ⟨o1, po1, q1, d1, gd1⟩ : ∃ o, ops[1]? = some o ∧ o.op = .move (.tmp 7) ∧ o.dst = some 48 ∧ o.guard = none := ⟨_, by rw [hops]; rfl, rfl, rfl, rfl⟩
        obtain ⟨o2, po2, q2, d2, gd2⟩ : ∃ o, ops[2]? = some o ∧ o.op = .indexAddr 66 (.tmp 47) (.tmp 48) ∧ o.dst = some 49 ∧ o.guard = none := ⟨_, by rw [hops]; rfl, rfl, rfl, rfl⟩
        obtain ⟨o3, po3, q3, d3, gd3⟩ : ∃ o, ops[3]? = some o ∧ o.op = .load 23 (.tmp 49) ∧ o.dst = some 50 ∧ o.guard = none := ⟨_, by rw [hops]; rfl, rfl, rfl, rfl⟩
        obtain ⟨o4, po4, q4, d4, gd4⟩ : ∃ o, ops[4]? = some o ∧ o.op = .move (.tmp 0) ∧ o.dst = some 51 ∧ o.guard = none := ⟨_, by rw [hops]; rfl, rfl, rfl, rfl⟩
        obtain ⟨o5, po5, q5, d5, gd5⟩ : ∃ o, ops[5]? = some o ∧ o.op = .move (.tmp 7) ∧ o.dst = some 52 ∧ o.guard = none := ⟨_, by rw [hops]; rfl, rfl, rfl, rfl⟩
        obtain ⟨o6, po6, q6, d6, gd6⟩ : ∃ o, ops[6]? = some o ∧ o.op = .indexAddr 66 (.tmp 51) (.tmp 52) ∧ o.dst = some 53 ∧ o.guard = none := ⟨_, by rw [hops]; rfl, rfl, rfl, rfl⟩
        obtain ⟨o7, po7, q7, d7, gd7⟩ : ∃ o, ops[7]? = some o ∧ o.op = .load 23 (.tmp 53) ∧ o.dst = some 54 ∧ o.guard = none := ⟨_, by rw [hops]; rfl, rfl, rfl, rfl⟩
        obtain ⟨o8, po8, q8, d8, gd8⟩ : ∃ o, ops[8]? = some o ∧ o.op = .call { callee := .builtin .len, args := #[.tmp 54], argTypes := #[23] } ∧ o.dst = some 55 ∧ o.guard = none := ⟨_, by rw [hops]; rfl, rfl, rfl, rfl⟩
        obtain ⟨o9, po9, q9, d9, gd9⟩ : ∃ o, ops[9]? = some o ∧ o.op = .call { callee := .builtin .min, args := #[.tmp 55, .const (.int .i64 200)], argTypes := #[3, 3] } ∧ o.dst = some 56 ∧ o.guard = none := ⟨_, by rw [hops]; rfl, rfl, rfl, rfl⟩
        obtain ⟨o10, po10, q10, d10, gd10⟩ : ∃ o, ops[10]? = some o ∧ o.op = .slice 23 (.tmp 50) none (some (.tmp 56)) none ∧ o.dst = some 57 ∧ o.guard = none := ⟨_, by rw [hops]; rfl, rfl, rfl, rfl⟩
        obtain ⟨o11, po11, q11, d11, gd11⟩ : ∃ o, ops[11]? = some o ∧ o.op = .assign (.tmp 57) ∧ o.dst = some 8 ∧ o.guard = none := ⟨_, by rw [hops]; rfl, rfl, rfl, rfl⟩
        clear hops
        refine met_free po0 d0 (wanted_of gd0) (fun w' h' => run_move q0 base0 w') ?_
        refine met_free po1 d1 (wanted_of gd1) (fun w' h' => run_move q1 ((eval_other _ 47 7 _ (by decide)).trans base7) w') ?_
        refine met_free po2 d2 (wanted_of gd2) (fun w' h' => run_ixRow8 q2 ((eval_other _ 48 47 _ (by decide)).trans (eval_same _ _ _ (by rw [hsz]; decide))) (eval_same _ _ _ (by simp only [put_size, hsz]; decide)) hlt w') ?_
        refine met_free po3 d3 (wanted_of gd3) (fun w' h' => run_loadRow8 q3 (eval_same _ _ _ (by simp only [put_size, hsz]; decide)) h') ?_
        refine met_free po4 d4 (wanted_of gd4) (fun w' h' => run_move q4 ((eval_other _ 50 0 _ (by decide)).trans ((eval_other _ 49 0 _ (by decide)).trans ((eval_other _ 48 0 _ (by decide)).trans ((eval_other _ 47 0 _ (by decide)).trans base0)))) w') ?_
        refine met_free po5 d5 (wanted_of gd5) (fun w' h' => run_move q5 ((eval_other _ 51 7 _ (by decide)).trans ((eval_other _ 50 7 _ (by decide)).trans ((eval_other _ 49 7 _ (by decide)).trans ((eval_other _ 48 7 _ (by decide)).trans ((eval_other _ 47 7 _ (by decide)).trans base7))))) w') ?_
        refine met_free po6 d6 (wanted_of gd6) (fun w' h' => run_ixRow8 q6 ((eval_other _ 52 51 _ (by decide)).trans (eval_same _ _ _ (by simp only [put_size, hsz]; decide))) (eval_same _ _ _ (by simp only [put_size, hsz]; decide)) hlt w') ?_
        refine met_free po7 d7 (wanted_of gd7) (fun w' h' => run_loadRow8 q7 (eval_same _ _ _ (by simp only [put_size, hsz]; decide)) h') ?_
        refine met_free po8 d8 (wanted_of gd8) (fun w' h' => run_len26 q8 (eval_same _ _ _ (by simp only [put_size, hsz]; decide)) w') ?_
        refine met_free po9 d9 (wanted_of gd9) (fun w' h' => run_minI (c := (mm : Int)) q9 (eval_same _ _ _ (by simp only [put_size, hsz]; decide)) rfl (by have := HMM.out; omega) w') ?_
        refine met_free po10 d10 (wanted_of gd10) (fun w' h' => run_to8 q10 HCK.out ((eval_other _ 56 50 _ (by decide)).trans ((eval_other _ 55 50 _ (by decide)).trans ((eval_other _ 54 50 _ (by decide)).trans ((eval_other _ 53 50 _ (by decide)).trans ((eval_other _ 52 50 _ (by decide)).trans ((eval_other _ 51 50 _ (by decide)).trans (eval_same _ _ _ (by simp only [put_size, hsz]; decide)))))))) (eval_same _ _ _ (by simp only [put_size, hsz]; decide)) w') ?_
        refine met_free po11 d11 (wanted_of gd11) (fun w' h' => run_assign q11 (eval_same _ _ _ (by simp only [put_size, hsz]; decide)) w') ?_
        show NoPanic _ .normal _ _
        refine NoPanic.normal ?_
        rw [HAA.out]
        go_frame
        clear HAA
        clear HC0 HMM HCK
        generalize wr.drew = w4 at *
        by_cases h1 : k < r
        · have hA := HA.out
          simp only [if_pos h1] at hA
          have HA2 := Lib.hid hA
          have q2 : (k : Int) ≤ (r : Int) := by omega
          have q3 : (k : Int) < (r : Int) := by omega
          have HKR : Hid (k ≤ r) := show _ ≤ _ by omega
          clear h1 hA HA
          go_wp2_with fail
          refine (HA2.out _).mono ?_
          rintro e w5 ⟨rfl, hi, hb⟩
          have HI5 := Lib.hid hi; have HB5 := Lib.hid (HBD.out.trans hb); clear hi hb HA2 HID
          go_wp2_with fail
          refine (stepB8 HI5.out HB5.out.size HKT.out HH40.out HKR.out HML.out (HLO.out.below HB5.out)).mono ?_
          rintro e w6 ⟨rfl, hi, hb⟩
          have HI6 := Lib.hid hi; have HB6 := Lib.hid (HB5.out.trans hb); clear hi hb HI5 HB5 HBD HLO
          go_wp2_with fail
          go_roundw
          case rel => exact ⟨k + 1, by omega, by go_num, HI6.out, HB6.out⟩
          case measure => simp [intOf]; omega
        · have hA := HA.out
          simp only [if_neg h1] at hA
          have HA2 := Lib.hid hA
          have q3 : ¬ (k : Int) < (r : Int) := by omega
          clear hA HA
          by_cases h2 : k = r
          · have q2 : (k : Int) ≤ (r : Int) := by omega
            have HKR : Hid (k ≤ r) := show _ ≤ _ by omega
            clear h1 h2
            go_wp2_with fail
            refine (HA2.out _).mono ?_
            rintro e w5 ⟨rfl, hi, hb⟩
            have HI5 := Lib.hid hi; have HB5 := Lib.hid (HBD.out.trans hb); clear hi hb HA2 HID
            go_wp2_with fail
            refine (stepB8 HI5.out HB5.out.size HKT.out HH40.out HKR.out HML.out (HLO.out.below HB5.out)).mono ?_
            rintro e w6 ⟨rfl, hi, hb⟩
            have HI6 := Lib.hid hi; have HB6 := Lib.hid (HB5.out.trans hb); clear hi hb HI5 HB5 HBD HLO
            go_wp2_with fail
            go_roundw
            case rel => exact ⟨k + 1, by omega, by go_num, HI6.out, HB6.out⟩
            case measure => simp [intOf]; omega
          · have q2 : ¬ (k : Int) ≤ (r : Int) := by omega
            have HST : Hid (dkB os r (k + 1) = dkB os r k) := show _ = _ from dkB_stay os r k (by omega)
            clear h1 h2
            go_wp2_with fail
            refine (HA2.out _).mono ?_
            rintro e w5 ⟨rfl, hi, hb⟩
            have HI5 := Lib.hid hi; have HB5 := Lib.hid (HBD.out.trans hb); clear hi hb HA2 HID HLO HBD
            go_wp2_with fail
            go_roundw
            case rel => exact ⟨k + 1, by omega, by go_num, by rw [HST.out]; exact HI5.out, HB5.out⟩
            case measure => simp [intOf]; omega
      · have q1 : ¬ (k : Int) < (len0 : Int) := by omega
        obtain rfl : k = len0 := by omega
        clear HT HO HN HCP hlt hk
        have HDN : Hid ((dkA os r k).down = decide (r < k)) := show _ = _ from rfl
        have HRA : Hid ((dkA os r k).read 3 = catN os (min k (r + 1))) := show _ = _ from dkA_read os r k
        have HRB : Hid ((dkB os r k).read 3 = catN os (min k (r + 1))) := show _ = _ from dkB_read os r k
        have HCA : Hid ((dkA os r k).count = min k (r + 1)) := show _ = _ from rfl
        have HCB : Hid ((dkB os r k).count = min k (r + 1)) := show _ = _ from rfl
        have HCR : Hid (((dkA os r k).crash [1048576]).read 3 = catN os (min k (r + 1))) := show _ = _ from dkA_crash os r k (by omega)
        have HCC : Hid (((dkA os r k).crash [1048576]).count = min k (r + 1)) := show _ = _ from rfl
        have HCD : Hid (((dkA os r k).crash [1048576]).down = false) := show _ = _ from rfl
        have HCM : Hid (min k (r + 1) < 1000000000) := show _ < _ by omega
        obtain ⟨L, hL⟩ : ∃ L, (catN os (min k (r + 1))).length = L := ⟨_, rfl⟩
        have hLb := catN_length os (min k (r + 1))
        have HL := Lib.hid hL
        have HLL : Hid (L < 1000000) := show _ < _ by omega
        have HCL : Hid ((dkA os r k).crash [1048576]).Calm := show DiskM.Calm _ from calm_crash _ _
        clear hL hLb
        generalize catN os (min k (r + 1)) = l at HRA HRB HCR HL
        generalize min k (r + 1) = M at HCA HCB HCM HCC
        obtain ⟨dc, hdc⟩ : ∃ dc, (dkA os r k).crash [1048576] = dc := ⟨_, rfl⟩
        have HEQ := Lib.hid hdc
        rw [hdc] at HCR HCC HCD HCL
        clear hdc
        by_cases hd : r < k
        · have q3 : (r : Int) < (k : Int) := by omega
          have hdn := HDN.out
          rw [decide_eq_true hd] at hdn
          have HDT := Lib.hid hdn
          clear hdn HDN hd
          have HI := Lib.hid HI.out
          have hdw := HI.out.one.down
          rw [HDT.out] at hdw
          have HDW := Lib.hid hdw; clear hdw
          go_wp2_with fail
          refine HDW.out.mono ?_
          rintro e w5 ⟨rfl, rfl⟩
          clear HDW
          go_wp2_with fail
          refine (HI.out.one.read 3).mono ?_
          rintro e w5 ⟨v, rfl, ho, hb⟩
          rw [HRA.out] at ho
          obtain ⟨p5, c5, rfl, -, -, hl⟩ := ho.lies
          rw [HL.out]
          have HL5 := Lib.hid hl; have HI5 := Lib.hid (HI.out.below hb); have HB5 := Lib.hid (HB.out.trans (hb.mono HB.out.size)); clear ho hb hl HI HB
          go_wp2_with fail
          refine (HI5.out.symm.one.read 3).mono ?_
          rintro e w6 ⟨v, rfl, ho, hb⟩
          rw [HRB.out] at ho
          obtain ⟨p6, c6, rfl, -, -, hl⟩ := ho.lies
          rw [HL.out]
          have HL6 := Lib.hid hl; have HL5b := Lib.hid (HL5.out.below hb); have HI6 := Lib.hid (HI5.out.below hb); have HB6 := Lib.hid (HB5.out.trans (hb.mono HB5.out.size)); clear ho hb hl HI5 HB5 HL5
          go_wp2_with fail
          refine (same_any l L p5 p6 c5 c6 w6 HL.out HLL.out HL5b.out HL6.out).mono ?_
          rintro e w7 ⟨rfl, hb⟩
          have HI7 := Lib.hid (HI6.out.below hb); have HB7 := Lib.hid (HB6.out.trans (hb.mono HB6.out.size)); clear hb HI6 HB6 HL5b HL6
          go_wp2_with fail
          refine HI7.out.one.count.mono ?_
          rintro e w8 ⟨rfl, rfl⟩
          rw [HCA.out]
          go_wp2_with fail
          refine HI7.out.symm.one.count.mono ?_
          rintro e w8 ⟨rfl, rfl⟩
          rw [HCB.out]
          go_wp2_with fail
          refine (downs8 HI7.out HB7.out.size HDT.out (by rw [HCA.out]; exact HCM.out)).1.mono ?_
          rintro e w8 ⟨rfl, hi, hb⟩
          have HI8 := Lib.hid hi; have HB8 := Lib.hid (HB7.out.trans hb); clear hi hb HI7 HB7
          go_wp2_with fail
          refine (downs8 HI8.out HB8.out.size HDT.out (by rw [HCA.out]; exact HCM.out)).2.1.mono ?_
          rintro e w9 ⟨rfl, hi, hb⟩
          have HI9 := Lib.hid hi; have HB9 := Lib.hid (HB8.out.trans hb); clear hi hb HI8 HB8
          go_wp2_with fail
          refine (downs8 HI9.out HB9.out.size HDT.out (by rw [HCA.out]; exact HCM.out)).2.2.1.mono ?_
          rintro e w10 ⟨rfl, hi, hb⟩
          have HI10 := Lib.hid hi; have HB10 := Lib.hid (HB9.out.trans hb); clear hi hb HI9 HB9
          go_wp2_with fail
          refine (downs8 HI10.out HB10.out.size HDT.out (by rw [HCA.out]; exact HCM.out)).2.2.2.mono ?_
          rintro e w11 ⟨rfl, hi, hb⟩
          have HI11 := Lib.hid hi; have HB11 := Lib.hid (HB10.out.trans hb); clear hi hb HI10 HB10
          go_wp2_with fail
          have hl : (w11.alloc (.cells #[.int .i64 1048576] 3)).heap[w11.heap.size]? = some (.cells #[.int .i64 1048576] 3 (0, 0)) := heap_alloc_new _ _
          have hb : Below w11.heap.size w11 (w11.alloc (.cells #[.int .i64 1048576] 3)) := (Below.refl _ _).alloc (Nat.le_refl _) _
          generalize w11.alloc (.cells #[.int .i64 1048576] 3) = w20 at hl hb ⊢
          have HB20 := Lib.hid (HB11.out.trans (hb.mono HB11.out.size))
          refine (Dk2.crash (n := 1) (c := 1) (keep := [1048576]) HI11.out HB11.out.size hb (Nat.le_refl _) hl rfl rfl (Nat.le_refl _)).mono ?_
          rintro e w21 ⟨rfl, hi, hb⟩
          rw [HEQ.out] at hi
          have HI21 := Lib.hid hi; have HB21 := Lib.hid (HB20.out.trans hb)
          clear hi hb hl HI11 HB11 HB20
          go_wp2_with fail
          refine (HI21.out.one.read 3).mono ?_
          rintro e w22 ⟨v, rfl, ho, hb⟩
          rw [HCR.out] at ho
          obtain ⟨p5, c5, rfl, -, -, hl⟩ := ho.lies
          rw [HL.out]
          have HL5 := Lib.hid hl; have HI22 := Lib.hid (HI21.out.below hb); have HB22 := Lib.hid (HB21.out.trans (hb.mono HB21.out.size)); clear ho hb hl HI21 HB21
          go_wp2_with fail
          refine (HI22.out.symm.one.read 3).mono ?_
          rintro e w23 ⟨v, rfl, ho, hb⟩
          rw [HRB.out] at ho
          obtain ⟨p6, c6, rfl, -, -, hl⟩ := ho.lies
          rw [HL.out]
          have HL6 := Lib.hid hl; have HL5b := Lib.hid (HL5.out.below hb); have HI23 := Lib.hid (HI22.out.below hb); have HB23 := Lib.hid (HB22.out.trans (hb.mono HB22.out.size)); clear ho hb hl HI22 HB22 HL5
          go_wp2_with fail
          refine (same_any l L p5 p6 c5 c6 w23 HL.out HLL.out HL5b.out HL6.out).mono ?_
          rintro e w24 ⟨rfl, hb⟩
          have HI24 := Lib.hid (HI23.out.below hb); have HB24 := Lib.hid (HB23.out.trans (hb.mono HB23.out.size)); clear hb HI23 HB23 HL5b HL6
          have hdw := HI24.out.one.down
          rw [HCD.out] at hdw
          have HDW := Lib.hid hdw; clear hdw
          go_wp2_with fail
          refine HDW.out.mono ?_
          rintro e w25 ⟨rfl, rfl⟩
          clear HDW
          go_wp2_with fail
          refine (sync8 HI24.out HB24.out.size HCL.out (by rw [HCC.out]; exact HCM.out)).mono ?_
          rintro e w25 ⟨rfl, hb⟩
          have HW := Lib.hid (HWK.out w25 (HB24.out.trans hb))
          clear hb HI24 HB24
          go_wp2_with fail
          refine HW.out.mono ?_
          rintro e w26 ⟨rfl, hb⟩
          have HBZ := Lib.hid hb; clear hb
          go_wp2_with fail
          go_ret
          exact ⟨rfl, HBZ.out⟩
        · have q3 : ¬ (r : Int) < (k : Int) := by omega
          have hdn := HDN.out
          rw [decide_eq_false hd] at hdn
          have HDT := Lib.hid hdn
          clear hdn HDN hd
          have HI := Lib.hid HI.out
          have hdw := HI.out.one.down
          rw [HDT.out] at hdw
          have HDW := Lib.hid hdw; clear hdw
          go_wp2_with fail
          refine HDW.out.mono ?_
          rintro e w5 ⟨rfl, rfl⟩
          clear HDW
          go_wp2_with fail
          refine (HI.out.one.read 3).mono ?_
          rintro e w5 ⟨v, rfl, ho, hb⟩
          rw [HRA.out] at ho
          obtain ⟨p5, c5, rfl, -, -, hl⟩ := ho.lies
          rw [HL.out]
          have HL5 := Lib.hid hl; have HI5 := Lib.hid (HI.out.below hb); have HB5 := Lib.hid (HB.out.trans (hb.mono HB.out.size)); clear ho hb hl HI HB
          go_wp2_with fail
          refine (HI5.out.symm.one.read 3).mono ?_
          rintro e w6 ⟨v, rfl, ho, hb⟩
          rw [HRB.out] at ho
          obtain ⟨p6, c6, rfl, -, -, hl⟩ := ho.lies
          rw [HL.out]
          have HL6 := Lib.hid hl; have HL5b := Lib.hid (HL5.out.below hb); have HI6 := Lib.hid (HI5.out.below hb); have HB6 := Lib.hid (HB5.out.trans (hb.mono HB5.out.size)); clear ho hb hl HI5 HB5 HL5
          go_wp2_with fail
          refine (same_any l L p5 p6 c5 c6 w6 HL.out HLL.out HL5b.out HL6.out).mono ?_
          rintro e w7 ⟨rfl, hb⟩
          have HI7 := Lib.hid (HI6.out.below hb); have HB7 := Lib.hid (HB6.out.trans (hb.mono HB6.out.size)); clear hb HI6 HB6 HL5b HL6
          go_wp2_with fail
          refine HI7.out.one.count.mono ?_
          rintro e w8 ⟨rfl, rfl⟩
          rw [HCA.out]
          go_wp2_with fail
          refine HI7.out.symm.one.count.mono ?_
          rintro e w8 ⟨rfl, rfl⟩
          rw [HCB.out]
          go_wp2_with fail
          have hl : (w7.alloc (.cells #[.int .i64 1048576] 3)).heap[w7.heap.size]? = some (.cells #[.int .i64 1048576] 3 (0, 0)) := heap_alloc_new _ _
          have hb : Below w7.heap.size w7 (w7.alloc (.cells #[.int .i64 1048576] 3)) := (Below.refl _ _).alloc (Nat.le_refl _) _
          generalize w7.alloc (.cells #[.int .i64 1048576] 3) = w20 at hl hb ⊢
          have HB20 := Lib.hid (HB7.out.trans (hb.mono HB7.out.size))
          refine (Dk2.crash (n := 1) (c := 1) (keep := [1048576]) HI7.out HB7.out.size hb (Nat.le_refl _) hl rfl rfl (Nat.le_refl _)).mono ?_
          rintro e w21 ⟨rfl, hi, hb⟩
          rw [HEQ.out] at hi
          have HI21 := Lib.hid hi; have HB21 := Lib.hid (HB20.out.trans hb)
          clear hi hb hl HI7 HB7 HB20
          go_wp2_with fail
          refine (HI21.out.one.read 3).mono ?_
          rintro e w22 ⟨v, rfl, ho, hb⟩
          rw [HCR.out] at ho
          obtain ⟨p5, c5, rfl, -, -, hl⟩ := ho.lies
          rw [HL.out]
          have HL5 := Lib.hid hl; have HI22 := Lib.hid (HI21.out.below hb); have HB22 := Lib.hid (HB21.out.trans (hb.mono HB21.out.size)); clear ho hb hl HI21 HB21
          go_wp2_with fail
          refine (HI22.out.symm.one.read 3).mono ?_
          rintro e w23 ⟨v, rfl, ho, hb⟩
          rw [HRB.out] at ho
          obtain ⟨p6, c6, rfl, -, -, hl⟩ := ho.lies
          rw [HL.out]
          have HL6 := Lib.hid hl; have HL5b := Lib.hid (HL5.out.below hb); have HI23 := Lib.hid (HI22.out.below hb); have HB23 := Lib.hid (HB22.out.trans (hb.mono HB22.out.size)); clear ho hb hl HI22 HB22 HL5
          go_wp2_with fail
          refine (same_any l L p5 p6 c5 c6 w23 HL.out HLL.out HL5b.out HL6.out).mono ?_
          rintro e w24 ⟨rfl, hb⟩
          have HI24 := Lib.hid (HI23.out.below hb); have HB24 := Lib.hid (HB23.out.trans (hb.mono HB23.out.size)); clear hb HI23 HB23 HL5b HL6
          have hdw := HI24.out.one.down
          rw [HCD.out] at hdw
          have HDW := Lib.hid hdw; clear hdw
          go_wp2_with fail
          refine HDW.out.mono ?_
          rintro e w25 ⟨rfl, rfl⟩
          clear HDW
          go_wp2_with fail
          refine (sync8 HI24.out HB24.out.size HCL.out (by rw [HCC.out]; exact HCM.out)).mono ?_
          rintro e w25 ⟨rfl, hb⟩
          have HW := Lib.hid (HWK.out w25 (HB24.out.trans hb))
          clear hb HI24 HB24
          go_wp2_with fail
          refine HW.out.mono ?_
          rintro e w26 ⟨rfl, hb⟩
          have HBZ := Lib.hid hb; clear hb
          go_wp2_with fail
          go_ret
          exact ⟨rfl, HBZ.out⟩
end Go.Proofs.Ytadlpidhemjkgaa

/-
  DiskStrikes, for any rows and any number: the law returns true, and what came in reads afterwards as it read before. Without any condition.
-/
namespace Go.Proofs.Ytadlpidhemjkgaa
open Go.ChangeShapes Go.WideShapes Go.ChangeAt Go.RowKit Go.Proofs.ShaWords

set_option maxRecDepth 100000 in
theorem diskStrikes_lifted (os : Os) (started : os.Started) (H : Type) (enc : TypeId × Value → H) :
    ReturnsInHanded {} Try.checked os 6 .any (Rows.diskStrikesSpec.pre6 enc Try.prog Try.f6 Rows.diskStrikesRow.domain false)
      (Rows.diskStrikesSpec.post enc Try.prog Try.f6 false true false false) := by
  refine returnsInHanded_of_change_sized (C := Try.checked) own started (by kernel_rfl) Try.func6
    (ChangeSpec.witness6 (enc := enc) (C := Try.checked) false ⟨#[], #[.slice none 0 0, .int .i64 0], []⟩ 8 (by kernel_rfl) (by kernel_rfl) (by kernel_rfl) (by kernel_rfl)) ?_
  intro W base args ds gs before hval0 hW _ hsz _
  have hW' := hW
  obtain ⟨p, q, hA0, hV, rfl, hfz, hnd⟩ := hW
  have hA : DataW.TrodAll enc Try.prog W 0 (fun _ => true) true Try.f6.params.toList args.toList ds p := hA0
  have hval : ∀ (j : Nat) t v, Try.f6.params[j]? = some t → args[j]? = some v → Value.okWide Try.prog W .any base t v := hval0
  have hsz2 : (DataW.weightsEach Try.prog (Try.f6.params.toList ++ Rows.diskStrikesSpec.plain.varTypes Try.prog) (ds ++ gs)).all (· ≤ reachBytes) = true := hsz
  rw [Try.params6] at hA hval hsz2
  obtain ⟨v0, vs0, d0, ds0, p0, q0, hargs, rfl, rfl, h0, r0⟩ := trodAll_cons hA
  obtain ⟨v1, vs1, d1, ds1, p1, q1, rfl, rfl, rfl, h1, r1⟩ := trodAll_cons r0
  obtain ⟨rfl, rfl, rfl⟩ := trodAll_nil r1
  obtain rfl : args = #[v0, v1] := by cases args; simp_all
  obtain ⟨rfl, rfl⟩ := trodVars_none hV
  obtain ⟨a0, len0, cap0, rfl⟩ := okWide_slice Try.underlying66 (hval 0 66 v0 rfl rfl)
  have k0 := h0
  have lt0 : ∀ x ∈ p0, x.block < W.heap.size := by obtain ⟨m, hm⟩ := k0; exact DataW.trod_lt m _ _ _ hm
  obtain ⟨f0, hf0⟩ := h0
  obtain ⟨ps0, hx0a, hx0b, hx0c, hx0d⟩ := open_rows8 hf0
  obtain ⟨z1, rfl, rfl, rfl, wz1⟩ := open_int Try.underlying3 (hval 1 3 v1 rfl rfl) h1
  clear hA0 hval0
  refine (diskStrikes_any ps0 z1 _ _ _ W hx0a hx0b hx0c hx0d).mono fun e W' ⟨he, bel⟩ => ?_
  subst he
  exact ⟨_, rfl, _, _, _, [], _, [], hW', trodAll_mk1 (shut_bool Try.underlying4 _), (trodAll_cons_mk (Below.trod laidOut (by kernel_rfl) (of_decide_eq_true (by kernel_rfl)) k0 bel lt0) (trodAll_cons_mk (shut_int Try.underlying3 wz1) trodAll_mk0)), rfl, bel.frame _, fun h => by cases h⟩

theorem diskStrikes_holds : Rows.DiskStrikesSaid :=
  OpenClaim.holds_of_wide 6 Try.f6 rfl rfl rfl rfl rfl rfl rfl ⟨rfl, rfl, rfl, rfl, rfl⟩ rfl rfl rfl rfl rfl (by kernel_rfl) Try.func6 (by kernel_rfl)
    (of_decide_eq_true (by kernel_rfl)) (by unfold Func.isWrapper; first | (rw [if_pos (by decide +kernel)]; kernel_rfl) | (rw [if_neg (by decide +kernel)]; exact ⟨rfl, rfl⟩))
    (fun os started H enc _ => diskStrikes_lifted os started H enc)

#print axioms diskStrikes_holds
end Go.Proofs.Ytadlpidhemjkgaa
