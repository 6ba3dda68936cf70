/-
  DiskLasts, for any days: the law returns true, and what came in reads afterwards as it read before. Without any condition.
-/
import Derived.Test.YtadlpidhemjkgaaPkA
import Derived.Test.YtadlpidhemjkgaaPkZ
import Derived.BigQuiet
/- The kit's Pick: some number below its bound. -/
namespace Go.Proofs.Ytadlpidhemjkgaa
open Go.RowKit Go.Proofs.ShaWords

theorem tmod_bounds (v n : Int) (h : 1 ≤ n) : -n < v.tmod n ∧ v.tmod n < n := by
  have h1 := Int.tmod_lt_of_pos v (show 0 < n by omega)
  have h2 := Int.tmod_lt_of_pos (-v) (show 0 < n by omega)
  rw [Int.neg_tmod] at h2
  omega
def SomeIn (n : Int) (w : World) (e : Ending) (w' : World) : Prop := ∃ r : Nat, (r : Int) < n ∧ e = .returned (.int .i64 (r : Int)) ∧ w = w'
set_option maxHeartbeats 400000 in
theorem pick_any (v n : Int) (w : World) (h1 : 1 ≤ n) (h2 : n ≤ 1000000) : Calls Try.prog 27 #[.int .i64 v, .int .i64 n] w (SomeIn n w) := by
  have hb := tmod_bounds v n h1
  obtain ⟨hb1, hb2⟩ := hb
  have hn0 : ¬ n = 0 := by omega
  by_cases hneg : v.tmod n < 0
  · go_enter Try.func27, Try.ntmps27
    go_wp2_with fail
    go_ret
    exact ⟨(v.tmod n + n).toNat, by omega, by
      have : ((v.tmod n + n).toNat : Int) = v.tmod n + n := by omega
      rw [this]; rfl, rfl⟩
  · go_enter Try.func27, Try.ntmps27
    go_wp2_with fail
    go_ret
    exact ⟨(v.tmod n).toNat, by omega, by
      have : ((v.tmod n).toNat : Int) = v.tmod n := by omega
      rw [this]; rfl, rfl⟩

end Go.Proofs.Ytadlpidhemjkgaa

/-
  DiskLasts' helpers: bytes put into the first five files; one row of bytes begins with another.
-/
namespace Go.Proofs.Ytadlpidhemjkgaa
open Go.RowKit Go.Proofs.ShaWords
section
variable {ρ : Operand → Value} {o : Oper} {x y : Operand}
theorem run_ixPut8 {b off n c k : Nat} (ho : o.op = .indexAddr 57 x y) (hx : ρ x = .slice (some ⟨b, off, none⟩) n c) (hy : ρ y = .int .i64 (k : Int)) (hk : k < n) (w : World) :
    (execOp ρ o).run Try.prog w = .ok (.value (.pointer (some ⟨b, off + k * 2, none⟩))) w := by
  obtain ⟨dst, op, ty', pos, after, guard⟩ := o
  simp only at ho
  subst ho
  go_simp
theorem run_fieldPut1 {b off : Nat} (ho : o.op = .fieldAddr 108 x 1) (hx : ρ x = .pointer (some ⟨b, off, none⟩)) (w : World) : (execOp ρ o).run Try.prog w = .ok (.value (.pointer (some ⟨b, off + 1, none⟩))) w := by
  obtain ⟨dst, op, ty', pos, after, guard⟩ := o
  simp only at ho
  subst ho
  go_simp
theorem run_loadPut8 {a : Addr} {p : Option Addr} {n c : Nat} (ho : o.op = .load 23 x) (hx : ρ x = .pointer (some a)) {w : World} (hc : w.cell? a = some (.slice p n c)) : (execOp ρ o).run Try.prog w = .ok (.value (.slice p n c)) w := by
  obtain ⟨dst, op, ty', pos, after, guard⟩ := o
  simp only at ho
  subst ho
  go_simp
theorem run_toPut8 {p : Option Addr} {n cp k : Nat} (ho : o.op = .slice 23 x none (some y) none) (hk : k ≤ cp) (hx : ρ x = .slice p n cp) (hy : ρ y = .int .i64 (k : Int)) (w : World) :
    (execOp ρ o).run Try.prog w = .ok (.value (.slice p k cp)) w := by
  obtain ⟨dst, op, ty', pos, after, guard⟩ := o
  simp only at ho
  subst ho
  have h0 : (0 : Int) ≤ (k : Int) := by omega
  have h1 : (k : Int) ≤ (cp : Int) := by omega
  cases p <;> go_simp
end
/-- What some writes to the first five files leave of a disk. -/
structure Grew (m : Nat) (d d' : DiskM) : Prop where
  room : d'.room = d.room
  calm : d'.Calm
  count : d'.count ≤ d.count + m
  dur : ∀ f, (d'.files f).dur = (d.files f).dur
  pre : ∀ f, (d.files f).all <+: (d'.files f).all
  high : ∀ f, 5 ≤ f → d'.files f = d.files f
theorem Grew.refl {d : DiskM} (h : d.Calm) : Grew 0 d d := ⟨rfl, h, Nat.le_refl _, fun _ => rfl, fun _ => List.prefix_refl _, fun _ _ => rfl⟩
theorem Grew.more {m n : Nat} {d d' : DiskM} (h : Grew m d d') (hn : m ≤ n) : Grew n d d' := ⟨h.room, h.calm, by have := h.count; omega, h.dur, h.pre, h.high⟩
theorem Grew.step {m f : Nat} {d d' : DiskM} {b : List (BitVec 8)} (h : Grew m d d') (hf : f < 5) : Grew (m + 1) d (d'.write (f : Int) b).1 := by
  by_cases hr : d'.used + b.length ≤ d'.room
  · rw [h.calm.write (by omega) b hr, Int.toNat_natCast]
    refine ⟨h.room, ⟨h.calm.down, h.calm.left⟩, by have := h.count; show d'.count + 1 ≤ _; omega, fun k => ?_, fun k => ?_, fun k hk => ?_⟩
    · show (setF d'.files f _ k).dur = _
      by_cases e : k = f
      · subst e; rw [setF_same]; exact h.dur k
      · rw [setF_other _ _ e]; exact h.dur k
    · show _ <+: (setF d'.files f _ k).all
      by_cases e : k = f
      · subst e; rw [setF_same]; exact (h.pre k).trans (List.prefix_append _ _)
      · rw [setF_other _ _ e]; exact h.pre k
    · show setF d'.files f _ k = _
      rw [setF_other _ _ (by omega)]; exact h.high k hk
  · rw [h.calm.writeFull (by omega) b hr]
    exact h.more (by omega)
theorem write_fits {d : DiskM} (h : d.Calm) {f : Nat} (hf : f < 5) (b : List (BitVec 8)) : (d.write (f : Int) b).2 = if d.used + b.length ≤ d.room then 0 else 8 := by
  by_cases hr : d.used + b.length ≤ d.room
  · rw [h.write (by omega) b hr, if_pos hr]
  · rw [h.writeFull (by omega) b hr, if_neg hr]
set_option maxRecDepth 100000 in
theorem begins8_any (l m : List (BitVec 8)) (n k c c2 : Nat) (p q : Option Addr) (w : World) (hn : l.length = n) (hk : m.length = k) (hnc : n ≤ c) (hk1 : k < 1000000) (hp : m <+: l) (hl : Lies w p l) (hm : Lies w q m) :
    Calls Try.prog 32 #[.slice p n c, .slice q k c2] w fun e w' => e = .returned (.bool true) ∧ Below w.heap.size w w' := by
  have hle : k ≤ n := by rw [← hn, ← hk]; exact hp.length_le
  have he : l.take k = m := by rw [← hk]; exact (List.prefix_iff_eq_take.1 hp).symm
  have hl2 := lies_takeB hl k
  rw [he] at hl2
  have HS := Lib.hid (same_any m k p q c c2 w hk hk1 hl2 hm)
  have z1 : (n : Int) ≥ (k : Int) := by omega
  have z2 : (k : Int) ≤ (c : Int) := by omega
  clear hn hk hp hl hm he hl2 hle hnc hk1
  go_enter Try.func32, Try.ntmps32
  cases p <;>
  · go_wp2_with fail
    refine HS.out.mono ?_
    rintro e w1 ⟨rfl, hb⟩
    have HB := Lib.hid hb; clear hb
    go_wp2_with fail
    go_ret
    exact ⟨rfl, HB.out⟩
set_option maxRecDepth 100000 in
set_option maxHeartbeats 4000000 in
theorem writes8_any (os : List Put8) (g len0 cap0 : Nat) (a0 : Option Addr) (d : DiskM) (L : List (Nat × Obj)) (W w : World) (hlen : os.length = len0) (hT : RowOf 2 Put8.cells W a0 os) (hO : ∀ o ∈ os, o.Ok W)
    (h : DkL W.heap.size w g d L) (hb : Below W.heap.size W w) (hcalm : d.Calm) (hc : d.count ≤ 1000) :
    Calls Try.prog 28 #[.pointer (some ⟨g, 0, none⟩), .slice a0 len0 cap0] w fun e w' => e = .returned (.bool true) ∧ ∃ d', Grew 40 d d' ∧ DkL W.heap.size w' g d' L ∧ Below W.heap.size W w' := by
  have HT := Lib.hid hT; clear hT
  have HN := Lib.hid hlen; clear hlen
  have HO := Lib.hid hO; clear hO
  have HI0 := Lib.hid h; have HB0 := Lib.hid hb; have HG0 := Lib.hid (Grew.refl hcalm); clear h hb hcalm
  have HC := Lib.hid hc; clear hc
  go_enter Try.func28, Try.ntmps28
  go_wp2_with fail
  go_loopw [5] (fun i wr => ∃ (k : Nat) (dk : DiskM), k ≤ len0 ∧ k ≤ 40 ∧ i = .int .i64 (k : Int) ∧ Grew k d dk ∧ DkL W.heap.size wr g dk L ∧ Below W.heap.size W wr) (fun i _ => len0 - (intOf i).toNat)
  case atStart => exact ⟨0, d, by omega, by omega, rfl, HG0.out, HI0.out, HB0.out⟩
  case round =>
    clear HI0 HB0 HG0
    obtain ⟨k, dk, hk, hk40, rfl, hg, hi, hb⟩ := hrel
    have HG := Lib.hid hg; have HI := Lib.hid hi; have HB := Lib.hid hb; clear hi hb hg
    by_cases hlt : k < len0
    · have q1 : (k : Int) < (len0 : Int) := by omega
      by_cases h40 : k < 40
      · have q2 : (k : Int) < 40 := by omega
        have hkt : k < os.length := by rw [HN.out]; exact hlt
        have hd0 : Below wr.heap.size wr wr.drew := (Below.refl _ _).drew
        have HID : Hid (DkL W.heap.size wr.drew g dk L) := show DkL _ _ _ _ _ from HI.out.below hd0
        have HBD : Hid (Below W.heap.size W wr.drew) := show Below _ _ _ from HB.out.trans (hd0.mono HB.out.size)
        rcases (HT.out.below HBD.out).at' with h0 | ⟨b, off, rfl, hr'⟩
        · exfalso; rw [h0] at hkt; simp at hkt
        have hok := HO.out os[k] (List.getElem_mem hkt)
        have hrk := hr' k hkt
        have hc1 : wr.drew.cell? ⟨b, off + k * 2, none⟩ = some (.int .i64 os[k].file) := by
          have h := hrk 0 _ rfl
          rwa [Nat.add_zero] at h
        have hc0 : wr.drew.cell? ⟨b, off + k * 2 + 1, none⟩ = some (.slice os[k].p os[k].b.length os[k].c) := hrk 1 _ rfl
        have hlo := lies_takeB hok.lies 200
        obtain ⟨m0, hm0⟩ : ∃ m0, os[k].b.length = m0 := ⟨_, rfl⟩
        obtain ⟨mm, hmm⟩ : ∃ mm, mm = min m0 200 := ⟨_, rfl⟩
        have hml : (os[k].b.take 200).length = mm := by rw [List.length_take, hm0]; omega
        have hcp : mm ≤ os[k].c := by have := hok.cap; rw [hm0] at this; omega
        rw [hm0] at hc0
        have HLO := Lib.hid hlo; have HML := Lib.hid hml; have HC0 := Lib.hid hc0; have HMM := Lib.hid hmm; have HC1 := Lib.hid hc1
        clear hr' hrk hok hlo hm0 hml hc0 hc1 hd0 HI HB
        generalize os[k].p = pk at HC0 HLO
        generalize os[k].c = ck at HC0 hcp
        generalize os[k].file = fk at HC1
        generalize os[k].b.take 200 = bk at HLO HML
        clear hkt
        have HCK := Lib.hid hcp
        have HM200 : Hid (mm ≤ 200) := show _ ≤ _ by omega
        clear hcp hmm
        go_upto_region 4 with fail
        refine region_phase (fun w' => w'.cell? ⟨b, off + k * 2 + 1, none⟩ = some (.slice pk m0 ck)) (fun _ => True) 99 (HC0.out) trivial [(0, .free), (1, .free), (2, .free), (3, .free), (4, .free), (5, .free), (6, .free), (7, .free), (8, .free), (9, .free), (10, .free), (11, .free), (12, .free), (13, .free)] (by kernel_rfl) (by kernel_rfl) (by kernel_rfl) (by kernel_rfl) (fun ops hops A hA => ?_)
        have hsz : A.tmps.size = 68 := by rw [hA]; rfl
        have base1 : A.eval (.tmp 1) = .slice (some ⟨b, off, none⟩) len0 cap0 := by rw [hA]; rfl
        have base5 : A.eval (.tmp 5) = .int .i64 (k : Int) := by rw [hA]; rfl
        have HAA := Lib.hid hA; clear hA
        obtain ⟨o0, po0, q0, d0, gd0⟩ : ∃ o, ops[0]? = some o ∧ o.op = .move (.tmp 1) ∧ o.dst = some 19 ∧ o.guard = none := ⟨_, by rw [hops]; rfl, rfl, rfl, rfl⟩
        obtain ⟨o1, po1, q1, d1, gd1⟩ : ∃ o, ops[1]? = some o ∧ o.op = .move (.tmp 5) ∧ o.dst = some 20 ∧ o.guard = none := ⟨_, by rw [hops]; rfl, rfl, rfl, rfl⟩
        obtain ⟨o2, po2, q2, d2, gd2⟩ : ∃ o, ops[2]? = some o ∧ o.op = .indexAddr 57 (.tmp 19) (.tmp 20) ∧ o.dst = some 21 ∧ o.guard = none := ⟨_, by rw [hops]; rfl, rfl, rfl, rfl⟩
        obtain ⟨o3, po3, q3, d3, gd3⟩ : ∃ o, ops[3]? = some o ∧ o.op = .fieldAddr 108 (.tmp 21) 1 ∧ o.dst = some 22 ∧ o.guard = none := ⟨_, by rw [hops]; rfl, rfl, rfl, rfl⟩
        obtain ⟨o4, po4, q4, d4, gd4⟩ : ∃ o, ops[4]? = some o ∧ o.op = .load 23 (.tmp 22) ∧ o.dst = some 23 ∧ o.guard = none := ⟨_, by rw [hops]; rfl, rfl, rfl, rfl⟩
        obtain ⟨o5, po5, q5, d5, gd5⟩ : ∃ o, ops[5]? = some o ∧ o.op = .move (.tmp 1) ∧ o.dst = some 24 ∧ o.guard = none := ⟨_, by rw [hops]; rfl, rfl, rfl, rfl⟩
        obtain ⟨o6, po6, q6, d6, gd6⟩ : ∃ o, ops[6]? = some o ∧ o.op = .move (.tmp 5) ∧ o.dst = some 25 ∧ o.guard = none := ⟨_, by rw [hops]; rfl, rfl, rfl, rfl⟩
        obtain ⟨o7, po7, q7, d7, gd7⟩ : ∃ o, ops[7]? = some o ∧ o.op = .indexAddr 57 (.tmp 24) (.tmp 25) ∧ o.dst = some 26 ∧ o.guard = none := ⟨_, by rw [hops]; rfl, rfl, rfl, rfl⟩
        obtain ⟨o8, po8, q8, d8, gd8⟩ : ∃ o, ops[8]? = some o ∧ o.op = .fieldAddr 108 (.tmp 26) 1 ∧ o.dst = some 27 ∧ o.guard = none := ⟨_, by rw [hops]; rfl, rfl, rfl, rfl⟩
        obtain ⟨o9, po9, q9, d9, gd9⟩ : ∃ o, ops[9]? = some o ∧ o.op = .load 23 (.tmp 27) ∧ o.dst = some 28 ∧ o.guard = none := ⟨_, by rw [hops]; rfl, rfl, rfl, rfl⟩
        obtain ⟨o10, po10, q10, d10, gd10⟩ : ∃ o, ops[10]? = some o ∧ o.op = .call { callee := .builtin .len, args := #[.tmp 28], argTypes := #[23] } ∧ o.dst = some 29 ∧ o.guard = none := ⟨_, by rw [hops]; rfl, rfl, rfl, rfl⟩
        obtain ⟨o11, po11, q11, d11, gd11⟩ : ∃ o, ops[11]? = some o ∧ o.op = .call { callee := .builtin .min, args := #[.tmp 29, .const (.int .i64 200)], argTypes := #[3, 3] } ∧ o.dst = some 30 ∧ o.guard = none := ⟨_, by rw [hops]; rfl, rfl, rfl, rfl⟩
        obtain ⟨o12, po12, q12, d12, gd12⟩ : ∃ o, ops[12]? = some o ∧ o.op = .slice 23 (.tmp 23) none (some (.tmp 30)) none ∧ o.dst = some 31 ∧ o.guard = none := ⟨_, by rw [hops]; rfl, rfl, rfl, rfl⟩
        obtain ⟨o13, po13, q13, d13, gd13⟩ : ∃ o, ops[13]? = some o ∧ o.op = .assign (.tmp 31) ∧ o.dst = some 6 ∧ o.guard = none := ⟨_, by rw [hops]; rfl, rfl, rfl, rfl⟩
        clear hops
        refine met_free po0 d0 (wanted_of gd0) (fun w' h' => run_move q0 base1 w') ?_
        refine met_free po1 d1 (wanted_of gd1) (fun w' h' => run_move q1 ((eval_other _ 19 5 _ (by decide)).trans base5) w') ?_
        refine met_free po2 d2 (wanted_of gd2) (fun w' h' => run_ixPut8 q2 ((eval_other _ 20 19 _ (by decide)).trans (eval_same _ _ _ (by rw [hsz]; decide))) (eval_same _ _ _ (by simp only [put_size, hsz]; decide)) hlt w') ?_
        refine met_free po3 d3 (wanted_of gd3) (fun w' h' => run_fieldPut1 q3 (eval_same _ _ _ (by simp only [put_size, hsz]; decide)) w') ?_
        refine met_free po4 d4 (wanted_of gd4) (fun w' h' => run_loadPut8 q4 (eval_same _ _ _ (by simp only [put_size, hsz]; decide)) h') ?_
        refine met_free po5 d5 (wanted_of gd5) (fun w' h' => run_move q5 ((eval_other _ 23 1 _ (by decide)).trans ((eval_other _ 22 1 _ (by decide)).trans ((eval_other _ 21 1 _ (by decide)).trans ((eval_other _ 20 1 _ (by decide)).trans ((eval_other _ 19 1 _ (by decide)).trans base1))))) w') ?_
        refine met_free po6 d6 (wanted_of gd6) (fun w' h' => run_move q6 ((eval_other _ 24 5 _ (by decide)).trans ((eval_other _ 23 5 _ (by decide)).trans ((eval_other _ 22 5 _ (by decide)).trans ((eval_other _ 21 5 _ (by decide)).trans ((eval_other _ 20 5 _ (by decide)).trans ((eval_other _ 19 5 _ (by decide)).trans base5)))))) w') ?_
        refine met_free po7 d7 (wanted_of gd7) (fun w' h' => run_ixPut8 q7 ((eval_other _ 25 24 _ (by decide)).trans (eval_same _ _ _ (by simp only [put_size, hsz]; decide))) (eval_same _ _ _ (by simp only [put_size, hsz]; decide)) hlt w') ?_
        refine met_free po8 d8 (wanted_of gd8) (fun w' h' => run_fieldPut1 q8 (eval_same _ _ _ (by simp only [put_size, hsz]; decide)) w') ?_
        refine met_free po9 d9 (wanted_of gd9) (fun w' h' => run_loadPut8 q9 (eval_same _ _ _ (by simp only [put_size, hsz]; decide)) h') ?_
        refine met_free po10 d10 (wanted_of gd10) (fun w' h' => run_len26 q10 (eval_same _ _ _ (by simp only [put_size, hsz]; decide)) w') ?_
        refine met_free po11 d11 (wanted_of gd11) (fun w' h' => run_minI (c := (mm : Int)) q11 (eval_same _ _ _ (by simp only [put_size, hsz]; decide)) rfl (by have := HMM.out; omega) w') ?_
        refine met_free po12 d12 (wanted_of gd12) (fun w' h' => run_toPut8 q12 HCK.out ((eval_other _ 30 23 _ (by decide)).trans ((eval_other _ 29 23 _ (by decide)).trans ((eval_other _ 28 23 _ (by decide)).trans ((eval_other _ 27 23 _ (by decide)).trans ((eval_other _ 26 23 _ (by decide)).trans ((eval_other _ 25 23 _ (by decide)).trans ((eval_other _ 24 23 _ (by decide)).trans (eval_same _ _ _ (by simp only [put_size, hsz]; decide))))))))) (eval_same _ _ _ (by simp only [put_size, hsz]; decide)) w') ?_
        refine met_free po13 d13 (wanted_of gd13) (fun w' h' => run_assign q13 (eval_same _ _ _ (by simp only [put_size, hsz]; decide)) w') ?_
        show NoPanic _ .normal _ _
        refine NoPanic.normal ?_
        rw [HAA.out]
        go_frame
        clear HAA
        clear HC0 HMM HCK
        have hc1 := HC1.out
        generalize wr.drew = w4 at *
        have HRM : Hid (dk.used ≤ dk.room ∧ dk.room ≤ 262144) := show _ ∧ _ from ⟨HID.out.ok.used, HID.out.ok.room⟩
        have hu0 := HRM.out
        generalize hu : dk.used = u at hu0
        generalize hrm : dk.room = rm at hu0
        have HU := Lib.hid hu; have HR := Lib.hid hrm; clear hu hrm
        have HCU := Lib.hid HID.out.used
        have HCR := Lib.hid HID.out.room
        rw [HU.out] at HCU
        rw [HR.out] at HCR
        have zs : IntKind.i64.wrap ((u : Int) + (mm : Int)) = (u : Int) + (mm : Int) := IntWalk.i64_in _ (by have := HM200.out; omega)
        go_wp2_with fail
        refine HCU.out.mono ?_
        rintro e w5 ⟨rfl, rfl⟩
        go_wp2_with fail
        refine HCR.out.mono ?_
        rintro e w5 ⟨rfl, rfl⟩
        clear HCU HCR zs
        by_cases hfit : u + mm ≤ rm
        · have q5 : (u : Int) + (mm : Int) ≤ (rm : Int) := by omega
          have HFT := Lib.hid hfit
          clear hfit
          go_wp2_with fail
          refine (pick_any fk 5 w4 (by omega) (by omega)).mono ?_
          rintro e w5 ⟨r, hr5, rfl, rfl⟩
          have HR5 : Hid (r < 5) := show _ < _ by omega
          clear hr5
          go_wp2_with fail
          refine (HID.out.go HBD.out.size (fun S h => dkWrite_any S g dk (r : Int) bk mm ck pk w4 h (by have := HG.out.count; have := HC.out; omega) HML.out (by have := HM200.out; omega) (HLO.out.below HBD.out))).mono ?_
          rintro e w5 ⟨rfl, hi, hb⟩
          rw [show (dk.write (r : Int) bk).2 = 0 by rw [write_fits HG.out.calm HR5.out, if_pos (by rw [HU.out, HR.out, HML.out]; exact HFT.out)]]
          have HI5 := Lib.hid hi; have HB5 := Lib.hid (HBD.out.trans hb)
          have HG5 := Lib.hid (HG.out.step (b := bk) HR5.out)
          clear hi hb HID HBD
          have HRM5 : Hid ((dk.write (r : Int) bk).1.used ≤ (dk.write (r : Int) bk).1.room ∧ (dk.write (r : Int) bk).1.room ≤ 262144) := show _ ∧ _ from ⟨HI5.out.ok.used, HI5.out.ok.room⟩
          have HCU := Lib.hid HI5.out.used
          have HCR := Lib.hid HI5.out.room
          generalize (dk.write (r : Int) bk).1 = d5 at HI5 HG5 HRM5 HCU HCR
          have hu5 := HRM5.out
          generalize d5.used = u5 at hu5 HCU
          generalize d5.room = rm5 at hu5 HCR
          have q6 : ¬ (u5 : Int) > (rm5 : Int) := by omega
          clear HRM5
          go_wp2_with fail
          refine HCU.out.mono ?_
          rintro e w6 ⟨rfl, rfl⟩
          go_wp2_with fail
          refine HCR.out.mono ?_
          rintro e w6 ⟨rfl, rfl⟩
          clear HCU HCR
          go_wp2_with fail
          go_roundw
          case rel => exact ⟨k + 1, d5, by omega, by omega, by go_num, HG5.out, HI5.out, HB5.out⟩
          case measure => simp [intOf]; omega
        · have q5 : ¬ (u : Int) + (mm : Int) ≤ (rm : Int) := by omega
          have HFT := Lib.hid hfit
          clear hfit
          go_wp2_with fail
          refine (pick_any fk 5 w4 (by omega) (by omega)).mono ?_
          rintro e w5 ⟨r, hr5, rfl, rfl⟩
          have HR5 : Hid (r < 5) := show _ < _ by omega
          clear hr5
          go_wp2_with fail
          refine (HID.out.go HBD.out.size (fun S h => dkWrite_any S g dk (r : Int) bk mm ck pk w4 h (by have := HG.out.count; have := HC.out; omega) HML.out (by have := HM200.out; omega) (HLO.out.below HBD.out))).mono ?_
          rintro e w5 ⟨rfl, hi, hb⟩
          rw [show (dk.write (r : Int) bk).2 = 8 by rw [write_fits HG.out.calm HR5.out, if_neg (by rw [HU.out, HR.out, HML.out]; exact HFT.out)]]
          have HI5 := Lib.hid hi; have HB5 := Lib.hid (HBD.out.trans hb)
          have HG5 := Lib.hid (HG.out.step (b := bk) HR5.out)
          clear hi hb HID HBD
          have HRM5 : Hid ((dk.write (r : Int) bk).1.used ≤ (dk.write (r : Int) bk).1.room ∧ (dk.write (r : Int) bk).1.room ≤ 262144) := show _ ∧ _ from ⟨HI5.out.ok.used, HI5.out.ok.room⟩
          have HCU := Lib.hid HI5.out.used
          have HCR := Lib.hid HI5.out.room
          generalize (dk.write (r : Int) bk).1 = d5 at HI5 HG5 HRM5 HCU HCR
          have hu5 := HRM5.out
          generalize d5.used = u5 at hu5 HCU
          generalize d5.room = rm5 at hu5 HCR
          have q6 : ¬ (u5 : Int) > (rm5 : Int) := by omega
          clear HRM5
          go_wp2_with fail
          refine HCU.out.mono ?_
          rintro e w6 ⟨rfl, rfl⟩
          go_wp2_with fail
          refine HCR.out.mono ?_
          rintro e w6 ⟨rfl, rfl⟩
          clear HCU HCR
          go_wp2_with fail
          go_roundw
          case rel => exact ⟨k + 1, d5, by omega, by omega, by go_num, HG5.out, HI5.out, HB5.out⟩
          case measure => simp [intOf]; omega
      · have q2 : ¬ (k : Int) < 40 := by omega
        go_wp2_with fail
        go_ret
        exact ⟨rfl, dk, HG.out.more hk40, HI.out, HB.out⟩
    · have q1 : ¬ (k : Int) < (len0 : Int) := by omega
      go_wp2_with fail
      go_ret
      exact ⟨rfl, dk, HG.out.more hk40, HI.out, HB.out⟩
end Go.Proofs.Ytadlpidhemjkgaa

/-
  DiskLasts as plain data: syncing one file after another; what a crash leaves of what lasted; the sum of the lengths. Rows of bytes kept in an array.
-/
namespace Go.Proofs.Ytadlpidhemjkgaa
open Go.RowKit Go.Proofs.ShaWords
def syncN (d : DiskM) (k : Nat) : DiskM := { d with files := fun f => if f < k then ⟨(d.files f).all, (d.files f).all.length⟩ else d.files f, count := d.count + k }
theorem syncN_zero (d : DiskM) : syncN d 0 = d := by
  unfold syncN
  have e : (fun f => if f < 0 then (⟨(d.files f).all, (d.files f).all.length⟩ : FileM) else d.files f) = d.files := by
    funext f; rw [if_neg (by omega)]
  rw [e]; rfl
theorem syncN_calm {d : DiskM} (h : d.Calm) (k : Nat) : (syncN d k).Calm := ⟨h.down, h.left⟩
theorem syncN_all (d : DiskM) (k f : Nat) : ((syncN d k).files f).all = (d.files f).all := by
  show (if f < k then _ else _ : FileM).all = _
  split <;> rfl
theorem syncN_step {d : DiskM} (h : d.Calm) (k : Nat) (hk : k < 5) : (syncN d k).sync (k : Int) = (syncN d (k + 1), 0) := by
  rw [(syncN_calm h k).sync (by omega), Int.toNat_natCast]
  congr 1
  unfold syncN
  congr 1
  funext f
  show setF (fun f => if f < k then (⟨(d.files f).all, (d.files f).all.length⟩ : FileM) else d.files f) k _ f = _
  by_cases e : f = k
  · subst e
    rw [setF_same, if_pos (show f < f + 1 by omega)]
    have e2 : (fun f_1 => if f_1 < f then (⟨(d.files f_1).all, (d.files f_1).all.length⟩ : FileM) else d.files f_1) f = d.files f := if_neg (by omega)
    dsimp only at e2 ⊢
    rw [e2]
  · rw [setF_other _ _ e]
    by_cases h2 : f < k
    · rw [if_pos h2, if_pos (by omega)]
    · rw [if_neg h2, if_neg (by omega)]
theorem read_at (d : DiskM) (f : Nat) (hf : f < 33) : d.read (f : Int) = (d.files f).all := by
  unfold DiskM.read
  rw [if_pos (by omega), Int.toNat_natCast]
theorem file_le {d : DiskM} (_h : d.Ok) (f : Nat) (hf : f < 33) : (d.files f).all.length ≤ d.used := sumTo_le d.files f 33 hf
theorem sumTo_high {F : Nat → FileM} (h : ∀ f, 5 ≤ f → f < 33 → (F f).all = []) : ∀ n, 5 + n ≤ 33 → sumTo F (5 + n) = sumTo F 5
  | 0, _ => rfl
  | n + 1, hn => by
    show sumTo F (5 + n) + (F (5 + n)).all.length = _
    rw [sumTo_high h n (by omega), h (5 + n) (by omega) (by omega)]; rfl
theorem crashTo_still {F : Nat → FileM} {keep : List Int} : ∀ n, (∀ f, f < n → (F f).all.length = (F f).dur) → crashTo F keep n = (F, keep)
  | 0, _ => rfl
  | n + 1, h => by
    have ih := crashTo_still (F := F) (keep := keep) n (fun f hf => h f (by omega))
    unfold crashTo
    dsimp only
    rw [if_pos (h n (by omega)), ih]
/-- What holds behind the crash. -/
structure Left8 (d1 d3 d4 : DiskM) : Prop where
  calm : d4.Calm
  lasts : ∀ f, f < 5 → (d1.files f).all <+: (d4.files f).all
  all : ∀ f, f < 5 → (d4.files f).all <+: (d3.files f).all
  sum : d4.used = sumTo d4.files 5
  again : ∀ keep, (d4.crash keep).used = d4.used
  count : d4.count = d3.count
  small : ∀ f, f < 5 → (d3.files f).all.length < 6000 ∧ (d4.files f).all.length < 6000 ∧ (d1.files f).all.length < 6000
  le : d4.used < 6000
theorem left8 {r : Nat} {d1 d3 : DiskM} (hr : r < 6000) (h1 : Grew 40 (DiskM.new (r : Int)) d1) (o1 : d1.Ok) (h3 : Grew 40 (syncN d1 5) d3) (o3 : d3.Ok) (keep : List Int) : Left8 d1 d3 (d3.crash keep) := by
  have hroom : d3.room = r := by
    rw [h3.room]; show d1.room = r; rw [h1.room]
    show (min (max (r : Int) 0) 262144).toNat = r; omega
  have hroom1 : d1.room = r := by
    rw [h1.room]
    show (min (max (r : Int) 0) 262144).toNat = r; omega
  have hu3 : d3.used < 6000 := by have := o3.used; omega
  have hu1 : d1.used < 6000 := by have := o1.used; omega
  have hf : ∀ f, f < 33 → ∃ k, (d3.crash keep).files f = cutTo (d3.files f) k := fun f hf => crashTo_one d3.files keep f hf
  have ok4 := DiskM.crash_ok o3 keep
  have hu4 : (d3.crash keep).used < 6000 := by have := ok4.used; have e : (d3.crash keep).room = d3.room := rfl; omega
  have hdur : ∀ f, f < 33 → ((d3.crash keep).files f).all.length = ((d3.crash keep).files f).dur := fun f h => by
    obtain ⟨k, hk⟩ := hf f h
    rw [hk]; exact (cutTo_ok (o3.dur f h) k).2.1.symm
  refine ⟨calm_crash _ _, fun f h => ?_, fun f h => ?_, ?_, fun keep2 => ?_, rfl, fun f h => ⟨?_, ?_, ?_⟩, hu4⟩
  · obtain ⟨k, hk⟩ := hf f (by omega)
    rw [hk]
    have p1 : (d1.files f).all <+: (d3.files f).all := by have := h3.pre f; rwa [syncN_all] at this
    have e1 : (d3.files f).dur = (d1.files f).all.length := by
      rw [h3.dur f]
      show (if f < 5 then _ else _ : FileM).dur = _
      rw [if_pos h]
    unfold cutTo
    dsimp only
    rw [List.prefix_iff_eq_take.1 p1, ← e1]
    exact List.take_prefix_take_left (by omega)
  · obtain ⟨k, hk⟩ := hf f (by omega)
    rw [hk]
    exact List.take_prefix _ _
  · exact sumTo_high (fun f h5 h33 => by
      obtain ⟨k, hk⟩ := hf f h33
      rw [hk]
      have e : (d3.files f).all = [] := by
        rw [h3.high f h5]
        show (if f < 5 then _ else _ : FileM).all = _
        rw [if_neg (by omega), h1.high f h5]
        rfl
      unfold cutTo
      dsimp only
      rw [e, List.take_nil]) 28 (by omega)
  · show sumTo (crashTo (d3.crash keep).files keep2 33).1 33 = _
    rw [crashTo_still 33 hdur]; rfl
  · have := file_le o3 f (by omega); omega
  · have := file_le ok4 f (by omega); omega
  · have := file_le o1 f (by omega); omega
/-- Five rows of bytes in an array, the first so many of them laid. -/
structure ArrS (L : List (Nat × Obj)) (cs : Array Value) (fs : Nat → List (BitVec 8)) (i : Nat) : Prop where
  size : cs.size = 5
  at' : ∀ j, j < i → ∃ q c, cs[j]? = some (.slice q (fs j).length c) ∧ (fs j).length ≤ c ∧ ∀ w : World, (∀ x ∈ L, w.heap[x.1]? = some x.2) → Lies w q (fs j)
theorem ArrS.put {L L' : List (Nat × Obj)} {cs : Array Value} {fs : Nat → List (BitVec 8)} {i : Nat} (h : ArrS L cs fs i) (hi : i < 5) {q : Option Addr} {c : Nat} (hc : (fs i).length ≤ c) (hl : ∀ w : World, (∀ x ∈ L', w.heap[x.1]? = some x.2) → Lies w q (fs i)) :
    ArrS (L' ++ L) (cs.setIfInBounds i (.slice q (fs i).length c)) fs (i + 1) := by
  refine ⟨by rw [Array.size_setIfInBounds]; exact h.size, fun j hj => ?_⟩
  by_cases e : j = i
  · subst e
    exact ⟨q, c, by rw [Array.getElem?_setIfInBounds_self_of_lt (by have := h.size; omega)], hc, fun w hw => hl w (mem_app hw).1⟩
  · obtain ⟨q', c', h1, h2, h3⟩ := h.at' j (by omega)
    exact ⟨q', c', by rw [Array.getElem?_setIfInBounds_ne (Ne.symm e)]; exact h1, h2, fun w hw => h3 w (mem_app hw).2⟩
theorem ArrS.more {L L' : List (Nat × Obj)} {cs : Array Value} {fs : Nat → List (BitVec 8)} {i : Nat} (h : ArrS L cs fs i) (hL : ∀ x ∈ L, x ∈ L') : ArrS L' cs fs i :=
  ⟨h.size, fun j hj => by obtain ⟨q, c, h1, h2, h3⟩ := h.at' j hj; exact ⟨q, c, h1, h2, fun w hw => h3 w (fun x hx => hw x (hL x hx))⟩⟩
theorem ArrS.old {L : List (Nat × Obj)} {cs : Array Value} {fs : Nat → List (BitVec 8)} {i : Nat} (h : ArrS L cs fs i) (j : Nat) (hj : j < 5) : ∃ v, cs[j]? = some v := ⟨_, Array.getElem?_eq_getElem (by have := h.size; omega)⟩
/-- A slice that was just made: its block, for the list, a new one. -/
theorem DkL.own2 {lo g : Nat} {d : DiskM} {w w' : World} {L : List (Nat × Obj)} (h : DkL lo w g d L) (hb : Below w.heap.size w w') {l : List (BitVec 8)} {v : Value} (ho : Own w.heap.size w' l v) :
    ∃ L' : List (Nat × Obj), DkL lo w' g d (L' ++ L) ∧ (∀ x ∈ L', w.heap.size ≤ x.1) ∧ ∃ q c, v = .slice q l.length c ∧ l.length ≤ c ∧ ∀ w'' : World, (∀ x ∈ L', w''.heap[x.1]? = some x.2) → Lies w'' q l := by
  obtain ⟨q, c, rfl, h1, -, hl⟩ := ho.lies
  rcases ho.2 with ⟨he, h0⟩ | ⟨b, cap, cur, he, hg, hh, -⟩
  · have hl0 : l = [] := List.length_eq_zero_iff.1 h0
    exact ⟨[], h.below hb, fun x hx => absurd hx List.not_mem_nil, q, c, rfl, h1, fun _ _ => Or.inl hl0⟩
  · refine ⟨[(b, .cells cur 5 (0, 0))], h.add hb hg hh, fun x hx => by rw [List.mem_singleton.1 hx]; exact hg, q, c, rfl, h1, fun w'' hw => ?_⟩
    cases he
    have hw0 := hw _ List.mem_cons_self
    rcases hl with hl | ⟨b2, off, he2, hr⟩
    · exact Or.inl hl
    · cases he2
      exact Or.inr ⟨b, 0, rfl, range_of_block hr (hw0.trans hh.symm)⟩
/-- A disk, two arrays, and the blocks that they lead to. -/
structure Arr2 (lo : Nat) (w : World) (g : Nat) (d : DiskM) (g1 : Nat) (c1 : Array Value) (g2 : Nat) (c2 : Array Value) (L : List (Nat × Obj)) : Prop where
  disk : DkL lo w g d ((g1, .cells c1 62 (0, 0)) :: (g2, .cells c2 62 (0, 0)) :: L)
  ne : g1 ≠ g2
  far : ∀ x ∈ L, x.1 ≠ g1 ∧ x.1 ≠ g2
section
variable {lo g g1 g2 : Nat} {d d' : DiskM} {w w' : World} {c1 c2 : Array Value} {L : List (Nat × Obj)}
theorem Arr2.symm (h : Arr2 lo w g d g1 c1 g2 c2 L) : Arr2 lo w g d g2 c2 g1 c1 L :=
  ⟨h.disk.fewer (fun x hx => by simp only [List.mem_cons] at hx ⊢; rcases hx with rfl | rfl | hx <;> simp [*]), Ne.symm h.ne, fun x hx => (h.far x hx).symm⟩
theorem Arr2.go {f : FuncId} {args : Array Value} {v : Ending} (h : Arr2 lo w g d g1 c1 g2 c2 L) (hlo : lo ≤ w.heap.size) (hc : ∀ S, DkAt S w g d → Calls Try.prog f args w fun e w' => e = v ∧ DkGo S g d' w w') :
    Calls Try.prog f args w fun e w' => e = v ∧ Arr2 lo w' g d' g1 c1 g2 c2 L ∧ Below lo w w' :=
  (h.disk.go hlo hc).mono fun _ _ ⟨a, b, c⟩ => ⟨a, ⟨b, h.ne, h.far⟩, c⟩
theorem Arr2.below (h : Arr2 lo w g d g1 c1 g2 c2 L) (hb : Below w.heap.size w w') : Arr2 lo w' g d g1 c1 g2 c2 L := ⟨h.disk.below hb, h.ne, h.far⟩
theorem Arr2.at1 (h : Arr2 lo w g d g1 c1 g2 c2 L) : w.heap[g1]? = some (.cells c1 62 (0, 0)) := h.disk.at List.mem_cons_self
theorem Arr2.at2 (h : Arr2 lo w g d g1 c1 g2 c2 L) : w.heap[g2]? = some (.cells c2 62 (0, 0)) := h.symm.at1
theorem Arr2.all (h : Arr2 lo w g d g1 c1 g2 c2 L) : ∀ x ∈ L, w.heap[x.1]? = some x.2 := fun x hx => h.disk.all x (List.mem_cons_of_mem _ (List.mem_cons_of_mem _ hx))
/-- A read that was just made, stored in the first array. -/
theorem Arr2.own (h : Arr2 lo w g d g1 c1 g2 c2 L) (hb : Below w.heap.size w w') {l : List (BitVec 8)} {v : Value} (ho : Own w.heap.size w' l v) :
    ∃ L' : List (Nat × Obj), Arr2 lo w' g d g1 c1 g2 c2 (L' ++ L) ∧ ∃ q c, v = .slice q l.length c ∧ l.length ≤ c ∧ ∀ w'' : World, (∀ x ∈ L', w''.heap[x.1]? = some x.2) → Lies w'' q l := by
  obtain ⟨L', h1, h2, h3⟩ := h.disk.own2 hb ho
  have l1 := (Array.getElem?_eq_some_iff.1 h.at1).1
  have l2 := (Array.getElem?_eq_some_iff.1 h.at2).1
  refine ⟨L', ⟨h1.fewer (fun x hx => ?_), h.ne, fun x hx => ?_⟩, h3⟩
  · simp only [List.mem_cons, List.mem_append] at hx ⊢
    rcases hx with h | h | h | h
    · exact Or.inr (Or.inl h)
    · exact Or.inr (Or.inr (Or.inl h))
    · exact Or.inl h
    · exact Or.inr (Or.inr (Or.inr h))
  · rcases List.mem_append.1 hx with hx | hx
    · have := h2 x hx; exact ⟨by omega, by omega⟩
    · exact h.far x hx
theorem Arr2.store (h : Arr2 lo w g d g1 c1 g2 c2 L) (k : Nat) (v : Value) : Arr2 lo (w.setCell ⟨g1, k, none⟩ v) g d g1 (c1.setIfInBounds k v) g2 c2 L := by
  refine ⟨h.disk.set (k := g1) List.mem_cons_self (stays_set w g1 k v) (heap_setCell_same w g1 k _ _ v h.at1) (fun x hx => ?_), h.ne, h.far⟩
  rcases List.mem_cons.1 hx with rfl | hx
  · exact Or.inl rfl
  · refine Or.inr ⟨List.mem_cons_of_mem _ hx, ?_⟩
    rcases List.mem_cons.1 hx with rfl | hx
    · exact Ne.symm h.ne
    · exact (h.far x hx).1
end
end Go.Proofs.Ytadlpidhemjkgaa

/-
  DiskLasts' walk.
-/
namespace Go.Proofs.Ytadlpidhemjkgaa
open Go.RowKit Go.Proofs.ShaWords
def nil5 : Array Value := #[.slice none 0 0, .slice none 0 0, .slice none 0 0, .slice none 0 0, .slice none 0 0]
theorem boxc {w0 w : World} {b : Nat} {cs : Array Value} {t : TypeId} (h : w0.heap[b]? = some (.cells cs t (0, 0))) (hb : Below w0.heap.size w0 w) (j : Nat) : w.cell? ⟨b, j, none⟩ = cs[j]? :=
  cell_of_row w b j cs t _ ((hb.block b (Array.getElem?_eq_some_iff.1 h).1).trans h)
theorem size_alloc8 (w : World) (o : Obj) : (w.alloc o).heap.size = w.heap.size + 1 := Array.size_push _
theorem arr2_new {lo g : Nat} {d : DiskM} {w : World} (h : DkL lo w g d []) (hlo : lo ≤ w.heap.size) :
    Arr2 lo ((w.alloc (.cells nil5 62)).alloc (.cells nil5 62)) g d w.heap.size nil5 (w.heap.size + 1) nil5 [] ∧ Below w.heap.size w ((w.alloc (.cells nil5 62)).alloc (.cells nil5 62)) ∧ lo ≤ w.heap.size := by
  have hs : (w.alloc (.cells nil5 62)).heap.size = w.heap.size + 1 := size_alloc8 _ _
  have b1 : Below w.heap.size w (w.alloc (.cells nil5 62)) := (Below.refl _ _).alloc (Nat.le_refl _) _
  have b2 : Below (w.alloc (.cells nil5 62)).heap.size (w.alloc (.cells nil5 62)) ((w.alloc (.cells nil5 62)).alloc (.cells nil5 62)) := (Below.refl _ _).alloc (Nat.le_refl _) _
  have h1 := h.add b1 (Nat.le_refl _) (heap_alloc_new _ _)
  have h2 := h1.add b2 (Nat.le_refl _) (heap_alloc_new _ _)
  rw [hs] at h2
  refine ⟨⟨h2.fewer (fun x hx => by simp only [List.mem_cons] at hx ⊢; rcases hx with h | h | h <;> simp [h]), by omega, fun x hx => absurd hx List.not_mem_nil⟩, b1.trans (b2.mono (by rw [hs]; omega)), hlo⟩
theorem sumTo_small {F : Nat → FileM} (h : ∀ f, f < 5 → (F f).all.length < 6000) : ∀ k, k ≤ 5 → sumTo F k ≤ 6000 * k
  | 0, _ => Nat.le_refl _
  | k + 1, hk => by
    unfold sumTo
    have := sumTo_small h k (by omega)
    have := h k (by omega)
    omega
theorem Put8.Ok.below {W w : World} {o : Put8} (h : o.Ok W) (hb : Below W.heap.size W w) : o.Ok w := ⟨h.filew, h.cap, h.lies.below hb⟩
set_option maxRecDepth 100000 in
set_option maxHeartbeats 4000000 in
theorem diskLasts_any (x : Days8) (W : World) (h : x.Ok W) : Calls Try.prog 5 #[.agg x.cells.toArray] W fun e W' => e = .returned (.bool true) ∧ Below W.heap.size W W' := by
  obtain ⟨n1, hn1⟩ : ∃ n, x.first.length = n := ⟨_, rfl⟩
  obtain ⟨n2, hn2⟩ : ∃ n, x.second.length = n := ⟨_, rfl⟩
  obtain ⟨n3, hn3⟩ : ∃ n, x.keep.length = n := ⟨_, rfl⟩
  have hcells : x.cells.toArray = #[.int .i64 x.room, .slice x.p1 n1 x.c1, .slice x.p2 n2 x.c2, .slice x.p3 n3 x.c3] := by unfold Days8.cells; rw [hn1, hn2, hn3]
  rw [hcells]
  clear hcells
  have HA := Lib.hid h
  have HN1 := Lib.hid hn1; have HN2 := Lib.hid hn2; have HN3 := Lib.hid hn3
  clear h hn1 hn2 hn3
  generalize hp1 : x.p1 = p1 at *
  generalize hp2 : x.p2 = p2 at *
  generalize hp3 : x.p3 = p3 at *
  generalize hc1 : x.c1 = c1 at *
  generalize hc2 : x.c2 = c2 at *
  generalize hc3 : x.c3 = c3 at *
  generalize hrm : x.room = rm at *
  have HR1 : Hid (RowOf 2 Put8.cells W p1 x.first) := show RowOf _ _ _ _ _ from hp1 ▸ HA.out.r1
  have HR2 : Hid (RowOf 2 Put8.cells W p2 x.second) := show RowOf _ _ _ _ _ from hp2 ▸ HA.out.r2
  have HL3 : Hid (LiesZ W p3 x.keep) := show LiesZ _ _ _ from hp3 ▸ HA.out.l3
  have HK3 : Hid (n3 ≤ c3) := show _ ≤ _ from HN3.out ▸ hc3 ▸ HA.out.cap3
  clear hp1 hp2 hp3 hc1 hc2 hc3 hrm
  go_enter Try.func5, Try.ntmps5
  go_upto_region 1 with fail
  have hx0 : (W.alloc (.cells #[.int .i64 rm, .slice p1 n1 c1, .slice p2 n2 c2, .slice p3 n3 c3] 59)).heap[W.heap.size]? = some (.cells #[.int .i64 rm, .slice p1 n1 c1, .slice p2 n2 c2, .slice p3 n3 c3] 59 (0, 0)) := heap_alloc_new _ _
  have hb0 : Below W.heap.size W (W.alloc (.cells #[.int .i64 rm, .slice p1 n1 c1, .slice p2 n2 c2, .slice p3 n3 c3] 59)) := (Below.refl _ _).alloc (Nat.le_refl _) _
  generalize W.alloc (.cells #[.int .i64 rm, .slice p1 n1 c1, .slice p2 n2 c2, .slice p3 n3 c3] 59) = w0 at hx0 hb0 ⊢
  have HFIN : Hid (∀ w' : World, Below w0.heap.size w0 w' → Below W.heap.size W w') := show ∀ _, _ → Below _ _ _ from fun w' h => hb0.trans (h.mono hb0.size)
  have HX := Lib.hid hx0
  have HW1 : Hid (RowOf 2 Put8.cells w0 p1 x.first) := show RowOf _ _ _ _ _ from HR1.out.below hb0
  have HW2 : Hid (RowOf 2 Put8.cells w0 p2 x.second) := show RowOf _ _ _ _ _ from HR2.out.below hb0
  have HW3 : Hid (LiesZ w0 p3 x.keep) := show LiesZ _ _ _ from HL3.out.below hb0
  have HO1 : Hid (∀ o ∈ x.first, o.Ok w0) := show ∀ _, _ → Put8.Ok _ _ from fun o ho => (HA.out.o1 o ho).below hb0
  have HO2 : Hid (∀ o ∈ x.second, o.Ok w0) := show ∀ _, _ → Put8.Ok _ _ from fun o ho => (HA.out.o2 o ho).below hb0
  clear hx0 hb0 HR1 HR2 HL3 HA
  generalize W.heap.size = bx at HX ⊢
  have HWK : Hid (∀ w' : World, Below w0.heap.size w0 w' → Calls Try.prog 24 #[] w' fun e w'' => e = .returned (.bool true) ∧ Below w0.heap.size w0 w'') := show ∀ _, _ from fun w' h => (known8_any w').mono fun e w'' ⟨h1, h2⟩ => ⟨h1, h.trans (h2.mono h.size)⟩
  have f3 : w0.cell? ⟨bx, 3, none⟩ = some (.slice p3 n3 c3) := boxc HX.out (Below.refl _ _) 3
  by_cases big : n3 > 100
  · have q : (n3 : Int) > 100 := by omega
    have HW := Lib.hid (HWK.out w0 (Below.refl _ _))
    go_wp2_with fail
    refine HW.out.mono ?_
    rintro e w3 ⟨rfl, hb⟩
    have HB3 := Lib.hid hb; clear hb
    go_wp2_with fail
    go_ret
    exact ⟨rfl, HFIN.out _ HB3.out⟩
  · have q : ¬ (n3 : Int) > 100 := by omega
    have f0 : w0.cell? ⟨bx, 0, none⟩ = some (.int .i64 rm) := boxc HX.out (Below.refl _ _) 0
    go_wp2_with fail
    refine (pick_any rm 6000 w0 (by omega) (by omega)).mono ?_
    rintro e w1 ⟨r, hr, rfl, rfl⟩
    clear f0 f3
    go_wp2_with fail
    refine (dkNewI w0.heap.size (r : Int) w0 (Nat.le_refl _)).mono ?_
    rintro e w1 ⟨g, rfl, hi, hb⟩
    have HI1 := Lib.hid (DkL.of hi); have HB1 := Lib.hid hb; clear hi hb
    have f1 : w1.cell? ⟨bx, 1, none⟩ = some (.slice p1 n1 c1) := boxc HX.out HB1.out 1
    have HRR : Hid (r < 6000) := show _ < _ by omega
    go_wp2_with fail
    refine (writes8_any x.first g n1 c1 p1 (DiskM.new (r : Int)) [] w0 w1 HN1.out HW1.out HO1.out HI1.out HB1.out (calm_new _) (Nat.zero_le _)).mono ?_
    rintro e w2 ⟨rfl, d1, hg, hi, hb⟩
    have HG1 := Lib.hid hg; have HI2 := Lib.hid hi; have HB2 := Lib.hid hb; clear hi hb hg f1 HI1 HB1 HW1 HO1 HN1
    go_upto_region 7 with fail
    obtain ⟨ha, hb, hlo⟩ := arr2_new HI2.out HB2.out.size
    have HA3 := Lib.hid ha
    have HB3 := Lib.hid (HB2.out.trans (hb.mono HB2.out.size))
    have HLO1 : Hid (w0.heap.size ≤ w2.heap.size) := show _ ≤ _ from hlo
    have HOK1 : Hid d1.Ok := show DiskM.Ok _ from HI2.out.ok
    clear ha hb hlo HI2 HB2
    unfold nil5 at HA3 HB3
    generalize (w2.alloc (.cells #[.slice none 0 0, .slice none 0 0, .slice none 0 0, .slice none 0 0, .slice none 0 0] 62)).alloc (.cells #[.slice none 0 0, .slice none 0 0, .slice none 0 0, .slice none 0 0, .slice none 0 0] 62) = w3 at HA3 HB3 ⊢
    have HLO2 : Hid (w0.heap.size ≤ w2.heap.size + 1) := show _ ≤ _ by have := HLO1.out; omega
    generalize w2.heap.size + 1 = g2 at HA3 HLO2 ⊢
    generalize w2.heap.size = g1 at HA3 HLO1 ⊢
    go_wp2_with fail
    go_loopw [6] (fun i wr => ∃ (k : Nat) (cs : Array Value) (L : List (Nat × Obj)), k ≤ 5 ∧ i = .int .i64 (k : Int) ∧ Arr2 w0.heap.size wr g (syncN d1 k) g1 cs g2 nil5 L ∧ ArrS L cs (fun f => (d1.files f).all) k ∧ Below w0.heap.size w0 wr) (fun i _ => 5 - (intOf i).toNat)
    case atStart => exact ⟨0, _, [], by omega, rfl, by rw [syncN_zero]; exact HA3.out, ⟨rfl, fun j hj => by omega⟩, HB3.out⟩
    case round =>
      clear HA3 HB3
      obtain ⟨k, cs, L, hk, rfl, ha, hs, hb⟩ := hrel
      have HA := Lib.hid ha; have HS := Lib.hid hs; have HB := Lib.hid hb; clear ha hs hb
      by_cases hlt : k < 5
      · have q1 : (k : Int) < 5 := by omega
        have hsy := HA.out.go HB.out.size (fun S h => dkSync_any S g (syncN d1 k) (k : Int) wr h (by have := HG1.out.count; show d1.count + k < _; have e : (DiskM.new (r : Int)).count = 0 := rfl; omega))
        rw [syncN_step HG1.out.calm k hlt] at hsy
        have HSY := Lib.hid hsy
        clear hsy HA
        go_wp2_with fail
        refine HSY.out.mono ?_
        rintro e w4 ⟨rfl, ha, hb⟩
        have HA4 := Lib.hid ha; have HB4 := Lib.hid (HB.out.trans hb); clear ha hb HSY HB
        go_wp2_with fail
        refine (HA4.out.disk.read (k : Int)).mono ?_
        rintro e w5 ⟨v, rfl, ho, hb⟩
        rw [read_at _ k (by omega), syncN_all] at ho
        obtain ⟨L', ha, q, c, rfl, hc, hl⟩ := HA4.out.own hb ho
        have HA5 := Lib.hid ha; have HB5 := Lib.hid (HB4.out.trans (hb.mono HB4.out.size))
        have HS5 := Lib.hid (HS.out.put hlt hc hl)
        clear ha hb ho hc hl HA4 HB4
        obtain ⟨u0, hu0⟩ := HS.out.old k hlt
        have fc : w5.cell? ⟨g1, k, none⟩ = some u0 := (cell_of_row _ _ _ _ _ _ HA5.out.at1).trans hu0
        have ft : w5.frozen? ⟨g1, k, none⟩ = false := frozen_of_row _ _ _ _ _ HA5.out.at1
        generalize (d1.files k).all.length = n at HS5 ⊢
        have HA6 := Lib.hid (HA5.out.store k (.slice q n c))
        have HB6 := Lib.hid (HB5.out.setCell (p := ⟨g1, k, none⟩) HLO1.out (.slice q n c))
        clear HA5 HB5 HS hu0
        go_wp2_with fail
        go_roundw
        case rel => exact ⟨k + 1, _, _, by omega, by go_num, HA6.out, HS5.out, HB6.out⟩
        case measure => simp [intOf]; omega
      · have q1 : ¬ (k : Int) < 5 := by omega
        obtain rfl : k = 5 := by omega
        clear hk hlt
        have f2 : wr.cell? ⟨bx, 2, none⟩ = some (.slice p2 n2 c2) := boxc HX.out HB.out 2
        have HWR := Lib.hid (writes8_any x.second g n2 c2 p2 (syncN d1 5) _ w0 wr HN2.out HW2.out HO2.out HA.out.disk HB.out (syncN_calm HG1.out.calm 5) (by have := HG1.out.count; show d1.count + 5 ≤ _; have e : (DiskM.new (r : Int)).count = 0 := rfl; omega))
        go_wp2_with fail
        refine HWR.out.mono ?_
        rintro e w4 ⟨rfl, d3, hg, hi, hb⟩
        have HG3 := Lib.hid hg
        have HA4 : Hid (Arr2 w0.heap.size w4 g d3 g1 cs g2 nil5 L) := show Arr2 _ _ _ _ _ _ _ _ _ from ⟨hi, HA.out.ne, HA.out.far⟩
        have HB4 := Lib.hid hb
        clear hg hi hb HWR HA HB f2 HW2 HO2 HN2
        go_wp2_with fail
        go_loopw [7] (fun i wr => ∃ (k : Nat) (cs2 : Array Value) (L : List (Nat × Obj)), k ≤ 5 ∧ i = .int .i64 (k : Int) ∧ Arr2 w0.heap.size wr g d3 g2 cs2 g1 cs L ∧ ArrS L cs2 (fun f => (d3.files f).all) k ∧ ArrS L cs (fun f => (d1.files f).all) 5 ∧ Below w0.heap.size w0 wr) (fun i _ => 5 - (intOf i).toNat)
        case atStart => exact ⟨0, _, L, by omega, rfl, HA4.out.symm, ⟨rfl, fun j hj => by omega⟩, HS.out, HB4.out⟩
        case round =>
          clear HA4 HB4 HS
          obtain ⟨k, cs2, L, hk, rfl, ha, hs, hs1, hb⟩ := hrel
          have HA := Lib.hid ha; have HS := Lib.hid hs; have HB := Lib.hid hb; have HS1 := Lib.hid hs1; clear ha hs hb hs1
          by_cases hlt : k < 5
          · have q1 : (k : Int) < 5 := by omega
            go_wp2_with fail
            refine (HA.out.disk.read (k : Int)).mono ?_
            rintro e w5 ⟨v, rfl, ho, hb⟩
            rw [read_at _ k (by omega)] at ho
            obtain ⟨L', ha, q, c, rfl, hc, hl⟩ := HA.out.own hb ho
            have HA5 := Lib.hid ha; have HB5 := Lib.hid (HB.out.trans (hb.mono HB.out.size))
            have HS5 := Lib.hid (HS.out.put hlt hc hl)
            have HS51 := Lib.hid (HS1.out.more (L' := L' ++ L) (fun x hx => List.mem_append_right _ hx))
            clear ha hb ho hc hl HA HB HS1
            obtain ⟨u0, hu0⟩ := HS.out.old k hlt
            have fc : w5.cell? ⟨g2, k, none⟩ = some u0 := (cell_of_row _ _ _ _ _ _ HA5.out.at1).trans hu0
            have ft : w5.frozen? ⟨g2, k, none⟩ = false := frozen_of_row _ _ _ _ _ HA5.out.at1
            generalize (d3.files k).all.length = n at HS5 ⊢
            have HA6 := Lib.hid (HA5.out.store k (.slice q n c))
            have HB6 := Lib.hid (HB5.out.setCell (p := ⟨g2, k, none⟩) HLO2.out (.slice q n c))
            clear HA5 HB5 HS hu0
            go_wp2_with fail
            go_roundw
            case rel => exact ⟨k + 1, _, _, by omega, by go_num, HA6.out, HS5.out, HS51.out, HB6.out⟩
            case measure => simp [intOf]; omega
          · have q1 : ¬ (k : Int) < 5 := by omega
            obtain rfl : k = 5 := by omega
            clear hk hlt
            have f3 : wr.cell? ⟨bx, 3, none⟩ = some (.slice p3 n3 c3) := boxc HX.out HB.out 3
            have hlf := left8 HRR.out HG1.out HOK1.out HG3.out HA.out.disk.ok x.keep
            have hcr := HA.out.disk.crashIn HB.out HW3.out HN3.out HK3.out
            generalize d3.crash x.keep = d4 at hlf hcr
            have HLF := Lib.hid hlf; have HCR := Lib.hid hcr
            clear hlf hcr
            go_wp2_with fail
            refine HCR.out.mono ?_
            rintro e w5 ⟨rfl, hi, hb⟩
            have HA5 : Hid (Arr2 w0.heap.size w5 g d4 g2 cs2 g1 cs L) := show Arr2 _ _ _ _ _ _ _ _ _ from ⟨hi, HA.out.ne, HA.out.far⟩
            have HB5 := Lib.hid (HB.out.trans hb)
            clear hi hb HCR HA HB f3 HW3 HN3 HK3
            go_wp2_with fail
            go_loopw [8, 9] (fun t i wr => ∃ k : Nat, k ≤ 5 ∧ t = .int .i64 ((sumTo d4.files k : Nat) : Int) ∧ i = .int .i64 (k : Int) ∧ Arr2 w0.heap.size wr g d4 g2 cs2 g1 cs L ∧ Below w0.heap.size w0 wr) (fun _ i _ => 5 - (intOf i).toNat)
            case atStart => exact ⟨0, by omega, rfl, rfl, HA5.out, HB5.out⟩
            case round =>
              clear HA5 HB5
              obtain ⟨k, hk, rfl, rfl, ha, hb⟩ := hrel
              have HA := Lib.hid ha; have HB := Lib.hid hb; clear ha hb
              by_cases hlt : k < 5
              · have q1 : (k : Int) < 5 := by omega
                have hsm := HLF.out.small k hlt
                have hss := sumTo_small (fun f hf => (HLF.out.small f hf).2.1) k hk
                have hsn : sumTo d4.files (k + 1) = sumTo d4.files k + (d4.files k).all.length := rfl
                have HPL := Lib.hid (HLF.out.lasts k hlt)
                have HPA := Lib.hid (HLF.out.all k hlt)
                obtain ⟨pl, cl, hcl, hl1, hl2⟩ := HS1.out.at' k hlt
                obtain ⟨pa, ca, hca, ha1, ha2⟩ := HS.out.at' k hlt
                generalize hn1 : (d1.files k).all.length = m1 at hsm hcl hl1
                generalize hn3 : (d3.files k).all.length = m3 at hsm hca ha1
                generalize hn4 : (d4.files k).all.length = m4 at hsm hsn
                generalize hss0 : sumTo d4.files k = s at hss hsn ⊢
                have HN1 := Lib.hid hn1; have HN3 := Lib.hid hn3; have HN4 := Lib.hid hn4; have HSN := Lib.hid hsn
                have HL2 := Lib.hid hl2; have HA2 := Lib.hid ha2; have HCL := Lib.hid hcl; have HCA := Lib.hid hca
                have HSM := Lib.hid hsm; have HL1 := Lib.hid hl1; have HA1 := Lib.hid ha1
                have HSS : Hid (s ≤ 30000) := show _ ≤ _ by omega
                clear hn1 hn3 hn4 hl2 ha2 hcl hca hss0 hsn hsm hl1 ha1 hss
                go_wp2_with fail
                refine (HA.out.disk.read (k : Int)).mono ?_
                rintro e w6 ⟨v, rfl, ho, hb⟩
                rw [read_at _ k (by omega)] at ho
                obtain ⟨q4, c4, rfl, hc4, -, hl4⟩ := ho.lies
                rw [HN4.out] at hc4 ⊢
                have HC4 := Lib.hid hc4; have HL4 := Lib.hid hl4
                have HA6 := Lib.hid (HA.out.below hb); have HB6 := Lib.hid (HB.out.trans (hb.mono HB.out.size))
                clear ho hb hc4 hl4 HA HB
                have fl : w6.cell? ⟨g1, k, none⟩ = some (.slice pl m1 cl) := (cell_of_row _ _ _ _ _ _ HA6.out.at2).trans HCL.out
                go_wp2_with fail
                refine (begins8_any (d4.files k).all (d1.files k).all m4 m1 c4 cl q4 pl w6 HN4.out HN1.out HC4.out (by have := HSM.out; omega) HPL.out HL4.out (HL2.out _ HA6.out.all)).mono ?_
                rintro e w7 ⟨rfl, hb⟩
                have HA7 := Lib.hid (HA6.out.below hb); have HB7 := Lib.hid (HB6.out.trans (hb.mono HB6.out.size)); have HL7 := Lib.hid (HL4.out.below hb)
                clear hb fl HA6 HB6 HL4
                have fa : w7.cell? ⟨g2, k, none⟩ = some (.slice pa m3 ca) := (cell_of_row _ _ _ _ _ _ HA7.out.at1).trans HCA.out
                go_wp2_with fail
                refine (begins8_any (d3.files k).all (d4.files k).all m3 m4 ca c4 pa q4 w7 HN3.out HN4.out HA1.out (by have := HSM.out; omega) HPA.out (HA2.out _ HA7.out.all) HL7.out).mono ?_
                rintro e w8 ⟨rfl, hb⟩
                have HA8 := Lib.hid (HA7.out.below hb); have HB8 := Lib.hid (HB7.out.trans (hb.mono HB7.out.size))
                clear hb fa HA7 HB7 HL7
                have z0 := HSS.out
                have z1 : m4 < 6000 := HSM.out.2.1
                go_wp2_with fail
                go_roundw
                case rel => exact ⟨k + 1, by omega, by rw [HSN.out]; go_num, by go_num, HA8.out, HB8.out⟩
                case measure => simp [intOf]; omega
              · have q1 : ¬ (k : Int) < 5 := by omega
                obtain rfl : k = 5 := by omega
                clear hk hlt HS HS1 HG1 HG3 HOK1
                have hsum := HLF.out.sum
                generalize sumTo d4.files 5 = U at hsum ⊢
                have HUS := Lib.hid hsum
                have HAG := Lib.hid ((HLF.out.again [9, 9, 9]).trans hsum)
                clear hsum
                have hud := HA.out.disk.used
                rw [HUS.out] at hud
                have HUD := Lib.hid hud; clear hud
                go_wp2_with fail
                refine HUD.out.mono ?_
                rintro e w6 ⟨rfl, rfl⟩
                clear HUD
                go_wp2_with fail
                have hl : (wr.alloc (.cells #[.int .i64 9, .int .i64 9, .int .i64 9] 3)).heap[wr.heap.size]? = some (.cells #[.int .i64 9, .int .i64 9, .int .i64 9] 3 (0, 0)) := heap_alloc_new _ _
                have hb : Below wr.heap.size wr (wr.alloc (.cells #[.int .i64 9, .int .i64 9, .int .i64 9] 3)) := (Below.refl _ _).alloc (Nat.le_refl _) _
                generalize wr.alloc (.cells #[.int .i64 9, .int .i64 9, .int .i64 9] 3) = w7 at hl hb ⊢
                have HB7 := Lib.hid (HB.out.trans (hb.mono HB.out.size))
                refine (DkL.crash (n := 3) (c := 3) (keep := [9, 9, 9]) HA.out.disk HB.out.size hb (Nat.le_refl _) hl rfl rfl (Nat.le_refl _)).mono ?_
                rintro e w8 ⟨rfl, hi, hb2⟩
                have HI8 := Lib.hid hi; have HB8 := Lib.hid (HB7.out.trans hb2)
                clear hi hb2 hb hl HB7 HA HB
                have hud := HI8.out.used
                rw [HAG.out] at hud
                have HUD := Lib.hid hud; clear hud
                have hdn : Calls Try.prog _ _ w8 (fun e w' => e = .returned (.bool false) ∧ w8 = w') := HI8.out.down
                have HDN := Lib.hid hdn; clear hdn
                go_wp2_with fail
                refine HUD.out.mono ?_
                rintro e w9 ⟨rfl, rfl⟩
                go_wp2_with fail
                refine HDN.out.mono ?_
                rintro e w9 ⟨rfl, rfl⟩
                clear HUD HDN
                have HW := Lib.hid (HWK.out w8 HB8.out)
                go_wp2_with fail
                refine HW.out.mono ?_
                rintro e w9 ⟨rfl, hb⟩
                have HBZ := Lib.hid hb; clear hb
                go_wp2_with fail
                go_ret
                exact ⟨rfl, HFIN.out _ HBZ.out⟩
end Go.Proofs.Ytadlpidhemjkgaa

/-
  DiskLasts, for any days: the law returns true, and what came in reads afterwards as it read before. Without any condition.
-/
namespace Go.Proofs.Ytadlpidhemjkgaa
open Go.ChangeShapes Go.WideShapes Go.ChangeAt Go.RowKit Go.Proofs.ShaWords

set_option maxRecDepth 100000 in
theorem diskLasts_lifted (os : Os) (started : os.Started) (H : Type) (enc : TypeId × Value → H) :
    ReturnsInHanded {} Try.checked os 5 .any (Rows.diskLastsSpec.pre6 enc Try.prog Try.f5 Rows.diskLastsRow.domain false)
      (Rows.diskLastsSpec.post enc Try.prog Try.f5 false true false false) := by
  refine returnsInHanded_of_change_sized (C := Try.checked) own started (by kernel_rfl) Try.func5
    (ChangeSpec.witness6 (enc := enc) (C := Try.checked) false ⟨#[], #[.agg #[.int .i64 0, .slice none 0 0, .slice none 0 0, .slice none 0 0]], []⟩ 8 (by kernel_rfl) (by kernel_rfl) (by kernel_rfl) (by kernel_rfl)) ?_
  intro W base args ds gs before hval0 hW _ hsz _
  have hW' := hW
  obtain ⟨p, q, hA0, hV, rfl, hfz, hnd⟩ := hW
  have hA : DataW.TrodAll enc Try.prog W 0 (fun _ => true) true Try.f5.params.toList args.toList ds p := hA0
  have hval : ∀ (j : Nat) t v, Try.f5.params[j]? = some t → args[j]? = some v → Value.okWide Try.prog W .any base t v := hval0
  have hsz2 : (DataW.weightsEach Try.prog (Try.f5.params.toList ++ Rows.diskLastsSpec.plain.varTypes Try.prog) (ds ++ gs)).all (· ≤ reachBytes) = true := hsz
  rw [Try.params5] at hA hval hsz2
  obtain ⟨v0, vs0, d0, ds0, p0, q0, hargs, rfl, rfl, h0, r0⟩ := trodAll_cons hA
  obtain ⟨rfl, rfl, rfl⟩ := trodAll_nil r0
  obtain rfl : args = #[v0] := by cases args; simp_all
  obtain ⟨rfl, rfl⟩ := trodVars_none hV
  obtain ⟨cs0, rfl⟩ := okWide_days8 (hval 0 59 v0 rfl rfl)
  have k0 := h0
  have lt0 : ∀ x ∈ p0, x.block < W.heap.size := by obtain ⟨m, hm⟩ := k0; exact DataW.trod_lt m _ _ _ hm
  obtain ⟨f0, hf0⟩ := h0
  obtain ⟨th0, hx0a, hx0b⟩ := open_days8 hf0
  obtain rfl : cs0 = th0.cells.toArray := by rw [← hx0a]; rfl
  clear hA0 hval0
  refine (diskLasts_any th0 W hx0b).mono fun e W' ⟨he, bel⟩ => ?_
  subst he
  exact ⟨_, rfl, _, _, _, [], _, [], hW', trodAll_mk1 (shut_bool Try.underlying4 _), (trodAll_cons_mk (Below.trod laidOut (by kernel_rfl) (of_decide_eq_true (by kernel_rfl)) k0 bel lt0) trodAll_mk0), rfl, bel.frame _, fun h => by cases h⟩

theorem diskLasts_holds : Rows.DiskLastsSaid :=
  OpenClaim.holds_of_wide 5 Try.f5 rfl rfl rfl rfl rfl rfl rfl ⟨rfl, rfl, rfl, rfl, rfl⟩ rfl rfl rfl rfl rfl (by kernel_rfl) Try.func5 (by kernel_rfl)
    (of_decide_eq_true (by kernel_rfl)) (by unfold Func.isWrapper; first | (rw [if_pos (by decide +kernel)]; kernel_rfl) | (rw [if_neg (by decide +kernel)]; exact ⟨rfl, rfl⟩))
    (fun os started H enc _ => diskLasts_lifted os started H enc)

#print axioms diskLasts_holds
end Go.Proofs.Ytadlpidhemjkgaa
