/-
  What other texts lean on: TkRef3, TkRef4.
-/
import Derived.Test.YtgeacocdnenhdaaDoorPkN
import Derived.Test.YtgeacocdnenhdaaDoorPkTa
import Derived.Test.YtgeacocdnenhdaaDoorPkTc
import Derived.Test.YtgeacocdnenhdaaDoorPkTd
import Derived.Test.YtgeacocdnenhdaaDoorPkTe
/-
  The document's Last, Made, Verify of tokens (gen_tkref3.py).
-/
namespace Go.Proofs.YtgeacocdnenhdaaDoor
open Go.RowKit Go.Proofs.ShaWords
set_option maxRecDepth 100000 in
set_option maxHeartbeats 4000000 in
theorem refLast_tok (t : TokM) (n c : Nat) (p : Option Addr) (w : World) (hn : t.gs.length = n) (hn6 : n ≤ 1000000) (hok : ∀ x ∈ t.gs, x.pre.size ≤ 1000000) (hL : GrantsAt w p t.gs) :
    Calls Tryd.prog 36 #[.agg (t.cells (.slice p n c)).toArray] w fun e w' => e = .returned (.agg (lastG t.gs).cells.toArray) ∧ Below w.heap.size w w' := by
  have HN := Lib.hid hn
  have HOK := Lib.hid hok
  have HL := Lib.hid hL
  have HB0 : Hid (LaW t (.slice p n c) w ((w.alloc (.cells (t.cells (.slice p n c)).toArray 50)).alloc (.cells gz.cells.toArray 54))) := by
    have b1 := allocBelow w (.cells (t.cells (.slice p n c)).toArray 50)
    have b2 := allocBelow (w.alloc (.cells (t.cells (.slice p n c)).toArray 50)) (.cells gz.cells.toArray 54)
    have r1 : TokAt (w.alloc (.cells (t.cells (.slice p n c)).toArray 50)) w.heap.size t (.slice p n c) := heap_new_at rfl
    exact ⟨r1.keep b2, heap_new_at (size_alloc _ _), b1.trans (b2.mono (by rw [size_alloc]; omega))⟩
  clear hn hok hL
  obtain ⟨TC, hTC⟩ : ∃ TC, TC = (t.cells (.slice p n c)).toArray := ⟨_, rfl⟩
  rw [← hTC] at HB0
  rw [← hTC]
  clear hTC
  go_enter Tryd.func36, Tryd.ntmps36
  go_upto_region 1 with (fail)
  refine wp_gen (fun A => LaW t (.slice p n c) w A) HB0.out ?_
  rintro A hA
  have HA := Lib.hid hA
  have c2 := hA.tok.c2
  clear hA HB0
  have hres : ∀ (g : GrantM) (B : World) (tmps : Array Value), GrantAt B (w.heap.size + 1) g → tmps.getD 2 undef = .pointer (some ⟨w.heap.size + 1, 0, none⟩) → Sem.run Tryd.prog (results Tryd.f36 tmps) B = .ok (.agg g.cells.toArray) B := fun g B tmps hg h =>
    results_cell_row (P := Tryd.prog) (p := 2) (ty := 54) Tryd.results36 tmps _ (w.heap.size + 1) 54 g.cells.toArray (0, 0) _ h hg Tryd.underlying54 rfl (size_grant g)
  cases n with
  | zero =>
    have h0 : Hid (lastG t.gs = gz) := show _ = _ by rw [List.length_eq_zero_iff.1 HN.out]; rfl
    go_upto_region 2 with (fail)
    refine wp_region_lit ?_
    refine wpList_run (by rfl) (show _ = Result.ok (Next.value (.agg gz.cells.toArray)) _ from by kernel_rfl) ?_
    refine wpList_store_row rfl 54 (.tmp 2) (.tmp 7) rfl (w.heap.size + 1) gz.cells.toArray rfl rfl 54 _ HA.out.out (size_grant _) rfl (grant_ones2 _) ?_
    refine wpList_nil ?_
    go_frame
    go_wp2_with fail
    exact bodyPost_ret (v := .agg gz.cells.toArray) (hres gz _ _ (setRow_heap _ _ _ _ _ _ HA.out.out) rfl) rfl ⟨by rw [h0.out], below_setRow HA.out.below (by omega) _⟩
  | succ m =>
    have hlt : m < t.gs.length := by rw [HN.out]; omega
    have hl := lastG_at HN.out
    rcases HL.out.at' with h1 | ⟨b, off, rfl, hr⟩
    · exfalso; rw [h1] at hlt; simp at hlt
    have hrk := range_keep (hr m hlt) HA.out.below
    have HSM := Lib.hid (HOK.out _ (List.getElem_mem hlt))
    rw [← hl] at hrk HSM
    obtain ⟨x, hx⟩ : ∃ x, lastG t.gs = x := ⟨_, rfl⟩
    rw [hx] at hrk HSM
    have HX := Lib.hid hx
    clear hx
    have HR := Lib.hid hrk
    clear hl hr hrk hlt
    have q9 : (((m + 1 : Nat) : Int) - 1) = (m : Int) := by omega
    have q8 : ¬ (((m + 1 : Nat) : Int) = 0) := by omega
    go_upto_region 3 with (fail)
    go_wp2_with (first
      | (show wpList _ _ _ (⟨_, .indexAddr _ _ _, _, _, _, _⟩ :: _) _ _; refine wpList_run (by rfl) (grantT.run_ix (i := m) rfl rfl (by first | rfl | exact congrArg (Value.int .i64) q9) (by omega) _) ?_)
      | (show wpList _ _ _ (⟨_, .load 54 _, _, _, _, _⟩ :: _) _ _; refine wpList_run (by rfl) (grantT.run_ld Tryd.underlying54 rfl (GrantM.len x) rfl rfl HR.out) ?_)
      | (refine wpList_store_row rfl 54 (.tmp 2) (.tmp 15) rfl (w.heap.size + 1) x.cells.toArray rfl rfl 54 _ HA.out.out (size_grant _) rfl (grant_ones2 _) ?_))

    exact bodyPost_ret (v := .agg x.cells.toArray) (hres x _ _ (setRow_heap _ _ _ _ _ _ HA.out.out) rfl) rfl ⟨by rw [HX.out], below_setRow HA.out.below (by omega) _⟩
set_option maxRecDepth 100000 in
set_option maxHeartbeats 8000000 in
theorem refMade_any (t : TokM) (n c : Nat) (p : Option Addr) (w : World) (hn : t.gs.length = n) (hok : t.Ok) (hL : GrantsAt w p t.gs) :
    Calls Tryd.prog 109 #[.agg (t.cells (.slice p n c)).toArray] w (ReturnsG (madeM t) w) := by
  have HR : Hid (TokAt (w.alloc (.cells (t.cells (.slice p n c)).toArray 50)) w.heap.size t (.slice p n c) ∧ Below w.heap.size w (w.alloc (.cells (t.cells (.slice p n c)).toArray 50))) := show _ ∧ _ from ⟨heap_new_at rfl, allocBelow _ _⟩
  have HM : Hid (madeM t = (nameS t.ten && (idOk t.id && narrowsL t.gs))) := show _ = _ from rfl
  have HOK := Lib.hid hok
  have HL := Lib.hid hL
  have HN := Lib.hid hn
  have HNA : Hid (∀ w, Calls Tryd.prog 99 #[.string t.ten] w (ReturnsB (nameS t.ten) w)) := show ∀ _, _ from fun w => refName_any t.ten w (by have := hok.ten; omega)
  clear hok hL hn
  obtain ⟨TC, hTC⟩ : ∃ TC, TC = (t.cells (.slice p n c)).toArray := ⟨_, rfl⟩
  rw [← hTC] at HR
  rw [← hTC]
  clear hTC
  go_enter Tryd.func109, Tryd.ntmps109
  go_upto_region 1 with (fail)
  refine wp_gen (fun A => TokAt A w.heap.size t (.slice p n c) ∧ Below w.heap.size w A) HR.out ?_
  rintro A ⟨hA, hB⟩
  have c0 := hA.c0
  have c1 := hA.c1
  have c2 := hA.c2
  have HA := Lib.hid (And.intro hA hB)
  clear hA hB HR
  have HNO : Hid (nameS t.ten = false ∨ ¬ 1 ≤ t.id ∨ ¬ t.id ≤ 1099511627776 ∨ n = 0 ∨ 6 < n → madeM t = false) := show _ → _ from fun h => by
    rw [HM.out]
    rcases h with h | h | h | h | h
    · rw [h]; rfl
    · unfold idOk; rw [decide_eq_false h]; simp
    · unfold idOk; rw [decide_eq_false h]; simp
    · rw [narrows_len (.inl (by rw [HN.out]; exact h))]; simp
    · rw [narrows_len (.inr (by rw [HN.out]; exact h))]; simp
  by_cases hall : nameS t.ten = true ∧ 1 ≤ t.id ∧ t.id ≤ 1099511627776 ∧ 1 ≤ n ∧ n ≤ 6
  · obtain ⟨h1, h2, h3, h4, h5⟩ := hall
    have HF : Hid (madeM t = narrowsL t.gs) := show _ = _ by rw [HM.out, h1]; unfold idOk; rw [decide_eq_true h2, decide_eq_true h3]; rfl
    have r1 : ¬ t.id < 1 := by omega
    have r2 : ¬ t.id > 1099511627776 := by omega
    have r3 : ¬ (n : Int) < 1 := by omega
    have r4 : ¬ (n : Int) > 6 := by omega
    generalize t.id = TID at c1 r1 r2 h2 h3
    go_upto_region 3 with (go_at_call 99; refine (HNA.out A).mono ?_; rintro e w1 ⟨rfl, rfl⟩; rw [h1])
    go_wp2_with fail
    go_loopw [3] (fun i wr => ∃ k : Nat, k ≤ n ∧ i = .int .i64 (k : Int) ∧ goodTo t.gs k ∧ TokAt wr w.heap.size t (.slice p n c) ∧ Below w.heap.size w wr) (fun i _ => n - (intOf i).toNat)
    case atStart => exact ⟨0, Nat.zero_le _, rfl, fun j hj => by omega, HA.out⟩
    case round =>
      clear HA c0 c1 c2
      obtain ⟨k, hk, rfl, hgood, htk, hbw⟩ := hrel
      have c2 := htk.c2
      by_cases hlt : k < n
      · have hlt' : k < t.gs.length := by rw [HN.out]; exact hlt
        rcases HL.out.at' with h1 | ⟨b, off, rfl, hr⟩
        · exfalso; rw [h1] at hlt'; simp at hlt'
        have HR : Hid (∀ W, Below w.heap.size w W → W.rangeAt b (off + k * 4) (t.gs[k]).cells) := show ∀ _, _ → _ from fun W hb => range_keep (hr k hlt') hb
        have HP : Hid (∀ W, Below w.heap.size w W → W.rangeAt b (off + (k - 1) * 4) (t.gs[k - 1]'(by omega)).cells) := show ∀ _, _ → _ from fun W hb => range_keep (hr (k - 1) (by omega)) hb
        have hgk : t.gs[k]? = some t.gs[k] := List.getElem?_eq_getElem hlt'
        have HE := Lib.hid (okAt_eq hgk)
        have hy : t.gs.getD (k - 1) gz = t.gs[k - 1]'(by omega) := by simp [List.getD, show k - 1 < t.gs.length by omega]
        rw [hy] at HE
        have HOX := Lib.hid (HOK.out.gs _ (List.getElem_mem hlt'))
        have HOY := Lib.hid (HOK.out.gs _ (List.getElem_mem (show k - 1 < t.gs.length by omega)))
        generalize t.gs[k] = x at HR HE HOX
        generalize t.gs[k - 1]'(by omega) = y at HP HE HOY
        have HG := Lib.hid hgood
        have HTK := Lib.hid htk
        have HB := Lib.hid hbw
        have HKL := Lib.hid hlt
        clear hgood hbw hr hgk hy hlt' htk
        obtain ⟨E, hE⟩ : ∃ E, checkM x = E := ⟨_, rfl⟩
        have HCH : Hid (∀ W, Calls Tryd.prog 100 #[.agg x.cells.toArray] W (ReturnsZ E W)) := show ∀ _, _ from fun W => by rw [← hE]; exact refCheck_any x W (by have := HOX.out.1; omega)
        rw [hE] at HE
        clear hE
        by_cases hE0 : E = 0
        · subst hE0
          have q3 : ¬ ((0 : Int) != 0) = true := by decide
          go_upto_region 8 with (first
          | (show wpList _ _ _ (⟨_, .indexAddr _ _ _, _, _, _, _⟩ :: _) _ _; refine wpList_run (by rfl) (grantT.run_ix rfl rfl rfl HKL.out _) ?_)
          | (show wpList _ _ _ (⟨_, .load 54 _, _, _, _, _⟩ :: _) _ _; refine wpList_run (by rfl) (grantT.run_ld Tryd.underlying54 rfl (GrantM.len x) rfl rfl (HR.out _ HB.out)) ?_)
          | (go_at_call 100; refine (HCH.out _).mono ?_; rintro e w1 ⟨rfl, hb1⟩; have HB1 := Lib.hid (HB.out.trans (hb1.mono HB.out.size)); have HT1 := Lib.hid (HTK.out.keep hb1); have c2b := HT1.out.c2; clear hb1))
          by_cases hk0 : k = 0
          · subst hk0
            have HF : Hid (okAt t.gs 0 = true) := show _ = _ by rw [HE.out]; rfl
            have hgt : decide ((((0 : Nat)) : Int) > 0) = false := by decide
            refine region_grow (fun W => TokAt W w.heap.size t (.slice (some ⟨b, off, none⟩) n c) ∧ Below w.heap.size w W) (fun i vz wz => match i with | 0 => vz = .int .i64 ((0 : Nat) : Int) | 1 => vz = .bool false | 2 => vz = .bool false | 3 => vz = undef | 4 => vz = undef | 5 => vz = undef | 6 => vz = undef | 7 => vz = undef | 8 => vz = undef | 9 => vz = undef | 10 => vz = undef | 11 => vz = undef | 12 => vz = undef | 13 => vz = undef | 14 => vz = undef | 15 => vz = undef | _ => True) (by kernel_rfl) (by kernel_rfl) (by kernel_rfl) (by kernel_rfl) (by decide) (⟨HT1.out.keep (Below.refl _ _).drew, HB1.out.trans ((Below.refl _ _).drew.mono HB1.out.size)⟩) ?_ ?_
            · skip
              intro i vz wz w2 hb hf
              match i, hf with
              | 0, hf => exact hf
              | 1, hf => exact hf
              | 2, hf => exact hf
              | 3, hf => exact hf
              | 4, hf => exact hf
              | 5, hf => exact hf
              | 6, hf => exact hf
              | 7, hf => exact hf
              | 8, hf => exact hf
              | 9, hf => exact hf
              | 10, hf => exact hf
              | 11, hf => exact hf
              | 12, hf => exact hf
              | 13, hf => exact hf
              | 14, hf => exact hf
              | 15, hf => exact hf
              | _ + 16, _ => trivial
            intro ops hops
            have hf1 : ∀ (i : Nat) (o : Oper), ops[i]? = some o → o.dst ≠ some 1 := by rw [hops]; exact fun i o h => slot_free (by kernel_rfl) i o h
            have hf3 : ∀ (i : Nat) (o : Oper), ops[i]? = some o → o.dst ≠ some 3 := by rw [hops]; exact fun i o h => slot_free (by kernel_rfl) i o h
            have hns : ops.size = 17 := by rw [hops]; rfl
            obtain ⟨o0, po0, q0, d0, gd0⟩ : ∃ o, ops[0]? = some o ∧ o.op = .move (.tmp 3) ∧ o.dst = some 44 ∧ o.guard = none := ⟨_, by rw [hops]; rfl, rfl, rfl, rfl⟩
            obtain ⟨o1, po1, q1, d1, gd1, dp1_0⟩ : ∃ o, ops[1]? = some o ∧ o.op = .binOp .gtr 3 (.tmp 44) (.const (.int .i64 0)) 3 ∧ o.dst = some 45 ∧ o.guard = none ∧ (o.after.any fun e => Region.binds .any e && decide (e.on = 0)) = true := ⟨_, by rw [hops]; rfl, rfl, rfl, rfl, by kernel_rfl⟩
            obtain ⟨o2, po2, q2, d2, gd2, dp2_1⟩ : ∃ o, ops[2]? = some o ∧ o.op = .move (.tmp 45) ∧ o.dst = some 46 ∧ o.guard = none ∧ (o.after.any fun e => Region.binds .any e && decide (e.on = 1)) = true := ⟨_, by rw [hops]; rfl, rfl, rfl, rfl, by kernel_rfl⟩
            obtain ⟨o3, po3, q3, d3, gd3, dp3_2⟩ : ∃ o, ops[3]? = some o ∧ o.op = .fieldAddr 50 (.tmp 1) 2 ∧ o.dst = some 47 ∧ o.guard = some (2, true) ∧ (o.after.any fun e => Region.binds .any e && decide (e.on = 2)) = true := ⟨_, by rw [hops]; rfl, rfl, rfl, rfl, by kernel_rfl⟩
            obtain ⟨o4, po4, q4, d4, gd4, dp4_3, dp4_2⟩ : ∃ o, ops[4]? = some o ∧ o.op = .load 44 (.tmp 47) ∧ o.dst = some 48 ∧ o.guard = some (2, true) ∧ (o.after.any fun e => Region.binds .any e && decide (e.on = 3)) = true ∧ (o.after.any fun e => Region.binds .any e && decide (e.on = 2)) = true := ⟨_, by rw [hops]; rfl, rfl, rfl, rfl, by kernel_rfl, by kernel_rfl⟩
            obtain ⟨o5, po5, q5, d5, gd5, dp5_2⟩ : ∃ o, ops[5]? = some o ∧ o.op = .move (.tmp 3) ∧ o.dst = some 49 ∧ o.guard = some (2, true) ∧ (o.after.any fun e => Region.binds .any e && decide (e.on = 2)) = true := ⟨_, by rw [hops]; rfl, rfl, rfl, rfl, by kernel_rfl⟩
            obtain ⟨o6, po6, q6, d6, gd6, dp6_5, dp6_2⟩ : ∃ o, ops[6]? = some o ∧ o.op = .binOp .sub 3 (.tmp 49) (.const (.int .i64 1)) 3 ∧ o.dst = some 50 ∧ o.guard = some (2, true) ∧ (o.after.any fun e => Region.binds .any e && decide (e.on = 5)) = true ∧ (o.after.any fun e => Region.binds .any e && decide (e.on = 2)) = true := ⟨_, by rw [hops]; rfl, rfl, rfl, rfl, by kernel_rfl, by kernel_rfl⟩
            obtain ⟨o7, po7, q7, d7, gd7, dp7_4, dp7_6, dp7_2⟩ : ∃ o, ops[7]? = some o ∧ o.op = .indexAddr 44 (.tmp 48) (.tmp 50) ∧ o.dst = some 51 ∧ o.guard = some (2, true) ∧ (o.after.any fun e => Region.binds .any e && decide (e.on = 4)) = true ∧ (o.after.any fun e => Region.binds .any e && decide (e.on = 6)) = true ∧ (o.after.any fun e => Region.binds .any e && decide (e.on = 2)) = true := ⟨_, by rw [hops]; rfl, rfl, rfl, rfl, by kernel_rfl, by kernel_rfl, by kernel_rfl⟩
            obtain ⟨o8, po8, q8, d8, gd8, dp8_7, dp8_2⟩ : ∃ o, ops[8]? = some o ∧ o.op = .load 54 (.tmp 51) ∧ o.dst = some 52 ∧ o.guard = some (2, true) ∧ (o.after.any fun e => Region.binds .any e && decide (e.on = 7)) = true ∧ (o.after.any fun e => Region.binds .any e && decide (e.on = 2)) = true := ⟨_, by rw [hops]; rfl, rfl, rfl, rfl, by kernel_rfl, by kernel_rfl⟩
            obtain ⟨o9, po9, q9, d9, gd9, dp9_2⟩ : ∃ o, ops[9]? = some o ∧ o.op = .fieldAddr 50 (.tmp 1) 2 ∧ o.dst = some 53 ∧ o.guard = some (2, true) ∧ (o.after.any fun e => Region.binds .any e && decide (e.on = 2)) = true := ⟨_, by rw [hops]; rfl, rfl, rfl, rfl, by kernel_rfl⟩
            obtain ⟨o10, po10, q10, d10, gd10, dp10_9, dp10_2⟩ : ∃ o, ops[10]? = some o ∧ o.op = .load 44 (.tmp 53) ∧ o.dst = some 54 ∧ o.guard = some (2, true) ∧ (o.after.any fun e => Region.binds .any e && decide (e.on = 9)) = true ∧ (o.after.any fun e => Region.binds .any e && decide (e.on = 2)) = true := ⟨_, by rw [hops]; rfl, rfl, rfl, rfl, by kernel_rfl, by kernel_rfl⟩
            obtain ⟨o11, po11, q11, d11, gd11, dp11_2⟩ : ∃ o, ops[11]? = some o ∧ o.op = .move (.tmp 3) ∧ o.dst = some 55 ∧ o.guard = some (2, true) ∧ (o.after.any fun e => Region.binds .any e && decide (e.on = 2)) = true := ⟨_, by rw [hops]; rfl, rfl, rfl, rfl, by kernel_rfl⟩
            obtain ⟨o12, po12, q12, d12, gd12, dp12_10, dp12_11, dp12_2⟩ : ∃ o, ops[12]? = some o ∧ o.op = .indexAddr 44 (.tmp 54) (.tmp 55) ∧ o.dst = some 56 ∧ o.guard = some (2, true) ∧ (o.after.any fun e => Region.binds .any e && decide (e.on = 10)) = true ∧ (o.after.any fun e => Region.binds .any e && decide (e.on = 11)) = true ∧ (o.after.any fun e => Region.binds .any e && decide (e.on = 2)) = true := ⟨_, by rw [hops]; rfl, rfl, rfl, rfl, by kernel_rfl, by kernel_rfl, by kernel_rfl⟩
            obtain ⟨o13, po13, q13, d13, gd13, dp13_12, dp13_2⟩ : ∃ o, ops[13]? = some o ∧ o.op = .load 54 (.tmp 56) ∧ o.dst = some 57 ∧ o.guard = some (2, true) ∧ (o.after.any fun e => Region.binds .any e && decide (e.on = 12)) = true ∧ (o.after.any fun e => Region.binds .any e && decide (e.on = 2)) = true := ⟨_, by rw [hops]; rfl, rfl, rfl, rfl, by kernel_rfl, by kernel_rfl⟩
            obtain ⟨o14, po14, q14, d14, gd14, dp14_8, dp14_13, dp14_2⟩ : ∃ o, ops[14]? = some o ∧ o.op = .call { callee := .value (.func 104), args := #[.tmp 52, .tmp 57], argTypes := #[54, 54] } ∧ o.dst = some 58 ∧ o.guard = some (2, true) ∧ (o.after.any fun e => Region.binds .any e && decide (e.on = 8)) = true ∧ (o.after.any fun e => Region.binds .any e && decide (e.on = 13)) = true ∧ (o.after.any fun e => Region.binds .any e && decide (e.on = 2)) = true := ⟨_, by rw [hops]; rfl, rfl, rfl, rfl, by kernel_rfl, by kernel_rfl, by kernel_rfl⟩
            obtain ⟨o15, po15, q15, d15, gd15, dp15_14, dp15_2⟩ : ∃ o, ops[15]? = some o ∧ o.op = .unOp .not 4 (.tmp 58) ∧ o.dst = some 59 ∧ o.guard = some (2, true) ∧ (o.after.any fun e => Region.binds .any e && decide (e.on = 14)) = true ∧ (o.after.any fun e => Region.binds .any e && decide (e.on = 2)) = true := ⟨_, by rw [hops]; rfl, rfl, rfl, rfl, by kernel_rfl, by kernel_rfl⟩
            obtain ⟨o16, po16, q16, d16, gd16⟩ : ∃ o, ops[16]? = some o ∧ o.op = .pick (.tmp 46) (.tmp 59) (.const (.bool false)) ∧ o.dst = some 60 ∧ o.guard = none := ⟨_, by rw [hops]; rfl, rfl, rfl, rfl⟩
            have hslots : ∀ t, t ∉ [44, 45, 46, 47, 48, 49, 50, 51, 52, 53, 54, 55, 56, 57, 58, 59, 60] → ∀ (i : Nat) (o : Oper), ops[i]? = some o → o.dst ≠ some t := by rw [hops]; exact fun t ht i o h => slots_free (by kernel_rfl) t ht i o h
            clear hops
            refine ⟨fun A W HS hfr hAs i o hi ho hdep => ?_, fun A W HS hdf hAs hfr hall => ?_⟩
            · skip
              have base1 : A.eval (.tmp 1) = .pointer (some ⟨w.heap.size, 0, none⟩) := (hfr 1 hf1).trans rfl
              have base3 : A.eval (.tmp 3) = .int .i64 ((0 : Nat) : Int) := (hfr 3 hf3).trans rfl
              rw [hns] at hi
              obtain rfl | rfl | rfl | rfl | rfl | rfl | rfl | rfl | rfl | rfl | rfl | rfl | rfl | rfl | rfl | rfl : i = 0 ∨ i = 1 ∨ i = 2 ∨ i = 3 ∨ i = 4 ∨ i = 5 ∨ i = 6 ∨ i = 7 ∨ i = 8 ∨ i = 9 ∨ i = 10 ∨ i = 11 ∨ i = 12 ∨ i = 13 ∨ i = 14 ∨ i = 15 := by omega
              · skip
                obtain rfl : o = o0 := Option.some.inj (ho.symm.trans po0)
                refine at_op po0 d0 (wanted_of gd0) (run_move q0 base3 W) ⟨_, by rw [d0], HS, Below.refl _ _, rfl⟩
              · skip
                obtain rfl : o = o1 := Option.some.inj (ho.symm.trans po1)
                have e0 : A.eval (.tmp 44) = .int .i64 ((0 : Nat) : Int) := hdep 0 _ 44 dp1_0 po0 d0
                refine at_op po1 d1 (wanted_of gd1) (run_gtrZ hgt q1 e0 rfl W) ⟨_, by rw [d1], HS, Below.refl _ _, rfl⟩
              · skip
                obtain rfl : o = o2 := Option.some.inj (ho.symm.trans po2)
                have e1 : A.eval (.tmp 45) = .bool false := hdep 1 _ 45 dp2_1 po1 d1
                refine at_op po2 d2 (wanted_of gd2) (run_move q2 e1 W) ⟨_, by rw [d2], HS, Below.refl _ _, rfl⟩
              · skip
                obtain rfl : o = o3 := Option.some.inj (ho.symm.trans po3)
                have e2 : A.eval (.tmp 46) = .bool false := hdep 2 _ 46 dp3_2 po2 d2
                refine at_unw po3 d3 (w_not gd3 po2 d2 e2) ⟨_, by rw [d3], HS, Below.refl _ _, rfl⟩
              · skip
                obtain rfl : o = o4 := Option.some.inj (ho.symm.trans po4)
                have e3 : A.eval (.tmp 47) = undef := hdep 3 _ 47 dp4_3 po3 d3
                have e2 : A.eval (.tmp 46) = .bool false := hdep 2 _ 46 dp4_2 po2 d2
                refine at_unw po4 d4 (w_not gd4 po2 d2 e2) ⟨_, by rw [d4], HS, Below.refl _ _, rfl⟩
              · skip
                obtain rfl : o = o5 := Option.some.inj (ho.symm.trans po5)
                have e2 : A.eval (.tmp 46) = .bool false := hdep 2 _ 46 dp5_2 po2 d2
                refine at_unw po5 d5 (w_not gd5 po2 d2 e2) ⟨_, by rw [d5], HS, Below.refl _ _, rfl⟩
              · skip
                obtain rfl : o = o6 := Option.some.inj (ho.symm.trans po6)
                have e5 : A.eval (.tmp 49) = undef := hdep 5 _ 49 dp6_5 po5 d5
                have e2 : A.eval (.tmp 46) = .bool false := hdep 2 _ 46 dp6_2 po2 d2
                refine at_unw po6 d6 (w_not gd6 po2 d2 e2) ⟨_, by rw [d6], HS, Below.refl _ _, rfl⟩
              · skip
                obtain rfl : o = o7 := Option.some.inj (ho.symm.trans po7)
                have e4 : A.eval (.tmp 48) = undef := hdep 4 _ 48 dp7_4 po4 d4
                have e6 : A.eval (.tmp 50) = undef := hdep 6 _ 50 dp7_6 po6 d6
                have e2 : A.eval (.tmp 46) = .bool false := hdep 2 _ 46 dp7_2 po2 d2
                refine at_unw po7 d7 (w_not gd7 po2 d2 e2) ⟨_, by rw [d7], HS, Below.refl _ _, rfl⟩
              · skip
                obtain rfl : o = o8 := Option.some.inj (ho.symm.trans po8)
                have e7 : A.eval (.tmp 51) = undef := hdep 7 _ 51 dp8_7 po7 d7
                have e2 : A.eval (.tmp 46) = .bool false := hdep 2 _ 46 dp8_2 po2 d2
                refine at_unw po8 d8 (w_not gd8 po2 d2 e2) ⟨_, by rw [d8], HS, Below.refl _ _, rfl⟩
              · skip
                obtain rfl : o = o9 := Option.some.inj (ho.symm.trans po9)
                have e2 : A.eval (.tmp 46) = .bool false := hdep 2 _ 46 dp9_2 po2 d2
                refine at_unw po9 d9 (w_not gd9 po2 d2 e2) ⟨_, by rw [d9], HS, Below.refl _ _, rfl⟩
              · skip
                obtain rfl : o = o10 := Option.some.inj (ho.symm.trans po10)
                have e9 : A.eval (.tmp 53) = undef := hdep 9 _ 53 dp10_9 po9 d9
                have e2 : A.eval (.tmp 46) = .bool false := hdep 2 _ 46 dp10_2 po2 d2
                refine at_unw po10 d10 (w_not gd10 po2 d2 e2) ⟨_, by rw [d10], HS, Below.refl _ _, rfl⟩
              · skip
                obtain rfl : o = o11 := Option.some.inj (ho.symm.trans po11)
                have e2 : A.eval (.tmp 46) = .bool false := hdep 2 _ 46 dp11_2 po2 d2
                refine at_unw po11 d11 (w_not gd11 po2 d2 e2) ⟨_, by rw [d11], HS, Below.refl _ _, rfl⟩
              · skip
                obtain rfl : o = o12 := Option.some.inj (ho.symm.trans po12)
                have e10 : A.eval (.tmp 54) = undef := hdep 10 _ 54 dp12_10 po10 d10
                have e11 : A.eval (.tmp 55) = undef := hdep 11 _ 55 dp12_11 po11 d11
                have e2 : A.eval (.tmp 46) = .bool false := hdep 2 _ 46 dp12_2 po2 d2
                refine at_unw po12 d12 (w_not gd12 po2 d2 e2) ⟨_, by rw [d12], HS, Below.refl _ _, rfl⟩
              · skip
                obtain rfl : o = o13 := Option.some.inj (ho.symm.trans po13)
                have e12 : A.eval (.tmp 56) = undef := hdep 12 _ 56 dp13_12 po12 d12
                have e2 : A.eval (.tmp 46) = .bool false := hdep 2 _ 46 dp13_2 po2 d2
                refine at_unw po13 d13 (w_not gd13 po2 d2 e2) ⟨_, by rw [d13], HS, Below.refl _ _, rfl⟩
              · skip
                obtain rfl : o = o14 := Option.some.inj (ho.symm.trans po14)
                have e8 : A.eval (.tmp 52) = undef := hdep 8 _ 52 dp14_8 po8 d8
                have e13 : A.eval (.tmp 57) = undef := hdep 13 _ 57 dp14_13 po13 d13
                have e2 : A.eval (.tmp 46) = .bool false := hdep 2 _ 46 dp14_2 po2 d2
                refine at_unw po14 d14 (w_not gd14 po2 d2 e2) ⟨_, by rw [d14], HS, Below.refl _ _, rfl⟩
              · skip
                obtain rfl : o = o15 := Option.some.inj (ho.symm.trans po15)
                have e14 : A.eval (.tmp 58) = undef := hdep 14 _ 58 dp15_14 po14 d14
                have e2 : A.eval (.tmp 46) = .bool false := hdep 2 _ 46 dp15_2 po2 d2
                refine at_unw po15 d15 (w_not gd15 po2 d2 e2) ⟨_, by rw [d15], HS, Below.refl _ _, rfl⟩
            have base1 : A.eval (.tmp 1) = .pointer (some ⟨w.heap.size, 0, none⟩) := (hfr 1 hf1).trans rfl
            have base3 : A.eval (.tmp 3) = .int .i64 ((0 : Nat) : Int) := (hfr 3 hf3).trans rfl
            have e0 : A.eval (.tmp 44) = .int .i64 ((0 : Nat) : Int) := hall 0 _ 44 (by rw [hns]; decide) po0 d0
            have e1 : A.eval (.tmp 45) = .bool false := hall 1 _ 45 (by rw [hns]; decide) po1 d1
            have e2 : A.eval (.tmp 46) = .bool false := hall 2 _ 46 (by rw [hns]; decide) po2 d2
            have e3 : A.eval (.tmp 47) = undef := hall 3 _ 47 (by rw [hns]; decide) po3 d3
            have e4 : A.eval (.tmp 48) = undef := hall 4 _ 48 (by rw [hns]; decide) po4 d4
            have e5 : A.eval (.tmp 49) = undef := hall 5 _ 49 (by rw [hns]; decide) po5 d5
            have e6 : A.eval (.tmp 50) = undef := hall 6 _ 50 (by rw [hns]; decide) po6 d6
            have e7 : A.eval (.tmp 51) = undef := hall 7 _ 51 (by rw [hns]; decide) po7 d7
            have e8 : A.eval (.tmp 52) = undef := hall 8 _ 52 (by rw [hns]; decide) po8 d8
            have e9 : A.eval (.tmp 53) = undef := hall 9 _ 53 (by rw [hns]; decide) po9 d9
            have e10 : A.eval (.tmp 54) = undef := hall 10 _ 54 (by rw [hns]; decide) po10 d10
            have e11 : A.eval (.tmp 55) = undef := hall 11 _ 55 (by rw [hns]; decide) po11 d11
            have e12 : A.eval (.tmp 56) = undef := hall 12 _ 56 (by rw [hns]; decide) po12 d12
            have e13 : A.eval (.tmp 57) = undef := hall 13 _ 57 (by rw [hns]; decide) po13 d13
            have e14 : A.eval (.tmp 58) = undef := hall 14 _ 58 (by rw [hns]; decide) po14 d14
            have e15 : A.eval (.tmp 59) = undef := hall 15 _ 59 (by rw [hns]; decide) po15 d15
            have hA := act_of_slots [44, 45, 46, 47, 48, 49, 50, 51, 52, 53, 54, 55, 56, 57, 58, 59, 60] _ hAs hdf (fun t ht => hfr t (hslots t ht))
            simp only [List.foldl_cons, List.foldl_nil] at hA
            rw [show rdA A 44 = A.eval (.tmp 44) from rfl, e0] at hA
            rw [show rdA A 45 = A.eval (.tmp 45) from rfl, e1] at hA
            rw [show rdA A 46 = A.eval (.tmp 46) from rfl, e2] at hA
            rw [show rdA A 47 = A.eval (.tmp 47) from rfl, e3] at hA
            rw [show rdA A 48 = A.eval (.tmp 48) from rfl, e4] at hA
            rw [show rdA A 49 = A.eval (.tmp 49) from rfl, e5] at hA
            rw [show rdA A 50 = A.eval (.tmp 50) from rfl, e6] at hA
            rw [show rdA A 51 = A.eval (.tmp 51) from rfl, e7] at hA
            rw [show rdA A 52 = A.eval (.tmp 52) from rfl, e8] at hA
            rw [show rdA A 53 = A.eval (.tmp 53) from rfl, e9] at hA
            rw [show rdA A 54 = A.eval (.tmp 54) from rfl, e10] at hA
            rw [show rdA A 55 = A.eval (.tmp 55) from rfl, e11] at hA
            rw [show rdA A 56 = A.eval (.tmp 56) from rfl, e12] at hA
            rw [show rdA A 57 = A.eval (.tmp 57) from rfl, e13] at hA
            rw [show rdA A 58 = A.eval (.tmp 58) from rfl, e14] at hA
            rw [show rdA A 59 = A.eval (.tmp 59) from rfl, e15] at hA
            obtain ⟨ul, hul⟩ : ∃ u, rdA A 60 = u := ⟨_, rfl⟩
            rw [hul] at hA
            clear hul
            rw [hns]
            have HSF := Lib.hid HS
            refine at_op po16 d16 (wanted_of gd16) (r_pickF (v := .bool false) q16 e2 rfl W) ?_
            obtain ⟨W8, hW8⟩ : ∃ W8, W8 = W := ⟨_, rfl⟩
            rw [← hW8] at HSF
            rw [← hW8]
            clear hW8
            clear hall hdf hAs hfr hslots hns hf1 hf3 po0 q0 d0 gd0 po1 q1 d1 gd1 dp1_0 po2 q2 d2 gd2 dp2_1 po3 q3 d3 gd3 dp3_2 po4 q4 d4 gd4 dp4_3 dp4_2 po5 q5 d5 gd5 dp5_2 po6 q6 d6 gd6 dp6_5 dp6_2 po7 q7 d7 gd7 dp7_4 dp7_6 dp7_2 po8 q8 d8 gd8 dp8_7 dp8_2 po9 q9 d9 gd9 dp9_2 po10 q10 d10 gd10 dp10_9 dp10_2 po11 q11 d11 gd11 dp11_2 po12 q12 d12 gd12 dp12_10 dp12_11 dp12_2 po13 q13 d13 gd13 dp13_12 dp13_2 po14 q14 d14 gd14 dp14_8 dp14_13 dp14_2 po15 q15 d15 gd15 dp15_14 dp15_2 po16 q16 d16 gd16 base1 base3
            have HA9 := Lib.hid hA
            clear hA HS e0 e1 e2 e3 e4 e5 e6 e7 e8 e9 e10 e11 e12 e13 e14 e15
            rw [HA9.out]
            go_frame
            clear HA9
            have c2c := HSF.out.1.c2
            go_wp2_with fail
            go_roundw
            case rel => exact ⟨0 + 1, by omega, by go_num, goodTo_succ HG.out HF.out, HSF.out.1, HSF.out.2⟩
            case measure => simp [intOf]; omega
          · have hgt : decide ((k : Int) > 0) = true := decide_eq_true (by omega)
            have hsub : wrap64 ((k : Int) - 1) = ((k - 1 : Nat) : Int) := by unfold wrap64; omega
            have HK1 : Hid (k - 1 < n) := show _ < _ by omega
            cases hnw : narrowM y x
            · have HF2 : Hid (okAt t.gs k = false) := show _ = _ by rw [HE.out, hnw]; simp [hk0]
              refine region_grow (fun W => TokAt W w.heap.size t (.slice (some ⟨b, off, none⟩) n c) ∧ Below w.heap.size w W) (fun i vz wz => match i with | 0 => vz = .int .i64 (k : Int) | 1 => vz = .bool true | 2 => vz = .bool true | 3 => vz = .pointer (some ⟨w.heap.size, 2, none⟩) | 4 => vz = .slice (some ⟨b, off, none⟩) n c | 5 => vz = .int .i64 (k : Int) | 6 => vz = .int .i64 ((k - 1 : Nat) : Int) | 7 => vz = .pointer (some ⟨b, off + (k - 1) * 4, none⟩) | 8 => vz = .agg y.cells.toArray | 9 => vz = .pointer (some ⟨w.heap.size, 2, none⟩) | 10 => vz = .slice (some ⟨b, off, none⟩) n c | 11 => vz = .int .i64 (k : Int) | 12 => vz = .pointer (some ⟨b, off + k * 4, none⟩) | 13 => vz = .agg x.cells.toArray | 14 => vz = .bool false | 15 => vz = .bool true | _ => True) (by kernel_rfl) (by kernel_rfl) (by kernel_rfl) (by kernel_rfl) (by decide) (⟨HT1.out.keep (Below.refl _ _).drew, HB1.out.trans ((Below.refl _ _).drew.mono HB1.out.size)⟩) ?_ ?_
              · skip
                intro i vz wz w2 hb hf
                match i, hf with
                | 0, hf => exact hf
                | 1, hf => exact hf
                | 2, hf => exact hf
                | 3, hf => exact hf
                | 4, hf => exact hf
                | 5, hf => exact hf
                | 6, hf => exact hf
                | 7, hf => exact hf
                | 8, hf => exact hf
                | 9, hf => exact hf
                | 10, hf => exact hf
                | 11, hf => exact hf
                | 12, hf => exact hf
                | 13, hf => exact hf
                | 14, hf => exact hf
                | 15, hf => exact hf
                | _ + 16, _ => trivial
              intro ops hops
              have hf1 : ∀ (i : Nat) (o : Oper), ops[i]? = some o → o.dst ≠ some 1 := by rw [hops]; exact fun i o h => slot_free (by kernel_rfl) i o h
              have hf3 : ∀ (i : Nat) (o : Oper), ops[i]? = some o → o.dst ≠ some 3 := by rw [hops]; exact fun i o h => slot_free (by kernel_rfl) i o h
              have hns : ops.size = 17 := by rw [hops]; rfl
              obtain ⟨o0, po0, q0, d0, gd0⟩ : ∃ o, ops[0]? = some o ∧ o.op = .move (.tmp 3) ∧ o.dst = some 44 ∧ o.guard = none := ⟨_, by rw [hops]; rfl, rfl, rfl, rfl⟩
              obtain ⟨o1, po1, q1, d1, gd1, dp1_0⟩ : ∃ o, ops[1]? = some o ∧ o.op = .binOp .gtr 3 (.tmp 44) (.const (.int .i64 0)) 3 ∧ o.dst = some 45 ∧ o.guard = none ∧ (o.after.any fun e => Region.binds .any e && decide (e.on = 0)) = true := ⟨_, by rw [hops]; rfl, rfl, rfl, rfl, by kernel_rfl⟩
              obtain ⟨o2, po2, q2, d2, gd2, dp2_1⟩ : ∃ o, ops[2]? = some o ∧ o.op = .move (.tmp 45) ∧ o.dst = some 46 ∧ o.guard = none ∧ (o.after.any fun e => Region.binds .any e && decide (e.on = 1)) = true := ⟨_, by rw [hops]; rfl, rfl, rfl, rfl, by kernel_rfl⟩
              obtain ⟨o3, po3, q3, d3, gd3, dp3_2⟩ : ∃ o, ops[3]? = some o ∧ o.op = .fieldAddr 50 (.tmp 1) 2 ∧ o.dst = some 47 ∧ o.guard = some (2, true) ∧ (o.after.any fun e => Region.binds .any e && decide (e.on = 2)) = true := ⟨_, by rw [hops]; rfl, rfl, rfl, rfl, by kernel_rfl⟩
              obtain ⟨o4, po4, q4, d4, gd4, dp4_3, dp4_2⟩ : ∃ o, ops[4]? = some o ∧ o.op = .load 44 (.tmp 47) ∧ o.dst = some 48 ∧ o.guard = some (2, true) ∧ (o.after.any fun e => Region.binds .any e && decide (e.on = 3)) = true ∧ (o.after.any fun e => Region.binds .any e && decide (e.on = 2)) = true := ⟨_, by rw [hops]; rfl, rfl, rfl, rfl, by kernel_rfl, by kernel_rfl⟩
              obtain ⟨o5, po5, q5, d5, gd5, dp5_2⟩ : ∃ o, ops[5]? = some o ∧ o.op = .move (.tmp 3) ∧ o.dst = some 49 ∧ o.guard = some (2, true) ∧ (o.after.any fun e => Region.binds .any e && decide (e.on = 2)) = true := ⟨_, by rw [hops]; rfl, rfl, rfl, rfl, by kernel_rfl⟩
              obtain ⟨o6, po6, q6, d6, gd6, dp6_5, dp6_2⟩ : ∃ o, ops[6]? = some o ∧ o.op = .binOp .sub 3 (.tmp 49) (.const (.int .i64 1)) 3 ∧ o.dst = some 50 ∧ o.guard = some (2, true) ∧ (o.after.any fun e => Region.binds .any e && decide (e.on = 5)) = true ∧ (o.after.any fun e => Region.binds .any e && decide (e.on = 2)) = true := ⟨_, by rw [hops]; rfl, rfl, rfl, rfl, by kernel_rfl, by kernel_rfl⟩
              obtain ⟨o7, po7, q7, d7, gd7, dp7_4, dp7_6, dp7_2⟩ : ∃ o, ops[7]? = some o ∧ o.op = .indexAddr 44 (.tmp 48) (.tmp 50) ∧ o.dst = some 51 ∧ o.guard = some (2, true) ∧ (o.after.any fun e => Region.binds .any e && decide (e.on = 4)) = true ∧ (o.after.any fun e => Region.binds .any e && decide (e.on = 6)) = true ∧ (o.after.any fun e => Region.binds .any e && decide (e.on = 2)) = true := ⟨_, by rw [hops]; rfl, rfl, rfl, rfl, by kernel_rfl, by kernel_rfl, by kernel_rfl⟩
              obtain ⟨o8, po8, q8, d8, gd8, dp8_7, dp8_2⟩ : ∃ o, ops[8]? = some o ∧ o.op = .load 54 (.tmp 51) ∧ o.dst = some 52 ∧ o.guard = some (2, true) ∧ (o.after.any fun e => Region.binds .any e && decide (e.on = 7)) = true ∧ (o.after.any fun e => Region.binds .any e && decide (e.on = 2)) = true := ⟨_, by rw [hops]; rfl, rfl, rfl, rfl, by kernel_rfl, by kernel_rfl⟩
              obtain ⟨o9, po9, q9, d9, gd9, dp9_2⟩ : ∃ o, ops[9]? = some o ∧ o.op = .fieldAddr 50 (.tmp 1) 2 ∧ o.dst = some 53 ∧ o.guard = some (2, true) ∧ (o.after.any fun e => Region.binds .any e && decide (e.on = 2)) = true := ⟨_, by rw [hops]; rfl, rfl, rfl, rfl, by kernel_rfl⟩
              obtain ⟨o10, po10, q10, d10, gd10, dp10_9, dp10_2⟩ : ∃ o, ops[10]? = some o ∧ o.op = .load 44 (.tmp 53) ∧ o.dst = some 54 ∧ o.guard = some (2, true) ∧ (o.after.any fun e => Region.binds .any e && decide (e.on = 9)) = true ∧ (o.after.any fun e => Region.binds .any e && decide (e.on = 2)) = true := ⟨_, by rw [hops]; rfl, rfl, rfl, rfl, by kernel_rfl, by kernel_rfl⟩
              obtain ⟨o11, po11, q11, d11, gd11, dp11_2⟩ : ∃ o, ops[11]? = some o ∧ o.op = .move (.tmp 3) ∧ o.dst = some 55 ∧ o.guard = some (2, true) ∧ (o.after.any fun e => Region.binds .any e && decide (e.on = 2)) = true := ⟨_, by rw [hops]; rfl, rfl, rfl, rfl, by kernel_rfl⟩
              obtain ⟨o12, po12, q12, d12, gd12, dp12_10, dp12_11, dp12_2⟩ : ∃ o, ops[12]? = some o ∧ o.op = .indexAddr 44 (.tmp 54) (.tmp 55) ∧ o.dst = some 56 ∧ o.guard = some (2, true) ∧ (o.after.any fun e => Region.binds .any e && decide (e.on = 10)) = true ∧ (o.after.any fun e => Region.binds .any e && decide (e.on = 11)) = true ∧ (o.after.any fun e => Region.binds .any e && decide (e.on = 2)) = true := ⟨_, by rw [hops]; rfl, rfl, rfl, rfl, by kernel_rfl, by kernel_rfl, by kernel_rfl⟩
              obtain ⟨o13, po13, q13, d13, gd13, dp13_12, dp13_2⟩ : ∃ o, ops[13]? = some o ∧ o.op = .load 54 (.tmp 56) ∧ o.dst = some 57 ∧ o.guard = some (2, true) ∧ (o.after.any fun e => Region.binds .any e && decide (e.on = 12)) = true ∧ (o.after.any fun e => Region.binds .any e && decide (e.on = 2)) = true := ⟨_, by rw [hops]; rfl, rfl, rfl, rfl, by kernel_rfl, by kernel_rfl⟩
              obtain ⟨o14, po14, q14, d14, gd14, dp14_8, dp14_13, dp14_2⟩ : ∃ o, ops[14]? = some o ∧ o.op = .call { callee := .value (.func 104), args := #[.tmp 52, .tmp 57], argTypes := #[54, 54] } ∧ o.dst = some 58 ∧ o.guard = some (2, true) ∧ (o.after.any fun e => Region.binds .any e && decide (e.on = 8)) = true ∧ (o.after.any fun e => Region.binds .any e && decide (e.on = 13)) = true ∧ (o.after.any fun e => Region.binds .any e && decide (e.on = 2)) = true := ⟨_, by rw [hops]; rfl, rfl, rfl, rfl, by kernel_rfl, by kernel_rfl, by kernel_rfl⟩
              obtain ⟨o15, po15, q15, d15, gd15, dp15_14, dp15_2⟩ : ∃ o, ops[15]? = some o ∧ o.op = .unOp .not 4 (.tmp 58) ∧ o.dst = some 59 ∧ o.guard = some (2, true) ∧ (o.after.any fun e => Region.binds .any e && decide (e.on = 14)) = true ∧ (o.after.any fun e => Region.binds .any e && decide (e.on = 2)) = true := ⟨_, by rw [hops]; rfl, rfl, rfl, rfl, by kernel_rfl, by kernel_rfl⟩
              obtain ⟨o16, po16, q16, d16, gd16⟩ : ∃ o, ops[16]? = some o ∧ o.op = .pick (.tmp 46) (.tmp 59) (.const (.bool false)) ∧ o.dst = some 60 ∧ o.guard = none := ⟨_, by rw [hops]; rfl, rfl, rfl, rfl⟩
              have hslots : ∀ t, t ∉ [44, 45, 46, 47, 48, 49, 50, 51, 52, 53, 54, 55, 56, 57, 58, 59, 60] → ∀ (i : Nat) (o : Oper), ops[i]? = some o → o.dst ≠ some t := by rw [hops]; exact fun t ht i o h => slots_free (by kernel_rfl) t ht i o h
              clear hops
              refine ⟨fun A W HS hfr hAs i o hi ho hdep => ?_, fun A W HS hdf hAs hfr hall => ?_⟩
              · skip
                have base1 : A.eval (.tmp 1) = .pointer (some ⟨w.heap.size, 0, none⟩) := (hfr 1 hf1).trans rfl
                have base3 : A.eval (.tmp 3) = .int .i64 (k : Int) := (hfr 3 hf3).trans rfl
                rw [hns] at hi
                obtain rfl | rfl | rfl | rfl | rfl | rfl | rfl | rfl | rfl | rfl | rfl | rfl | rfl | rfl | rfl | rfl : i = 0 ∨ i = 1 ∨ i = 2 ∨ i = 3 ∨ i = 4 ∨ i = 5 ∨ i = 6 ∨ i = 7 ∨ i = 8 ∨ i = 9 ∨ i = 10 ∨ i = 11 ∨ i = 12 ∨ i = 13 ∨ i = 14 ∨ i = 15 := by omega
                · skip
                  obtain rfl : o = o0 := Option.some.inj (ho.symm.trans po0)
                  refine at_op po0 d0 (wanted_of gd0) (run_move q0 base3 W) ⟨_, by rw [d0], HS, Below.refl _ _, rfl⟩
                · skip
                  obtain rfl : o = o1 := Option.some.inj (ho.symm.trans po1)
                  have e0 : A.eval (.tmp 44) = .int .i64 (k : Int) := hdep 0 _ 44 dp1_0 po0 d0
                  refine at_op po1 d1 (wanted_of gd1) (run_gtrZ hgt q1 e0 rfl W) ⟨_, by rw [d1], HS, Below.refl _ _, rfl⟩
                · skip
                  obtain rfl : o = o2 := Option.some.inj (ho.symm.trans po2)
                  have e1 : A.eval (.tmp 45) = .bool true := hdep 1 _ 45 dp2_1 po1 d1
                  refine at_op po2 d2 (wanted_of gd2) (run_move q2 e1 W) ⟨_, by rw [d2], HS, Below.refl _ _, rfl⟩
                · skip
                  obtain rfl : o = o3 := Option.some.inj (ho.symm.trans po3)
                  have e2 : A.eval (.tmp 46) = .bool true := hdep 2 _ 46 dp3_2 po2 d2
                  refine at_op po3 d3 (wanted_guard gd3 po2 d2 e2) (run_fieldT (off := 2) q3 (fun _ => by kernel_rfl) base1 W) ⟨_, by rw [d3], HS, Below.refl _ _, rfl⟩
                · skip
                  obtain rfl : o = o4 := Option.some.inj (ho.symm.trans po4)
                  have e3 : A.eval (.tmp 47) = .pointer (some ⟨w.heap.size, 2, none⟩) := hdep 3 _ 47 dp4_3 po3 d3
                  have e2 : A.eval (.tmp 46) = .bool true := hdep 2 _ 46 dp4_2 po2 d2
                  refine at_op po4 d4 (wanted_guard gd4 po2 d2 e2) (run_loadSlG q4 e3 HS.1.c2) ⟨_, by rw [d4], HS, Below.refl _ _, rfl⟩
                · skip
                  obtain rfl : o = o5 := Option.some.inj (ho.symm.trans po5)
                  have e2 : A.eval (.tmp 46) = .bool true := hdep 2 _ 46 dp5_2 po2 d2
                  refine at_op po5 d5 (wanted_guard gd5 po2 d2 e2) (run_move q5 base3 W) ⟨_, by rw [d5], HS, Below.refl _ _, rfl⟩
                · skip
                  obtain rfl : o = o6 := Option.some.inj (ho.symm.trans po6)
                  have e5 : A.eval (.tmp 49) = .int .i64 (k : Int) := hdep 5 _ 49 dp6_5 po5 d5
                  have e2 : A.eval (.tmp 46) = .bool true := hdep 2 _ 46 dp6_2 po2 d2
                  refine at_op po6 d6 (wanted_guard gd6 po2 d2 e2) (run_subZ (b := 1) hsub q6 e5 rfl W) ⟨_, by rw [d6], HS, Below.refl _ _, rfl⟩
                · skip
                  obtain rfl : o = o7 := Option.some.inj (ho.symm.trans po7)
                  have e4 : A.eval (.tmp 48) = .slice (some ⟨b, off, none⟩) n c := hdep 4 _ 48 dp7_4 po4 d4
                  have e6 : A.eval (.tmp 50) = .int .i64 ((k - 1 : Nat) : Int) := hdep 6 _ 50 dp7_6 po6 d6
                  have e2 : A.eval (.tmp 46) = .bool true := hdep 2 _ 46 dp7_2 po2 d2
                  refine at_op po7 d7 (wanted_guard gd7 po2 d2 e2) (grantT.run_ix q7 e4 e6 HK1.out W) ⟨_, by rw [d7], HS, Below.refl _ _, rfl⟩
                · skip
                  obtain rfl : o = o8 := Option.some.inj (ho.symm.trans po8)
                  have e7 : A.eval (.tmp 51) = .pointer (some ⟨b, off + (k - 1) * 4, none⟩) := hdep 7 _ 51 dp8_7 po7 d7
                  have e2 : A.eval (.tmp 46) = .bool true := hdep 2 _ 46 dp8_2 po2 d2
                  refine at_op po8 d8 (wanted_guard gd8 po2 d2 e2) (grantT.run_ld Tryd.underlying54 rfl (GrantM.len y) q8 e7 (HP.out W HS.2)) ⟨_, by rw [d8], HS, Below.refl _ _, rfl⟩
                · skip
                  obtain rfl : o = o9 := Option.some.inj (ho.symm.trans po9)
                  have e2 : A.eval (.tmp 46) = .bool true := hdep 2 _ 46 dp9_2 po2 d2
                  refine at_op po9 d9 (wanted_guard gd9 po2 d2 e2) (run_fieldT (off := 2) q9 (fun _ => by kernel_rfl) base1 W) ⟨_, by rw [d9], HS, Below.refl _ _, rfl⟩
                · skip
                  obtain rfl : o = o10 := Option.some.inj (ho.symm.trans po10)
                  have e9 : A.eval (.tmp 53) = .pointer (some ⟨w.heap.size, 2, none⟩) := hdep 9 _ 53 dp10_9 po9 d9
                  have e2 : A.eval (.tmp 46) = .bool true := hdep 2 _ 46 dp10_2 po2 d2
                  refine at_op po10 d10 (wanted_guard gd10 po2 d2 e2) (run_loadSlG q10 e9 HS.1.c2) ⟨_, by rw [d10], HS, Below.refl _ _, rfl⟩
                · skip
                  obtain rfl : o = o11 := Option.some.inj (ho.symm.trans po11)
                  have e2 : A.eval (.tmp 46) = .bool true := hdep 2 _ 46 dp11_2 po2 d2
                  refine at_op po11 d11 (wanted_guard gd11 po2 d2 e2) (run_move q11 base3 W) ⟨_, by rw [d11], HS, Below.refl _ _, rfl⟩
                · skip
                  obtain rfl : o = o12 := Option.some.inj (ho.symm.trans po12)
                  have e10 : A.eval (.tmp 54) = .slice (some ⟨b, off, none⟩) n c := hdep 10 _ 54 dp12_10 po10 d10
                  have e11 : A.eval (.tmp 55) = .int .i64 (k : Int) := hdep 11 _ 55 dp12_11 po11 d11
                  have e2 : A.eval (.tmp 46) = .bool true := hdep 2 _ 46 dp12_2 po2 d2
                  refine at_op po12 d12 (wanted_guard gd12 po2 d2 e2) (grantT.run_ix q12 e10 e11 HKL.out W) ⟨_, by rw [d12], HS, Below.refl _ _, rfl⟩
                · skip
                  obtain rfl : o = o13 := Option.some.inj (ho.symm.trans po13)
                  have e12 : A.eval (.tmp 56) = .pointer (some ⟨b, off + k * 4, none⟩) := hdep 12 _ 56 dp13_12 po12 d12
                  have e2 : A.eval (.tmp 46) = .bool true := hdep 2 _ 46 dp13_2 po2 d2
                  refine at_op po13 d13 (wanted_guard gd13 po2 d2 e2) (grantT.run_ld Tryd.underlying54 rfl (GrantM.len x) q13 e12 (HR.out W HS.2)) ⟨_, by rw [d13], HS, Below.refl _ _, rfl⟩
                · skip
                  obtain rfl : o = o14 := Option.some.inj (ho.symm.trans po14)
                  have e8 : A.eval (.tmp 52) = .agg y.cells.toArray := hdep 8 _ 52 dp14_8 po8 d8
                  have e13 : A.eval (.tmp 57) = .agg x.cells.toArray := hdep 13 _ 57 dp14_13 po13 d13
                  have e2 : A.eval (.tmp 46) = .bool true := hdep 2 _ 46 dp14_2 po2 d2
                  refine at_enterT po14 d14 (wanted_guard gd14 po2 d2 e2) (run_callf2 q14 rfl e8 e13 Tryd.func104 (by kernel_rfl) _) (refNarrow_any y x W HOY.out.2.rw (by have := HOX.out.1; omega)) ?_
                  rintro e w1 ⟨rfl, hb⟩
                  exact ⟨_, rfl, ⟨_, by rw [d14], ⟨HS.1.keep hb, HS.2.trans (hb.mono HS.2.size)⟩, hb, (show Value.bool _ = Value.bool _ by rw [hnw])⟩⟩
                · skip
                  obtain rfl : o = o15 := Option.some.inj (ho.symm.trans po15)
                  have e14 : A.eval (.tmp 58) = .bool false := hdep 14 _ 58 dp15_14 po14 d14
                  have e2 : A.eval (.tmp 46) = .bool true := hdep 2 _ 46 dp15_2 po2 d2
                  refine at_op po15 d15 (wanted_guard gd15 po2 d2 e2) (r_notF q15 e14 W) ⟨_, by rw [d15], HS, Below.refl _ _, rfl⟩
              have base1 : A.eval (.tmp 1) = .pointer (some ⟨w.heap.size, 0, none⟩) := (hfr 1 hf1).trans rfl
              have base3 : A.eval (.tmp 3) = .int .i64 (k : Int) := (hfr 3 hf3).trans rfl
              have e0 : A.eval (.tmp 44) = .int .i64 (k : Int) := hall 0 _ 44 (by rw [hns]; decide) po0 d0
              have e1 : A.eval (.tmp 45) = .bool true := hall 1 _ 45 (by rw [hns]; decide) po1 d1
              have e2 : A.eval (.tmp 46) = .bool true := hall 2 _ 46 (by rw [hns]; decide) po2 d2
              have e3 : A.eval (.tmp 47) = .pointer (some ⟨w.heap.size, 2, none⟩) := hall 3 _ 47 (by rw [hns]; decide) po3 d3
              have e4 : A.eval (.tmp 48) = .slice (some ⟨b, off, none⟩) n c := hall 4 _ 48 (by rw [hns]; decide) po4 d4
              have e5 : A.eval (.tmp 49) = .int .i64 (k : Int) := hall 5 _ 49 (by rw [hns]; decide) po5 d5
              have e6 : A.eval (.tmp 50) = .int .i64 ((k - 1 : Nat) : Int) := hall 6 _ 50 (by rw [hns]; decide) po6 d6
              have e7 : A.eval (.tmp 51) = .pointer (some ⟨b, off + (k - 1) * 4, none⟩) := hall 7 _ 51 (by rw [hns]; decide) po7 d7
              have e8 : A.eval (.tmp 52) = .agg y.cells.toArray := hall 8 _ 52 (by rw [hns]; decide) po8 d8
              have e9 : A.eval (.tmp 53) = .pointer (some ⟨w.heap.size, 2, none⟩) := hall 9 _ 53 (by rw [hns]; decide) po9 d9
              have e10 : A.eval (.tmp 54) = .slice (some ⟨b, off, none⟩) n c := hall 10 _ 54 (by rw [hns]; decide) po10 d10
              have e11 : A.eval (.tmp 55) = .int .i64 (k : Int) := hall 11 _ 55 (by rw [hns]; decide) po11 d11
              have e12 : A.eval (.tmp 56) = .pointer (some ⟨b, off + k * 4, none⟩) := hall 12 _ 56 (by rw [hns]; decide) po12 d12
              have e13 : A.eval (.tmp 57) = .agg x.cells.toArray := hall 13 _ 57 (by rw [hns]; decide) po13 d13
              have e14 : A.eval (.tmp 58) = .bool false := hall 14 _ 58 (by rw [hns]; decide) po14 d14
              have e15 : A.eval (.tmp 59) = .bool true := hall 15 _ 59 (by rw [hns]; decide) po15 d15
              have hA := act_of_slots [44, 45, 46, 47, 48, 49, 50, 51, 52, 53, 54, 55, 56, 57, 58, 59, 60] _ hAs hdf (fun t ht => hfr t (hslots t ht))
              simp only [List.foldl_cons, List.foldl_nil] at hA
              rw [show rdA A 44 = A.eval (.tmp 44) from rfl, e0] at hA
              rw [show rdA A 45 = A.eval (.tmp 45) from rfl, e1] at hA
              rw [show rdA A 46 = A.eval (.tmp 46) from rfl, e2] at hA
              rw [show rdA A 47 = A.eval (.tmp 47) from rfl, e3] at hA
              rw [show rdA A 48 = A.eval (.tmp 48) from rfl, e4] at hA
              rw [show rdA A 49 = A.eval (.tmp 49) from rfl, e5] at hA
              rw [show rdA A 50 = A.eval (.tmp 50) from rfl, e6] at hA
              rw [show rdA A 51 = A.eval (.tmp 51) from rfl, e7] at hA
              rw [show rdA A 52 = A.eval (.tmp 52) from rfl, e8] at hA
              rw [show rdA A 53 = A.eval (.tmp 53) from rfl, e9] at hA
              rw [show rdA A 54 = A.eval (.tmp 54) from rfl, e10] at hA
              rw [show rdA A 55 = A.eval (.tmp 55) from rfl, e11] at hA
              rw [show rdA A 56 = A.eval (.tmp 56) from rfl, e12] at hA
              rw [show rdA A 57 = A.eval (.tmp 57) from rfl, e13] at hA
              rw [show rdA A 58 = A.eval (.tmp 58) from rfl, e14] at hA
              rw [show rdA A 59 = A.eval (.tmp 59) from rfl, e15] at hA
              obtain ⟨ul, hul⟩ : ∃ u, rdA A 60 = u := ⟨_, rfl⟩
              rw [hul] at hA
              clear hul
              rw [hns]
              have HSF := Lib.hid HS
              refine at_op po16 d16 (wanted_of gd16) (run_pick_true q16 e2 e15 W) ?_
              obtain ⟨W8, hW8⟩ : ∃ W8, W8 = W := ⟨_, rfl⟩
              rw [← hW8] at HSF
              rw [← hW8]
              clear hW8
              clear hall hdf hAs hfr hslots hns hf1 hf3 po0 q0 d0 gd0 po1 q1 d1 gd1 dp1_0 po2 q2 d2 gd2 dp2_1 po3 q3 d3 gd3 dp3_2 po4 q4 d4 gd4 dp4_3 dp4_2 po5 q5 d5 gd5 dp5_2 po6 q6 d6 gd6 dp6_5 dp6_2 po7 q7 d7 gd7 dp7_4 dp7_6 dp7_2 po8 q8 d8 gd8 dp8_7 dp8_2 po9 q9 d9 gd9 dp9_2 po10 q10 d10 gd10 dp10_9 dp10_2 po11 q11 d11 gd11 dp11_2 po12 q12 d12 gd12 dp12_10 dp12_11 dp12_2 po13 q13 d13 gd13 dp13_12 dp13_2 po14 q14 d14 gd14 dp14_8 dp14_13 dp14_2 po15 q15 d15 gd15 dp15_14 dp15_2 po16 q16 d16 gd16 base1 base3
              have HA9 := Lib.hid hA
              clear hA HS e0 e1 e2 e3 e4 e5 e6 e7 e8 e9 e10 e11 e12 e13 e14 e15
              rw [HA9.out]
              go_frame
              clear HA9
              have c2c := HSF.out.1.c2
              go_wp2_with fail
              go_ret
              have hfin : madeM t = false := by rw [HF.out]; exact narrows_no (k := k) (by rw [HN.out]; exact HKL.out) HF2.out
              exact ⟨by rw [hfin]; rfl, HSF.out.2⟩
            · have HF2 : Hid (okAt t.gs k = true) := show _ = _ by rw [HE.out, hnw]; simp
              refine region_grow (fun W => TokAt W w.heap.size t (.slice (some ⟨b, off, none⟩) n c) ∧ Below w.heap.size w W) (fun i vz wz => match i with | 0 => vz = .int .i64 (k : Int) | 1 => vz = .bool true | 2 => vz = .bool true | 3 => vz = .pointer (some ⟨w.heap.size, 2, none⟩) | 4 => vz = .slice (some ⟨b, off, none⟩) n c | 5 => vz = .int .i64 (k : Int) | 6 => vz = .int .i64 ((k - 1 : Nat) : Int) | 7 => vz = .pointer (some ⟨b, off + (k - 1) * 4, none⟩) | 8 => vz = .agg y.cells.toArray | 9 => vz = .pointer (some ⟨w.heap.size, 2, none⟩) | 10 => vz = .slice (some ⟨b, off, none⟩) n c | 11 => vz = .int .i64 (k : Int) | 12 => vz = .pointer (some ⟨b, off + k * 4, none⟩) | 13 => vz = .agg x.cells.toArray | 14 => vz = .bool true | 15 => vz = .bool false | _ => True) (by kernel_rfl) (by kernel_rfl) (by kernel_rfl) (by kernel_rfl) (by decide) (⟨HT1.out.keep (Below.refl _ _).drew, HB1.out.trans ((Below.refl _ _).drew.mono HB1.out.size)⟩) ?_ ?_
              · skip
                intro i vz wz w2 hb hf
                match i, hf with
                | 0, hf => exact hf
                | 1, hf => exact hf
                | 2, hf => exact hf
                | 3, hf => exact hf
                | 4, hf => exact hf
                | 5, hf => exact hf
                | 6, hf => exact hf
                | 7, hf => exact hf
                | 8, hf => exact hf
                | 9, hf => exact hf
                | 10, hf => exact hf
                | 11, hf => exact hf
                | 12, hf => exact hf
                | 13, hf => exact hf
                | 14, hf => exact hf
                | 15, hf => exact hf
                | _ + 16, _ => trivial
              intro ops hops
              have hf1 : ∀ (i : Nat) (o : Oper), ops[i]? = some o → o.dst ≠ some 1 := by rw [hops]; exact fun i o h => slot_free (by kernel_rfl) i o h
              have hf3 : ∀ (i : Nat) (o : Oper), ops[i]? = some o → o.dst ≠ some 3 := by rw [hops]; exact fun i o h => slot_free (by kernel_rfl) i o h
              have hns : ops.size = 17 := by rw [hops]; rfl
              obtain ⟨o0, po0, q0, d0, gd0⟩ : ∃ o, ops[0]? = some o ∧ o.op = .move (.tmp 3) ∧ o.dst = some 44 ∧ o.guard = none := ⟨_, by rw [hops]; rfl, rfl, rfl, rfl⟩
              obtain ⟨o1, po1, q1, d1, gd1, dp1_0⟩ : ∃ o, ops[1]? = some o ∧ o.op = .binOp .gtr 3 (.tmp 44) (.const (.int .i64 0)) 3 ∧ o.dst = some 45 ∧ o.guard = none ∧ (o.after.any fun e => Region.binds .any e && decide (e.on = 0)) = true := ⟨_, by rw [hops]; rfl, rfl, rfl, rfl, by kernel_rfl⟩
              obtain ⟨o2, po2, q2, d2, gd2, dp2_1⟩ : ∃ o, ops[2]? = some o ∧ o.op = .move (.tmp 45) ∧ o.dst = some 46 ∧ o.guard = none ∧ (o.after.any fun e => Region.binds .any e && decide (e.on = 1)) = true := ⟨_, by rw [hops]; rfl, rfl, rfl, rfl, by kernel_rfl⟩
              obtain ⟨o3, po3, q3, d3, gd3, dp3_2⟩ : ∃ o, ops[3]? = some o ∧ o.op = .fieldAddr 50 (.tmp 1) 2 ∧ o.dst = some 47 ∧ o.guard = some (2, true) ∧ (o.after.any fun e => Region.binds .any e && decide (e.on = 2)) = true := ⟨_, by rw [hops]; rfl, rfl, rfl, rfl, by kernel_rfl⟩
              obtain ⟨o4, po4, q4, d4, gd4, dp4_3, dp4_2⟩ : ∃ o, ops[4]? = some o ∧ o.op = .load 44 (.tmp 47) ∧ o.dst = some 48 ∧ o.guard = some (2, true) ∧ (o.after.any fun e => Region.binds .any e && decide (e.on = 3)) = true ∧ (o.after.any fun e => Region.binds .any e && decide (e.on = 2)) = true := ⟨_, by rw [hops]; rfl, rfl, rfl, rfl, by kernel_rfl, by kernel_rfl⟩
              obtain ⟨o5, po5, q5, d5, gd5, dp5_2⟩ : ∃ o, ops[5]? = some o ∧ o.op = .move (.tmp 3) ∧ o.dst = some 49 ∧ o.guard = some (2, true) ∧ (o.after.any fun e => Region.binds .any e && decide (e.on = 2)) = true := ⟨_, by rw [hops]; rfl, rfl, rfl, rfl, by kernel_rfl⟩
              obtain ⟨o6, po6, q6, d6, gd6, dp6_5, dp6_2⟩ : ∃ o, ops[6]? = some o ∧ o.op = .binOp .sub 3 (.tmp 49) (.const (.int .i64 1)) 3 ∧ o.dst = some 50 ∧ o.guard = some (2, true) ∧ (o.after.any fun e => Region.binds .any e && decide (e.on = 5)) = true ∧ (o.after.any fun e => Region.binds .any e && decide (e.on = 2)) = true := ⟨_, by rw [hops]; rfl, rfl, rfl, rfl, by kernel_rfl, by kernel_rfl⟩
              obtain ⟨o7, po7, q7, d7, gd7, dp7_4, dp7_6, dp7_2⟩ : ∃ o, ops[7]? = some o ∧ o.op = .indexAddr 44 (.tmp 48) (.tmp 50) ∧ o.dst = some 51 ∧ o.guard = some (2, true) ∧ (o.after.any fun e => Region.binds .any e && decide (e.on = 4)) = true ∧ (o.after.any fun e => Region.binds .any e && decide (e.on = 6)) = true ∧ (o.after.any fun e => Region.binds .any e && decide (e.on = 2)) = true := ⟨_, by rw [hops]; rfl, rfl, rfl, rfl, by kernel_rfl, by kernel_rfl, by kernel_rfl⟩
              obtain ⟨o8, po8, q8, d8, gd8, dp8_7, dp8_2⟩ : ∃ o, ops[8]? = some o ∧ o.op = .load 54 (.tmp 51) ∧ o.dst = some 52 ∧ o.guard = some (2, true) ∧ (o.after.any fun e => Region.binds .any e && decide (e.on = 7)) = true ∧ (o.after.any fun e => Region.binds .any e && decide (e.on = 2)) = true := ⟨_, by rw [hops]; rfl, rfl, rfl, rfl, by kernel_rfl, by kernel_rfl⟩
              obtain ⟨o9, po9, q9, d9, gd9, dp9_2⟩ : ∃ o, ops[9]? = some o ∧ o.op = .fieldAddr 50 (.tmp 1) 2 ∧ o.dst = some 53 ∧ o.guard = some (2, true) ∧ (o.after.any fun e => Region.binds .any e && decide (e.on = 2)) = true := ⟨_, by rw [hops]; rfl, rfl, rfl, rfl, by kernel_rfl⟩
              obtain ⟨o10, po10, q10, d10, gd10, dp10_9, dp10_2⟩ : ∃ o, ops[10]? = some o ∧ o.op = .load 44 (.tmp 53) ∧ o.dst = some 54 ∧ o.guard = some (2, true) ∧ (o.after.any fun e => Region.binds .any e && decide (e.on = 9)) = true ∧ (o.after.any fun e => Region.binds .any e && decide (e.on = 2)) = true := ⟨_, by rw [hops]; rfl, rfl, rfl, rfl, by kernel_rfl, by kernel_rfl⟩
              obtain ⟨o11, po11, q11, d11, gd11, dp11_2⟩ : ∃ o, ops[11]? = some o ∧ o.op = .move (.tmp 3) ∧ o.dst = some 55 ∧ o.guard = some (2, true) ∧ (o.after.any fun e => Region.binds .any e && decide (e.on = 2)) = true := ⟨_, by rw [hops]; rfl, rfl, rfl, rfl, by kernel_rfl⟩
              obtain ⟨o12, po12, q12, d12, gd12, dp12_10, dp12_11, dp12_2⟩ : ∃ o, ops[12]? = some o ∧ o.op = .indexAddr 44 (.tmp 54) (.tmp 55) ∧ o.dst = some 56 ∧ o.guard = some (2, true) ∧ (o.after.any fun e => Region.binds .any e && decide (e.on = 10)) = true ∧ (o.after.any fun e => Region.binds .any e && decide (e.on = 11)) = true ∧ (o.after.any fun e => Region.binds .any e && decide (e.on = 2)) = true := ⟨_, by rw [hops]; rfl, rfl, rfl, rfl, by kernel_rfl, by kernel_rfl, by kernel_rfl⟩
              obtain ⟨o13, po13, q13, d13, gd13, dp13_12, dp13_2⟩ : ∃ o, ops[13]? = some o ∧ o.op = .load 54 (.tmp 56) ∧ o.dst = some 57 ∧ o.guard = some (2, true) ∧ (o.after.any fun e => Region.binds .any e && decide (e.on = 12)) = true ∧ (o.after.any fun e => Region.binds .any e && decide (e.on = 2)) = true := ⟨_, by rw [hops]; rfl, rfl, rfl, rfl, by kernel_rfl, by kernel_rfl⟩
              obtain ⟨o14, po14, q14, d14, gd14, dp14_8, dp14_13, dp14_2⟩ : ∃ o, ops[14]? = some o ∧ o.op = .call { callee := .value (.func 104), args := #[.tmp 52, .tmp 57], argTypes := #[54, 54] } ∧ o.dst = some 58 ∧ o.guard = some (2, true) ∧ (o.after.any fun e => Region.binds .any e && decide (e.on = 8)) = true ∧ (o.after.any fun e => Region.binds .any e && decide (e.on = 13)) = true ∧ (o.after.any fun e => Region.binds .any e && decide (e.on = 2)) = true := ⟨_, by rw [hops]; rfl, rfl, rfl, rfl, by kernel_rfl, by kernel_rfl, by kernel_rfl⟩
              obtain ⟨o15, po15, q15, d15, gd15, dp15_14, dp15_2⟩ : ∃ o, ops[15]? = some o ∧ o.op = .unOp .not 4 (.tmp 58) ∧ o.dst = some 59 ∧ o.guard = some (2, true) ∧ (o.after.any fun e => Region.binds .any e && decide (e.on = 14)) = true ∧ (o.after.any fun e => Region.binds .any e && decide (e.on = 2)) = true := ⟨_, by rw [hops]; rfl, rfl, rfl, rfl, by kernel_rfl, by kernel_rfl⟩
              obtain ⟨o16, po16, q16, d16, gd16⟩ : ∃ o, ops[16]? = some o ∧ o.op = .pick (.tmp 46) (.tmp 59) (.const (.bool false)) ∧ o.dst = some 60 ∧ o.guard = none := ⟨_, by rw [hops]; rfl, rfl, rfl, rfl⟩
              have hslots : ∀ t, t ∉ [44, 45, 46, 47, 48, 49, 50, 51, 52, 53, 54, 55, 56, 57, 58, 59, 60] → ∀ (i : Nat) (o : Oper), ops[i]? = some o → o.dst ≠ some t := by rw [hops]; exact fun t ht i o h => slots_free (by kernel_rfl) t ht i o h
              clear hops
              refine ⟨fun A W HS hfr hAs i o hi ho hdep => ?_, fun A W HS hdf hAs hfr hall => ?_⟩
              · skip
                have base1 : A.eval (.tmp 1) = .pointer (some ⟨w.heap.size, 0, none⟩) := (hfr 1 hf1).trans rfl
                have base3 : A.eval (.tmp 3) = .int .i64 (k : Int) := (hfr 3 hf3).trans rfl
                rw [hns] at hi
                obtain rfl | rfl | rfl | rfl | rfl | rfl | rfl | rfl | rfl | rfl | rfl | rfl | rfl | rfl | rfl | rfl : i = 0 ∨ i = 1 ∨ i = 2 ∨ i = 3 ∨ i = 4 ∨ i = 5 ∨ i = 6 ∨ i = 7 ∨ i = 8 ∨ i = 9 ∨ i = 10 ∨ i = 11 ∨ i = 12 ∨ i = 13 ∨ i = 14 ∨ i = 15 := by omega
                · skip
                  obtain rfl : o = o0 := Option.some.inj (ho.symm.trans po0)
                  refine at_op po0 d0 (wanted_of gd0) (run_move q0 base3 W) ⟨_, by rw [d0], HS, Below.refl _ _, rfl⟩
                · skip
                  obtain rfl : o = o1 := Option.some.inj (ho.symm.trans po1)
                  have e0 : A.eval (.tmp 44) = .int .i64 (k : Int) := hdep 0 _ 44 dp1_0 po0 d0
                  refine at_op po1 d1 (wanted_of gd1) (run_gtrZ hgt q1 e0 rfl W) ⟨_, by rw [d1], HS, Below.refl _ _, rfl⟩
                · skip
                  obtain rfl : o = o2 := Option.some.inj (ho.symm.trans po2)
                  have e1 : A.eval (.tmp 45) = .bool true := hdep 1 _ 45 dp2_1 po1 d1
                  refine at_op po2 d2 (wanted_of gd2) (run_move q2 e1 W) ⟨_, by rw [d2], HS, Below.refl _ _, rfl⟩
                · skip
                  obtain rfl : o = o3 := Option.some.inj (ho.symm.trans po3)
                  have e2 : A.eval (.tmp 46) = .bool true := hdep 2 _ 46 dp3_2 po2 d2
                  refine at_op po3 d3 (wanted_guard gd3 po2 d2 e2) (run_fieldT (off := 2) q3 (fun _ => by kernel_rfl) base1 W) ⟨_, by rw [d3], HS, Below.refl _ _, rfl⟩
                · skip
                  obtain rfl : o = o4 := Option.some.inj (ho.symm.trans po4)
                  have e3 : A.eval (.tmp 47) = .pointer (some ⟨w.heap.size, 2, none⟩) := hdep 3 _ 47 dp4_3 po3 d3
                  have e2 : A.eval (.tmp 46) = .bool true := hdep 2 _ 46 dp4_2 po2 d2
                  refine at_op po4 d4 (wanted_guard gd4 po2 d2 e2) (run_loadSlG q4 e3 HS.1.c2) ⟨_, by rw [d4], HS, Below.refl _ _, rfl⟩
                · skip
                  obtain rfl : o = o5 := Option.some.inj (ho.symm.trans po5)
                  have e2 : A.eval (.tmp 46) = .bool true := hdep 2 _ 46 dp5_2 po2 d2
                  refine at_op po5 d5 (wanted_guard gd5 po2 d2 e2) (run_move q5 base3 W) ⟨_, by rw [d5], HS, Below.refl _ _, rfl⟩
                · skip
                  obtain rfl : o = o6 := Option.some.inj (ho.symm.trans po6)
                  have e5 : A.eval (.tmp 49) = .int .i64 (k : Int) := hdep 5 _ 49 dp6_5 po5 d5
                  have e2 : A.eval (.tmp 46) = .bool true := hdep 2 _ 46 dp6_2 po2 d2
                  refine at_op po6 d6 (wanted_guard gd6 po2 d2 e2) (run_subZ (b := 1) hsub q6 e5 rfl W) ⟨_, by rw [d6], HS, Below.refl _ _, rfl⟩
                · skip
                  obtain rfl : o = o7 := Option.some.inj (ho.symm.trans po7)
                  have e4 : A.eval (.tmp 48) = .slice (some ⟨b, off, none⟩) n c := hdep 4 _ 48 dp7_4 po4 d4
                  have e6 : A.eval (.tmp 50) = .int .i64 ((k - 1 : Nat) : Int) := hdep 6 _ 50 dp7_6 po6 d6
                  have e2 : A.eval (.tmp 46) = .bool true := hdep 2 _ 46 dp7_2 po2 d2
                  refine at_op po7 d7 (wanted_guard gd7 po2 d2 e2) (grantT.run_ix q7 e4 e6 HK1.out W) ⟨_, by rw [d7], HS, Below.refl _ _, rfl⟩
                · skip
                  obtain rfl : o = o8 := Option.some.inj (ho.symm.trans po8)
                  have e7 : A.eval (.tmp 51) = .pointer (some ⟨b, off + (k - 1) * 4, none⟩) := hdep 7 _ 51 dp8_7 po7 d7
                  have e2 : A.eval (.tmp 46) = .bool true := hdep 2 _ 46 dp8_2 po2 d2
                  refine at_op po8 d8 (wanted_guard gd8 po2 d2 e2) (grantT.run_ld Tryd.underlying54 rfl (GrantM.len y) q8 e7 (HP.out W HS.2)) ⟨_, by rw [d8], HS, Below.refl _ _, rfl⟩
                · skip
                  obtain rfl : o = o9 := Option.some.inj (ho.symm.trans po9)
                  have e2 : A.eval (.tmp 46) = .bool true := hdep 2 _ 46 dp9_2 po2 d2
                  refine at_op po9 d9 (wanted_guard gd9 po2 d2 e2) (run_fieldT (off := 2) q9 (fun _ => by kernel_rfl) base1 W) ⟨_, by rw [d9], HS, Below.refl _ _, rfl⟩
                · skip
                  obtain rfl : o = o10 := Option.some.inj (ho.symm.trans po10)
                  have e9 : A.eval (.tmp 53) = .pointer (some ⟨w.heap.size, 2, none⟩) := hdep 9 _ 53 dp10_9 po9 d9
                  have e2 : A.eval (.tmp 46) = .bool true := hdep 2 _ 46 dp10_2 po2 d2
                  refine at_op po10 d10 (wanted_guard gd10 po2 d2 e2) (run_loadSlG q10 e9 HS.1.c2) ⟨_, by rw [d10], HS, Below.refl _ _, rfl⟩
                · skip
                  obtain rfl : o = o11 := Option.some.inj (ho.symm.trans po11)
                  have e2 : A.eval (.tmp 46) = .bool true := hdep 2 _ 46 dp11_2 po2 d2
                  refine at_op po11 d11 (wanted_guard gd11 po2 d2 e2) (run_move q11 base3 W) ⟨_, by rw [d11], HS, Below.refl _ _, rfl⟩
                · skip
                  obtain rfl : o = o12 := Option.some.inj (ho.symm.trans po12)
                  have e10 : A.eval (.tmp 54) = .slice (some ⟨b, off, none⟩) n c := hdep 10 _ 54 dp12_10 po10 d10
                  have e11 : A.eval (.tmp 55) = .int .i64 (k : Int) := hdep 11 _ 55 dp12_11 po11 d11
                  have e2 : A.eval (.tmp 46) = .bool true := hdep 2 _ 46 dp12_2 po2 d2
                  refine at_op po12 d12 (wanted_guard gd12 po2 d2 e2) (grantT.run_ix q12 e10 e11 HKL.out W) ⟨_, by rw [d12], HS, Below.refl _ _, rfl⟩
                · skip
                  obtain rfl : o = o13 := Option.some.inj (ho.symm.trans po13)
                  have e12 : A.eval (.tmp 56) = .pointer (some ⟨b, off + k * 4, none⟩) := hdep 12 _ 56 dp13_12 po12 d12
                  have e2 : A.eval (.tmp 46) = .bool true := hdep 2 _ 46 dp13_2 po2 d2
                  refine at_op po13 d13 (wanted_guard gd13 po2 d2 e2) (grantT.run_ld Tryd.underlying54 rfl (GrantM.len x) q13 e12 (HR.out W HS.2)) ⟨_, by rw [d13], HS, Below.refl _ _, rfl⟩
                · skip
                  obtain rfl : o = o14 := Option.some.inj (ho.symm.trans po14)
                  have e8 : A.eval (.tmp 52) = .agg y.cells.toArray := hdep 8 _ 52 dp14_8 po8 d8
                  have e13 : A.eval (.tmp 57) = .agg x.cells.toArray := hdep 13 _ 57 dp14_13 po13 d13
                  have e2 : A.eval (.tmp 46) = .bool true := hdep 2 _ 46 dp14_2 po2 d2
                  refine at_enterT po14 d14 (wanted_guard gd14 po2 d2 e2) (run_callf2 q14 rfl e8 e13 Tryd.func104 (by kernel_rfl) _) (refNarrow_any y x W HOY.out.2.rw (by have := HOX.out.1; omega)) ?_
                  rintro e w1 ⟨rfl, hb⟩
                  exact ⟨_, rfl, ⟨_, by rw [d14], ⟨HS.1.keep hb, HS.2.trans (hb.mono HS.2.size)⟩, hb, (show Value.bool _ = Value.bool _ by rw [hnw])⟩⟩
                · skip
                  obtain rfl : o = o15 := Option.some.inj (ho.symm.trans po15)
                  have e14 : A.eval (.tmp 58) = .bool true := hdep 14 _ 58 dp15_14 po14 d14
                  have e2 : A.eval (.tmp 46) = .bool true := hdep 2 _ 46 dp15_2 po2 d2
                  refine at_op po15 d15 (wanted_guard gd15 po2 d2 e2) (r_notT q15 e14 W) ⟨_, by rw [d15], HS, Below.refl _ _, rfl⟩
              have base1 : A.eval (.tmp 1) = .pointer (some ⟨w.heap.size, 0, none⟩) := (hfr 1 hf1).trans rfl
              have base3 : A.eval (.tmp 3) = .int .i64 (k : Int) := (hfr 3 hf3).trans rfl
              have e0 : A.eval (.tmp 44) = .int .i64 (k : Int) := hall 0 _ 44 (by rw [hns]; decide) po0 d0
              have e1 : A.eval (.tmp 45) = .bool true := hall 1 _ 45 (by rw [hns]; decide) po1 d1
              have e2 : A.eval (.tmp 46) = .bool true := hall 2 _ 46 (by rw [hns]; decide) po2 d2
              have e3 : A.eval (.tmp 47) = .pointer (some ⟨w.heap.size, 2, none⟩) := hall 3 _ 47 (by rw [hns]; decide) po3 d3
              have e4 : A.eval (.tmp 48) = .slice (some ⟨b, off, none⟩) n c := hall 4 _ 48 (by rw [hns]; decide) po4 d4
              have e5 : A.eval (.tmp 49) = .int .i64 (k : Int) := hall 5 _ 49 (by rw [hns]; decide) po5 d5
              have e6 : A.eval (.tmp 50) = .int .i64 ((k - 1 : Nat) : Int) := hall 6 _ 50 (by rw [hns]; decide) po6 d6
              have e7 : A.eval (.tmp 51) = .pointer (some ⟨b, off + (k - 1) * 4, none⟩) := hall 7 _ 51 (by rw [hns]; decide) po7 d7
              have e8 : A.eval (.tmp 52) = .agg y.cells.toArray := hall 8 _ 52 (by rw [hns]; decide) po8 d8
              have e9 : A.eval (.tmp 53) = .pointer (some ⟨w.heap.size, 2, none⟩) := hall 9 _ 53 (by rw [hns]; decide) po9 d9
              have e10 : A.eval (.tmp 54) = .slice (some ⟨b, off, none⟩) n c := hall 10 _ 54 (by rw [hns]; decide) po10 d10
              have e11 : A.eval (.tmp 55) = .int .i64 (k : Int) := hall 11 _ 55 (by rw [hns]; decide) po11 d11
              have e12 : A.eval (.tmp 56) = .pointer (some ⟨b, off + k * 4, none⟩) := hall 12 _ 56 (by rw [hns]; decide) po12 d12
              have e13 : A.eval (.tmp 57) = .agg x.cells.toArray := hall 13 _ 57 (by rw [hns]; decide) po13 d13
              have e14 : A.eval (.tmp 58) = .bool true := hall 14 _ 58 (by rw [hns]; decide) po14 d14
              have e15 : A.eval (.tmp 59) = .bool false := hall 15 _ 59 (by rw [hns]; decide) po15 d15
              have hA := act_of_slots [44, 45, 46, 47, 48, 49, 50, 51, 52, 53, 54, 55, 56, 57, 58, 59, 60] _ hAs hdf (fun t ht => hfr t (hslots t ht))
              simp only [List.foldl_cons, List.foldl_nil] at hA
              rw [show rdA A 44 = A.eval (.tmp 44) from rfl, e0] at hA
              rw [show rdA A 45 = A.eval (.tmp 45) from rfl, e1] at hA
              rw [show rdA A 46 = A.eval (.tmp 46) from rfl, e2] at hA
              rw [show rdA A 47 = A.eval (.tmp 47) from rfl, e3] at hA
              rw [show rdA A 48 = A.eval (.tmp 48) from rfl, e4] at hA
              rw [show rdA A 49 = A.eval (.tmp 49) from rfl, e5] at hA
              rw [show rdA A 50 = A.eval (.tmp 50) from rfl, e6] at hA
              rw [show rdA A 51 = A.eval (.tmp 51) from rfl, e7] at hA
              rw [show rdA A 52 = A.eval (.tmp 52) from rfl, e8] at hA
              rw [show rdA A 53 = A.eval (.tmp 53) from rfl, e9] at hA
              rw [show rdA A 54 = A.eval (.tmp 54) from rfl, e10] at hA
              rw [show rdA A 55 = A.eval (.tmp 55) from rfl, e11] at hA
              rw [show rdA A 56 = A.eval (.tmp 56) from rfl, e12] at hA
              rw [show rdA A 57 = A.eval (.tmp 57) from rfl, e13] at hA
              rw [show rdA A 58 = A.eval (.tmp 58) from rfl, e14] at hA
              rw [show rdA A 59 = A.eval (.tmp 59) from rfl, e15] at hA
              obtain ⟨ul, hul⟩ : ∃ u, rdA A 60 = u := ⟨_, rfl⟩
              rw [hul] at hA
              clear hul
              rw [hns]
              have HSF := Lib.hid HS
              refine at_op po16 d16 (wanted_of gd16) (run_pick_true q16 e2 e15 W) ?_
              obtain ⟨W8, hW8⟩ : ∃ W8, W8 = W := ⟨_, rfl⟩
              rw [← hW8] at HSF
              rw [← hW8]
              clear hW8
              clear hall hdf hAs hfr hslots hns hf1 hf3 po0 q0 d0 gd0 po1 q1 d1 gd1 dp1_0 po2 q2 d2 gd2 dp2_1 po3 q3 d3 gd3 dp3_2 po4 q4 d4 gd4 dp4_3 dp4_2 po5 q5 d5 gd5 dp5_2 po6 q6 d6 gd6 dp6_5 dp6_2 po7 q7 d7 gd7 dp7_4 dp7_6 dp7_2 po8 q8 d8 gd8 dp8_7 dp8_2 po9 q9 d9 gd9 dp9_2 po10 q10 d10 gd10 dp10_9 dp10_2 po11 q11 d11 gd11 dp11_2 po12 q12 d12 gd12 dp12_10 dp12_11 dp12_2 po13 q13 d13 gd13 dp13_12 dp13_2 po14 q14 d14 gd14 dp14_8 dp14_13 dp14_2 po15 q15 d15 gd15 dp15_14 dp15_2 po16 q16 d16 gd16 base1 base3
              have HA9 := Lib.hid hA
              clear hA HS e0 e1 e2 e3 e4 e5 e6 e7 e8 e9 e10 e11 e12 e13 e14 e15
              rw [HA9.out]
              go_frame
              clear HA9
              have c2c := HSF.out.1.c2
              go_wp2_with fail
              go_roundw
              case rel => exact ⟨k + 1, by omega, by go_num, goodTo_succ HG.out HF2.out, HSF.out.1, HSF.out.2⟩
              case measure => simp [intOf]; omega
        · have HF2 : Hid (okAt t.gs k = false) := show _ = _ by rw [HE.out, decide_eq_false hE0]; rfl
          have q3 : (E != 0) = true := by simpa using hE0
          go_wp2_with (first
          | (show wpList _ _ _ (⟨_, .indexAddr _ _ _, _, _, _, _⟩ :: _) _ _; refine wpList_run (by rfl) (grantT.run_ix rfl rfl rfl HKL.out _) ?_)
          | (show wpList _ _ _ (⟨_, .load 54 _, _, _, _, _⟩ :: _) _ _; refine wpList_run (by rfl) (grantT.run_ld Tryd.underlying54 rfl (GrantM.len x) rfl rfl (HR.out _ HB.out)) ?_)
          | (go_at_call 100; refine (HCH.out _).mono ?_; rintro e w1 ⟨rfl, hb1⟩; have HB1 := Lib.hid (HB.out.trans (hb1.mono HB.out.size)); have HT1 := Lib.hid (HTK.out.keep hb1); have c2b := HT1.out.c2; clear hb1))
          go_ret
          have hfin : madeM t = false := by rw [HF.out]; exact narrows_no (k := k) (by rw [HN.out]; exact HKL.out) HF2.out
          exact ⟨by rw [hfin]; rfl, HB1.out⟩
      · obtain rfl : k = n := by omega
        have HR : Hid (madeM t = true) := show _ = _ by rw [HF.out]; exact narrows_yes (by rw [HN.out]; omega) (by rw [HN.out]; omega) (by rw [HN.out]; exact hgood)
        have HB := Lib.hid hbw
        clear hgood hbw htk
        go_wp2_with fail
        go_ret
        exact ⟨by rw [HR.out]; rfl, HB.out⟩
  · have HF : Hid (madeM t = false) := show _ = _ from HNO.out (by by_cases g1 : nameS t.ten = true <;> by_cases g2 : 1 ≤ t.id <;> by_cases g3 : t.id ≤ 1099511627776 <;> by_cases g4 : 1 ≤ n <;> by_cases g5 : n ≤ 6 <;> simp_all <;> omega)
    cases g1 : nameS t.ten
    · skip
      go_wp2_with (go_at_call 99; refine (HNA.out A).mono ?_; rintro e w1 ⟨rfl, rfl⟩; rw [g1])
      go_ret
      exact ⟨by rw [HF.out]; rfl, HA.out.2⟩
    · by_cases g2 : t.id < 1
      · skip
        go_wp2_with (go_at_call 99; refine (HNA.out A).mono ?_; rintro e w1 ⟨rfl, rfl⟩; rw [g1])
        go_ret
        exact ⟨by rw [HF.out]; rfl, HA.out.2⟩
      · by_cases g3 : t.id > 1099511627776
        · skip
          go_wp2_with (go_at_call 99; refine (HNA.out A).mono ?_; rintro e w1 ⟨rfl, rfl⟩; rw [g1])
          go_ret
          exact ⟨by rw [HF.out]; rfl, HA.out.2⟩
        · by_cases g4 : (n : Int) < 1
          · skip
            go_wp2_with (go_at_call 99; refine (HNA.out A).mono ?_; rintro e w1 ⟨rfl, rfl⟩; rw [g1])
            go_ret
            exact ⟨by rw [HF.out]; rfl, HA.out.2⟩
          · by_cases g5 : (n : Int) > 6
            · skip
              go_wp2_with (go_at_call 99; refine (HNA.out A).mono ?_; rintro e w1 ⟨rfl, rfl⟩; rw [g1])
              go_ret
              exact ⟨by rw [HF.out]; rfl, HA.out.2⟩
            · exact absurd ⟨g1, by omega, by omega, by omega, by omega⟩ hall
end Go.Proofs.YtgeacocdnenhdaaDoor

/-
  The document's Verify of tokens; the kit's functions on tokens (gen_tkref4.py).
-/
namespace Go.Proofs.YtgeacocdnenhdaaDoor
open Go.RowKit Go.Proofs.ShaWords
theorem run_eqSumT {ρ : Operand → Value} {o : Oper} {x y : Operand} {ty : TypeId} {l m : List (BitVec 8)} {v : Bool} (hv : decide (l = m) = v) (ho : o.op = .binOp .eql 48 x y ty) (hl : l.length = 32) (hm : m.length = 32) (hx : ρ x = .agg (bytesV l).toArray) (hy : ρ y = .agg (bytesV m).toArray) (w : World) :
    (execOp ρ o).run Tryd.prog w = .ok (.value (.bool v)) w := by
  rw [← hv]
  exact run_eqArr ho Tryd.underlying48 (by kernel_rfl) hl hm hx hy w
set_option maxRecDepth 100000 in
set_option maxHeartbeats 8000000 in
theorem refVerify_tok (root : List (BitVec 8)) (t : TokM) (n c : Nat) (p : Option Addr) (w : World) (hrl : root.length = 32) (hn : t.gs.length = n) (hok : t.Ok) (hts : t.ten.size ≤ 2000) (hps : ∀ x ∈ t.gs, x.pre.size ≤ 2000) (hL : GrantsAt w p t.gs) (hk : Consts w) (hs : Starts w) :
    Calls Tryd.prog 34 #[.agg (bytesV root).toArray, .agg (t.cells (.slice p n c)).toArray] w fun e w' => e = .returned (.int .i64 (verE root t)) ∧ Below w.heap.size w w' := by
  have HOK := Lib.hid hok
  have HTS := Lib.hid hts
  have HPS := Lib.hid hps
  have HL := Lib.hid hL
  have HN := Lib.hid hn
  have HRL := Lib.hid hrl
  have hn6 : n ≤ 1000 := by rw [← hn]; exact hok.few
  have HB0 : Hid (VeB root t (.slice p n c) w ((w.alloc (.cells (bytesV root).toArray 23)).alloc (.cells (t.cells (.slice p n c)).toArray 50))) := by
    have b1 := allocBelow w (.cells (bytesV root).toArray 23)
    have b2 := allocBelow (w.alloc (.cells (bytesV root).toArray 23)) (.cells (t.cells (.slice p n c)).toArray 50)
    have r1 : BytesAt (w.alloc (.cells (bytesV root).toArray 23)) w.heap.size 23 root := heap_new_at rfl
    have bb := b1.trans (b2.mono (by rw [size_alloc]; omega))
    exact ⟨r1.keep b2, heap_new_at (size_alloc _ _), bb, hk.below bb hk.size, range_keep hs bb⟩
  clear hok hL hn hk hs hrl
  obtain ⟨TC, hTC⟩ : ∃ TC, TC = (t.cells (.slice p n c)).toArray := ⟨_, rfl⟩
  obtain ⟨RC, hRC⟩ : ∃ RC, RC = (bytesV root).toArray := ⟨_, rfl⟩
  rw [← hTC, ← hRC] at HB0
  rw [← hTC, ← hRC]
  have HTC := Lib.hid hTC
  have HRC := Lib.hid hRC
  clear hTC hRC
  go_enter Tryd.func34, Tryd.ntmps34
  go_upto_region 1 with (fail)
  refine wp_gen (fun A => VeB root t (.slice p n c) w A) HB0.out ?_
  rintro A hA
  have HA := Lib.hid hA
  clear hA HB0
  cases hm : madeM t
  · have HV : Hid (verE root t = 19) := show _ = _ from verE_no hm
    refine region_grow (fun W => VeB root t (.slice p n c) w W) (fun i vz wz => match i with | 0 => vz = .agg (t.cells (.slice p n c)).toArray | 1 => vz = .bool false | 2 => vz = .bool false | 3 => vz = undef | 4 => vz = undef | 5 => vz = undef | 6 => vz = undef | 7 => vz = undef | 8 => vz = undef | _ => True) (by kernel_rfl) (by kernel_rfl) (by kernel_rfl) (by kernel_rfl) (by decide) (HA.out.step (Below.refl _ _).drew) ?_ ?_
    · skip
      intro i vz wz w2 hb hf
      match i, hf with
      | 0, hf => exact hf
      | 1, hf => exact hf
      | 2, hf => exact hf
      | 3, hf => exact hf
      | 4, hf => exact hf
      | 5, hf => exact hf
      | 6, hf => exact hf
      | 7, hf => exact hf
      | 8, hf => exact hf
      | _ + 9, _ => trivial
    intro ops hops
    have hf2 : ∀ (i : Nat) (o : Oper), ops[i]? = some o → o.dst ≠ some 2 := by rw [hops]; exact fun i o h => slot_free (by kernel_rfl) i o h
    have hf3 : ∀ (i : Nat) (o : Oper), ops[i]? = some o → o.dst ≠ some 3 := by rw [hops]; exact fun i o h => slot_free (by kernel_rfl) i o h
    have hns : ops.size = 10 := by rw [hops]; rfl
    obtain ⟨o0, po0, q0, d0, gd0⟩ : ∃ o, ops[0]? = some o ∧ o.op = .load 50 (.tmp 3) ∧ o.dst = some 5 ∧ o.guard = none := ⟨_, by rw [hops]; rfl, rfl, rfl, rfl⟩
    obtain ⟨o1, po1, q1, d1, gd1, dp1_0⟩ : ∃ o, ops[1]? = some o ∧ o.op = .call { callee := .value (.func 109), args := #[.tmp 5], argTypes := #[50] } ∧ o.dst = some 6 ∧ o.guard = none ∧ (o.after.any fun e => Region.binds .any e && decide (e.on = 0)) = true := ⟨_, by rw [hops]; rfl, rfl, rfl, rfl, by kernel_rfl⟩
    obtain ⟨o2, po2, q2, d2, gd2, dp2_1⟩ : ∃ o, ops[2]? = some o ∧ o.op = .move (.tmp 6) ∧ o.dst = some 7 ∧ o.guard = none ∧ (o.after.any fun e => Region.binds .any e && decide (e.on = 1)) = true := ⟨_, by rw [hops]; rfl, rfl, rfl, rfl, by kernel_rfl⟩
    obtain ⟨o3, po3, q3, d3, gd3, dp3_2⟩ : ∃ o, ops[3]? = some o ∧ o.op = .load 23 (.tmp 2) ∧ o.dst = some 8 ∧ o.guard = some (2, true) ∧ (o.after.any fun e => Region.binds .any e && decide (e.on = 2)) = true := ⟨_, by rw [hops]; rfl, rfl, rfl, rfl, by kernel_rfl⟩
    obtain ⟨o4, po4, q4, d4, gd4, dp4_2⟩ : ∃ o, ops[4]? = some o ∧ o.op = .load 50 (.tmp 3) ∧ o.dst = some 9 ∧ o.guard = some (2, true) ∧ (o.after.any fun e => Region.binds .any e && decide (e.on = 2)) = true := ⟨_, by rw [hops]; rfl, rfl, rfl, rfl, by kernel_rfl⟩
    obtain ⟨o5, po5, q5, d5, gd5, dp5_3, dp5_4, dp5_2⟩ : ∃ o, ops[5]? = some o ∧ o.op = .call { callee := .value (.func 37), args := #[.tmp 8, .tmp 9], argTypes := #[23, 50] } ∧ o.dst = some 10 ∧ o.guard = some (2, true) ∧ (o.after.any fun e => Region.binds .any e && decide (e.on = 3)) = true ∧ (o.after.any fun e => Region.binds .any e && decide (e.on = 4)) = true ∧ (o.after.any fun e => Region.binds .any e && decide (e.on = 2)) = true := ⟨_, by rw [hops]; rfl, rfl, rfl, rfl, by kernel_rfl, by kernel_rfl, by kernel_rfl⟩
    obtain ⟨o6, po6, q6, d6, gd6, dp6_2⟩ : ∃ o, ops[6]? = some o ∧ o.op = .fieldAddr 50 (.tmp 3) 3 ∧ o.dst = some 11 ∧ o.guard = some (2, true) ∧ (o.after.any fun e => Region.binds .any e && decide (e.on = 2)) = true := ⟨_, by rw [hops]; rfl, rfl, rfl, rfl, by kernel_rfl⟩
    obtain ⟨o7, po7, q7, d7, gd7, dp7_6, dp7_2⟩ : ∃ o, ops[7]? = some o ∧ o.op = .load 48 (.tmp 11) ∧ o.dst = some 12 ∧ o.guard = some (2, true) ∧ (o.after.any fun e => Region.binds .any e && decide (e.on = 6)) = true ∧ (o.after.any fun e => Region.binds .any e && decide (e.on = 2)) = true := ⟨_, by rw [hops]; rfl, rfl, rfl, rfl, by kernel_rfl, by kernel_rfl⟩
    obtain ⟨o8, po8, q8, d8, gd8, dp8_5, dp8_7, dp8_2⟩ : ∃ o, ops[8]? = some o ∧ o.op = .binOp .eql 48 (.tmp 10) (.tmp 12) 48 ∧ o.dst = some 13 ∧ o.guard = some (2, true) ∧ (o.after.any fun e => Region.binds .any e && decide (e.on = 5)) = true ∧ (o.after.any fun e => Region.binds .any e && decide (e.on = 7)) = true ∧ (o.after.any fun e => Region.binds .any e && decide (e.on = 2)) = true := ⟨_, by rw [hops]; rfl, rfl, rfl, rfl, by kernel_rfl, by kernel_rfl, by kernel_rfl⟩
    obtain ⟨o9, po9, q9, d9, gd9⟩ : ∃ o, ops[9]? = some o ∧ o.op = .pick (.tmp 7) (.tmp 13) (.const (.bool false)) ∧ o.dst = some 14 ∧ o.guard = none := ⟨_, by rw [hops]; rfl, rfl, rfl, rfl⟩
    have hslots : ∀ t, t ∉ [5, 6, 7, 8, 9, 10, 11, 12, 13, 14] → ∀ (i : Nat) (o : Oper), ops[i]? = some o → o.dst ≠ some t := by rw [hops]; exact fun t ht i o h => slots_free (by kernel_rfl) t ht i o h
    clear hops
    refine ⟨fun A W HS hfr hAs i o hi ho hdep => ?_, fun A W HS hdf hAs hfr hall => ?_⟩
    · skip
      have base2 : A.eval (.tmp 2) = .pointer (some ⟨w.heap.size, 0, none⟩) := (hfr 2 hf2).trans rfl
      have base3 : A.eval (.tmp 3) = .pointer (some ⟨w.heap.size + 1, 0, none⟩) := (hfr 3 hf3).trans rfl
      rw [hns] at hi
      obtain rfl | rfl | rfl | rfl | rfl | rfl | rfl | rfl | rfl : i = 0 ∨ i = 1 ∨ i = 2 ∨ i = 3 ∨ i = 4 ∨ i = 5 ∨ i = 6 ∨ i = 7 ∨ i = 8 := by omega
      · skip
        obtain rfl : o = o0 := Option.some.inj (ho.symm.trans po0)
        refine at_op po0 d0 (wanted_of gd0) (run_loadBlk q0 base3 HS.tok tok_under (size_tok HOK.out.mac _)) ⟨_, by rw [d0], HS, Below.refl _ _, rfl⟩
      · skip
        obtain rfl : o = o1 := Option.some.inj (ho.symm.trans po1)
        have e0 : A.eval (.tmp 5) = .agg (t.cells (.slice p n c)).toArray := hdep 0 _ 5 dp1_0 po0 d0
        refine at_enterT po1 d1 (wanted_of gd1) (run_callf1 q1 rfl e0 Tryd.func109 (by kernel_rfl) _) (refMade_any t n c p W HN.out HOK.out (HL.out.below HS.below)) ?_
        rintro e w1 ⟨rfl, hb⟩
        exact ⟨_, rfl, ⟨_, by rw [d1], HS.step hb, hb, (show Value.bool _ = Value.bool _ by rw [hm])⟩⟩
      · skip
        obtain rfl : o = o2 := Option.some.inj (ho.symm.trans po2)
        have e1 : A.eval (.tmp 6) = .bool false := hdep 1 _ 6 dp2_1 po1 d1
        refine at_op po2 d2 (wanted_of gd2) (run_move q2 e1 W) ⟨_, by rw [d2], HS, Below.refl _ _, rfl⟩
      · skip
        obtain rfl : o = o3 := Option.some.inj (ho.symm.trans po3)
        have e2 : A.eval (.tmp 7) = .bool false := hdep 2 _ 7 dp3_2 po2 d2
        refine at_unw po3 d3 (w_not gd3 po2 d2 e2) ⟨_, by rw [d3], HS, Below.refl _ _, rfl⟩
      · skip
        obtain rfl : o = o4 := Option.some.inj (ho.symm.trans po4)
        have e2 : A.eval (.tmp 7) = .bool false := hdep 2 _ 7 dp4_2 po2 d2
        refine at_unw po4 d4 (w_not gd4 po2 d2 e2) ⟨_, by rw [d4], HS, Below.refl _ _, rfl⟩
      · skip
        obtain rfl : o = o5 := Option.some.inj (ho.symm.trans po5)
        have e3 : A.eval (.tmp 8) = undef := hdep 3 _ 8 dp5_3 po3 d3
        have e4 : A.eval (.tmp 9) = undef := hdep 4 _ 9 dp5_4 po4 d4
        have e2 : A.eval (.tmp 7) = .bool false := hdep 2 _ 7 dp5_2 po2 d2
        refine at_unw po5 d5 (w_not gd5 po2 d2 e2) ⟨_, by rw [d5], HS, Below.refl _ _, rfl⟩
      · skip
        obtain rfl : o = o6 := Option.some.inj (ho.symm.trans po6)
        have e2 : A.eval (.tmp 7) = .bool false := hdep 2 _ 7 dp6_2 po2 d2
        refine at_unw po6 d6 (w_not gd6 po2 d2 e2) ⟨_, by rw [d6], HS, Below.refl _ _, rfl⟩
      · skip
        obtain rfl : o = o7 := Option.some.inj (ho.symm.trans po7)
        have e6 : A.eval (.tmp 11) = undef := hdep 6 _ 11 dp7_6 po6 d6
        have e2 : A.eval (.tmp 7) = .bool false := hdep 2 _ 7 dp7_2 po2 d2
        refine at_unw po7 d7 (w_not gd7 po2 d2 e2) ⟨_, by rw [d7], HS, Below.refl _ _, rfl⟩
      · skip
        obtain rfl : o = o8 := Option.some.inj (ho.symm.trans po8)
        have e5 : A.eval (.tmp 10) = undef := hdep 5 _ 10 dp8_5 po5 d5
        have e7 : A.eval (.tmp 12) = undef := hdep 7 _ 12 dp8_7 po7 d7
        have e2 : A.eval (.tmp 7) = .bool false := hdep 2 _ 7 dp8_2 po2 d2
        refine at_unw po8 d8 (w_not gd8 po2 d2 e2) ⟨_, by rw [d8], HS, Below.refl _ _, rfl⟩
    have base2 : A.eval (.tmp 2) = .pointer (some ⟨w.heap.size, 0, none⟩) := (hfr 2 hf2).trans rfl
    have base3 : A.eval (.tmp 3) = .pointer (some ⟨w.heap.size + 1, 0, none⟩) := (hfr 3 hf3).trans rfl
    have e0 : A.eval (.tmp 5) = .agg (t.cells (.slice p n c)).toArray := hall 0 _ 5 (by rw [hns]; decide) po0 d0
    have e1 : A.eval (.tmp 6) = .bool false := hall 1 _ 6 (by rw [hns]; decide) po1 d1
    have e2 : A.eval (.tmp 7) = .bool false := hall 2 _ 7 (by rw [hns]; decide) po2 d2
    have e3 : A.eval (.tmp 8) = undef := hall 3 _ 8 (by rw [hns]; decide) po3 d3
    have e4 : A.eval (.tmp 9) = undef := hall 4 _ 9 (by rw [hns]; decide) po4 d4
    have e5 : A.eval (.tmp 10) = undef := hall 5 _ 10 (by rw [hns]; decide) po5 d5
    have e6 : A.eval (.tmp 11) = undef := hall 6 _ 11 (by rw [hns]; decide) po6 d6
    have e7 : A.eval (.tmp 12) = undef := hall 7 _ 12 (by rw [hns]; decide) po7 d7
    have e8 : A.eval (.tmp 13) = undef := hall 8 _ 13 (by rw [hns]; decide) po8 d8
    have hA := act_of_slots [5, 6, 7, 8, 9, 10, 11, 12, 13, 14] _ hAs hdf (fun t ht => hfr t (hslots t ht))
    simp only [List.foldl_cons, List.foldl_nil] at hA
    rw [show rdA A 5 = A.eval (.tmp 5) from rfl, e0] at hA
    rw [show rdA A 6 = A.eval (.tmp 6) from rfl, e1] at hA
    rw [show rdA A 7 = A.eval (.tmp 7) from rfl, e2] at hA
    rw [show rdA A 8 = A.eval (.tmp 8) from rfl, e3] at hA
    rw [show rdA A 9 = A.eval (.tmp 9) from rfl, e4] at hA
    rw [show rdA A 10 = A.eval (.tmp 10) from rfl, e5] at hA
    rw [show rdA A 11 = A.eval (.tmp 11) from rfl, e6] at hA
    rw [show rdA A 12 = A.eval (.tmp 12) from rfl, e7] at hA
    rw [show rdA A 13 = A.eval (.tmp 13) from rfl, e8] at hA
    obtain ⟨ul, hul⟩ : ∃ u, rdA A 14 = u := ⟨_, rfl⟩
    rw [hul] at hA
    clear hul
    rw [hns]
    have HSF := Lib.hid HS.below
    refine at_op po9 d9 (wanted_of gd9) (r_pickF (v := .bool false) q9 e2 rfl W) ?_
    clear hall hdf hAs hfr hslots hns hf2 hf3 po0 q0 d0 gd0 po1 q1 d1 gd1 dp1_0 po2 q2 d2 gd2 dp2_1 po3 q3 d3 gd3 dp3_2 po4 q4 d4 gd4 dp4_2 po5 q5 d5 gd5 dp5_3 dp5_4 dp5_2 po6 q6 d6 gd6 dp6_2 po7 q7 d7 gd7 dp7_6 dp7_2 po8 q8 d8 gd8 dp8_5 dp8_7 dp8_2 po9 q9 d9 gd9 base2 base3
    have HA9 := Lib.hid hA
    clear hA HS HA e0 e1 e2 e3 e4 e5 e6 e7 e8
    rw [HA9.out]
    go_frame
    clear HA9
    go_wp2_with fail
    go_ret
    exact ⟨by rw [HV.out]; rfl, HSF.out⟩
  · by_cases hc : t.mac = chainT root t.ten t.id t.gs
    · have HV : Hid (verE root t = 0) := show _ = _ by rw [verE_yes hm, if_pos hc]
      have hsm : decide (chainT root t.ten t.id t.gs = t.mac) = true := decide_eq_true hc.symm
      refine region_grow (fun W => VeB root t (.slice p n c) w W) (fun i vz wz => match i with | 0 => vz = .agg (t.cells (.slice p n c)).toArray | 1 => vz = .bool true | 2 => vz = .bool true | 3 => vz = .agg (bytesV root).toArray | 4 => vz = .agg (t.cells (.slice p n c)).toArray | 5 => vz = .agg (bytesV (chainT root t.ten t.id t.gs)).toArray | 6 => vz = .pointer (some ⟨w.heap.size + 1, 3, none⟩) | 7 => vz = .agg (bytesV t.mac).toArray | 8 => vz = .bool true | _ => True) (by kernel_rfl) (by kernel_rfl) (by kernel_rfl) (by kernel_rfl) (by decide) (HA.out.step (Below.refl _ _).drew) ?_ ?_
      · skip
        intro i vz wz w2 hb hf
        match i, hf with
        | 0, hf => exact hf
        | 1, hf => exact hf
        | 2, hf => exact hf
        | 3, hf => exact hf
        | 4, hf => exact hf
        | 5, hf => exact hf
        | 6, hf => exact hf
        | 7, hf => exact hf
        | 8, hf => exact hf
        | _ + 9, _ => trivial
      intro ops hops
      have hf2 : ∀ (i : Nat) (o : Oper), ops[i]? = some o → o.dst ≠ some 2 := by rw [hops]; exact fun i o h => slot_free (by kernel_rfl) i o h
      have hf3 : ∀ (i : Nat) (o : Oper), ops[i]? = some o → o.dst ≠ some 3 := by rw [hops]; exact fun i o h => slot_free (by kernel_rfl) i o h
      have hns : ops.size = 10 := by rw [hops]; rfl
      obtain ⟨o0, po0, q0, d0, gd0⟩ : ∃ o, ops[0]? = some o ∧ o.op = .load 50 (.tmp 3) ∧ o.dst = some 5 ∧ o.guard = none := ⟨_, by rw [hops]; rfl, rfl, rfl, rfl⟩
      obtain ⟨o1, po1, q1, d1, gd1, dp1_0⟩ : ∃ o, ops[1]? = some o ∧ o.op = .call { callee := .value (.func 109), args := #[.tmp 5], argTypes := #[50] } ∧ o.dst = some 6 ∧ o.guard = none ∧ (o.after.any fun e => Region.binds .any e && decide (e.on = 0)) = true := ⟨_, by rw [hops]; rfl, rfl, rfl, rfl, by kernel_rfl⟩
      obtain ⟨o2, po2, q2, d2, gd2, dp2_1⟩ : ∃ o, ops[2]? = some o ∧ o.op = .move (.tmp 6) ∧ o.dst = some 7 ∧ o.guard = none ∧ (o.after.any fun e => Region.binds .any e && decide (e.on = 1)) = true := ⟨_, by rw [hops]; rfl, rfl, rfl, rfl, by kernel_rfl⟩
      obtain ⟨o3, po3, q3, d3, gd3, dp3_2⟩ : ∃ o, ops[3]? = some o ∧ o.op = .load 23 (.tmp 2) ∧ o.dst = some 8 ∧ o.guard = some (2, true) ∧ (o.after.any fun e => Region.binds .any e && decide (e.on = 2)) = true := ⟨_, by rw [hops]; rfl, rfl, rfl, rfl, by kernel_rfl⟩
      obtain ⟨o4, po4, q4, d4, gd4, dp4_2⟩ : ∃ o, ops[4]? = some o ∧ o.op = .load 50 (.tmp 3) ∧ o.dst = some 9 ∧ o.guard = some (2, true) ∧ (o.after.any fun e => Region.binds .any e && decide (e.on = 2)) = true := ⟨_, by rw [hops]; rfl, rfl, rfl, rfl, by kernel_rfl⟩
      obtain ⟨o5, po5, q5, d5, gd5, dp5_3, dp5_4, dp5_2⟩ : ∃ o, ops[5]? = some o ∧ o.op = .call { callee := .value (.func 37), args := #[.tmp 8, .tmp 9], argTypes := #[23, 50] } ∧ o.dst = some 10 ∧ o.guard = some (2, true) ∧ (o.after.any fun e => Region.binds .any e && decide (e.on = 3)) = true ∧ (o.after.any fun e => Region.binds .any e && decide (e.on = 4)) = true ∧ (o.after.any fun e => Region.binds .any e && decide (e.on = 2)) = true := ⟨_, by rw [hops]; rfl, rfl, rfl, rfl, by kernel_rfl, by kernel_rfl, by kernel_rfl⟩
      obtain ⟨o6, po6, q6, d6, gd6, dp6_2⟩ : ∃ o, ops[6]? = some o ∧ o.op = .fieldAddr 50 (.tmp 3) 3 ∧ o.dst = some 11 ∧ o.guard = some (2, true) ∧ (o.after.any fun e => Region.binds .any e && decide (e.on = 2)) = true := ⟨_, by rw [hops]; rfl, rfl, rfl, rfl, by kernel_rfl⟩
      obtain ⟨o7, po7, q7, d7, gd7, dp7_6, dp7_2⟩ : ∃ o, ops[7]? = some o ∧ o.op = .load 48 (.tmp 11) ∧ o.dst = some 12 ∧ o.guard = some (2, true) ∧ (o.after.any fun e => Region.binds .any e && decide (e.on = 6)) = true ∧ (o.after.any fun e => Region.binds .any e && decide (e.on = 2)) = true := ⟨_, by rw [hops]; rfl, rfl, rfl, rfl, by kernel_rfl, by kernel_rfl⟩
      obtain ⟨o8, po8, q8, d8, gd8, dp8_5, dp8_7, dp8_2⟩ : ∃ o, ops[8]? = some o ∧ o.op = .binOp .eql 48 (.tmp 10) (.tmp 12) 48 ∧ o.dst = some 13 ∧ o.guard = some (2, true) ∧ (o.after.any fun e => Region.binds .any e && decide (e.on = 5)) = true ∧ (o.after.any fun e => Region.binds .any e && decide (e.on = 7)) = true ∧ (o.after.any fun e => Region.binds .any e && decide (e.on = 2)) = true := ⟨_, by rw [hops]; rfl, rfl, rfl, rfl, by kernel_rfl, by kernel_rfl, by kernel_rfl⟩
      obtain ⟨o9, po9, q9, d9, gd9⟩ : ∃ o, ops[9]? = some o ∧ o.op = .pick (.tmp 7) (.tmp 13) (.const (.bool false)) ∧ o.dst = some 14 ∧ o.guard = none := ⟨_, by rw [hops]; rfl, rfl, rfl, rfl⟩
      have hslots : ∀ t, t ∉ [5, 6, 7, 8, 9, 10, 11, 12, 13, 14] → ∀ (i : Nat) (o : Oper), ops[i]? = some o → o.dst ≠ some t := by rw [hops]; exact fun t ht i o h => slots_free (by kernel_rfl) t ht i o h
      clear hops
      refine ⟨fun A W HS hfr hAs i o hi ho hdep => ?_, fun A W HS hdf hAs hfr hall => ?_⟩
      · skip
        have base2 : A.eval (.tmp 2) = .pointer (some ⟨w.heap.size, 0, none⟩) := (hfr 2 hf2).trans rfl
        have base3 : A.eval (.tmp 3) = .pointer (some ⟨w.heap.size + 1, 0, none⟩) := (hfr 3 hf3).trans rfl
        rw [hns] at hi
        obtain rfl | rfl | rfl | rfl | rfl | rfl | rfl | rfl | rfl : i = 0 ∨ i = 1 ∨ i = 2 ∨ i = 3 ∨ i = 4 ∨ i = 5 ∨ i = 6 ∨ i = 7 ∨ i = 8 := by omega
        · skip
          obtain rfl : o = o0 := Option.some.inj (ho.symm.trans po0)
          refine at_op po0 d0 (wanted_of gd0) (run_loadBlk q0 base3 HS.tok tok_under (size_tok HOK.out.mac _)) ⟨_, by rw [d0], HS, Below.refl _ _, rfl⟩
        · skip
          obtain rfl : o = o1 := Option.some.inj (ho.symm.trans po1)
          have e0 : A.eval (.tmp 5) = .agg (t.cells (.slice p n c)).toArray := hdep 0 _ 5 dp1_0 po0 d0
          refine at_enterT po1 d1 (wanted_of gd1) (run_callf1 q1 rfl e0 Tryd.func109 (by kernel_rfl) _) (refMade_any t n c p W HN.out HOK.out (HL.out.below HS.below)) ?_
          rintro e w1 ⟨rfl, hb⟩
          exact ⟨_, rfl, ⟨_, by rw [d1], HS.step hb, hb, (show Value.bool _ = Value.bool _ by rw [hm])⟩⟩
        · skip
          obtain rfl : o = o2 := Option.some.inj (ho.symm.trans po2)
          have e1 : A.eval (.tmp 6) = .bool true := hdep 1 _ 6 dp2_1 po1 d1
          refine at_op po2 d2 (wanted_of gd2) (run_move q2 e1 W) ⟨_, by rw [d2], HS, Below.refl _ _, rfl⟩
        · skip
          obtain rfl : o = o3 := Option.some.inj (ho.symm.trans po3)
          have e2 : A.eval (.tmp 7) = .bool true := hdep 2 _ 7 dp3_2 po2 d2
          refine at_op po3 d3 (wanted_guard gd3 po2 d2 e2) (run_loadKeyT q3 base2 HRL.out HS.root) ⟨_, by rw [d3], HS, Below.refl _ _, rfl⟩
        · skip
          obtain rfl : o = o4 := Option.some.inj (ho.symm.trans po4)
          have e2 : A.eval (.tmp 7) = .bool true := hdep 2 _ 7 dp4_2 po2 d2
          refine at_op po4 d4 (wanted_guard gd4 po2 d2 e2) (run_loadBlk q4 base3 HS.tok tok_under (size_tok HOK.out.mac _)) ⟨_, by rw [d4], HS, Below.refl _ _, rfl⟩
        · skip
          obtain rfl : o = o5 := Option.some.inj (ho.symm.trans po5)
          have e3 : A.eval (.tmp 8) = .agg (bytesV root).toArray := hdep 3 _ 8 dp5_3 po3 d3
          have e4 : A.eval (.tmp 9) = .agg (t.cells (.slice p n c)).toArray := hdep 4 _ 9 dp5_4 po4 d4
          have e2 : A.eval (.tmp 7) = .bool true := hdep 2 _ 7 dp5_2 po2 d2
          refine at_enterT po5 d5 (wanted_guard gd5 po2 d2 e2) (run_callf2 q5 rfl e3 e4 Tryd.func37 (by kernel_rfl) _) (refChain_tok root t n c p W HRL.out HOK.out.mac HN.out (by omega) HTS.out HPS.out (HL.out.below HS.below) HS.consts HS.starts) ?_
          rintro e w1 ⟨rfl, hb⟩
          exact ⟨_, rfl, ⟨_, by rw [d5], HS.step hb, hb, rfl⟩⟩
        · skip
          obtain rfl : o = o6 := Option.some.inj (ho.symm.trans po6)
          have e2 : A.eval (.tmp 7) = .bool true := hdep 2 _ 7 dp6_2 po2 d2
          refine at_op po6 d6 (wanted_guard gd6 po2 d2 e2) (run_fieldT (off := 3) q6 (fun _ => by kernel_rfl) base3 W) ⟨_, by rw [d6], HS, Below.refl _ _, rfl⟩
        · skip
          obtain rfl : o = o7 := Option.some.inj (ho.symm.trans po7)
          have e6 : A.eval (.tmp 11) = .pointer (some ⟨w.heap.size + 1, 3, none⟩) := hdep 6 _ 11 dp7_6 po6 d6
          have e2 : A.eval (.tmp 7) = .bool true := hdep 2 _ 7 dp7_2 po2 d2
          refine at_op po7 d7 (wanted_guard gd7 po2 d2 e2) (run_loadMac q7 e6 HOK.out.mac HS.tok.mac) ⟨_, by rw [d7], HS, Below.refl _ _, rfl⟩
        · skip
          obtain rfl : o = o8 := Option.some.inj (ho.symm.trans po8)
          have e5 : A.eval (.tmp 10) = .agg (bytesV (chainT root t.ten t.id t.gs)).toArray := hdep 5 _ 10 dp8_5 po5 d5
          have e7 : A.eval (.tmp 12) = .agg (bytesV t.mac).toArray := hdep 7 _ 12 dp8_7 po7 d7
          have e2 : A.eval (.tmp 7) = .bool true := hdep 2 _ 7 dp8_2 po2 d2
          refine at_op po8 d8 (wanted_guard gd8 po2 d2 e2) (run_eqSumT hsm q8 (chainT_length _ _ _ _) HOK.out.mac e5 e7 W) ⟨_, by rw [d8], HS, Below.refl _ _, rfl⟩
      have base2 : A.eval (.tmp 2) = .pointer (some ⟨w.heap.size, 0, none⟩) := (hfr 2 hf2).trans rfl
      have base3 : A.eval (.tmp 3) = .pointer (some ⟨w.heap.size + 1, 0, none⟩) := (hfr 3 hf3).trans rfl
      have e0 : A.eval (.tmp 5) = .agg (t.cells (.slice p n c)).toArray := hall 0 _ 5 (by rw [hns]; decide) po0 d0
      have e1 : A.eval (.tmp 6) = .bool true := hall 1 _ 6 (by rw [hns]; decide) po1 d1
      have e2 : A.eval (.tmp 7) = .bool true := hall 2 _ 7 (by rw [hns]; decide) po2 d2
      have e3 : A.eval (.tmp 8) = .agg (bytesV root).toArray := hall 3 _ 8 (by rw [hns]; decide) po3 d3
      have e4 : A.eval (.tmp 9) = .agg (t.cells (.slice p n c)).toArray := hall 4 _ 9 (by rw [hns]; decide) po4 d4
      have e5 : A.eval (.tmp 10) = .agg (bytesV (chainT root t.ten t.id t.gs)).toArray := hall 5 _ 10 (by rw [hns]; decide) po5 d5
      have e6 : A.eval (.tmp 11) = .pointer (some ⟨w.heap.size + 1, 3, none⟩) := hall 6 _ 11 (by rw [hns]; decide) po6 d6
      have e7 : A.eval (.tmp 12) = .agg (bytesV t.mac).toArray := hall 7 _ 12 (by rw [hns]; decide) po7 d7
      have e8 : A.eval (.tmp 13) = .bool true := hall 8 _ 13 (by rw [hns]; decide) po8 d8
      have hA := act_of_slots [5, 6, 7, 8, 9, 10, 11, 12, 13, 14] _ hAs hdf (fun t ht => hfr t (hslots t ht))
      simp only [List.foldl_cons, List.foldl_nil] at hA
      rw [show rdA A 5 = A.eval (.tmp 5) from rfl, e0] at hA
      rw [show rdA A 6 = A.eval (.tmp 6) from rfl, e1] at hA
      rw [show rdA A 7 = A.eval (.tmp 7) from rfl, e2] at hA
      rw [show rdA A 8 = A.eval (.tmp 8) from rfl, e3] at hA
      rw [show rdA A 9 = A.eval (.tmp 9) from rfl, e4] at hA
      rw [show rdA A 10 = A.eval (.tmp 10) from rfl, e5] at hA
      rw [show rdA A 11 = A.eval (.tmp 11) from rfl, e6] at hA
      rw [show rdA A 12 = A.eval (.tmp 12) from rfl, e7] at hA
      rw [show rdA A 13 = A.eval (.tmp 13) from rfl, e8] at hA
      obtain ⟨ul, hul⟩ : ∃ u, rdA A 14 = u := ⟨_, rfl⟩
      rw [hul] at hA
      clear hul
      rw [hns]
      have HSF := Lib.hid HS.below
      refine at_op po9 d9 (wanted_of gd9) (run_pick_true q9 e2 e8 W) ?_
      clear hall hdf hAs hfr hslots hns hf2 hf3 po0 q0 d0 gd0 po1 q1 d1 gd1 dp1_0 po2 q2 d2 gd2 dp2_1 po3 q3 d3 gd3 dp3_2 po4 q4 d4 gd4 dp4_2 po5 q5 d5 gd5 dp5_3 dp5_4 dp5_2 po6 q6 d6 gd6 dp6_2 po7 q7 d7 gd7 dp7_6 dp7_2 po8 q8 d8 gd8 dp8_5 dp8_7 dp8_2 po9 q9 d9 gd9 base2 base3
      have HA9 := Lib.hid hA
      clear hA HS HA e0 e1 e2 e3 e4 e5 e6 e7 e8
      rw [HA9.out]
      go_frame
      clear HA9
      go_wp2_with fail
      go_ret
      exact ⟨by rw [HV.out]; rfl, HSF.out⟩
    · have HV : Hid (verE root t = 19) := show _ = _ by rw [verE_yes hm, if_neg hc]
      have hsm : decide (chainT root t.ten t.id t.gs = t.mac) = false := decide_eq_false (fun e => hc e.symm)
      refine region_grow (fun W => VeB root t (.slice p n c) w W) (fun i vz wz => match i with | 0 => vz = .agg (t.cells (.slice p n c)).toArray | 1 => vz = .bool true | 2 => vz = .bool true | 3 => vz = .agg (bytesV root).toArray | 4 => vz = .agg (t.cells (.slice p n c)).toArray | 5 => vz = .agg (bytesV (chainT root t.ten t.id t.gs)).toArray | 6 => vz = .pointer (some ⟨w.heap.size + 1, 3, none⟩) | 7 => vz = .agg (bytesV t.mac).toArray | 8 => vz = .bool false | _ => True) (by kernel_rfl) (by kernel_rfl) (by kernel_rfl) (by kernel_rfl) (by decide) (HA.out.step (Below.refl _ _).drew) ?_ ?_
      · skip
        intro i vz wz w2 hb hf
        match i, hf with
        | 0, hf => exact hf
        | 1, hf => exact hf
        | 2, hf => exact hf
        | 3, hf => exact hf
        | 4, hf => exact hf
        | 5, hf => exact hf
        | 6, hf => exact hf
        | 7, hf => exact hf
        | 8, hf => exact hf
        | _ + 9, _ => trivial
      intro ops hops
      have hf2 : ∀ (i : Nat) (o : Oper), ops[i]? = some o → o.dst ≠ some 2 := by rw [hops]; exact fun i o h => slot_free (by kernel_rfl) i o h
      have hf3 : ∀ (i : Nat) (o : Oper), ops[i]? = some o → o.dst ≠ some 3 := by rw [hops]; exact fun i o h => slot_free (by kernel_rfl) i o h
      have hns : ops.size = 10 := by rw [hops]; rfl
      obtain ⟨o0, po0, q0, d0, gd0⟩ : ∃ o, ops[0]? = some o ∧ o.op = .load 50 (.tmp 3) ∧ o.dst = some 5 ∧ o.guard = none := ⟨_, by rw [hops]; rfl, rfl, rfl, rfl⟩
      obtain ⟨o1, po1, q1, d1, gd1, dp1_0⟩ : ∃ o, ops[1]? = some o ∧ o.op = .call { callee := .value (.func 109), args := #[.tmp 5], argTypes := #[50] } ∧ o.dst = some 6 ∧ o.guard = none ∧ (o.after.any fun e => Region.binds .any e && decide (e.on = 0)) = true := ⟨_, by rw [hops]; rfl, rfl, rfl, rfl, by kernel_rfl⟩
      obtain ⟨o2, po2, q2, d2, gd2, dp2_1⟩ : ∃ o, ops[2]? = some o ∧ o.op = .move (.tmp 6) ∧ o.dst = some 7 ∧ o.guard = none ∧ (o.after.any fun e => Region.binds .any e && decide (e.on = 1)) = true := ⟨_, by rw [hops]; rfl, rfl, rfl, rfl, by kernel_rfl⟩
      obtain ⟨o3, po3, q3, d3, gd3, dp3_2⟩ : ∃ o, ops[3]? = some o ∧ o.op = .load 23 (.tmp 2) ∧ o.dst = some 8 ∧ o.guard = some (2, true) ∧ (o.after.any fun e => Region.binds .any e && decide (e.on = 2)) = true := ⟨_, by rw [hops]; rfl, rfl, rfl, rfl, by kernel_rfl⟩
      obtain ⟨o4, po4, q4, d4, gd4, dp4_2⟩ : ∃ o, ops[4]? = some o ∧ o.op = .load 50 (.tmp 3) ∧ o.dst = some 9 ∧ o.guard = some (2, true) ∧ (o.after.any fun e => Region.binds .any e && decide (e.on = 2)) = true := ⟨_, by rw [hops]; rfl, rfl, rfl, rfl, by kernel_rfl⟩
      obtain ⟨o5, po5, q5, d5, gd5, dp5_3, dp5_4, dp5_2⟩ : ∃ o, ops[5]? = some o ∧ o.op = .call { callee := .value (.func 37), args := #[.tmp 8, .tmp 9], argTypes := #[23, 50] } ∧ o.dst = some 10 ∧ o.guard = some (2, true) ∧ (o.after.any fun e => Region.binds .any e && decide (e.on = 3)) = true ∧ (o.after.any fun e => Region.binds .any e && decide (e.on = 4)) = true ∧ (o.after.any fun e => Region.binds .any e && decide (e.on = 2)) = true := ⟨_, by rw [hops]; rfl, rfl, rfl, rfl, by kernel_rfl, by kernel_rfl, by kernel_rfl⟩
      obtain ⟨o6, po6, q6, d6, gd6, dp6_2⟩ : ∃ o, ops[6]? = some o ∧ o.op = .fieldAddr 50 (.tmp 3) 3 ∧ o.dst = some 11 ∧ o.guard = some (2, true) ∧ (o.after.any fun e => Region.binds .any e && decide (e.on = 2)) = true := ⟨_, by rw [hops]; rfl, rfl, rfl, rfl, by kernel_rfl⟩
      obtain ⟨o7, po7, q7, d7, gd7, dp7_6, dp7_2⟩ : ∃ o, ops[7]? = some o ∧ o.op = .load 48 (.tmp 11) ∧ o.dst = some 12 ∧ o.guard = some (2, true) ∧ (o.after.any fun e => Region.binds .any e && decide (e.on = 6)) = true ∧ (o.after.any fun e => Region.binds .any e && decide (e.on = 2)) = true := ⟨_, by rw [hops]; rfl, rfl, rfl, rfl, by kernel_rfl, by kernel_rfl⟩
      obtain ⟨o8, po8, q8, d8, gd8, dp8_5, dp8_7, dp8_2⟩ : ∃ o, ops[8]? = some o ∧ o.op = .binOp .eql 48 (.tmp 10) (.tmp 12) 48 ∧ o.dst = some 13 ∧ o.guard = some (2, true) ∧ (o.after.any fun e => Region.binds .any e && decide (e.on = 5)) = true ∧ (o.after.any fun e => Region.binds .any e && decide (e.on = 7)) = true ∧ (o.after.any fun e => Region.binds .any e && decide (e.on = 2)) = true := ⟨_, by rw [hops]; rfl, rfl, rfl, rfl, by kernel_rfl, by kernel_rfl, by kernel_rfl⟩
      obtain ⟨o9, po9, q9, d9, gd9⟩ : ∃ o, ops[9]? = some o ∧ o.op = .pick (.tmp 7) (.tmp 13) (.const (.bool false)) ∧ o.dst = some 14 ∧ o.guard = none := ⟨_, by rw [hops]; rfl, rfl, rfl, rfl⟩
      have hslots : ∀ t, t ∉ [5, 6, 7, 8, 9, 10, 11, 12, 13, 14] → ∀ (i : Nat) (o : Oper), ops[i]? = some o → o.dst ≠ some t := by rw [hops]; exact fun t ht i o h => slots_free (by kernel_rfl) t ht i o h
      clear hops
      refine ⟨fun A W HS hfr hAs i o hi ho hdep => ?_, fun A W HS hdf hAs hfr hall => ?_⟩
      · skip
        have base2 : A.eval (.tmp 2) = .pointer (some ⟨w.heap.size, 0, none⟩) := (hfr 2 hf2).trans rfl
        have base3 : A.eval (.tmp 3) = .pointer (some ⟨w.heap.size + 1, 0, none⟩) := (hfr 3 hf3).trans rfl
        rw [hns] at hi
        obtain rfl | rfl | rfl | rfl | rfl | rfl | rfl | rfl | rfl : i = 0 ∨ i = 1 ∨ i = 2 ∨ i = 3 ∨ i = 4 ∨ i = 5 ∨ i = 6 ∨ i = 7 ∨ i = 8 := by omega
        · skip
          obtain rfl : o = o0 := Option.some.inj (ho.symm.trans po0)
          refine at_op po0 d0 (wanted_of gd0) (run_loadBlk q0 base3 HS.tok tok_under (size_tok HOK.out.mac _)) ⟨_, by rw [d0], HS, Below.refl _ _, rfl⟩
        · skip
          obtain rfl : o = o1 := Option.some.inj (ho.symm.trans po1)
          have e0 : A.eval (.tmp 5) = .agg (t.cells (.slice p n c)).toArray := hdep 0 _ 5 dp1_0 po0 d0
          refine at_enterT po1 d1 (wanted_of gd1) (run_callf1 q1 rfl e0 Tryd.func109 (by kernel_rfl) _) (refMade_any t n c p W HN.out HOK.out (HL.out.below HS.below)) ?_
          rintro e w1 ⟨rfl, hb⟩
          exact ⟨_, rfl, ⟨_, by rw [d1], HS.step hb, hb, (show Value.bool _ = Value.bool _ by rw [hm])⟩⟩
        · skip
          obtain rfl : o = o2 := Option.some.inj (ho.symm.trans po2)
          have e1 : A.eval (.tmp 6) = .bool true := hdep 1 _ 6 dp2_1 po1 d1
          refine at_op po2 d2 (wanted_of gd2) (run_move q2 e1 W) ⟨_, by rw [d2], HS, Below.refl _ _, rfl⟩
        · skip
          obtain rfl : o = o3 := Option.some.inj (ho.symm.trans po3)
          have e2 : A.eval (.tmp 7) = .bool true := hdep 2 _ 7 dp3_2 po2 d2
          refine at_op po3 d3 (wanted_guard gd3 po2 d2 e2) (run_loadKeyT q3 base2 HRL.out HS.root) ⟨_, by rw [d3], HS, Below.refl _ _, rfl⟩
        · skip
          obtain rfl : o = o4 := Option.some.inj (ho.symm.trans po4)
          have e2 : A.eval (.tmp 7) = .bool true := hdep 2 _ 7 dp4_2 po2 d2
          refine at_op po4 d4 (wanted_guard gd4 po2 d2 e2) (run_loadBlk q4 base3 HS.tok tok_under (size_tok HOK.out.mac _)) ⟨_, by rw [d4], HS, Below.refl _ _, rfl⟩
        · skip
          obtain rfl : o = o5 := Option.some.inj (ho.symm.trans po5)
          have e3 : A.eval (.tmp 8) = .agg (bytesV root).toArray := hdep 3 _ 8 dp5_3 po3 d3
          have e4 : A.eval (.tmp 9) = .agg (t.cells (.slice p n c)).toArray := hdep 4 _ 9 dp5_4 po4 d4
          have e2 : A.eval (.tmp 7) = .bool true := hdep 2 _ 7 dp5_2 po2 d2
          refine at_enterT po5 d5 (wanted_guard gd5 po2 d2 e2) (run_callf2 q5 rfl e3 e4 Tryd.func37 (by kernel_rfl) _) (refChain_tok root t n c p W HRL.out HOK.out.mac HN.out (by omega) HTS.out HPS.out (HL.out.below HS.below) HS.consts HS.starts) ?_
          rintro e w1 ⟨rfl, hb⟩
          exact ⟨_, rfl, ⟨_, by rw [d5], HS.step hb, hb, rfl⟩⟩
        · skip
          obtain rfl : o = o6 := Option.some.inj (ho.symm.trans po6)
          have e2 : A.eval (.tmp 7) = .bool true := hdep 2 _ 7 dp6_2 po2 d2
          refine at_op po6 d6 (wanted_guard gd6 po2 d2 e2) (run_fieldT (off := 3) q6 (fun _ => by kernel_rfl) base3 W) ⟨_, by rw [d6], HS, Below.refl _ _, rfl⟩
        · skip
          obtain rfl : o = o7 := Option.some.inj (ho.symm.trans po7)
          have e6 : A.eval (.tmp 11) = .pointer (some ⟨w.heap.size + 1, 3, none⟩) := hdep 6 _ 11 dp7_6 po6 d6
          have e2 : A.eval (.tmp 7) = .bool true := hdep 2 _ 7 dp7_2 po2 d2
          refine at_op po7 d7 (wanted_guard gd7 po2 d2 e2) (run_loadMac q7 e6 HOK.out.mac HS.tok.mac) ⟨_, by rw [d7], HS, Below.refl _ _, rfl⟩
        · skip
          obtain rfl : o = o8 := Option.some.inj (ho.symm.trans po8)
          have e5 : A.eval (.tmp 10) = .agg (bytesV (chainT root t.ten t.id t.gs)).toArray := hdep 5 _ 10 dp8_5 po5 d5
          have e7 : A.eval (.tmp 12) = .agg (bytesV t.mac).toArray := hdep 7 _ 12 dp8_7 po7 d7
          have e2 : A.eval (.tmp 7) = .bool true := hdep 2 _ 7 dp8_2 po2 d2
          refine at_op po8 d8 (wanted_guard gd8 po2 d2 e2) (run_eqSumT hsm q8 (chainT_length _ _ _ _) HOK.out.mac e5 e7 W) ⟨_, by rw [d8], HS, Below.refl _ _, rfl⟩
      have base2 : A.eval (.tmp 2) = .pointer (some ⟨w.heap.size, 0, none⟩) := (hfr 2 hf2).trans rfl
      have base3 : A.eval (.tmp 3) = .pointer (some ⟨w.heap.size + 1, 0, none⟩) := (hfr 3 hf3).trans rfl
      have e0 : A.eval (.tmp 5) = .agg (t.cells (.slice p n c)).toArray := hall 0 _ 5 (by rw [hns]; decide) po0 d0
      have e1 : A.eval (.tmp 6) = .bool true := hall 1 _ 6 (by rw [hns]; decide) po1 d1
      have e2 : A.eval (.tmp 7) = .bool true := hall 2 _ 7 (by rw [hns]; decide) po2 d2
      have e3 : A.eval (.tmp 8) = .agg (bytesV root).toArray := hall 3 _ 8 (by rw [hns]; decide) po3 d3
      have e4 : A.eval (.tmp 9) = .agg (t.cells (.slice p n c)).toArray := hall 4 _ 9 (by rw [hns]; decide) po4 d4
      have e5 : A.eval (.tmp 10) = .agg (bytesV (chainT root t.ten t.id t.gs)).toArray := hall 5 _ 10 (by rw [hns]; decide) po5 d5
      have e6 : A.eval (.tmp 11) = .pointer (some ⟨w.heap.size + 1, 3, none⟩) := hall 6 _ 11 (by rw [hns]; decide) po6 d6
      have e7 : A.eval (.tmp 12) = .agg (bytesV t.mac).toArray := hall 7 _ 12 (by rw [hns]; decide) po7 d7
      have e8 : A.eval (.tmp 13) = .bool false := hall 8 _ 13 (by rw [hns]; decide) po8 d8
      have hA := act_of_slots [5, 6, 7, 8, 9, 10, 11, 12, 13, 14] _ hAs hdf (fun t ht => hfr t (hslots t ht))
      simp only [List.foldl_cons, List.foldl_nil] at hA
      rw [show rdA A 5 = A.eval (.tmp 5) from rfl, e0] at hA
      rw [show rdA A 6 = A.eval (.tmp 6) from rfl, e1] at hA
      rw [show rdA A 7 = A.eval (.tmp 7) from rfl, e2] at hA
      rw [show rdA A 8 = A.eval (.tmp 8) from rfl, e3] at hA
      rw [show rdA A 9 = A.eval (.tmp 9) from rfl, e4] at hA
      rw [show rdA A 10 = A.eval (.tmp 10) from rfl, e5] at hA
      rw [show rdA A 11 = A.eval (.tmp 11) from rfl, e6] at hA
      rw [show rdA A 12 = A.eval (.tmp 12) from rfl, e7] at hA
      rw [show rdA A 13 = A.eval (.tmp 13) from rfl, e8] at hA
      obtain ⟨ul, hul⟩ : ∃ u, rdA A 14 = u := ⟨_, rfl⟩
      rw [hul] at hA
      clear hul
      rw [hns]
      have HSF := Lib.hid HS.below
      refine at_op po9 d9 (wanted_of gd9) (run_pick_true q9 e2 e8 W) ?_
      clear hall hdf hAs hfr hslots hns hf2 hf3 po0 q0 d0 gd0 po1 q1 d1 gd1 dp1_0 po2 q2 d2 gd2 dp2_1 po3 q3 d3 gd3 dp3_2 po4 q4 d4 gd4 dp4_2 po5 q5 d5 gd5 dp5_3 dp5_4 dp5_2 po6 q6 d6 gd6 dp6_2 po7 q7 d7 gd7 dp7_6 dp7_2 po8 q8 d8 gd8 dp8_5 dp8_7 dp8_2 po9 q9 d9 gd9 base2 base3
      have HA9 := Lib.hid hA
      clear hA HS HA e0 e1 e2 e3 e4 e5 e6 e7 e8
      rw [HA9.out]
      go_frame
      clear HA9
      go_wp2_with fail
      go_ret
      exact ⟨by rw [HV.out]; rfl, HSF.out⟩
theorem tok_setSlice {w : World} {b : Nat} {t : TokM} {q r : Value} (h : TokAt w b t q) : TokAt (w.setCell ⟨b, 2, none⟩ r) b t r := by
  have h1 := heap_setCell_same w b 2 _ _ r h
  have e : (t.cells q).toArray.setIfInBounds 2 r = (t.cells r).toArray := by simp [TokM.cells]
  rw [e] at h1
  exact h1
/-- Two tokens in blocks. -/
structure SaW (t : TokM) (q r : Value) (W w : World) : Prop where
  one : TokAt w W.heap.size t q
  two : TokAt w (W.heap.size + 1) t r
  below : Below W.heap.size W w
theorem SaW.start (t : TokM) (q r : Value) (w : World) : SaW t q r w ((w.alloc (.cells (t.cells q).toArray 50)).alloc (.cells (t.cells r).toArray 50)) := by
  have b1 := allocBelow w (.cells (t.cells q).toArray 50)
  have b2 := allocBelow (w.alloc (.cells (t.cells q).toArray 50)) (.cells (t.cells r).toArray 50)
  have r1 : TokAt (w.alloc (.cells (t.cells q).toArray 50)) w.heap.size t q := heap_new_at rfl
  exact ⟨r1.keep b2, heap_new_at (size_alloc _ _), b1.trans (b2.mono (by rw [size_alloc]; omega))⟩
set_option maxRecDepth 100000 in
set_option maxHeartbeats 8000000 in
theorem sameToken_any (t : TokM) (n c m d : Nat) (p q : Option Addr) (w : World) (hml : t.mac.length = 32) (hn : t.gs.length = n) (hm : t.gs.length = m) (hn6 : n < 1000000) (hp : GrantsAt w p t.gs) (hq : GrantsAt w q t.gs) :
    Calls Tryd.prog 27 #[.agg (t.cells (.slice p n c)).toArray, .agg (t.cells (.slice q m d)).toArray] w fun e w' => e = .returned (.bool true) ∧ Below w.heap.size w w' := by
  obtain rfl : n = m := hn.symm.trans hm
  have HW : Hid (SaW t (.slice p n c) (.slice q n d) w ((w.alloc (.cells (t.cells (.slice p n c)).toArray 50)).alloc (.cells (t.cells (.slice q n d)).toArray 50))) := show SaW _ _ _ _ _ from SaW.start _ _ _ _
  have HML := Lib.hid hml
  have HN := Lib.hid hn
  have HP := Lib.hid hp
  have HQ := Lib.hid hq
  clear hml hn hm hp hq
  obtain ⟨C1, h1⟩ : ∃ C, C = (t.cells (.slice p n c)).toArray := ⟨_, rfl⟩
  obtain ⟨C2, h2⟩ : ∃ C, C = (t.cells (.slice q n d)).toArray := ⟨_, rfl⟩
  rw [← h1, ← h2] at HW
  rw [← h1, ← h2]
  clear h1 h2
  go_enter Tryd.func27, Tryd.ntmps27
  go_upto_region 1 with (fail)
  refine wp_gen (fun A => SaW t (.slice p n c) (.slice q n d) w A) HW.out ?_
  rintro A hA
  have HA := Lib.hid hA
  have i0 := hA.one.c0
  have i1 := hA.one.c1
  have i2 := hA.one.c2
  have k0 := hA.two.c0
  have k1 := hA.two.c1
  have k2 := hA.two.c2
  clear hA HW
  go_wp2_with (first
    | (show wpList _ _ _ (⟨_, .load 48 _, _, _, _, _⟩ :: _) _ _; refine wpList_run (by rfl) (run_loadMac rfl rfl HML.out HA.out.one.mac) ?_)
    | (show wpList _ _ _ (⟨_, .load 48 _, _, _, _, _⟩ :: _) _ _; refine wpList_run (by rfl) (run_loadMac rfl rfl HML.out HA.out.two.mac) ?_)
    | (show wpList _ _ _ (⟨_, .binOp .eql 48 _ _ _, _, _, _, _⟩ :: _) _ _; refine wpList_run (by rfl) (run_eqSumT (l := t.mac) (m := t.mac) (v := true) (decide_eq_true rfl) rfl HML.out HML.out rfl rfl _) ?_)
    | (go_at_call 54; refine (sameGrants_any t.gs n p q c d A HN.out hn6 (HP.out.below HA.out.below) (HQ.out.below HA.out.below)).mono ?_; rintro e w1 ⟨rfl, hb⟩; have HB := Lib.hid (HA.out.below.trans (hb.mono HA.out.below.size)); clear hb))
  go_ret
  exact ⟨rfl, HB.out⟩
set_option maxRecDepth 100000 in
set_option maxHeartbeats 8000000 in
theorem copyToken_any (t : TokM) (n c : Nat) (p : Option Addr) (w : World) (hml : t.mac.length = 32) (hn : t.gs.length = n) (hn6 : n < 1000000) (hp : GrantsAt w p t.gs) :
    Calls Tryd.prog 38 #[.agg (t.cells (.slice p n c)).toArray] w fun e w' => ∃ q d, e = .returned (.agg (t.cells (.slice q n d)).toArray) ∧ OwnGrants w.heap.size w' t.gs (.slice q n d) ∧ Below w.heap.size w w' := by
  have HW : Hid (TokAt ((w.alloc (.cells (t.cells (.slice p n c)).toArray 50)).alloc (.cells (zeroTok.cells (.slice none 0 0)).toArray 50)) w.heap.size t (.slice p n c) ∧ TokAt ((w.alloc (.cells (t.cells (.slice p n c)).toArray 50)).alloc (.cells (zeroTok.cells (.slice none 0 0)).toArray 50)) (w.heap.size + 1) zeroTok (.slice none 0 0) ∧ Below w.heap.size w ((w.alloc (.cells (t.cells (.slice p n c)).toArray 50)).alloc (.cells (zeroTok.cells (.slice none 0 0)).toArray 50))) := by
    have b1 := allocBelow w (.cells (t.cells (.slice p n c)).toArray 50)
    have b2 := allocBelow (w.alloc (.cells (t.cells (.slice p n c)).toArray 50)) (.cells (zeroTok.cells (.slice none 0 0)).toArray 50)
    have r1 : TokAt (w.alloc (.cells (t.cells (.slice p n c)).toArray 50)) w.heap.size t (.slice p n c) := heap_new_at rfl
    exact ⟨r1.keep b2, heap_new_at (size_alloc _ _), b1.trans (b2.mono (by rw [size_alloc]; omega))⟩
  have HML := Lib.hid hml
  have HN := Lib.hid hn
  have HP := Lib.hid hp
  clear hml hn hp
  obtain ⟨C1, h1⟩ : ∃ C, C = (t.cells (.slice p n c)).toArray := ⟨_, rfl⟩
  rw [← h1] at HW
  rw [← h1]
  clear h1
  go_enter Tryd.func38, Tryd.ntmps38
  go_upto_region 1 with (fail)
  refine wp_gen (fun A => TokAt A w.heap.size t (.slice p n c) ∧ TokAt A (w.heap.size + 1) zeroTok (.slice none 0 0) ∧ Below w.heap.size w A) (by exact HW.out) ?_
  rintro A hA
  have HA := Lib.hid hA
  have i2 := hA.1.c2
  clear hA HW
  go_upto_region 2 with (go_at_call 101; refine (copyGrants_any t.gs n p c A HN.out hn6 (HP.out.below HA.out.2.2)).mono ?_; rintro e w1 ⟨v, rfl, ho, hb⟩; have hl := ho.lies GrantM.len; rw [HN.out] at hl; obtain ⟨q, d, rfl, -⟩ := hl; have k1 := HA.out.1.keep hb; have fz := frozen_of_row w1 w.heap.size 2 _ _ k1; have kc := k1.c2; have HSET := Lib.hid (tok_setSlice (r := .slice q n d) k1); have HO2 := Lib.hid (HA.out.2.1.keep hb); have HBE := Lib.hid (HA.out.2.2.trans (hb.mono HA.out.2.2.size)); have HO1 := Lib.hid (lowerR ho HA.out.2.1.lt); clear ho hb k1)
  have hsp : Spares (fun b => b = w.heap.size) w1 (w1.setCell ⟨w.heap.size, 2, none⟩ (.slice q n d)) := Spares.grown (grown_setCell _ _ _ _) rfl
  have HF : Hid (TokAt (w1.setCell ⟨w.heap.size, 2, none⟩ (.slice q n d)) w.heap.size t (.slice q n d) ∧ TokAt (w1.setCell ⟨w.heap.size, 2, none⟩ (.slice q n d)) (w.heap.size + 1) zeroTok (.slice none 0 0) ∧ OwnGrants (w.heap.size + 1 + 1) (w1.setCell ⟨w.heap.size, 2, none⟩ (.slice q n d)) t.gs (.slice q n d) ∧ Below w.heap.size w (w1.setCell ⟨w.heap.size, 2, none⟩ (.slice q n d))) := show _ ∧ _ ∧ _ ∧ _ from ⟨HSET.out, tok_spares HO2.out hsp (by omega), ownsRow_stays HO1.out (spares_stays hsp) (fun j e t => by have := World.ownsRow.lt HO1.out j e; omega), HBE.out.trans (hsp.below HBE.out.size (fun k hk e => by omega))⟩
  generalize w1.setCell ⟨w.heap.size, 2, none⟩ (.slice q n d) = W2 at HF ⊢
  clear hsp fz kc i2 HSET HO2 HO1 HBE
  refine wp_region_lit ?_
  refine wpList_run (by rfl) (run_loadBlk rfl rfl HF.out.1 tok_under (size_tok HML.out _)) ?_
  refine wpList_store_row rfl 50 (.tmp 2) (.tmp 7) rfl (w.heap.size + 1) (t.cells (.slice q n d)).toArray rfl rfl 50 _ HF.out.2.1 (size_tok HML.out _) (by rw [List.size_toArray, List.size_toArray, tok_len (t := zeroTok) rfl, tok_len HML.out]) (tok_ones _ _ _ _) ?_
  refine wpList_nil ?_
  go_frame
  go_wp2_with fail
  exact bodyPost_ret (v := .agg (t.cells (.slice q n d)).toArray) (results_cell_row (P := Tryd.prog) (p := 2) (ty := 50) Tryd.results38 _ _ (w.heap.size + 1) 50 _ (0, 0) _ rfl (setRow_heap _ _ _ _ _ _ HF.out.2.1) Tryd.underlying50 rfl (size_tok HML.out _)) rfl ⟨q, d, rfl, lowerR (ownsRow_stays HF.out.2.2.1 (spares_stays (T := fun b => b = w.heap.size + 1) (Spares.grown (grown_setRow _ _ _) rfl)) (fun j e t => by have := World.ownsRow.lt HF.out.2.2.1 j e; omega)) (by omega), below_setRow HF.out.2.2.2 (by omega) _⟩
end Go.Proofs.YtgeacocdnenhdaaDoor
