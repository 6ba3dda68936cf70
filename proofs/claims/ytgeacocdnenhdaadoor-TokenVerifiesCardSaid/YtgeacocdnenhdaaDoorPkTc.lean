/-
  What other texts lean on: TkVer, TkVer2.
-/
import Derived.Test.YtgeacocdnenhdaaDoorPkA
import Derived.Test.YtgeacocdnenhdaaDoorPkN
import Derived.Test.YtgeacocdnenhdaaDoorPkTb
/-
  The program's Last, narrowing, wellFormed, Verify of tokens (gen_tkver.py).
-/
namespace Go.Proofs.YtgeacocdnenhdaaDoor
open Go.RowKit Go.Proofs.ShaWords
/-- A token in a block, a grant's block behind it. -/
structure LaW (t : TokM) (q : Value) (W w : World) : Prop where
  tok : TokAt w W.heap.size t q
  out : GrantAt w (W.heap.size + 1) gz
  below : Below W.heap.size W w
theorem lastG_at {gs : List GrantM} {m : Nat} (h : gs.length = m + 1) : lastG gs = gs[m]'(by omega) := by
  have e : gs.getLast? = some (gs[m]'(by omega)) := by
    rw [List.getLast?_eq_getElem?, show gs.length - 1 = m by omega]
    exact List.getElem?_eq_getElem (by omega)
  unfold lastG
  rw [e]
  rfl
set_option maxRecDepth 100000 in
set_option maxHeartbeats 4000000 in
theorem last_tok (t : TokM) (n c : Nat) (p : Option Addr) (w : World) (hn : t.gs.length = n) (hn6 : n ≤ 1000000) (hok : ∀ x ∈ t.gs, x.pre.size ≤ 1000000) (hL : GrantsAt w p t.gs) :
    Calls Tryd.prog 35 #[.agg (t.cells (.slice p n c)).toArray] w fun e w' => e = .returned (.agg (lastG t.gs).cells.toArray) ∧ Below w.heap.size w w' := by
  have HN := Lib.hid hn
  have HOK := Lib.hid hok
  have HL := Lib.hid hL
  have HB0 : Hid (LaW t (.slice p n c) w ((w.alloc (.cells (t.cells (.slice p n c)).toArray 50)).alloc (.cells gz.cells.toArray 54))) := by
    have b1 := allocBelow w (.cells (t.cells (.slice p n c)).toArray 50)
    have b2 := allocBelow (w.alloc (.cells (t.cells (.slice p n c)).toArray 50)) (.cells gz.cells.toArray 54)
    have r1 : TokAt (w.alloc (.cells (t.cells (.slice p n c)).toArray 50)) w.heap.size t (.slice p n c) := heap_new_at rfl
    exact ⟨r1.keep b2, heap_new_at (size_alloc _ _), b1.trans (b2.mono (by rw [size_alloc]; omega))⟩
  clear hn hok hL
  obtain ⟨TC, hTC⟩ : ∃ TC, TC = (t.cells (.slice p n c)).toArray := ⟨_, rfl⟩
  rw [← hTC] at HB0
  rw [← hTC]
  clear hTC
  go_enter Tryd.func35, Tryd.ntmps35
  go_upto_region 1 with (fail)
  refine wp_gen (fun A => LaW t (.slice p n c) w A) HB0.out ?_
  rintro A hA
  have HA := Lib.hid hA
  have c2 := hA.tok.c2
  clear hA HB0
  have hres : ∀ (g : GrantM) (B : World) (tmps : Array Value), GrantAt B (w.heap.size + 1) g → tmps.getD 2 undef = .pointer (some ⟨w.heap.size + 1, 0, none⟩) → Sem.run Tryd.prog (results Tryd.f35 tmps) B = .ok (.agg g.cells.toArray) B := fun g B tmps hg h =>
    results_cell_row (P := Tryd.prog) (p := 2) (ty := 54) Tryd.results35 tmps _ (w.heap.size + 1) 54 g.cells.toArray (0, 0) _ h hg Tryd.underlying54 rfl (size_grant g)
  cases n with
  | zero =>
    have h0 : Hid (lastG t.gs = gz) := show _ = _ by rw [List.length_eq_zero_iff.1 HN.out]; rfl
    go_upto_region 2 with (fail)
    refine wp_region_lit ?_
    refine wpList_run (by rfl) (show _ = Result.ok (Next.value (.agg gz.cells.toArray)) _ from by kernel_rfl) ?_
    refine wpList_store_row rfl 54 (.tmp 2) (.tmp 7) rfl (w.heap.size + 1) gz.cells.toArray rfl rfl 54 _ HA.out.out (size_grant _) rfl (grant_ones2 _) ?_
    refine wpList_nil ?_
    go_frame
    go_wp2_with fail
    exact bodyPost_ret (v := .agg gz.cells.toArray) (hres gz _ _ (setRow_heap _ _ _ _ _ _ HA.out.out) rfl) rfl ⟨by rw [h0.out], below_setRow HA.out.below (by omega) _⟩
  | succ m =>
    have hlt : m < t.gs.length := by rw [HN.out]; omega
    have hl := lastG_at HN.out
    rcases HL.out.at' with h1 | ⟨b, off, rfl, hr⟩
    · exfalso; rw [h1] at hlt; simp at hlt
    have hrk := range_keep (hr m hlt) HA.out.below
    have HSM := Lib.hid (HOK.out _ (List.getElem_mem hlt))
    rw [← hl] at hrk HSM
    obtain ⟨x, hx⟩ : ∃ x, lastG t.gs = x := ⟨_, rfl⟩
    rw [hx] at hrk HSM
    have HX := Lib.hid hx
    clear hx
    have HR := Lib.hid hrk
    clear hl hr hrk hlt
    have q9 : (((m + 1 : Nat) : Int) - 1) = (m : Int) := by omega
    have q8 : ¬ (((m + 1 : Nat) : Int) = 0) := by omega
    go_upto_region 3 with (fail)
    go_wp2_with (first
      | (show wpList _ _ _ (⟨_, .indexAddr _ _ _, _, _, _, _⟩ :: _) _ _; refine wpList_run (by rfl) (grantT.run_ix (i := m) rfl rfl (by first | rfl | exact congrArg (Value.int .i64) q9) (by omega) _) ?_)
      | (show wpList _ _ _ (⟨_, .load 54 _, _, _, _, _⟩ :: _) _ _; refine wpList_run (by rfl) (grantT.run_ld Tryd.underlying54 rfl (GrantM.len x) rfl rfl HR.out) ?_)
      | (go_at_call 97; refine (ownG_any x A (by have := HSM.out; omega)).mono ?_; rintro e w1 ⟨rfl, hb⟩; have HB1 := Lib.hid hb; have HO1 := Lib.hid (HA.out.out.below hb (by have := (Array.getElem?_eq_some_iff.1 HA.out.out).1; exact this)); clear hb)
      | (refine wpList_store_row rfl 54 (.tmp 2) (.tmp 16) rfl (w.heap.size + 1) x.cells.toArray rfl rfl 54 _ HO1.out (size_grant _) rfl (grant_ones2 _) ?_))

    exact bodyPost_ret (v := .agg x.cells.toArray) (hres x _ _ (setRow_heap _ _ _ _ _ _ HO1.out) rfl) rfl ⟨by rw [HX.out], below_setRow (HA.out.below.trans (HB1.out.mono HA.out.below.size)) (by omega) _⟩
/-- The grants so far are well made. -/
def goodTo (gs : List GrantM) (k : Nat) : Prop := ∀ j, j < k → okAt gs j = true
theorem goodTo_succ {gs : List GrantM} {k : Nat} (h : goodTo gs k) (hk : okAt gs k = true) : goodTo gs (k + 1) := fun j hj => by
  by_cases e : j = k
  · subst e; exact hk
  · exact h j (by omega)
theorem okAt_eq {gs : List GrantM} {k : Nat} {x : GrantM} (h : gs[k]? = some x) : okAt gs k = (decide (checkM x = 0) && (decide (k = 0) || narrowM (gs.getD (k - 1) gz) x)) := by
  unfold okAt
  rw [show gs.getD k gz = x by simp [List.getD, h]]
/-- The grants of one round: its own, the one ahead. -/
structure NaW (x y : GrantM) (b off k F : Nat) (W w : World) : Prop where
  box : GrantAt w F x
  prev : w.rangeAt b (off + (k - 1) * 4) y.cells
  below : Below W.heap.size W w
theorem NaW.step {x y : GrantM} {b off k F : Nat} {W w w' : World} (h : NaW x y b off k F W w) (hb : Below w.heap.size w w') : NaW x y b off k F W w' :=
  ⟨h.box.below hb (Array.getElem?_eq_some_iff.1 h.box).1, range_keep h.prev hb, h.below.trans (hb.mono h.below.size)⟩
section
variable {ρ : Operand → Value} {o : Oper} {x y : Operand}
theorem run_neqZ {a b : Int} {v : Bool} {ty : TypeId} (hv : (a != b) = v) (ho : o.op = .binOp .neq 34 x y ty) (hx : ρ x = .int .i64 a) (hy : ρ y = .int .i64 b) (w : World) : (execOp ρ o).run Tryd.prog w = .ok (.value (.bool v)) w := by
  obtain ⟨dst, op, ty', pos, after, guard⟩ := o
  simp only at ho
  subst ho
  subst hv
  go_simp
theorem run_gtrZ {a b : Int} {v : Bool} {ty : TypeId} (hv : decide (a > b) = v) (ho : o.op = .binOp .gtr 3 x y ty) (hx : ρ x = .int .i64 a) (hy : ρ y = .int .i64 b) (w : World) : (execOp ρ o).run Tryd.prog w = .ok (.value (.bool v)) w := by
  obtain ⟨dst, op, ty', pos, after, guard⟩ := o
  simp only at ho
  subst ho
  subst hv
  go_simp
theorem run_subZ {a b c : Int} {ty : TypeId} (hv : wrap64 (a - b) = c) (ho : o.op = .binOp .sub 3 x y ty) (hx : ρ x = .int .i64 a) (hy : ρ y = .int .i64 b) (w : World) : (execOp ρ o).run Tryd.prog w = .ok (.value (.int .i64 c)) w := by
  obtain ⟨dst, op, ty', pos, after, guard⟩ := o
  simp only at ho
  subst ho
  subst hv
  go_simp
  rw [IntWalk.i64_left]
end
set_option maxRecDepth 100000 in
set_option maxHeartbeats 8000000 in
theorem narrowing_any (gs : List GrantM) (n c : Nat) (p : Option Addr) (w : World) (hn : gs.length = n) (hok : ∀ x ∈ gs, x.pre.size ≤ 1000000 ∧ x.Ok) (hL : GrantsAt w p gs) :
    Calls Tryd.prog 166 #[.slice p n c] w (ReturnsG (narrowsL gs) w) := by
  have HN := Lib.hid hn
  have HOK := Lib.hid hok
  have HL := Lib.hid hL
  clear hn hok hL
  go_enter Tryd.func166, Tryd.ntmps166
  by_cases h0 : n = 0
  · subst h0
    have HR : Hid (narrowsL gs = false) := show _ = _ from narrows_len (.inl HN.out)
    go_wp2_with fail
    go_ret
    exact ⟨by rw [HR.out]; rfl, Below.refl _ _⟩
  by_cases h6 : 6 < n
  · have HR : Hid (narrowsL gs = false) := show _ = _ from narrows_len (.inr (by rw [HN.out]; exact h6))
    have q1 : ¬ (n : Int) = 0 := by omega
    have q2 : (n : Int) > 6 := by omega
    go_wp2_with fail
    go_ret
    exact ⟨by rw [HR.out]; rfl, Below.refl _ _⟩
  have q1 : ¬ (n : Int) = 0 := by omega
  have q2 : ¬ (n : Int) > 6 := by omega
  go_upto_region 3 with (fail)
  go_wp2_with fail
  go_loopw [15] (fun i wr => ∃ k : Nat, k ≤ n ∧ i = .int .i64 (k : Int) ∧ goodTo gs k ∧ Below w.heap.size w wr) (fun i _ => n - (intOf i).toNat)
  case atStart => exact ⟨0, Nat.zero_le _, rfl, fun j hj => by omega, Below.refl _ _⟩
  case round =>
    obtain ⟨k, hk, rfl, hgood, hbw⟩ := hrel
    by_cases hlt : k < n
    · have hlt' : k < gs.length := by rw [HN.out]; exact hlt
      rcases HL.out.at' with h1 | ⟨b, off, rfl, hr⟩
      · exfalso; rw [h1] at hlt'; simp at hlt'
      have hrk := range_keep (hr k hlt') hbw
      have hprev := range_keep (hr (k - 1) (by omega)) hbw
      have hgk : gs[k]? = some gs[k] := List.getElem?_eq_getElem hlt'
      have HE := Lib.hid (okAt_eq hgk)
      have hy : gs.getD (k - 1) gz = gs[k - 1]'(by omega) := by simp [List.getD, show k - 1 < gs.length by omega]
      rw [hy] at HE
      have HOX := Lib.hid (HOK.out _ (List.getElem_mem hlt'))
      generalize gs[k] = x at hrk HE HOX
      generalize gs[k - 1]'(by omega) = y at hprev HE
      have HR := Lib.hid hrk
      have HP := Lib.hid hprev
      have HG := Lib.hid hgood
      have HB := Lib.hid hbw
      have HKL := Lib.hid hlt
      clear hgood hbw hr hrk hprev hgk hy hlt'
      go_upto_region 5 with (fail)
      refine wp_region_lit ?_
      refine wpList_run (by rfl) (run_move (v := .int .i64 (k : Int)) rfl rfl _) ?_
      refine wpList_run (by rfl) (grantT.run_ix rfl rfl rfl HKL.out _) ?_
      refine wpList_run (by rfl) (grantT.run_ld Tryd.underlying54 rfl (GrantM.len x) rfl rfl HR.out) ?_
      refine wpList_runW8 (by rfl) (run_allocGr rfl _) ?_
      refine wpList_run (by rfl) (run_assign (v := .int .i64 (k : Int)) rfl rfl _) ?_
      refine wpList_store_row rfl 54 (.tmp 4) (.tmp 19) rfl wr.heap.size x.cells.toArray rfl rfl 54 _ (heap_new_at rfl) (size_grant x) rfl (grant_ones2 x) ?_
      refine wpList_nil ?_
      have hA : NaW x y b off k wr.heap.size wr ((wr.alloc (.cells gz.cells.toArray 54)).setRow wr.heap.size x.cells.toArray) := ⟨setRow_heap _ _ _ _ _ _ (heap_new_at rfl), range_keep HP.out (below_setRow (allocBelow _ _) (Nat.le_refl _) _), below_setRow (allocBelow _ _) (Nat.le_refl _) _⟩
      generalize (wr.alloc (.cells gz.cells.toArray 54)).setRow wr.heap.size x.cells.toArray = A at hA ⊢
      have HA := Lib.hid hA; clear hA
      go_frame
      go_upto_region 6 with (fail)
      clear HR HP
      cases hc : decide (checkM x = 0)
      · have hcx : ¬ checkM x = 0 := of_decide_eq_false hc
        have HF : Hid (okAt gs k = false) := show _ = _ by rw [HE.out, hc]; rfl
        have hne : (checkM x != 0) = true := by simpa using hcx
        refine region_grow (fun W => NaW x y b off k wr.heap.size wr W) (fun i vz wz => match i with | 0 => vz = .agg x.cells.toArray | 1 => vz = .int .i64 (checkM x) | 2 => vz = .bool true | 3 => vz = .bool true | 4 => vz = undef | 5 => vz = undef | 6 => vz = undef | 7 => vz = undef | 8 => vz = undef | 9 => vz = undef | 10 => vz = undef | 11 => vz = undef | 12 => vz = undef | 13 => vz = undef | 14 => vz = undef | 15 => vz = undef | _ => True) (by kernel_rfl) (by kernel_rfl) (by kernel_rfl) (by kernel_rfl) (by decide) (HA.out.step (Below.refl _ _).drew) ?_ ?_
        · skip
          intro i vz wz w2 hb hf
          match i, hf with
          | 0, hf => exact hf
          | 1, hf => exact hf
          | 2, hf => exact hf
          | 3, hf => exact hf
          | 4, hf => exact hf
          | 5, hf => exact hf
          | 6, hf => exact hf
          | 7, hf => exact hf
          | 8, hf => exact hf
          | 9, hf => exact hf
          | 10, hf => exact hf
          | 11, hf => exact hf
          | 12, hf => exact hf
          | 13, hf => exact hf
          | 14, hf => exact hf
          | 15, hf => exact hf
          | _ + 16, _ => trivial
        intro ops hops
        have hf0 : ∀ (i : Nat) (o : Oper), ops[i]? = some o → o.dst ≠ some 0 := by rw [hops]; exact fun i o h => slot_free (by kernel_rfl) i o h
        have hf3 : ∀ (i : Nat) (o : Oper), ops[i]? = some o → o.dst ≠ some 3 := by rw [hops]; exact fun i o h => slot_free (by kernel_rfl) i o h
        have hf4 : ∀ (i : Nat) (o : Oper), ops[i]? = some o → o.dst ≠ some 4 := by rw [hops]; exact fun i o h => slot_free (by kernel_rfl) i o h
        have hns : ops.size = 17 := by rw [hops]; rfl
        obtain ⟨o0, po0, q0, d0, gd0⟩ : ∃ o, ops[0]? = some o ∧ o.op = .load 54 (.tmp 4) ∧ o.dst = some 20 ∧ o.guard = none := ⟨_, by rw [hops]; rfl, rfl, rfl, rfl⟩
        obtain ⟨o1, po1, q1, d1, gd1, dp1_0⟩ : ∃ o, ops[1]? = some o ∧ o.op = .call { callee := .value (.func 62), args := #[.tmp 20], argTypes := #[54] } ∧ o.dst = some 21 ∧ o.guard = none ∧ (o.after.any fun e => Region.binds .any e && decide (e.on = 0)) = true := ⟨_, by rw [hops]; rfl, rfl, rfl, rfl, by kernel_rfl⟩
        obtain ⟨o2, po2, q2, d2, gd2, dp2_1⟩ : ∃ o, ops[2]? = some o ∧ o.op = .binOp .neq 34 (.tmp 21) (.const (.int .i64 0)) 34 ∧ o.dst = some 22 ∧ o.guard = none ∧ (o.after.any fun e => Region.binds .any e && decide (e.on = 1)) = true := ⟨_, by rw [hops]; rfl, rfl, rfl, rfl, by kernel_rfl⟩
        obtain ⟨o3, po3, q3, d3, gd3, dp3_2⟩ : ∃ o, ops[3]? = some o ∧ o.op = .move (.tmp 22) ∧ o.dst = some 23 ∧ o.guard = none ∧ (o.after.any fun e => Region.binds .any e && decide (e.on = 2)) = true := ⟨_, by rw [hops]; rfl, rfl, rfl, rfl, by kernel_rfl⟩
        obtain ⟨o4, po4, q4, d4, gd4, dp4_3⟩ : ∃ o, ops[4]? = some o ∧ o.op = .move (.tmp 3) ∧ o.dst = some 24 ∧ o.guard = some (3, false) ∧ (o.after.any fun e => Region.binds .any e && decide (e.on = 3)) = true := ⟨_, by rw [hops]; rfl, rfl, rfl, rfl, by kernel_rfl⟩
        obtain ⟨o5, po5, q5, d5, gd5, dp5_4, dp5_3⟩ : ∃ o, ops[5]? = some o ∧ o.op = .binOp .gtr 3 (.tmp 24) (.const (.int .i64 0)) 3 ∧ o.dst = some 25 ∧ o.guard = some (3, false) ∧ (o.after.any fun e => Region.binds .any e && decide (e.on = 4)) = true ∧ (o.after.any fun e => Region.binds .any e && decide (e.on = 3)) = true := ⟨_, by rw [hops]; rfl, rfl, rfl, rfl, by kernel_rfl, by kernel_rfl⟩
        obtain ⟨o6, po6, q6, d6, gd6, dp6_5, dp6_3⟩ : ∃ o, ops[6]? = some o ∧ o.op = .move (.tmp 25) ∧ o.dst = some 26 ∧ o.guard = some (3, false) ∧ (o.after.any fun e => Region.binds .any e && decide (e.on = 5)) = true ∧ (o.after.any fun e => Region.binds .any e && decide (e.on = 3)) = true := ⟨_, by rw [hops]; rfl, rfl, rfl, rfl, by kernel_rfl, by kernel_rfl⟩
        obtain ⟨o7, po7, q7, d7, gd7, dp7_6⟩ : ∃ o, ops[7]? = some o ∧ o.op = .move (.tmp 0) ∧ o.dst = some 27 ∧ o.guard = some (6, true) ∧ (o.after.any fun e => Region.binds .any e && decide (e.on = 6)) = true := ⟨_, by rw [hops]; rfl, rfl, rfl, rfl, by kernel_rfl⟩
        obtain ⟨o8, po8, q8, d8, gd8, dp8_6⟩ : ∃ o, ops[8]? = some o ∧ o.op = .move (.tmp 3) ∧ o.dst = some 28 ∧ o.guard = some (6, true) ∧ (o.after.any fun e => Region.binds .any e && decide (e.on = 6)) = true := ⟨_, by rw [hops]; rfl, rfl, rfl, rfl, by kernel_rfl⟩
        obtain ⟨o9, po9, q9, d9, gd9, dp9_8, dp9_6⟩ : ∃ o, ops[9]? = some o ∧ o.op = .binOp .sub 3 (.tmp 28) (.const (.int .i64 1)) 3 ∧ o.dst = some 29 ∧ o.guard = some (6, true) ∧ (o.after.any fun e => Region.binds .any e && decide (e.on = 8)) = true ∧ (o.after.any fun e => Region.binds .any e && decide (e.on = 6)) = true := ⟨_, by rw [hops]; rfl, rfl, rfl, rfl, by kernel_rfl, by kernel_rfl⟩
        obtain ⟨o10, po10, q10, d10, gd10, dp10_7, dp10_9, dp10_6⟩ : ∃ o, ops[10]? = some o ∧ o.op = .indexAddr 44 (.tmp 27) (.tmp 29) ∧ o.dst = some 30 ∧ o.guard = some (6, true) ∧ (o.after.any fun e => Region.binds .any e && decide (e.on = 7)) = true ∧ (o.after.any fun e => Region.binds .any e && decide (e.on = 9)) = true ∧ (o.after.any fun e => Region.binds .any e && decide (e.on = 6)) = true := ⟨_, by rw [hops]; rfl, rfl, rfl, rfl, by kernel_rfl, by kernel_rfl, by kernel_rfl⟩
        obtain ⟨o11, po11, q11, d11, gd11, dp11_10, dp11_6⟩ : ∃ o, ops[11]? = some o ∧ o.op = .load 54 (.tmp 30) ∧ o.dst = some 31 ∧ o.guard = some (6, true) ∧ (o.after.any fun e => Region.binds .any e && decide (e.on = 10)) = true ∧ (o.after.any fun e => Region.binds .any e && decide (e.on = 6)) = true := ⟨_, by rw [hops]; rfl, rfl, rfl, rfl, by kernel_rfl, by kernel_rfl⟩
        obtain ⟨o12, po12, q12, d12, gd12, dp12_6⟩ : ∃ o, ops[12]? = some o ∧ o.op = .load 54 (.tmp 4) ∧ o.dst = some 32 ∧ o.guard = some (6, true) ∧ (o.after.any fun e => Region.binds .any e && decide (e.on = 6)) = true := ⟨_, by rw [hops]; rfl, rfl, rfl, rfl, by kernel_rfl⟩
        obtain ⟨o13, po13, q13, d13, gd13, dp13_11, dp13_12, dp13_6⟩ : ∃ o, ops[13]? = some o ∧ o.op = .call { callee := .value (.func 63), args := #[.tmp 31, .tmp 32], argTypes := #[54, 54] } ∧ o.dst = some 33 ∧ o.guard = some (6, true) ∧ (o.after.any fun e => Region.binds .any e && decide (e.on = 11)) = true ∧ (o.after.any fun e => Region.binds .any e && decide (e.on = 12)) = true ∧ (o.after.any fun e => Region.binds .any e && decide (e.on = 6)) = true := ⟨_, by rw [hops]; rfl, rfl, rfl, rfl, by kernel_rfl, by kernel_rfl, by kernel_rfl⟩
        obtain ⟨o14, po14, q14, d14, gd14, dp14_13, dp14_6⟩ : ∃ o, ops[14]? = some o ∧ o.op = .unOp .not 4 (.tmp 33) ∧ o.dst = some 34 ∧ o.guard = some (6, true) ∧ (o.after.any fun e => Region.binds .any e && decide (e.on = 13)) = true ∧ (o.after.any fun e => Region.binds .any e && decide (e.on = 6)) = true := ⟨_, by rw [hops]; rfl, rfl, rfl, rfl, by kernel_rfl, by kernel_rfl⟩
        obtain ⟨o15, po15, q15, d15, gd15, dp15_6, dp15_14, dp15_3⟩ : ∃ o, ops[15]? = some o ∧ o.op = .pick (.tmp 26) (.tmp 34) (.const (.bool false)) ∧ o.dst = some 35 ∧ o.guard = some (3, false) ∧ (o.after.any fun e => Region.binds .any e && decide (e.on = 6)) = true ∧ (o.after.any fun e => Region.binds .any e && decide (e.on = 14)) = true ∧ (o.after.any fun e => Region.binds .any e && decide (e.on = 3)) = true := ⟨_, by rw [hops]; rfl, rfl, rfl, rfl, by kernel_rfl, by kernel_rfl, by kernel_rfl⟩
        obtain ⟨o16, po16, q16, d16, gd16⟩ : ∃ o, ops[16]? = some o ∧ o.op = .pick (.tmp 23) (.const (.bool true)) (.tmp 35) ∧ o.dst = some 36 ∧ o.guard = none := ⟨_, by rw [hops]; rfl, rfl, rfl, rfl⟩
        have hslots : ∀ t, t ∉ [20, 21, 22, 23, 24, 25, 26, 27, 28, 29, 30, 31, 32, 33, 34, 35, 36] → ∀ (i : Nat) (o : Oper), ops[i]? = some o → o.dst ≠ some t := by rw [hops]; exact fun t ht i o h => slots_free (by kernel_rfl) t ht i o h
        clear hops
        refine ⟨fun A W HS hfr hAs i o hi ho hdep => ?_, fun A W HS hdf hAs hfr hall => ?_⟩
        · skip
          have base0 : A.eval (.tmp 0) = .slice (some ⟨b, off, none⟩) n c := (hfr 0 hf0).trans rfl
          have base3 : A.eval (.tmp 3) = .int .i64 (k : Int) := (hfr 3 hf3).trans rfl
          have base4 : A.eval (.tmp 4) = .pointer (some ⟨wr.heap.size, 0, none⟩) := (hfr 4 hf4).trans rfl
          rw [hns] at hi
          obtain rfl | rfl | rfl | rfl | rfl | rfl | rfl | rfl | rfl | rfl | rfl | rfl | rfl | rfl | rfl | rfl : i = 0 ∨ i = 1 ∨ i = 2 ∨ i = 3 ∨ i = 4 ∨ i = 5 ∨ i = 6 ∨ i = 7 ∨ i = 8 ∨ i = 9 ∨ i = 10 ∨ i = 11 ∨ i = 12 ∨ i = 13 ∨ i = 14 ∨ i = 15 := by omega
          · skip
            obtain rfl : o = o0 := Option.some.inj (ho.symm.trans po0)
            refine at_op po0 d0 (wanted_of gd0) (run_loadBlk q0 base4 HS.box grant_under (size_grant x)) ⟨_, by rw [d0], HS, Below.refl _ _, rfl⟩
          · skip
            obtain rfl : o = o1 := Option.some.inj (ho.symm.trans po1)
            have e0 : A.eval (.tmp 20) = .agg x.cells.toArray := hdep 0 _ 20 dp1_0 po0 d0
            refine at_enterT po1 d1 (wanted_of gd1) (run_callf1 q1 rfl e0 Tryd.func62 (by kernel_rfl) _) (check_any x W (by have := HOX.out.1; omega)) ?_
            rintro e w1 ⟨rfl, hb⟩
            exact ⟨_, rfl, ⟨_, by rw [d1], HS.step hb, hb, rfl⟩⟩
          · skip
            obtain rfl : o = o2 := Option.some.inj (ho.symm.trans po2)
            have e1 : A.eval (.tmp 21) = .int .i64 (checkM x) := hdep 1 _ 21 dp2_1 po1 d1
            refine at_op po2 d2 (wanted_of gd2) (run_neqZ hne q2 e1 rfl W) ⟨_, by rw [d2], HS, Below.refl _ _, rfl⟩
          · skip
            obtain rfl : o = o3 := Option.some.inj (ho.symm.trans po3)
            have e2 : A.eval (.tmp 22) = .bool true := hdep 2 _ 22 dp3_2 po2 d2
            refine at_op po3 d3 (wanted_of gd3) (run_move q3 e2 W) ⟨_, by rw [d3], HS, Below.refl _ _, rfl⟩
          · skip
            obtain rfl : o = o4 := Option.some.inj (ho.symm.trans po4)
            have e3 : A.eval (.tmp 23) = .bool true := hdep 3 _ 23 dp4_3 po3 d3
            refine at_unw po4 d4 (w_notFG gd4 po3 d3 e3) ⟨_, by rw [d4], HS, Below.refl _ _, rfl⟩
          · skip
            obtain rfl : o = o5 := Option.some.inj (ho.symm.trans po5)
            have e4 : A.eval (.tmp 24) = undef := hdep 4 _ 24 dp5_4 po4 d4
            have e3 : A.eval (.tmp 23) = .bool true := hdep 3 _ 23 dp5_3 po3 d3
            refine at_unw po5 d5 (w_notFG gd5 po3 d3 e3) ⟨_, by rw [d5], HS, Below.refl _ _, rfl⟩
          · skip
            obtain rfl : o = o6 := Option.some.inj (ho.symm.trans po6)
            have e5 : A.eval (.tmp 25) = undef := hdep 5 _ 25 dp6_5 po5 d5
            have e3 : A.eval (.tmp 23) = .bool true := hdep 3 _ 23 dp6_3 po3 d3
            refine at_unw po6 d6 (w_notFG gd6 po3 d3 e3) ⟨_, by rw [d6], HS, Below.refl _ _, rfl⟩
          · skip
            obtain rfl : o = o7 := Option.some.inj (ho.symm.trans po7)
            have e6 : A.eval (.tmp 26) = undef := hdep 6 _ 26 dp7_6 po6 d6
            refine at_unw po7 d7 (w_undef gd7 po6 d6 e6) ⟨_, by rw [d7], HS, Below.refl _ _, rfl⟩
          · skip
            obtain rfl : o = o8 := Option.some.inj (ho.symm.trans po8)
            have e6 : A.eval (.tmp 26) = undef := hdep 6 _ 26 dp8_6 po6 d6
            refine at_unw po8 d8 (w_undef gd8 po6 d6 e6) ⟨_, by rw [d8], HS, Below.refl _ _, rfl⟩
          · skip
            obtain rfl : o = o9 := Option.some.inj (ho.symm.trans po9)
            have e8 : A.eval (.tmp 28) = undef := hdep 8 _ 28 dp9_8 po8 d8
            have e6 : A.eval (.tmp 26) = undef := hdep 6 _ 26 dp9_6 po6 d6
            refine at_unw po9 d9 (w_undef gd9 po6 d6 e6) ⟨_, by rw [d9], HS, Below.refl _ _, rfl⟩
          · skip
            obtain rfl : o = o10 := Option.some.inj (ho.symm.trans po10)
            have e7 : A.eval (.tmp 27) = undef := hdep 7 _ 27 dp10_7 po7 d7
            have e9 : A.eval (.tmp 29) = undef := hdep 9 _ 29 dp10_9 po9 d9
            have e6 : A.eval (.tmp 26) = undef := hdep 6 _ 26 dp10_6 po6 d6
            refine at_unw po10 d10 (w_undef gd10 po6 d6 e6) ⟨_, by rw [d10], HS, Below.refl _ _, rfl⟩
          · skip
            obtain rfl : o = o11 := Option.some.inj (ho.symm.trans po11)
            have e10 : A.eval (.tmp 30) = undef := hdep 10 _ 30 dp11_10 po10 d10
            have e6 : A.eval (.tmp 26) = undef := hdep 6 _ 26 dp11_6 po6 d6
            refine at_unw po11 d11 (w_undef gd11 po6 d6 e6) ⟨_, by rw [d11], HS, Below.refl _ _, rfl⟩
          · skip
            obtain rfl : o = o12 := Option.some.inj (ho.symm.trans po12)
            have e6 : A.eval (.tmp 26) = undef := hdep 6 _ 26 dp12_6 po6 d6
            refine at_unw po12 d12 (w_undef gd12 po6 d6 e6) ⟨_, by rw [d12], HS, Below.refl _ _, rfl⟩
          · skip
            obtain rfl : o = o13 := Option.some.inj (ho.symm.trans po13)
            have e11 : A.eval (.tmp 31) = undef := hdep 11 _ 31 dp13_11 po11 d11
            have e12 : A.eval (.tmp 32) = undef := hdep 12 _ 32 dp13_12 po12 d12
            have e6 : A.eval (.tmp 26) = undef := hdep 6 _ 26 dp13_6 po6 d6
            refine at_unw po13 d13 (w_undef gd13 po6 d6 e6) ⟨_, by rw [d13], HS, Below.refl _ _, rfl⟩
          · skip
            obtain rfl : o = o14 := Option.some.inj (ho.symm.trans po14)
            have e13 : A.eval (.tmp 33) = undef := hdep 13 _ 33 dp14_13 po13 d13
            have e6 : A.eval (.tmp 26) = undef := hdep 6 _ 26 dp14_6 po6 d6
            refine at_unw po14 d14 (w_undef gd14 po6 d6 e6) ⟨_, by rw [d14], HS, Below.refl _ _, rfl⟩
          · skip
            obtain rfl : o = o15 := Option.some.inj (ho.symm.trans po15)
            have e6 : A.eval (.tmp 26) = undef := hdep 6 _ 26 dp15_6 po6 d6
            have e14 : A.eval (.tmp 34) = undef := hdep 14 _ 34 dp15_14 po14 d14
            have e3 : A.eval (.tmp 23) = .bool true := hdep 3 _ 23 dp15_3 po3 d3
            refine at_unw po15 d15 (w_notFG gd15 po3 d3 e3) ⟨_, by rw [d15], HS, Below.refl _ _, rfl⟩
        have base0 : A.eval (.tmp 0) = .slice (some ⟨b, off, none⟩) n c := (hfr 0 hf0).trans rfl
        have base3 : A.eval (.tmp 3) = .int .i64 (k : Int) := (hfr 3 hf3).trans rfl
        have base4 : A.eval (.tmp 4) = .pointer (some ⟨wr.heap.size, 0, none⟩) := (hfr 4 hf4).trans rfl
        have e0 : A.eval (.tmp 20) = .agg x.cells.toArray := hall 0 _ 20 (by rw [hns]; decide) po0 d0
        have e1 : A.eval (.tmp 21) = .int .i64 (checkM x) := hall 1 _ 21 (by rw [hns]; decide) po1 d1
        have e2 : A.eval (.tmp 22) = .bool true := hall 2 _ 22 (by rw [hns]; decide) po2 d2
        have e3 : A.eval (.tmp 23) = .bool true := hall 3 _ 23 (by rw [hns]; decide) po3 d3
        have e4 : A.eval (.tmp 24) = undef := hall 4 _ 24 (by rw [hns]; decide) po4 d4
        have e5 : A.eval (.tmp 25) = undef := hall 5 _ 25 (by rw [hns]; decide) po5 d5
        have e6 : A.eval (.tmp 26) = undef := hall 6 _ 26 (by rw [hns]; decide) po6 d6
        have e7 : A.eval (.tmp 27) = undef := hall 7 _ 27 (by rw [hns]; decide) po7 d7
        have e8 : A.eval (.tmp 28) = undef := hall 8 _ 28 (by rw [hns]; decide) po8 d8
        have e9 : A.eval (.tmp 29) = undef := hall 9 _ 29 (by rw [hns]; decide) po9 d9
        have e10 : A.eval (.tmp 30) = undef := hall 10 _ 30 (by rw [hns]; decide) po10 d10
        have e11 : A.eval (.tmp 31) = undef := hall 11 _ 31 (by rw [hns]; decide) po11 d11
        have e12 : A.eval (.tmp 32) = undef := hall 12 _ 32 (by rw [hns]; decide) po12 d12
        have e13 : A.eval (.tmp 33) = undef := hall 13 _ 33 (by rw [hns]; decide) po13 d13
        have e14 : A.eval (.tmp 34) = undef := hall 14 _ 34 (by rw [hns]; decide) po14 d14
        have e15 : A.eval (.tmp 35) = undef := hall 15 _ 35 (by rw [hns]; decide) po15 d15
        have hA := act_of_slots [20, 21, 22, 23, 24, 25, 26, 27, 28, 29, 30, 31, 32, 33, 34, 35, 36] _ hAs hdf (fun t ht => hfr t (hslots t ht))
        simp only [List.foldl_cons, List.foldl_nil] at hA
        rw [show rdA A 20 = A.eval (.tmp 20) from rfl, e0] at hA
        rw [show rdA A 21 = A.eval (.tmp 21) from rfl, e1] at hA
        rw [show rdA A 22 = A.eval (.tmp 22) from rfl, e2] at hA
        rw [show rdA A 23 = A.eval (.tmp 23) from rfl, e3] at hA
        rw [show rdA A 24 = A.eval (.tmp 24) from rfl, e4] at hA
        rw [show rdA A 25 = A.eval (.tmp 25) from rfl, e5] at hA
        rw [show rdA A 26 = A.eval (.tmp 26) from rfl, e6] at hA
        rw [show rdA A 27 = A.eval (.tmp 27) from rfl, e7] at hA
        rw [show rdA A 28 = A.eval (.tmp 28) from rfl, e8] at hA
        rw [show rdA A 29 = A.eval (.tmp 29) from rfl, e9] at hA
        rw [show rdA A 30 = A.eval (.tmp 30) from rfl, e10] at hA
        rw [show rdA A 31 = A.eval (.tmp 31) from rfl, e11] at hA
        rw [show rdA A 32 = A.eval (.tmp 32) from rfl, e12] at hA
        rw [show rdA A 33 = A.eval (.tmp 33) from rfl, e13] at hA
        rw [show rdA A 34 = A.eval (.tmp 34) from rfl, e14] at hA
        rw [show rdA A 35 = A.eval (.tmp 35) from rfl, e15] at hA
        obtain ⟨ul, hul⟩ : ∃ u, rdA A 36 = u := ⟨_, rfl⟩
        rw [hul] at hA
        clear hul
        rw [hns]
        have HSF := Lib.hid HS.below
        refine at_op po16 d16 (wanted_of gd16) (run_pick_true (v := .bool true) q16 e3 rfl W) ?_
        clear hall hdf hAs hfr hslots hns hf0 hf3 hf4 po0 q0 d0 gd0 po1 q1 d1 gd1 dp1_0 po2 q2 d2 gd2 dp2_1 po3 q3 d3 gd3 dp3_2 po4 q4 d4 gd4 dp4_3 po5 q5 d5 gd5 dp5_4 dp5_3 po6 q6 d6 gd6 dp6_5 dp6_3 po7 q7 d7 gd7 dp7_6 po8 q8 d8 gd8 dp8_6 po9 q9 d9 gd9 dp9_8 dp9_6 po10 q10 d10 gd10 dp10_7 dp10_9 dp10_6 po11 q11 d11 gd11 dp11_10 dp11_6 po12 q12 d12 gd12 dp12_6 po13 q13 d13 gd13 dp13_11 dp13_12 dp13_6 po14 q14 d14 gd14 dp14_13 dp14_6 po15 q15 d15 gd15 dp15_6 dp15_14 dp15_3 po16 q16 d16 gd16 base0 base3 base4
        have HA9 := Lib.hid hA
        clear hA HS HA e0 e1 e2 e3 e4 e5 e6 e7 e8 e9 e10 e11 e12 e13 e14 e15
        rw [HA9.out]
        go_frame
        clear HA9
        go_wp2_with fail
        go_ret
        have hfin : narrowsL gs = false := narrows_no (k := k) (by rw [HN.out]; exact HKL.out) HF.out
        exact ⟨by rw [hfin]; rfl, HB.out.trans (HSF.out.mono HB.out.size)⟩
      · have hcx : checkM x = 0 := of_decide_eq_true hc
        have hne : (checkM x != 0) = false := by simpa using hcx
        by_cases hk0 : k = 0
        · subst hk0
          have HF : Hid (okAt gs 0 = true) := show _ = _ by rw [HE.out, hc]; rfl
          have hgt : decide ((((0 : Nat)) : Int) > 0) = false := by decide
          refine region_grow (fun W => NaW x y b off 0 wr.heap.size wr W) (fun i vz wz => match i with | 0 => vz = .agg x.cells.toArray | 1 => vz = .int .i64 (checkM x) | 2 => vz = .bool false | 3 => vz = .bool false | 4 => vz = .int .i64 ((0 : Nat) : Int) | 5 => vz = .bool false | 6 => vz = .bool false | 7 => vz = undef | 8 => vz = undef | 9 => vz = undef | 10 => vz = undef | 11 => vz = undef | 12 => vz = undef | 13 => vz = undef | 14 => vz = undef | 15 => vz = .bool false | _ => True) (by kernel_rfl) (by kernel_rfl) (by kernel_rfl) (by kernel_rfl) (by decide) (HA.out.step (Below.refl _ _).drew) ?_ ?_
          · skip
            intro i vz wz w2 hb hf
            match i, hf with
            | 0, hf => exact hf
            | 1, hf => exact hf
            | 2, hf => exact hf
            | 3, hf => exact hf
            | 4, hf => exact hf
            | 5, hf => exact hf
            | 6, hf => exact hf
            | 7, hf => exact hf
            | 8, hf => exact hf
            | 9, hf => exact hf
            | 10, hf => exact hf
            | 11, hf => exact hf
            | 12, hf => exact hf
            | 13, hf => exact hf
            | 14, hf => exact hf
            | 15, hf => exact hf
            | _ + 16, _ => trivial
          intro ops hops
          have hf0 : ∀ (i : Nat) (o : Oper), ops[i]? = some o → o.dst ≠ some 0 := by rw [hops]; exact fun i o h => slot_free (by kernel_rfl) i o h
          have hf3 : ∀ (i : Nat) (o : Oper), ops[i]? = some o → o.dst ≠ some 3 := by rw [hops]; exact fun i o h => slot_free (by kernel_rfl) i o h
          have hf4 : ∀ (i : Nat) (o : Oper), ops[i]? = some o → o.dst ≠ some 4 := by rw [hops]; exact fun i o h => slot_free (by kernel_rfl) i o h
          have hns : ops.size = 17 := by rw [hops]; rfl
          obtain ⟨o0, po0, q0, d0, gd0⟩ : ∃ o, ops[0]? = some o ∧ o.op = .load 54 (.tmp 4) ∧ o.dst = some 20 ∧ o.guard = none := ⟨_, by rw [hops]; rfl, rfl, rfl, rfl⟩
          obtain ⟨o1, po1, q1, d1, gd1, dp1_0⟩ : ∃ o, ops[1]? = some o ∧ o.op = .call { callee := .value (.func 62), args := #[.tmp 20], argTypes := #[54] } ∧ o.dst = some 21 ∧ o.guard = none ∧ (o.after.any fun e => Region.binds .any e && decide (e.on = 0)) = true := ⟨_, by rw [hops]; rfl, rfl, rfl, rfl, by kernel_rfl⟩
          obtain ⟨o2, po2, q2, d2, gd2, dp2_1⟩ : ∃ o, ops[2]? = some o ∧ o.op = .binOp .neq 34 (.tmp 21) (.const (.int .i64 0)) 34 ∧ o.dst = some 22 ∧ o.guard = none ∧ (o.after.any fun e => Region.binds .any e && decide (e.on = 1)) = true := ⟨_, by rw [hops]; rfl, rfl, rfl, rfl, by kernel_rfl⟩
          obtain ⟨o3, po3, q3, d3, gd3, dp3_2⟩ : ∃ o, ops[3]? = some o ∧ o.op = .move (.tmp 22) ∧ o.dst = some 23 ∧ o.guard = none ∧ (o.after.any fun e => Region.binds .any e && decide (e.on = 2)) = true := ⟨_, by rw [hops]; rfl, rfl, rfl, rfl, by kernel_rfl⟩
          obtain ⟨o4, po4, q4, d4, gd4, dp4_3⟩ : ∃ o, ops[4]? = some o ∧ o.op = .move (.tmp 3) ∧ o.dst = some 24 ∧ o.guard = some (3, false) ∧ (o.after.any fun e => Region.binds .any e && decide (e.on = 3)) = true := ⟨_, by rw [hops]; rfl, rfl, rfl, rfl, by kernel_rfl⟩
          obtain ⟨o5, po5, q5, d5, gd5, dp5_4, dp5_3⟩ : ∃ o, ops[5]? = some o ∧ o.op = .binOp .gtr 3 (.tmp 24) (.const (.int .i64 0)) 3 ∧ o.dst = some 25 ∧ o.guard = some (3, false) ∧ (o.after.any fun e => Region.binds .any e && decide (e.on = 4)) = true ∧ (o.after.any fun e => Region.binds .any e && decide (e.on = 3)) = true := ⟨_, by rw [hops]; rfl, rfl, rfl, rfl, by kernel_rfl, by kernel_rfl⟩
          obtain ⟨o6, po6, q6, d6, gd6, dp6_5, dp6_3⟩ : ∃ o, ops[6]? = some o ∧ o.op = .move (.tmp 25) ∧ o.dst = some 26 ∧ o.guard = some (3, false) ∧ (o.after.any fun e => Region.binds .any e && decide (e.on = 5)) = true ∧ (o.after.any fun e => Region.binds .any e && decide (e.on = 3)) = true := ⟨_, by rw [hops]; rfl, rfl, rfl, rfl, by kernel_rfl, by kernel_rfl⟩
          obtain ⟨o7, po7, q7, d7, gd7, dp7_6⟩ : ∃ o, ops[7]? = some o ∧ o.op = .move (.tmp 0) ∧ o.dst = some 27 ∧ o.guard = some (6, true) ∧ (o.after.any fun e => Region.binds .any e && decide (e.on = 6)) = true := ⟨_, by rw [hops]; rfl, rfl, rfl, rfl, by kernel_rfl⟩
          obtain ⟨o8, po8, q8, d8, gd8, dp8_6⟩ : ∃ o, ops[8]? = some o ∧ o.op = .move (.tmp 3) ∧ o.dst = some 28 ∧ o.guard = some (6, true) ∧ (o.after.any fun e => Region.binds .any e && decide (e.on = 6)) = true := ⟨_, by rw [hops]; rfl, rfl, rfl, rfl, by kernel_rfl⟩
          obtain ⟨o9, po9, q9, d9, gd9, dp9_8, dp9_6⟩ : ∃ o, ops[9]? = some o ∧ o.op = .binOp .sub 3 (.tmp 28) (.const (.int .i64 1)) 3 ∧ o.dst = some 29 ∧ o.guard = some (6, true) ∧ (o.after.any fun e => Region.binds .any e && decide (e.on = 8)) = true ∧ (o.after.any fun e => Region.binds .any e && decide (e.on = 6)) = true := ⟨_, by rw [hops]; rfl, rfl, rfl, rfl, by kernel_rfl, by kernel_rfl⟩
          obtain ⟨o10, po10, q10, d10, gd10, dp10_7, dp10_9, dp10_6⟩ : ∃ o, ops[10]? = some o ∧ o.op = .indexAddr 44 (.tmp 27) (.tmp 29) ∧ o.dst = some 30 ∧ o.guard = some (6, true) ∧ (o.after.any fun e => Region.binds .any e && decide (e.on = 7)) = true ∧ (o.after.any fun e => Region.binds .any e && decide (e.on = 9)) = true ∧ (o.after.any fun e => Region.binds .any e && decide (e.on = 6)) = true := ⟨_, by rw [hops]; rfl, rfl, rfl, rfl, by kernel_rfl, by kernel_rfl, by kernel_rfl⟩
          obtain ⟨o11, po11, q11, d11, gd11, dp11_10, dp11_6⟩ : ∃ o, ops[11]? = some o ∧ o.op = .load 54 (.tmp 30) ∧ o.dst = some 31 ∧ o.guard = some (6, true) ∧ (o.after.any fun e => Region.binds .any e && decide (e.on = 10)) = true ∧ (o.after.any fun e => Region.binds .any e && decide (e.on = 6)) = true := ⟨_, by rw [hops]; rfl, rfl, rfl, rfl, by kernel_rfl, by kernel_rfl⟩
          obtain ⟨o12, po12, q12, d12, gd12, dp12_6⟩ : ∃ o, ops[12]? = some o ∧ o.op = .load 54 (.tmp 4) ∧ o.dst = some 32 ∧ o.guard = some (6, true) ∧ (o.after.any fun e => Region.binds .any e && decide (e.on = 6)) = true := ⟨_, by rw [hops]; rfl, rfl, rfl, rfl, by kernel_rfl⟩
          obtain ⟨o13, po13, q13, d13, gd13, dp13_11, dp13_12, dp13_6⟩ : ∃ o, ops[13]? = some o ∧ o.op = .call { callee := .value (.func 63), args := #[.tmp 31, .tmp 32], argTypes := #[54, 54] } ∧ o.dst = some 33 ∧ o.guard = some (6, true) ∧ (o.after.any fun e => Region.binds .any e && decide (e.on = 11)) = true ∧ (o.after.any fun e => Region.binds .any e && decide (e.on = 12)) = true ∧ (o.after.any fun e => Region.binds .any e && decide (e.on = 6)) = true := ⟨_, by rw [hops]; rfl, rfl, rfl, rfl, by kernel_rfl, by kernel_rfl, by kernel_rfl⟩
          obtain ⟨o14, po14, q14, d14, gd14, dp14_13, dp14_6⟩ : ∃ o, ops[14]? = some o ∧ o.op = .unOp .not 4 (.tmp 33) ∧ o.dst = some 34 ∧ o.guard = some (6, true) ∧ (o.after.any fun e => Region.binds .any e && decide (e.on = 13)) = true ∧ (o.after.any fun e => Region.binds .any e && decide (e.on = 6)) = true := ⟨_, by rw [hops]; rfl, rfl, rfl, rfl, by kernel_rfl, by kernel_rfl⟩
          obtain ⟨o15, po15, q15, d15, gd15, dp15_6, dp15_14, dp15_3⟩ : ∃ o, ops[15]? = some o ∧ o.op = .pick (.tmp 26) (.tmp 34) (.const (.bool false)) ∧ o.dst = some 35 ∧ o.guard = some (3, false) ∧ (o.after.any fun e => Region.binds .any e && decide (e.on = 6)) = true ∧ (o.after.any fun e => Region.binds .any e && decide (e.on = 14)) = true ∧ (o.after.any fun e => Region.binds .any e && decide (e.on = 3)) = true := ⟨_, by rw [hops]; rfl, rfl, rfl, rfl, by kernel_rfl, by kernel_rfl, by kernel_rfl⟩
          obtain ⟨o16, po16, q16, d16, gd16⟩ : ∃ o, ops[16]? = some o ∧ o.op = .pick (.tmp 23) (.const (.bool true)) (.tmp 35) ∧ o.dst = some 36 ∧ o.guard = none := ⟨_, by rw [hops]; rfl, rfl, rfl, rfl⟩
          have hslots : ∀ t, t ∉ [20, 21, 22, 23, 24, 25, 26, 27, 28, 29, 30, 31, 32, 33, 34, 35, 36] → ∀ (i : Nat) (o : Oper), ops[i]? = some o → o.dst ≠ some t := by rw [hops]; exact fun t ht i o h => slots_free (by kernel_rfl) t ht i o h
          clear hops
          refine ⟨fun A W HS hfr hAs i o hi ho hdep => ?_, fun A W HS hdf hAs hfr hall => ?_⟩
          · skip
            have base0 : A.eval (.tmp 0) = .slice (some ⟨b, off, none⟩) n c := (hfr 0 hf0).trans rfl
            have base3 : A.eval (.tmp 3) = .int .i64 ((0 : Nat) : Int) := (hfr 3 hf3).trans rfl
            have base4 : A.eval (.tmp 4) = .pointer (some ⟨wr.heap.size, 0, none⟩) := (hfr 4 hf4).trans rfl
            rw [hns] at hi
            obtain rfl | rfl | rfl | rfl | rfl | rfl | rfl | rfl | rfl | rfl | rfl | rfl | rfl | rfl | rfl | rfl : i = 0 ∨ i = 1 ∨ i = 2 ∨ i = 3 ∨ i = 4 ∨ i = 5 ∨ i = 6 ∨ i = 7 ∨ i = 8 ∨ i = 9 ∨ i = 10 ∨ i = 11 ∨ i = 12 ∨ i = 13 ∨ i = 14 ∨ i = 15 := by omega
            · skip
              obtain rfl : o = o0 := Option.some.inj (ho.symm.trans po0)
              refine at_op po0 d0 (wanted_of gd0) (run_loadBlk q0 base4 HS.box grant_under (size_grant x)) ⟨_, by rw [d0], HS, Below.refl _ _, rfl⟩
            · skip
              obtain rfl : o = o1 := Option.some.inj (ho.symm.trans po1)
              have e0 : A.eval (.tmp 20) = .agg x.cells.toArray := hdep 0 _ 20 dp1_0 po0 d0
              refine at_enterT po1 d1 (wanted_of gd1) (run_callf1 q1 rfl e0 Tryd.func62 (by kernel_rfl) _) (check_any x W (by have := HOX.out.1; omega)) ?_
              rintro e w1 ⟨rfl, hb⟩
              exact ⟨_, rfl, ⟨_, by rw [d1], HS.step hb, hb, rfl⟩⟩
            · skip
              obtain rfl : o = o2 := Option.some.inj (ho.symm.trans po2)
              have e1 : A.eval (.tmp 21) = .int .i64 (checkM x) := hdep 1 _ 21 dp2_1 po1 d1
              refine at_op po2 d2 (wanted_of gd2) (run_neqZ hne q2 e1 rfl W) ⟨_, by rw [d2], HS, Below.refl _ _, rfl⟩
            · skip
              obtain rfl : o = o3 := Option.some.inj (ho.symm.trans po3)
              have e2 : A.eval (.tmp 22) = .bool false := hdep 2 _ 22 dp3_2 po2 d2
              refine at_op po3 d3 (wanted_of gd3) (run_move q3 e2 W) ⟨_, by rw [d3], HS, Below.refl _ _, rfl⟩
            · skip
              obtain rfl : o = o4 := Option.some.inj (ho.symm.trans po4)
              have e3 : A.eval (.tmp 23) = .bool false := hdep 3 _ 23 dp4_3 po3 d3
              refine at_op po4 d4 (w_false gd4 po3 d3 e3) (run_move q4 base3 W) ⟨_, by rw [d4], HS, Below.refl _ _, rfl⟩
            · skip
              obtain rfl : o = o5 := Option.some.inj (ho.symm.trans po5)
              have e4 : A.eval (.tmp 24) = .int .i64 ((0 : Nat) : Int) := hdep 4 _ 24 dp5_4 po4 d4
              have e3 : A.eval (.tmp 23) = .bool false := hdep 3 _ 23 dp5_3 po3 d3
              refine at_op po5 d5 (w_false gd5 po3 d3 e3) (run_gtrZ hgt q5 e4 rfl W) ⟨_, by rw [d5], HS, Below.refl _ _, rfl⟩
            · skip
              obtain rfl : o = o6 := Option.some.inj (ho.symm.trans po6)
              have e5 : A.eval (.tmp 25) = .bool false := hdep 5 _ 25 dp6_5 po5 d5
              have e3 : A.eval (.tmp 23) = .bool false := hdep 3 _ 23 dp6_3 po3 d3
              refine at_op po6 d6 (w_false gd6 po3 d3 e3) (run_move q6 e5 W) ⟨_, by rw [d6], HS, Below.refl _ _, rfl⟩
            · skip
              obtain rfl : o = o7 := Option.some.inj (ho.symm.trans po7)
              have e6 : A.eval (.tmp 26) = .bool false := hdep 6 _ 26 dp7_6 po6 d6
              refine at_unw po7 d7 (w_not gd7 po6 d6 e6) ⟨_, by rw [d7], HS, Below.refl _ _, rfl⟩
            · skip
              obtain rfl : o = o8 := Option.some.inj (ho.symm.trans po8)
              have e6 : A.eval (.tmp 26) = .bool false := hdep 6 _ 26 dp8_6 po6 d6
              refine at_unw po8 d8 (w_not gd8 po6 d6 e6) ⟨_, by rw [d8], HS, Below.refl _ _, rfl⟩
            · skip
              obtain rfl : o = o9 := Option.some.inj (ho.symm.trans po9)
              have e8 : A.eval (.tmp 28) = undef := hdep 8 _ 28 dp9_8 po8 d8
              have e6 : A.eval (.tmp 26) = .bool false := hdep 6 _ 26 dp9_6 po6 d6
              refine at_unw po9 d9 (w_not gd9 po6 d6 e6) ⟨_, by rw [d9], HS, Below.refl _ _, rfl⟩
            · skip
              obtain rfl : o = o10 := Option.some.inj (ho.symm.trans po10)
              have e7 : A.eval (.tmp 27) = undef := hdep 7 _ 27 dp10_7 po7 d7
              have e9 : A.eval (.tmp 29) = undef := hdep 9 _ 29 dp10_9 po9 d9
              have e6 : A.eval (.tmp 26) = .bool false := hdep 6 _ 26 dp10_6 po6 d6
              refine at_unw po10 d10 (w_not gd10 po6 d6 e6) ⟨_, by rw [d10], HS, Below.refl _ _, rfl⟩
            · skip
              obtain rfl : o = o11 := Option.some.inj (ho.symm.trans po11)
              have e10 : A.eval (.tmp 30) = undef := hdep 10 _ 30 dp11_10 po10 d10
              have e6 : A.eval (.tmp 26) = .bool false := hdep 6 _ 26 dp11_6 po6 d6
              refine at_unw po11 d11 (w_not gd11 po6 d6 e6) ⟨_, by rw [d11], HS, Below.refl _ _, rfl⟩
            · skip
              obtain rfl : o = o12 := Option.some.inj (ho.symm.trans po12)
              have e6 : A.eval (.tmp 26) = .bool false := hdep 6 _ 26 dp12_6 po6 d6
              refine at_unw po12 d12 (w_not gd12 po6 d6 e6) ⟨_, by rw [d12], HS, Below.refl _ _, rfl⟩
            · skip
              obtain rfl : o = o13 := Option.some.inj (ho.symm.trans po13)
              have e11 : A.eval (.tmp 31) = undef := hdep 11 _ 31 dp13_11 po11 d11
              have e12 : A.eval (.tmp 32) = undef := hdep 12 _ 32 dp13_12 po12 d12
              have e6 : A.eval (.tmp 26) = .bool false := hdep 6 _ 26 dp13_6 po6 d6
              refine at_unw po13 d13 (w_not gd13 po6 d6 e6) ⟨_, by rw [d13], HS, Below.refl _ _, rfl⟩
            · skip
              obtain rfl : o = o14 := Option.some.inj (ho.symm.trans po14)
              have e13 : A.eval (.tmp 33) = undef := hdep 13 _ 33 dp14_13 po13 d13
              have e6 : A.eval (.tmp 26) = .bool false := hdep 6 _ 26 dp14_6 po6 d6
              refine at_unw po14 d14 (w_not gd14 po6 d6 e6) ⟨_, by rw [d14], HS, Below.refl _ _, rfl⟩
            · skip
              obtain rfl : o = o15 := Option.some.inj (ho.symm.trans po15)
              have e6 : A.eval (.tmp 26) = .bool false := hdep 6 _ 26 dp15_6 po6 d6
              have e14 : A.eval (.tmp 34) = undef := hdep 14 _ 34 dp15_14 po14 d14
              have e3 : A.eval (.tmp 23) = .bool false := hdep 3 _ 23 dp15_3 po3 d3
              refine at_op po15 d15 (w_false gd15 po3 d3 e3) (r_pickF (v := .bool false) q15 e6 rfl W) ⟨_, by rw [d15], HS, Below.refl _ _, rfl⟩
          have base0 : A.eval (.tmp 0) = .slice (some ⟨b, off, none⟩) n c := (hfr 0 hf0).trans rfl
          have base3 : A.eval (.tmp 3) = .int .i64 ((0 : Nat) : Int) := (hfr 3 hf3).trans rfl
          have base4 : A.eval (.tmp 4) = .pointer (some ⟨wr.heap.size, 0, none⟩) := (hfr 4 hf4).trans rfl
          have e0 : A.eval (.tmp 20) = .agg x.cells.toArray := hall 0 _ 20 (by rw [hns]; decide) po0 d0
          have e1 : A.eval (.tmp 21) = .int .i64 (checkM x) := hall 1 _ 21 (by rw [hns]; decide) po1 d1
          have e2 : A.eval (.tmp 22) = .bool false := hall 2 _ 22 (by rw [hns]; decide) po2 d2
          have e3 : A.eval (.tmp 23) = .bool false := hall 3 _ 23 (by rw [hns]; decide) po3 d3
          have e4 : A.eval (.tmp 24) = .int .i64 ((0 : Nat) : Int) := hall 4 _ 24 (by rw [hns]; decide) po4 d4
          have e5 : A.eval (.tmp 25) = .bool false := hall 5 _ 25 (by rw [hns]; decide) po5 d5
          have e6 : A.eval (.tmp 26) = .bool false := hall 6 _ 26 (by rw [hns]; decide) po6 d6
          have e7 : A.eval (.tmp 27) = undef := hall 7 _ 27 (by rw [hns]; decide) po7 d7
          have e8 : A.eval (.tmp 28) = undef := hall 8 _ 28 (by rw [hns]; decide) po8 d8
          have e9 : A.eval (.tmp 29) = undef := hall 9 _ 29 (by rw [hns]; decide) po9 d9
          have e10 : A.eval (.tmp 30) = undef := hall 10 _ 30 (by rw [hns]; decide) po10 d10
          have e11 : A.eval (.tmp 31) = undef := hall 11 _ 31 (by rw [hns]; decide) po11 d11
          have e12 : A.eval (.tmp 32) = undef := hall 12 _ 32 (by rw [hns]; decide) po12 d12
          have e13 : A.eval (.tmp 33) = undef := hall 13 _ 33 (by rw [hns]; decide) po13 d13
          have e14 : A.eval (.tmp 34) = undef := hall 14 _ 34 (by rw [hns]; decide) po14 d14
          have e15 : A.eval (.tmp 35) = .bool false := hall 15 _ 35 (by rw [hns]; decide) po15 d15
          have hA := act_of_slots [20, 21, 22, 23, 24, 25, 26, 27, 28, 29, 30, 31, 32, 33, 34, 35, 36] _ hAs hdf (fun t ht => hfr t (hslots t ht))
          simp only [List.foldl_cons, List.foldl_nil] at hA
          rw [show rdA A 20 = A.eval (.tmp 20) from rfl, e0] at hA
          rw [show rdA A 21 = A.eval (.tmp 21) from rfl, e1] at hA
          rw [show rdA A 22 = A.eval (.tmp 22) from rfl, e2] at hA
          rw [show rdA A 23 = A.eval (.tmp 23) from rfl, e3] at hA
          rw [show rdA A 24 = A.eval (.tmp 24) from rfl, e4] at hA
          rw [show rdA A 25 = A.eval (.tmp 25) from rfl, e5] at hA
          rw [show rdA A 26 = A.eval (.tmp 26) from rfl, e6] at hA
          rw [show rdA A 27 = A.eval (.tmp 27) from rfl, e7] at hA
          rw [show rdA A 28 = A.eval (.tmp 28) from rfl, e8] at hA
          rw [show rdA A 29 = A.eval (.tmp 29) from rfl, e9] at hA
          rw [show rdA A 30 = A.eval (.tmp 30) from rfl, e10] at hA
          rw [show rdA A 31 = A.eval (.tmp 31) from rfl, e11] at hA
          rw [show rdA A 32 = A.eval (.tmp 32) from rfl, e12] at hA
          rw [show rdA A 33 = A.eval (.tmp 33) from rfl, e13] at hA
          rw [show rdA A 34 = A.eval (.tmp 34) from rfl, e14] at hA
          rw [show rdA A 35 = A.eval (.tmp 35) from rfl, e15] at hA
          obtain ⟨ul, hul⟩ : ∃ u, rdA A 36 = u := ⟨_, rfl⟩
          rw [hul] at hA
          clear hul
          rw [hns]
          have HSF := Lib.hid HS.below
          refine at_op po16 d16 (wanted_of gd16) (r_pickF q16 e3 e15 W) ?_
          clear hall hdf hAs hfr hslots hns hf0 hf3 hf4 po0 q0 d0 gd0 po1 q1 d1 gd1 dp1_0 po2 q2 d2 gd2 dp2_1 po3 q3 d3 gd3 dp3_2 po4 q4 d4 gd4 dp4_3 po5 q5 d5 gd5 dp5_4 dp5_3 po6 q6 d6 gd6 dp6_5 dp6_3 po7 q7 d7 gd7 dp7_6 po8 q8 d8 gd8 dp8_6 po9 q9 d9 gd9 dp9_8 dp9_6 po10 q10 d10 gd10 dp10_7 dp10_9 dp10_6 po11 q11 d11 gd11 dp11_10 dp11_6 po12 q12 d12 gd12 dp12_6 po13 q13 d13 gd13 dp13_11 dp13_12 dp13_6 po14 q14 d14 gd14 dp14_13 dp14_6 po15 q15 d15 gd15 dp15_6 dp15_14 dp15_3 po16 q16 d16 gd16 base0 base3 base4
          have HA9 := Lib.hid hA
          clear hA HS HA e0 e1 e2 e3 e4 e5 e6 e7 e8 e9 e10 e11 e12 e13 e14 e15
          rw [HA9.out]
          go_frame
          clear HA9
          go_wp2_with fail
          go_roundw
          case rel => exact ⟨0 + 1, by omega, by go_num, goodTo_succ HG.out HF.out, HB.out.trans (HSF.out.mono HB.out.size)⟩
          case measure => simp [intOf]; omega
        · have hgt : decide ((k : Int) > 0) = true := decide_eq_true (by omega)
          have hsub : wrap64 ((k : Int) - 1) = ((k - 1 : Nat) : Int) := by unfold wrap64; omega
          have HK1 : Hid (k - 1 < n) := show _ < _ by omega
          cases hnw : narrowM y x
          · have HF : Hid (okAt gs k = false) := show _ = _ by rw [HE.out, hc, hnw]; simp [hk0]
            refine region_grow (fun W => NaW x y b off k wr.heap.size wr W) (fun i vz wz => match i with | 0 => vz = .agg x.cells.toArray | 1 => vz = .int .i64 (checkM x) | 2 => vz = .bool false | 3 => vz = .bool false | 4 => vz = .int .i64 (k : Int) | 5 => vz = .bool true | 6 => vz = .bool true | 7 => vz = .slice (some ⟨b, off, none⟩) n c | 8 => vz = .int .i64 (k : Int) | 9 => vz = .int .i64 ((k - 1 : Nat) : Int) | 10 => vz = .pointer (some ⟨b, off + (k - 1) * 4, none⟩) | 11 => vz = .agg y.cells.toArray | 12 => vz = .agg x.cells.toArray | 13 => vz = .bool false | 14 => vz = .bool true | 15 => vz = .bool true | _ => True) (by kernel_rfl) (by kernel_rfl) (by kernel_rfl) (by kernel_rfl) (by decide) (HA.out.step (Below.refl _ _).drew) ?_ ?_
            · skip
              intro i vz wz w2 hb hf
              match i, hf with
              | 0, hf => exact hf
              | 1, hf => exact hf
              | 2, hf => exact hf
              | 3, hf => exact hf
              | 4, hf => exact hf
              | 5, hf => exact hf
              | 6, hf => exact hf
              | 7, hf => exact hf
              | 8, hf => exact hf
              | 9, hf => exact hf
              | 10, hf => exact hf
              | 11, hf => exact hf
              | 12, hf => exact hf
              | 13, hf => exact hf
              | 14, hf => exact hf
              | 15, hf => exact hf
              | _ + 16, _ => trivial
            intro ops hops
            have hf0 : ∀ (i : Nat) (o : Oper), ops[i]? = some o → o.dst ≠ some 0 := by rw [hops]; exact fun i o h => slot_free (by kernel_rfl) i o h
            have hf3 : ∀ (i : Nat) (o : Oper), ops[i]? = some o → o.dst ≠ some 3 := by rw [hops]; exact fun i o h => slot_free (by kernel_rfl) i o h
            have hf4 : ∀ (i : Nat) (o : Oper), ops[i]? = some o → o.dst ≠ some 4 := by rw [hops]; exact fun i o h => slot_free (by kernel_rfl) i o h
            have hns : ops.size = 17 := by rw [hops]; rfl
            obtain ⟨o0, po0, q0, d0, gd0⟩ : ∃ o, ops[0]? = some o ∧ o.op = .load 54 (.tmp 4) ∧ o.dst = some 20 ∧ o.guard = none := ⟨_, by rw [hops]; rfl, rfl, rfl, rfl⟩
            obtain ⟨o1, po1, q1, d1, gd1, dp1_0⟩ : ∃ o, ops[1]? = some o ∧ o.op = .call { callee := .value (.func 62), args := #[.tmp 20], argTypes := #[54] } ∧ o.dst = some 21 ∧ o.guard = none ∧ (o.after.any fun e => Region.binds .any e && decide (e.on = 0)) = true := ⟨_, by rw [hops]; rfl, rfl, rfl, rfl, by kernel_rfl⟩
            obtain ⟨o2, po2, q2, d2, gd2, dp2_1⟩ : ∃ o, ops[2]? = some o ∧ o.op = .binOp .neq 34 (.tmp 21) (.const (.int .i64 0)) 34 ∧ o.dst = some 22 ∧ o.guard = none ∧ (o.after.any fun e => Region.binds .any e && decide (e.on = 1)) = true := ⟨_, by rw [hops]; rfl, rfl, rfl, rfl, by kernel_rfl⟩
            obtain ⟨o3, po3, q3, d3, gd3, dp3_2⟩ : ∃ o, ops[3]? = some o ∧ o.op = .move (.tmp 22) ∧ o.dst = some 23 ∧ o.guard = none ∧ (o.after.any fun e => Region.binds .any e && decide (e.on = 2)) = true := ⟨_, by rw [hops]; rfl, rfl, rfl, rfl, by kernel_rfl⟩
            obtain ⟨o4, po4, q4, d4, gd4, dp4_3⟩ : ∃ o, ops[4]? = some o ∧ o.op = .move (.tmp 3) ∧ o.dst = some 24 ∧ o.guard = some (3, false) ∧ (o.after.any fun e => Region.binds .any e && decide (e.on = 3)) = true := ⟨_, by rw [hops]; rfl, rfl, rfl, rfl, by kernel_rfl⟩
            obtain ⟨o5, po5, q5, d5, gd5, dp5_4, dp5_3⟩ : ∃ o, ops[5]? = some o ∧ o.op = .binOp .gtr 3 (.tmp 24) (.const (.int .i64 0)) 3 ∧ o.dst = some 25 ∧ o.guard = some (3, false) ∧ (o.after.any fun e => Region.binds .any e && decide (e.on = 4)) = true ∧ (o.after.any fun e => Region.binds .any e && decide (e.on = 3)) = true := ⟨_, by rw [hops]; rfl, rfl, rfl, rfl, by kernel_rfl, by kernel_rfl⟩
            obtain ⟨o6, po6, q6, d6, gd6, dp6_5, dp6_3⟩ : ∃ o, ops[6]? = some o ∧ o.op = .move (.tmp 25) ∧ o.dst = some 26 ∧ o.guard = some (3, false) ∧ (o.after.any fun e => Region.binds .any e && decide (e.on = 5)) = true ∧ (o.after.any fun e => Region.binds .any e && decide (e.on = 3)) = true := ⟨_, by rw [hops]; rfl, rfl, rfl, rfl, by kernel_rfl, by kernel_rfl⟩
            obtain ⟨o7, po7, q7, d7, gd7, dp7_6⟩ : ∃ o, ops[7]? = some o ∧ o.op = .move (.tmp 0) ∧ o.dst = some 27 ∧ o.guard = some (6, true) ∧ (o.after.any fun e => Region.binds .any e && decide (e.on = 6)) = true := ⟨_, by rw [hops]; rfl, rfl, rfl, rfl, by kernel_rfl⟩
            obtain ⟨o8, po8, q8, d8, gd8, dp8_6⟩ : ∃ o, ops[8]? = some o ∧ o.op = .move (.tmp 3) ∧ o.dst = some 28 ∧ o.guard = some (6, true) ∧ (o.after.any fun e => Region.binds .any e && decide (e.on = 6)) = true := ⟨_, by rw [hops]; rfl, rfl, rfl, rfl, by kernel_rfl⟩
            obtain ⟨o9, po9, q9, d9, gd9, dp9_8, dp9_6⟩ : ∃ o, ops[9]? = some o ∧ o.op = .binOp .sub 3 (.tmp 28) (.const (.int .i64 1)) 3 ∧ o.dst = some 29 ∧ o.guard = some (6, true) ∧ (o.after.any fun e => Region.binds .any e && decide (e.on = 8)) = true ∧ (o.after.any fun e => Region.binds .any e && decide (e.on = 6)) = true := ⟨_, by rw [hops]; rfl, rfl, rfl, rfl, by kernel_rfl, by kernel_rfl⟩
            obtain ⟨o10, po10, q10, d10, gd10, dp10_7, dp10_9, dp10_6⟩ : ∃ o, ops[10]? = some o ∧ o.op = .indexAddr 44 (.tmp 27) (.tmp 29) ∧ o.dst = some 30 ∧ o.guard = some (6, true) ∧ (o.after.any fun e => Region.binds .any e && decide (e.on = 7)) = true ∧ (o.after.any fun e => Region.binds .any e && decide (e.on = 9)) = true ∧ (o.after.any fun e => Region.binds .any e && decide (e.on = 6)) = true := ⟨_, by rw [hops]; rfl, rfl, rfl, rfl, by kernel_rfl, by kernel_rfl, by kernel_rfl⟩
            obtain ⟨o11, po11, q11, d11, gd11, dp11_10, dp11_6⟩ : ∃ o, ops[11]? = some o ∧ o.op = .load 54 (.tmp 30) ∧ o.dst = some 31 ∧ o.guard = some (6, true) ∧ (o.after.any fun e => Region.binds .any e && decide (e.on = 10)) = true ∧ (o.after.any fun e => Region.binds .any e && decide (e.on = 6)) = true := ⟨_, by rw [hops]; rfl, rfl, rfl, rfl, by kernel_rfl, by kernel_rfl⟩
            obtain ⟨o12, po12, q12, d12, gd12, dp12_6⟩ : ∃ o, ops[12]? = some o ∧ o.op = .load 54 (.tmp 4) ∧ o.dst = some 32 ∧ o.guard = some (6, true) ∧ (o.after.any fun e => Region.binds .any e && decide (e.on = 6)) = true := ⟨_, by rw [hops]; rfl, rfl, rfl, rfl, by kernel_rfl⟩
            obtain ⟨o13, po13, q13, d13, gd13, dp13_11, dp13_12, dp13_6⟩ : ∃ o, ops[13]? = some o ∧ o.op = .call { callee := .value (.func 63), args := #[.tmp 31, .tmp 32], argTypes := #[54, 54] } ∧ o.dst = some 33 ∧ o.guard = some (6, true) ∧ (o.after.any fun e => Region.binds .any e && decide (e.on = 11)) = true ∧ (o.after.any fun e => Region.binds .any e && decide (e.on = 12)) = true ∧ (o.after.any fun e => Region.binds .any e && decide (e.on = 6)) = true := ⟨_, by rw [hops]; rfl, rfl, rfl, rfl, by kernel_rfl, by kernel_rfl, by kernel_rfl⟩
            obtain ⟨o14, po14, q14, d14, gd14, dp14_13, dp14_6⟩ : ∃ o, ops[14]? = some o ∧ o.op = .unOp .not 4 (.tmp 33) ∧ o.dst = some 34 ∧ o.guard = some (6, true) ∧ (o.after.any fun e => Region.binds .any e && decide (e.on = 13)) = true ∧ (o.after.any fun e => Region.binds .any e && decide (e.on = 6)) = true := ⟨_, by rw [hops]; rfl, rfl, rfl, rfl, by kernel_rfl, by kernel_rfl⟩
            obtain ⟨o15, po15, q15, d15, gd15, dp15_6, dp15_14, dp15_3⟩ : ∃ o, ops[15]? = some o ∧ o.op = .pick (.tmp 26) (.tmp 34) (.const (.bool false)) ∧ o.dst = some 35 ∧ o.guard = some (3, false) ∧ (o.after.any fun e => Region.binds .any e && decide (e.on = 6)) = true ∧ (o.after.any fun e => Region.binds .any e && decide (e.on = 14)) = true ∧ (o.after.any fun e => Region.binds .any e && decide (e.on = 3)) = true := ⟨_, by rw [hops]; rfl, rfl, rfl, rfl, by kernel_rfl, by kernel_rfl, by kernel_rfl⟩
            obtain ⟨o16, po16, q16, d16, gd16⟩ : ∃ o, ops[16]? = some o ∧ o.op = .pick (.tmp 23) (.const (.bool true)) (.tmp 35) ∧ o.dst = some 36 ∧ o.guard = none := ⟨_, by rw [hops]; rfl, rfl, rfl, rfl⟩
            have hslots : ∀ t, t ∉ [20, 21, 22, 23, 24, 25, 26, 27, 28, 29, 30, 31, 32, 33, 34, 35, 36] → ∀ (i : Nat) (o : Oper), ops[i]? = some o → o.dst ≠ some t := by rw [hops]; exact fun t ht i o h => slots_free (by kernel_rfl) t ht i o h
            clear hops
            refine ⟨fun A W HS hfr hAs i o hi ho hdep => ?_, fun A W HS hdf hAs hfr hall => ?_⟩
            · skip
              have base0 : A.eval (.tmp 0) = .slice (some ⟨b, off, none⟩) n c := (hfr 0 hf0).trans rfl
              have base3 : A.eval (.tmp 3) = .int .i64 (k : Int) := (hfr 3 hf3).trans rfl
              have base4 : A.eval (.tmp 4) = .pointer (some ⟨wr.heap.size, 0, none⟩) := (hfr 4 hf4).trans rfl
              rw [hns] at hi
              obtain rfl | rfl | rfl | rfl | rfl | rfl | rfl | rfl | rfl | rfl | rfl | rfl | rfl | rfl | rfl | rfl : i = 0 ∨ i = 1 ∨ i = 2 ∨ i = 3 ∨ i = 4 ∨ i = 5 ∨ i = 6 ∨ i = 7 ∨ i = 8 ∨ i = 9 ∨ i = 10 ∨ i = 11 ∨ i = 12 ∨ i = 13 ∨ i = 14 ∨ i = 15 := by omega
              · skip
                obtain rfl : o = o0 := Option.some.inj (ho.symm.trans po0)
                refine at_op po0 d0 (wanted_of gd0) (run_loadBlk q0 base4 HS.box grant_under (size_grant x)) ⟨_, by rw [d0], HS, Below.refl _ _, rfl⟩
              · skip
                obtain rfl : o = o1 := Option.some.inj (ho.symm.trans po1)
                have e0 : A.eval (.tmp 20) = .agg x.cells.toArray := hdep 0 _ 20 dp1_0 po0 d0
                refine at_enterT po1 d1 (wanted_of gd1) (run_callf1 q1 rfl e0 Tryd.func62 (by kernel_rfl) _) (check_any x W (by have := HOX.out.1; omega)) ?_
                rintro e w1 ⟨rfl, hb⟩
                exact ⟨_, rfl, ⟨_, by rw [d1], HS.step hb, hb, rfl⟩⟩
              · skip
                obtain rfl : o = o2 := Option.some.inj (ho.symm.trans po2)
                have e1 : A.eval (.tmp 21) = .int .i64 (checkM x) := hdep 1 _ 21 dp2_1 po1 d1
                refine at_op po2 d2 (wanted_of gd2) (run_neqZ hne q2 e1 rfl W) ⟨_, by rw [d2], HS, Below.refl _ _, rfl⟩
              · skip
                obtain rfl : o = o3 := Option.some.inj (ho.symm.trans po3)
                have e2 : A.eval (.tmp 22) = .bool false := hdep 2 _ 22 dp3_2 po2 d2
                refine at_op po3 d3 (wanted_of gd3) (run_move q3 e2 W) ⟨_, by rw [d3], HS, Below.refl _ _, rfl⟩
              · skip
                obtain rfl : o = o4 := Option.some.inj (ho.symm.trans po4)
                have e3 : A.eval (.tmp 23) = .bool false := hdep 3 _ 23 dp4_3 po3 d3
                refine at_op po4 d4 (w_false gd4 po3 d3 e3) (run_move q4 base3 W) ⟨_, by rw [d4], HS, Below.refl _ _, rfl⟩
              · skip
                obtain rfl : o = o5 := Option.some.inj (ho.symm.trans po5)
                have e4 : A.eval (.tmp 24) = .int .i64 (k : Int) := hdep 4 _ 24 dp5_4 po4 d4
                have e3 : A.eval (.tmp 23) = .bool false := hdep 3 _ 23 dp5_3 po3 d3
                refine at_op po5 d5 (w_false gd5 po3 d3 e3) (run_gtrZ hgt q5 e4 rfl W) ⟨_, by rw [d5], HS, Below.refl _ _, rfl⟩
              · skip
                obtain rfl : o = o6 := Option.some.inj (ho.symm.trans po6)
                have e5 : A.eval (.tmp 25) = .bool true := hdep 5 _ 25 dp6_5 po5 d5
                have e3 : A.eval (.tmp 23) = .bool false := hdep 3 _ 23 dp6_3 po3 d3
                refine at_op po6 d6 (w_false gd6 po3 d3 e3) (run_move q6 e5 W) ⟨_, by rw [d6], HS, Below.refl _ _, rfl⟩
              · skip
                obtain rfl : o = o7 := Option.some.inj (ho.symm.trans po7)
                have e6 : A.eval (.tmp 26) = .bool true := hdep 6 _ 26 dp7_6 po6 d6
                refine at_op po7 d7 (wanted_guard gd7 po6 d6 e6) (run_move q7 base0 W) ⟨_, by rw [d7], HS, Below.refl _ _, rfl⟩
              · skip
                obtain rfl : o = o8 := Option.some.inj (ho.symm.trans po8)
                have e6 : A.eval (.tmp 26) = .bool true := hdep 6 _ 26 dp8_6 po6 d6
                refine at_op po8 d8 (wanted_guard gd8 po6 d6 e6) (run_move q8 base3 W) ⟨_, by rw [d8], HS, Below.refl _ _, rfl⟩
              · skip
                obtain rfl : o = o9 := Option.some.inj (ho.symm.trans po9)
                have e8 : A.eval (.tmp 28) = .int .i64 (k : Int) := hdep 8 _ 28 dp9_8 po8 d8
                have e6 : A.eval (.tmp 26) = .bool true := hdep 6 _ 26 dp9_6 po6 d6
                refine at_op po9 d9 (wanted_guard gd9 po6 d6 e6) (run_subZ (b := 1) hsub q9 e8 rfl W) ⟨_, by rw [d9], HS, Below.refl _ _, rfl⟩
              · skip
                obtain rfl : o = o10 := Option.some.inj (ho.symm.trans po10)
                have e7 : A.eval (.tmp 27) = .slice (some ⟨b, off, none⟩) n c := hdep 7 _ 27 dp10_7 po7 d7
                have e9 : A.eval (.tmp 29) = .int .i64 ((k - 1 : Nat) : Int) := hdep 9 _ 29 dp10_9 po9 d9
                have e6 : A.eval (.tmp 26) = .bool true := hdep 6 _ 26 dp10_6 po6 d6
                refine at_op po10 d10 (wanted_guard gd10 po6 d6 e6) (grantT.run_ix q10 e7 e9 HK1.out W) ⟨_, by rw [d10], HS, Below.refl _ _, rfl⟩
              · skip
                obtain rfl : o = o11 := Option.some.inj (ho.symm.trans po11)
                have e10 : A.eval (.tmp 30) = .pointer (some ⟨b, off + (k - 1) * 4, none⟩) := hdep 10 _ 30 dp11_10 po10 d10
                have e6 : A.eval (.tmp 26) = .bool true := hdep 6 _ 26 dp11_6 po6 d6
                refine at_op po11 d11 (wanted_guard gd11 po6 d6 e6) (grantT.run_ld Tryd.underlying54 rfl (GrantM.len y) q11 e10 HS.prev) ⟨_, by rw [d11], HS, Below.refl _ _, rfl⟩
              · skip
                obtain rfl : o = o12 := Option.some.inj (ho.symm.trans po12)
                have e6 : A.eval (.tmp 26) = .bool true := hdep 6 _ 26 dp12_6 po6 d6
                refine at_op po12 d12 (wanted_guard gd12 po6 d6 e6) (run_loadBlk q12 base4 HS.box grant_under (size_grant x)) ⟨_, by rw [d12], HS, Below.refl _ _, rfl⟩
              · skip
                obtain rfl : o = o13 := Option.some.inj (ho.symm.trans po13)
                have e11 : A.eval (.tmp 31) = .agg y.cells.toArray := hdep 11 _ 31 dp13_11 po11 d11
                have e12 : A.eval (.tmp 32) = .agg x.cells.toArray := hdep 12 _ 32 dp13_12 po12 d12
                have e6 : A.eval (.tmp 26) = .bool true := hdep 6 _ 26 dp13_6 po6 d6
                refine at_enterT po13 d13 (wanted_guard gd13 po6 d6 e6) (run_callf2 q13 rfl e11 e12 Tryd.func63 (by kernel_rfl) _) (narrow_any y x W HOX.out.2.rw) ?_
                rintro e w1 ⟨rfl, hb⟩
                exact ⟨_, rfl, ⟨_, by rw [d13], HS.step hb, hb, (show Value.bool _ = Value.bool _ by rw [hnw])⟩⟩
              · skip
                obtain rfl : o = o14 := Option.some.inj (ho.symm.trans po14)
                have e13 : A.eval (.tmp 33) = .bool false := hdep 13 _ 33 dp14_13 po13 d13
                have e6 : A.eval (.tmp 26) = .bool true := hdep 6 _ 26 dp14_6 po6 d6
                refine at_op po14 d14 (wanted_guard gd14 po6 d6 e6) (r_notF q14 e13 W) ⟨_, by rw [d14], HS, Below.refl _ _, rfl⟩
              · skip
                obtain rfl : o = o15 := Option.some.inj (ho.symm.trans po15)
                have e6 : A.eval (.tmp 26) = .bool true := hdep 6 _ 26 dp15_6 po6 d6
                have e14 : A.eval (.tmp 34) = .bool true := hdep 14 _ 34 dp15_14 po14 d14
                have e3 : A.eval (.tmp 23) = .bool false := hdep 3 _ 23 dp15_3 po3 d3
                refine at_op po15 d15 (w_false gd15 po3 d3 e3) (run_pick_true (v := .bool true) q15 e6 e14 W) ⟨_, by rw [d15], HS, Below.refl _ _, rfl⟩
            have base0 : A.eval (.tmp 0) = .slice (some ⟨b, off, none⟩) n c := (hfr 0 hf0).trans rfl
            have base3 : A.eval (.tmp 3) = .int .i64 (k : Int) := (hfr 3 hf3).trans rfl
            have base4 : A.eval (.tmp 4) = .pointer (some ⟨wr.heap.size, 0, none⟩) := (hfr 4 hf4).trans rfl
            have e0 : A.eval (.tmp 20) = .agg x.cells.toArray := hall 0 _ 20 (by rw [hns]; decide) po0 d0
            have e1 : A.eval (.tmp 21) = .int .i64 (checkM x) := hall 1 _ 21 (by rw [hns]; decide) po1 d1
            have e2 : A.eval (.tmp 22) = .bool false := hall 2 _ 22 (by rw [hns]; decide) po2 d2
            have e3 : A.eval (.tmp 23) = .bool false := hall 3 _ 23 (by rw [hns]; decide) po3 d3
            have e4 : A.eval (.tmp 24) = .int .i64 (k : Int) := hall 4 _ 24 (by rw [hns]; decide) po4 d4
            have e5 : A.eval (.tmp 25) = .bool true := hall 5 _ 25 (by rw [hns]; decide) po5 d5
            have e6 : A.eval (.tmp 26) = .bool true := hall 6 _ 26 (by rw [hns]; decide) po6 d6
            have e7 : A.eval (.tmp 27) = .slice (some ⟨b, off, none⟩) n c := hall 7 _ 27 (by rw [hns]; decide) po7 d7
            have e8 : A.eval (.tmp 28) = .int .i64 (k : Int) := hall 8 _ 28 (by rw [hns]; decide) po8 d8
            have e9 : A.eval (.tmp 29) = .int .i64 ((k - 1 : Nat) : Int) := hall 9 _ 29 (by rw [hns]; decide) po9 d9
            have e10 : A.eval (.tmp 30) = .pointer (some ⟨b, off + (k - 1) * 4, none⟩) := hall 10 _ 30 (by rw [hns]; decide) po10 d10
            have e11 : A.eval (.tmp 31) = .agg y.cells.toArray := hall 11 _ 31 (by rw [hns]; decide) po11 d11
            have e12 : A.eval (.tmp 32) = .agg x.cells.toArray := hall 12 _ 32 (by rw [hns]; decide) po12 d12
            have e13 : A.eval (.tmp 33) = .bool false := hall 13 _ 33 (by rw [hns]; decide) po13 d13
            have e14 : A.eval (.tmp 34) = .bool true := hall 14 _ 34 (by rw [hns]; decide) po14 d14
            have e15 : A.eval (.tmp 35) = .bool true := hall 15 _ 35 (by rw [hns]; decide) po15 d15
            have hA := act_of_slots [20, 21, 22, 23, 24, 25, 26, 27, 28, 29, 30, 31, 32, 33, 34, 35, 36] _ hAs hdf (fun t ht => hfr t (hslots t ht))
            simp only [List.foldl_cons, List.foldl_nil] at hA
            rw [show rdA A 20 = A.eval (.tmp 20) from rfl, e0] at hA
            rw [show rdA A 21 = A.eval (.tmp 21) from rfl, e1] at hA
            rw [show rdA A 22 = A.eval (.tmp 22) from rfl, e2] at hA
            rw [show rdA A 23 = A.eval (.tmp 23) from rfl, e3] at hA
            rw [show rdA A 24 = A.eval (.tmp 24) from rfl, e4] at hA
            rw [show rdA A 25 = A.eval (.tmp 25) from rfl, e5] at hA
            rw [show rdA A 26 = A.eval (.tmp 26) from rfl, e6] at hA
            rw [show rdA A 27 = A.eval (.tmp 27) from rfl, e7] at hA
            rw [show rdA A 28 = A.eval (.tmp 28) from rfl, e8] at hA
            rw [show rdA A 29 = A.eval (.tmp 29) from rfl, e9] at hA
            rw [show rdA A 30 = A.eval (.tmp 30) from rfl, e10] at hA
            rw [show rdA A 31 = A.eval (.tmp 31) from rfl, e11] at hA
            rw [show rdA A 32 = A.eval (.tmp 32) from rfl, e12] at hA
            rw [show rdA A 33 = A.eval (.tmp 33) from rfl, e13] at hA
            rw [show rdA A 34 = A.eval (.tmp 34) from rfl, e14] at hA
            rw [show rdA A 35 = A.eval (.tmp 35) from rfl, e15] at hA
            obtain ⟨ul, hul⟩ : ∃ u, rdA A 36 = u := ⟨_, rfl⟩
            rw [hul] at hA
            clear hul
            rw [hns]
            have HSF := Lib.hid HS.below
            refine at_op po16 d16 (wanted_of gd16) (r_pickF q16 e3 e15 W) ?_
            clear hall hdf hAs hfr hslots hns hf0 hf3 hf4 po0 q0 d0 gd0 po1 q1 d1 gd1 dp1_0 po2 q2 d2 gd2 dp2_1 po3 q3 d3 gd3 dp3_2 po4 q4 d4 gd4 dp4_3 po5 q5 d5 gd5 dp5_4 dp5_3 po6 q6 d6 gd6 dp6_5 dp6_3 po7 q7 d7 gd7 dp7_6 po8 q8 d8 gd8 dp8_6 po9 q9 d9 gd9 dp9_8 dp9_6 po10 q10 d10 gd10 dp10_7 dp10_9 dp10_6 po11 q11 d11 gd11 dp11_10 dp11_6 po12 q12 d12 gd12 dp12_6 po13 q13 d13 gd13 dp13_11 dp13_12 dp13_6 po14 q14 d14 gd14 dp14_13 dp14_6 po15 q15 d15 gd15 dp15_6 dp15_14 dp15_3 po16 q16 d16 gd16 base0 base3 base4
            have HA9 := Lib.hid hA
            clear hA HS HA e0 e1 e2 e3 e4 e5 e6 e7 e8 e9 e10 e11 e12 e13 e14 e15
            rw [HA9.out]
            go_frame
            clear HA9
            go_wp2_with fail
            go_ret
            have hfin : narrowsL gs = false := narrows_no (k := k) (by rw [HN.out]; exact HKL.out) HF.out
            exact ⟨by rw [hfin]; rfl, HB.out.trans (HSF.out.mono HB.out.size)⟩
          · have HF : Hid (okAt gs k = true) := show _ = _ by rw [HE.out, hc, hnw]; simp
            refine region_grow (fun W => NaW x y b off k wr.heap.size wr W) (fun i vz wz => match i with | 0 => vz = .agg x.cells.toArray | 1 => vz = .int .i64 (checkM x) | 2 => vz = .bool false | 3 => vz = .bool false | 4 => vz = .int .i64 (k : Int) | 5 => vz = .bool true | 6 => vz = .bool true | 7 => vz = .slice (some ⟨b, off, none⟩) n c | 8 => vz = .int .i64 (k : Int) | 9 => vz = .int .i64 ((k - 1 : Nat) : Int) | 10 => vz = .pointer (some ⟨b, off + (k - 1) * 4, none⟩) | 11 => vz = .agg y.cells.toArray | 12 => vz = .agg x.cells.toArray | 13 => vz = .bool true | 14 => vz = .bool false | 15 => vz = .bool false | _ => True) (by kernel_rfl) (by kernel_rfl) (by kernel_rfl) (by kernel_rfl) (by decide) (HA.out.step (Below.refl _ _).drew) ?_ ?_
            · skip
              intro i vz wz w2 hb hf
              match i, hf with
              | 0, hf => exact hf
              | 1, hf => exact hf
              | 2, hf => exact hf
              | 3, hf => exact hf
              | 4, hf => exact hf
              | 5, hf => exact hf
              | 6, hf => exact hf
              | 7, hf => exact hf
              | 8, hf => exact hf
              | 9, hf => exact hf
              | 10, hf => exact hf
              | 11, hf => exact hf
              | 12, hf => exact hf
              | 13, hf => exact hf
              | 14, hf => exact hf
              | 15, hf => exact hf
              | _ + 16, _ => trivial
            intro ops hops
            have hf0 : ∀ (i : Nat) (o : Oper), ops[i]? = some o → o.dst ≠ some 0 := by rw [hops]; exact fun i o h => slot_free (by kernel_rfl) i o h
            have hf3 : ∀ (i : Nat) (o : Oper), ops[i]? = some o → o.dst ≠ some 3 := by rw [hops]; exact fun i o h => slot_free (by kernel_rfl) i o h
            have hf4 : ∀ (i : Nat) (o : Oper), ops[i]? = some o → o.dst ≠ some 4 := by rw [hops]; exact fun i o h => slot_free (by kernel_rfl) i o h
            have hns : ops.size = 17 := by rw [hops]; rfl
            obtain ⟨o0, po0, q0, d0, gd0⟩ : ∃ o, ops[0]? = some o ∧ o.op = .load 54 (.tmp 4) ∧ o.dst = some 20 ∧ o.guard = none := ⟨_, by rw [hops]; rfl, rfl, rfl, rfl⟩
            obtain ⟨o1, po1, q1, d1, gd1, dp1_0⟩ : ∃ o, ops[1]? = some o ∧ o.op = .call { callee := .value (.func 62), args := #[.tmp 20], argTypes := #[54] } ∧ o.dst = some 21 ∧ o.guard = none ∧ (o.after.any fun e => Region.binds .any e && decide (e.on = 0)) = true := ⟨_, by rw [hops]; rfl, rfl, rfl, rfl, by kernel_rfl⟩
            obtain ⟨o2, po2, q2, d2, gd2, dp2_1⟩ : ∃ o, ops[2]? = some o ∧ o.op = .binOp .neq 34 (.tmp 21) (.const (.int .i64 0)) 34 ∧ o.dst = some 22 ∧ o.guard = none ∧ (o.after.any fun e => Region.binds .any e && decide (e.on = 1)) = true := ⟨_, by rw [hops]; rfl, rfl, rfl, rfl, by kernel_rfl⟩
            obtain ⟨o3, po3, q3, d3, gd3, dp3_2⟩ : ∃ o, ops[3]? = some o ∧ o.op = .move (.tmp 22) ∧ o.dst = some 23 ∧ o.guard = none ∧ (o.after.any fun e => Region.binds .any e && decide (e.on = 2)) = true := ⟨_, by rw [hops]; rfl, rfl, rfl, rfl, by kernel_rfl⟩
            obtain ⟨o4, po4, q4, d4, gd4, dp4_3⟩ : ∃ o, ops[4]? = some o ∧ o.op = .move (.tmp 3) ∧ o.dst = some 24 ∧ o.guard = some (3, false) ∧ (o.after.any fun e => Region.binds .any e && decide (e.on = 3)) = true := ⟨_, by rw [hops]; rfl, rfl, rfl, rfl, by kernel_rfl⟩
            obtain ⟨o5, po5, q5, d5, gd5, dp5_4, dp5_3⟩ : ∃ o, ops[5]? = some o ∧ o.op = .binOp .gtr 3 (.tmp 24) (.const (.int .i64 0)) 3 ∧ o.dst = some 25 ∧ o.guard = some (3, false) ∧ (o.after.any fun e => Region.binds .any e && decide (e.on = 4)) = true ∧ (o.after.any fun e => Region.binds .any e && decide (e.on = 3)) = true := ⟨_, by rw [hops]; rfl, rfl, rfl, rfl, by kernel_rfl, by kernel_rfl⟩
            obtain ⟨o6, po6, q6, d6, gd6, dp6_5, dp6_3⟩ : ∃ o, ops[6]? = some o ∧ o.op = .move (.tmp 25) ∧ o.dst = some 26 ∧ o.guard = some (3, false) ∧ (o.after.any fun e => Region.binds .any e && decide (e.on = 5)) = true ∧ (o.after.any fun e => Region.binds .any e && decide (e.on = 3)) = true := ⟨_, by rw [hops]; rfl, rfl, rfl, rfl, by kernel_rfl, by kernel_rfl⟩
            obtain ⟨o7, po7, q7, d7, gd7, dp7_6⟩ : ∃ o, ops[7]? = some o ∧ o.op = .move (.tmp 0) ∧ o.dst = some 27 ∧ o.guard = some (6, true) ∧ (o.after.any fun e => Region.binds .any e && decide (e.on = 6)) = true := ⟨_, by rw [hops]; rfl, rfl, rfl, rfl, by kernel_rfl⟩
            obtain ⟨o8, po8, q8, d8, gd8, dp8_6⟩ : ∃ o, ops[8]? = some o ∧ o.op = .move (.tmp 3) ∧ o.dst = some 28 ∧ o.guard = some (6, true) ∧ (o.after.any fun e => Region.binds .any e && decide (e.on = 6)) = true := ⟨_, by rw [hops]; rfl, rfl, rfl, rfl, by kernel_rfl⟩
            obtain ⟨o9, po9, q9, d9, gd9, dp9_8, dp9_6⟩ : ∃ o, ops[9]? = some o ∧ o.op = .binOp .sub 3 (.tmp 28) (.const (.int .i64 1)) 3 ∧ o.dst = some 29 ∧ o.guard = some (6, true) ∧ (o.after.any fun e => Region.binds .any e && decide (e.on = 8)) = true ∧ (o.after.any fun e => Region.binds .any e && decide (e.on = 6)) = true := ⟨_, by rw [hops]; rfl, rfl, rfl, rfl, by kernel_rfl, by kernel_rfl⟩
            obtain ⟨o10, po10, q10, d10, gd10, dp10_7, dp10_9, dp10_6⟩ : ∃ o, ops[10]? = some o ∧ o.op = .indexAddr 44 (.tmp 27) (.tmp 29) ∧ o.dst = some 30 ∧ o.guard = some (6, true) ∧ (o.after.any fun e => Region.binds .any e && decide (e.on = 7)) = true ∧ (o.after.any fun e => Region.binds .any e && decide (e.on = 9)) = true ∧ (o.after.any fun e => Region.binds .any e && decide (e.on = 6)) = true := ⟨_, by rw [hops]; rfl, rfl, rfl, rfl, by kernel_rfl, by kernel_rfl, by kernel_rfl⟩
            obtain ⟨o11, po11, q11, d11, gd11, dp11_10, dp11_6⟩ : ∃ o, ops[11]? = some o ∧ o.op = .load 54 (.tmp 30) ∧ o.dst = some 31 ∧ o.guard = some (6, true) ∧ (o.after.any fun e => Region.binds .any e && decide (e.on = 10)) = true ∧ (o.after.any fun e => Region.binds .any e && decide (e.on = 6)) = true := ⟨_, by rw [hops]; rfl, rfl, rfl, rfl, by kernel_rfl, by kernel_rfl⟩
            obtain ⟨o12, po12, q12, d12, gd12, dp12_6⟩ : ∃ o, ops[12]? = some o ∧ o.op = .load 54 (.tmp 4) ∧ o.dst = some 32 ∧ o.guard = some (6, true) ∧ (o.after.any fun e => Region.binds .any e && decide (e.on = 6)) = true := ⟨_, by rw [hops]; rfl, rfl, rfl, rfl, by kernel_rfl⟩
            obtain ⟨o13, po13, q13, d13, gd13, dp13_11, dp13_12, dp13_6⟩ : ∃ o, ops[13]? = some o ∧ o.op = .call { callee := .value (.func 63), args := #[.tmp 31, .tmp 32], argTypes := #[54, 54] } ∧ o.dst = some 33 ∧ o.guard = some (6, true) ∧ (o.after.any fun e => Region.binds .any e && decide (e.on = 11)) = true ∧ (o.after.any fun e => Region.binds .any e && decide (e.on = 12)) = true ∧ (o.after.any fun e => Region.binds .any e && decide (e.on = 6)) = true := ⟨_, by rw [hops]; rfl, rfl, rfl, rfl, by kernel_rfl, by kernel_rfl, by kernel_rfl⟩
            obtain ⟨o14, po14, q14, d14, gd14, dp14_13, dp14_6⟩ : ∃ o, ops[14]? = some o ∧ o.op = .unOp .not 4 (.tmp 33) ∧ o.dst = some 34 ∧ o.guard = some (6, true) ∧ (o.after.any fun e => Region.binds .any e && decide (e.on = 13)) = true ∧ (o.after.any fun e => Region.binds .any e && decide (e.on = 6)) = true := ⟨_, by rw [hops]; rfl, rfl, rfl, rfl, by kernel_rfl, by kernel_rfl⟩
            obtain ⟨o15, po15, q15, d15, gd15, dp15_6, dp15_14, dp15_3⟩ : ∃ o, ops[15]? = some o ∧ o.op = .pick (.tmp 26) (.tmp 34) (.const (.bool false)) ∧ o.dst = some 35 ∧ o.guard = some (3, false) ∧ (o.after.any fun e => Region.binds .any e && decide (e.on = 6)) = true ∧ (o.after.any fun e => Region.binds .any e && decide (e.on = 14)) = true ∧ (o.after.any fun e => Region.binds .any e && decide (e.on = 3)) = true := ⟨_, by rw [hops]; rfl, rfl, rfl, rfl, by kernel_rfl, by kernel_rfl, by kernel_rfl⟩
            obtain ⟨o16, po16, q16, d16, gd16⟩ : ∃ o, ops[16]? = some o ∧ o.op = .pick (.tmp 23) (.const (.bool true)) (.tmp 35) ∧ o.dst = some 36 ∧ o.guard = none := ⟨_, by rw [hops]; rfl, rfl, rfl, rfl⟩
            have hslots : ∀ t, t ∉ [20, 21, 22, 23, 24, 25, 26, 27, 28, 29, 30, 31, 32, 33, 34, 35, 36] → ∀ (i : Nat) (o : Oper), ops[i]? = some o → o.dst ≠ some t := by rw [hops]; exact fun t ht i o h => slots_free (by kernel_rfl) t ht i o h
            clear hops
            refine ⟨fun A W HS hfr hAs i o hi ho hdep => ?_, fun A W HS hdf hAs hfr hall => ?_⟩
            · skip
              have base0 : A.eval (.tmp 0) = .slice (some ⟨b, off, none⟩) n c := (hfr 0 hf0).trans rfl
              have base3 : A.eval (.tmp 3) = .int .i64 (k : Int) := (hfr 3 hf3).trans rfl
              have base4 : A.eval (.tmp 4) = .pointer (some ⟨wr.heap.size, 0, none⟩) := (hfr 4 hf4).trans rfl
              rw [hns] at hi
              obtain rfl | rfl | rfl | rfl | rfl | rfl | rfl | rfl | rfl | rfl | rfl | rfl | rfl | rfl | rfl | rfl : i = 0 ∨ i = 1 ∨ i = 2 ∨ i = 3 ∨ i = 4 ∨ i = 5 ∨ i = 6 ∨ i = 7 ∨ i = 8 ∨ i = 9 ∨ i = 10 ∨ i = 11 ∨ i = 12 ∨ i = 13 ∨ i = 14 ∨ i = 15 := by omega
              · skip
                obtain rfl : o = o0 := Option.some.inj (ho.symm.trans po0)
                refine at_op po0 d0 (wanted_of gd0) (run_loadBlk q0 base4 HS.box grant_under (size_grant x)) ⟨_, by rw [d0], HS, Below.refl _ _, rfl⟩
              · skip
                obtain rfl : o = o1 := Option.some.inj (ho.symm.trans po1)
                have e0 : A.eval (.tmp 20) = .agg x.cells.toArray := hdep 0 _ 20 dp1_0 po0 d0
                refine at_enterT po1 d1 (wanted_of gd1) (run_callf1 q1 rfl e0 Tryd.func62 (by kernel_rfl) _) (check_any x W (by have := HOX.out.1; omega)) ?_
                rintro e w1 ⟨rfl, hb⟩
                exact ⟨_, rfl, ⟨_, by rw [d1], HS.step hb, hb, rfl⟩⟩
              · skip
                obtain rfl : o = o2 := Option.some.inj (ho.symm.trans po2)
                have e1 : A.eval (.tmp 21) = .int .i64 (checkM x) := hdep 1 _ 21 dp2_1 po1 d1
                refine at_op po2 d2 (wanted_of gd2) (run_neqZ hne q2 e1 rfl W) ⟨_, by rw [d2], HS, Below.refl _ _, rfl⟩
              · skip
                obtain rfl : o = o3 := Option.some.inj (ho.symm.trans po3)
                have e2 : A.eval (.tmp 22) = .bool false := hdep 2 _ 22 dp3_2 po2 d2
                refine at_op po3 d3 (wanted_of gd3) (run_move q3 e2 W) ⟨_, by rw [d3], HS, Below.refl _ _, rfl⟩
              · skip
                obtain rfl : o = o4 := Option.some.inj (ho.symm.trans po4)
                have e3 : A.eval (.tmp 23) = .bool false := hdep 3 _ 23 dp4_3 po3 d3
                refine at_op po4 d4 (w_false gd4 po3 d3 e3) (run_move q4 base3 W) ⟨_, by rw [d4], HS, Below.refl _ _, rfl⟩
              · skip
                obtain rfl : o = o5 := Option.some.inj (ho.symm.trans po5)
                have e4 : A.eval (.tmp 24) = .int .i64 (k : Int) := hdep 4 _ 24 dp5_4 po4 d4
                have e3 : A.eval (.tmp 23) = .bool false := hdep 3 _ 23 dp5_3 po3 d3
                refine at_op po5 d5 (w_false gd5 po3 d3 e3) (run_gtrZ hgt q5 e4 rfl W) ⟨_, by rw [d5], HS, Below.refl _ _, rfl⟩
              · skip
                obtain rfl : o = o6 := Option.some.inj (ho.symm.trans po6)
                have e5 : A.eval (.tmp 25) = .bool true := hdep 5 _ 25 dp6_5 po5 d5
                have e3 : A.eval (.tmp 23) = .bool false := hdep 3 _ 23 dp6_3 po3 d3
                refine at_op po6 d6 (w_false gd6 po3 d3 e3) (run_move q6 e5 W) ⟨_, by rw [d6], HS, Below.refl _ _, rfl⟩
              · skip
                obtain rfl : o = o7 := Option.some.inj (ho.symm.trans po7)
                have e6 : A.eval (.tmp 26) = .bool true := hdep 6 _ 26 dp7_6 po6 d6
                refine at_op po7 d7 (wanted_guard gd7 po6 d6 e6) (run_move q7 base0 W) ⟨_, by rw [d7], HS, Below.refl _ _, rfl⟩
              · skip
                obtain rfl : o = o8 := Option.some.inj (ho.symm.trans po8)
                have e6 : A.eval (.tmp 26) = .bool true := hdep 6 _ 26 dp8_6 po6 d6
                refine at_op po8 d8 (wanted_guard gd8 po6 d6 e6) (run_move q8 base3 W) ⟨_, by rw [d8], HS, Below.refl _ _, rfl⟩
              · skip
                obtain rfl : o = o9 := Option.some.inj (ho.symm.trans po9)
                have e8 : A.eval (.tmp 28) = .int .i64 (k : Int) := hdep 8 _ 28 dp9_8 po8 d8
                have e6 : A.eval (.tmp 26) = .bool true := hdep 6 _ 26 dp9_6 po6 d6
                refine at_op po9 d9 (wanted_guard gd9 po6 d6 e6) (run_subZ (b := 1) hsub q9 e8 rfl W) ⟨_, by rw [d9], HS, Below.refl _ _, rfl⟩
              · skip
                obtain rfl : o = o10 := Option.some.inj (ho.symm.trans po10)
                have e7 : A.eval (.tmp 27) = .slice (some ⟨b, off, none⟩) n c := hdep 7 _ 27 dp10_7 po7 d7
                have e9 : A.eval (.tmp 29) = .int .i64 ((k - 1 : Nat) : Int) := hdep 9 _ 29 dp10_9 po9 d9
                have e6 : A.eval (.tmp 26) = .bool true := hdep 6 _ 26 dp10_6 po6 d6
                refine at_op po10 d10 (wanted_guard gd10 po6 d6 e6) (grantT.run_ix q10 e7 e9 HK1.out W) ⟨_, by rw [d10], HS, Below.refl _ _, rfl⟩
              · skip
                obtain rfl : o = o11 := Option.some.inj (ho.symm.trans po11)
                have e10 : A.eval (.tmp 30) = .pointer (some ⟨b, off + (k - 1) * 4, none⟩) := hdep 10 _ 30 dp11_10 po10 d10
                have e6 : A.eval (.tmp 26) = .bool true := hdep 6 _ 26 dp11_6 po6 d6
                refine at_op po11 d11 (wanted_guard gd11 po6 d6 e6) (grantT.run_ld Tryd.underlying54 rfl (GrantM.len y) q11 e10 HS.prev) ⟨_, by rw [d11], HS, Below.refl _ _, rfl⟩
              · skip
                obtain rfl : o = o12 := Option.some.inj (ho.symm.trans po12)
                have e6 : A.eval (.tmp 26) = .bool true := hdep 6 _ 26 dp12_6 po6 d6
                refine at_op po12 d12 (wanted_guard gd12 po6 d6 e6) (run_loadBlk q12 base4 HS.box grant_under (size_grant x)) ⟨_, by rw [d12], HS, Below.refl _ _, rfl⟩
              · skip
                obtain rfl : o = o13 := Option.some.inj (ho.symm.trans po13)
                have e11 : A.eval (.tmp 31) = .agg y.cells.toArray := hdep 11 _ 31 dp13_11 po11 d11
                have e12 : A.eval (.tmp 32) = .agg x.cells.toArray := hdep 12 _ 32 dp13_12 po12 d12
                have e6 : A.eval (.tmp 26) = .bool true := hdep 6 _ 26 dp13_6 po6 d6
                refine at_enterT po13 d13 (wanted_guard gd13 po6 d6 e6) (run_callf2 q13 rfl e11 e12 Tryd.func63 (by kernel_rfl) _) (narrow_any y x W HOX.out.2.rw) ?_
                rintro e w1 ⟨rfl, hb⟩
                exact ⟨_, rfl, ⟨_, by rw [d13], HS.step hb, hb, (show Value.bool _ = Value.bool _ by rw [hnw])⟩⟩
              · skip
                obtain rfl : o = o14 := Option.some.inj (ho.symm.trans po14)
                have e13 : A.eval (.tmp 33) = .bool true := hdep 13 _ 33 dp14_13 po13 d13
                have e6 : A.eval (.tmp 26) = .bool true := hdep 6 _ 26 dp14_6 po6 d6
                refine at_op po14 d14 (wanted_guard gd14 po6 d6 e6) (r_notT q14 e13 W) ⟨_, by rw [d14], HS, Below.refl _ _, rfl⟩
              · skip
                obtain rfl : o = o15 := Option.some.inj (ho.symm.trans po15)
                have e6 : A.eval (.tmp 26) = .bool true := hdep 6 _ 26 dp15_6 po6 d6
                have e14 : A.eval (.tmp 34) = .bool false := hdep 14 _ 34 dp15_14 po14 d14
                have e3 : A.eval (.tmp 23) = .bool false := hdep 3 _ 23 dp15_3 po3 d3
                refine at_op po15 d15 (w_false gd15 po3 d3 e3) (run_pick_true (v := .bool false) q15 e6 e14 W) ⟨_, by rw [d15], HS, Below.refl _ _, rfl⟩
            have base0 : A.eval (.tmp 0) = .slice (some ⟨b, off, none⟩) n c := (hfr 0 hf0).trans rfl
            have base3 : A.eval (.tmp 3) = .int .i64 (k : Int) := (hfr 3 hf3).trans rfl
            have base4 : A.eval (.tmp 4) = .pointer (some ⟨wr.heap.size, 0, none⟩) := (hfr 4 hf4).trans rfl
            have e0 : A.eval (.tmp 20) = .agg x.cells.toArray := hall 0 _ 20 (by rw [hns]; decide) po0 d0
            have e1 : A.eval (.tmp 21) = .int .i64 (checkM x) := hall 1 _ 21 (by rw [hns]; decide) po1 d1
            have e2 : A.eval (.tmp 22) = .bool false := hall 2 _ 22 (by rw [hns]; decide) po2 d2
            have e3 : A.eval (.tmp 23) = .bool false := hall 3 _ 23 (by rw [hns]; decide) po3 d3
            have e4 : A.eval (.tmp 24) = .int .i64 (k : Int) := hall 4 _ 24 (by rw [hns]; decide) po4 d4
            have e5 : A.eval (.tmp 25) = .bool true := hall 5 _ 25 (by rw [hns]; decide) po5 d5
            have e6 : A.eval (.tmp 26) = .bool true := hall 6 _ 26 (by rw [hns]; decide) po6 d6
            have e7 : A.eval (.tmp 27) = .slice (some ⟨b, off, none⟩) n c := hall 7 _ 27 (by rw [hns]; decide) po7 d7
            have e8 : A.eval (.tmp 28) = .int .i64 (k : Int) := hall 8 _ 28 (by rw [hns]; decide) po8 d8
            have e9 : A.eval (.tmp 29) = .int .i64 ((k - 1 : Nat) : Int) := hall 9 _ 29 (by rw [hns]; decide) po9 d9
            have e10 : A.eval (.tmp 30) = .pointer (some ⟨b, off + (k - 1) * 4, none⟩) := hall 10 _ 30 (by rw [hns]; decide) po10 d10
            have e11 : A.eval (.tmp 31) = .agg y.cells.toArray := hall 11 _ 31 (by rw [hns]; decide) po11 d11
            have e12 : A.eval (.tmp 32) = .agg x.cells.toArray := hall 12 _ 32 (by rw [hns]; decide) po12 d12
            have e13 : A.eval (.tmp 33) = .bool true := hall 13 _ 33 (by rw [hns]; decide) po13 d13
            have e14 : A.eval (.tmp 34) = .bool false := hall 14 _ 34 (by rw [hns]; decide) po14 d14
            have e15 : A.eval (.tmp 35) = .bool false := hall 15 _ 35 (by rw [hns]; decide) po15 d15
            have hA := act_of_slots [20, 21, 22, 23, 24, 25, 26, 27, 28, 29, 30, 31, 32, 33, 34, 35, 36] _ hAs hdf (fun t ht => hfr t (hslots t ht))
            simp only [List.foldl_cons, List.foldl_nil] at hA
            rw [show rdA A 20 = A.eval (.tmp 20) from rfl, e0] at hA
            rw [show rdA A 21 = A.eval (.tmp 21) from rfl, e1] at hA
            rw [show rdA A 22 = A.eval (.tmp 22) from rfl, e2] at hA
            rw [show rdA A 23 = A.eval (.tmp 23) from rfl, e3] at hA
            rw [show rdA A 24 = A.eval (.tmp 24) from rfl, e4] at hA
            rw [show rdA A 25 = A.eval (.tmp 25) from rfl, e5] at hA
            rw [show rdA A 26 = A.eval (.tmp 26) from rfl, e6] at hA
            rw [show rdA A 27 = A.eval (.tmp 27) from rfl, e7] at hA
            rw [show rdA A 28 = A.eval (.tmp 28) from rfl, e8] at hA
            rw [show rdA A 29 = A.eval (.tmp 29) from rfl, e9] at hA
            rw [show rdA A 30 = A.eval (.tmp 30) from rfl, e10] at hA
            rw [show rdA A 31 = A.eval (.tmp 31) from rfl, e11] at hA
            rw [show rdA A 32 = A.eval (.tmp 32) from rfl, e12] at hA
            rw [show rdA A 33 = A.eval (.tmp 33) from rfl, e13] at hA
            rw [show rdA A 34 = A.eval (.tmp 34) from rfl, e14] at hA
            rw [show rdA A 35 = A.eval (.tmp 35) from rfl, e15] at hA
            obtain ⟨ul, hul⟩ : ∃ u, rdA A 36 = u := ⟨_, rfl⟩
            rw [hul] at hA
            clear hul
            rw [hns]
            have HSF := Lib.hid HS.below
            refine at_op po16 d16 (wanted_of gd16) (r_pickF q16 e3 e15 W) ?_
            clear hall hdf hAs hfr hslots hns hf0 hf3 hf4 po0 q0 d0 gd0 po1 q1 d1 gd1 dp1_0 po2 q2 d2 gd2 dp2_1 po3 q3 d3 gd3 dp3_2 po4 q4 d4 gd4 dp4_3 po5 q5 d5 gd5 dp5_4 dp5_3 po6 q6 d6 gd6 dp6_5 dp6_3 po7 q7 d7 gd7 dp7_6 po8 q8 d8 gd8 dp8_6 po9 q9 d9 gd9 dp9_8 dp9_6 po10 q10 d10 gd10 dp10_7 dp10_9 dp10_6 po11 q11 d11 gd11 dp11_10 dp11_6 po12 q12 d12 gd12 dp12_6 po13 q13 d13 gd13 dp13_11 dp13_12 dp13_6 po14 q14 d14 gd14 dp14_13 dp14_6 po15 q15 d15 gd15 dp15_6 dp15_14 dp15_3 po16 q16 d16 gd16 base0 base3 base4
            have HA9 := Lib.hid hA
            clear hA HS HA e0 e1 e2 e3 e4 e5 e6 e7 e8 e9 e10 e11 e12 e13 e14 e15
            rw [HA9.out]
            go_frame
            clear HA9
            go_wp2_with fail
            go_roundw
            case rel => exact ⟨k + 1, by omega, by go_num, goodTo_succ HG.out HF.out, HB.out.trans (HSF.out.mono HB.out.size)⟩
            case measure => simp [intOf]; omega
    · obtain rfl : k = n := by omega
      have HR : Hid (narrowsL gs = true) := show _ = _ from narrows_yes (by rw [HN.out]; omega) (by rw [HN.out]; omega) (by rw [HN.out]; exact hgood)
      have HB := Lib.hid hbw
      clear hgood hbw
      go_wp2_with fail
      go_ret
      exact ⟨by rw [HR.out]; rfl, HB.out⟩
end Go.Proofs.YtgeacocdnenhdaaDoor

/-
  The program's wellFormed and Verify (gen_tkver2.py).
-/
namespace Go.Proofs.YtgeacocdnenhdaaDoor
open Go.RowKit Go.Proofs.ShaWords
/-- What a token has that came in: short texts, numbers of their kind, a code of 32 bytes. -/
structure TokM.Ok (t : TokM) : Prop where
  mac : t.mac.length = 32
  ten : t.ten.size ≤ 1000000
  gs : ∀ x ∈ t.gs, x.pre.size ≤ 1000000 ∧ x.Ok
  few : t.gs.length ≤ 1000
  id : wrap64 t.id = t.id
set_option maxRecDepth 100000 in
set_option maxHeartbeats 4000000 in
theorem well_any (t : TokM) (n c : Nat) (p : Option Addr) (w : World) (hn : t.gs.length = n) (hok : t.Ok) (hL : GrantsAt w p t.gs) :
    Calls Tryd.prog 107 #[.agg (t.cells (.slice p n c)).toArray] w (ReturnsG (madeM t) w) := by
  have HR : Hid (TokAt (w.alloc (.cells (t.cells (.slice p n c)).toArray 50)) w.heap.size t (.slice p n c) ∧ Below w.heap.size w (w.alloc (.cells (t.cells (.slice p n c)).toArray 50))) := show _ ∧ _ from ⟨heap_new_at rfl, allocBelow _ _⟩
  have HM : Hid (madeM t = (nameS t.ten && (idOk t.id && narrowsL t.gs))) := show _ = _ from rfl
  have HOK := Lib.hid hok
  have HL := Lib.hid hL
  have HN := Lib.hid hn
  have HNA : Hid (∀ w, Calls Tryd.prog 59 #[.string t.ten] w (ReturnsB (nameS t.ten) w)) := show ∀ _, _ from fun w => rtName_any t.ten w (by have := hok.ten; omega)
  clear hok hL hn
  obtain ⟨TC, hTC⟩ : ∃ TC, TC = (t.cells (.slice p n c)).toArray := ⟨_, rfl⟩
  rw [← hTC] at HR
  rw [← hTC]
  clear hTC
  go_enter Tryd.func107, Tryd.ntmps107
  go_upto_region 1 with (fail)
  refine wp_gen (fun A => TokAt A w.heap.size t (.slice p n c) ∧ Below w.heap.size w A) HR.out ?_
  rintro A ⟨hA, hB⟩
  have c0 := hA.c0
  have c1 := hA.c1
  have c2 := hA.c2
  have HB := Lib.hid hB
  clear hA hB HR
  cases h1 : nameS t.ten
  · have HF : Hid (madeM t = false) := show _ = _ by rw [HM.out, h1]; rfl
    go_wp2_with (go_at_call 59; refine (HNA.out A).mono ?_; rintro e w1 ⟨rfl, rfl⟩; rw [h1])
    go_ret
    exact ⟨by rw [HF.out]; rfl, HB.out⟩
  · cases h2 : idOk t.id
    · have HF : Hid (madeM t = false) := show _ = _ by rw [HM.out, h1, h2]; rfl
      go_wp2_with (first
        | (go_at_call 59; refine (HNA.out A).mono ?_; rintro e w1 ⟨rfl, rfl⟩; rw [h1])
        | (go_at_call 95; refine (validId_any t.id _).mono ?_; rintro e w1 ⟨rfl, rfl⟩; rw [h2]))
      go_ret
      exact ⟨by rw [HF.out]; rfl, HB.out⟩
    · have HF : Hid (madeM t = narrowsL t.gs) := show _ = _ by rw [HM.out, h1, h2]; rfl
      go_wp2_with (first
        | (go_at_call 59; refine (HNA.out A).mono ?_; rintro e w1 ⟨rfl, rfl⟩; rw [h1])
        | (go_at_call 95; refine (validId_any t.id _).mono ?_; rintro e w1 ⟨rfl, rfl⟩; rw [h2])
        | (go_at_call 166; refine (narrowing_any t.gs n c p _ HN.out HOK.out.gs (HL.out.below HB.out)).mono ?_; rintro e w1 ⟨rfl, hb⟩; have HB1 := Lib.hid (HB.out.trans (hb.mono HB.out.size)); clear hb))
      go_ret
      exact ⟨by rw [HF.out]; rfl, HB1.out⟩
/-- The root and the token in blocks. -/
structure VeB (root : List (BitVec 8)) (t : TokM) (q : Value) (W w : World) : Prop where
  root : BytesAt w W.heap.size 23 root
  tok : TokAt w (W.heap.size + 1) t q
  below : Below W.heap.size W w
  consts : Consts w
  starts : Starts w
theorem VeB.step {root : List (BitVec 8)} {t : TokM} {q : Value} {W w w' : World} (h : VeB root t q W w) (hb : Below w.heap.size w w') : VeB root t q W w' :=
  ⟨h.root.keep hb, h.tok.keep hb, h.below.trans (hb.mono h.below.size), consts_below h.consts hb, starts_below h.starts hb⟩
theorem infoKeyT (l : List (BitVec 8)) (h : l.length = 32) : (Tryd.prog.info? 23).map (·.size) = some (bytesV l).toArray.size :=
  (show (Tryd.prog.info? 23).map (·.size) = some 32 by kernel_rfl).trans (congrArg some (bytesV_size _ 32 h).symm)
theorem run_loadKeyT {ρ : Operand → Value} {o : Oper} {x : Operand} {w : World} {l : List (BitVec 8)} {b : Nat} (ho : o.op = .load 23 x) (hx : ρ x = .pointer (some ⟨b, 0, none⟩)) (hl : l.length = 32) (hr : BytesAt w b 23 l) : (execOp ρ o).run Tryd.prog w = .ok (.value (.agg (bytesV l).toArray)) w :=
  run_loadArr ho hx (N := 32) (by kernel_rfl) (infoKeyT l hl) hr.range
theorem verE_no {root : List (BitVec 8)} {t : TokM} (h : madeM t = false) : verE root t = 19 := by unfold verE; rw [h]; rfl
theorem verE_yes {root : List (BitVec 8)} {t : TokM} (h : madeM t = true) : verE root t = if t.mac = chainT root t.ten t.id t.gs then 0 else 19 := by unfold verE; rw [h]; simp
set_option maxRecDepth 100000 in
set_option maxHeartbeats 4000000 in
theorem verify_tok (root : List (BitVec 8)) (t : TokM) (n c : Nat) (p : Option Addr) (w : World) (hrl : root.length = 32) (hn : t.gs.length = n) (hok : t.Ok) (hL : GrantsAt w p t.gs) (hk : Consts w) (hs : Starts w) :
    Calls Tryd.prog 33 #[.agg (bytesV root).toArray, .agg (t.cells (.slice p n c)).toArray] w fun e w' => e = .returned (.int .i64 (verE root t)) ∧ Below w.heap.size w w' := by
  have HOK := Lib.hid hok
  have HL := Lib.hid hL
  have HN := Lib.hid hn
  have HRL := Lib.hid hrl
  have hn6 : n ≤ 1000 := by rw [← hn]; exact hok.few
  have HB0 : Hid (VeB root t (.slice p n c) w ((w.alloc (.cells (bytesV root).toArray 23)).alloc (.cells (t.cells (.slice p n c)).toArray 50))) := by
    have b1 := allocBelow w (.cells (bytesV root).toArray 23)
    have b2 := allocBelow (w.alloc (.cells (bytesV root).toArray 23)) (.cells (t.cells (.slice p n c)).toArray 50)
    have r1 : BytesAt (w.alloc (.cells (bytesV root).toArray 23)) w.heap.size 23 root := heap_new_at rfl
    have bb := b1.trans (b2.mono (by rw [size_alloc]; omega))
    exact ⟨r1.keep b2, heap_new_at (size_alloc _ _), bb, hk.below bb hk.size, range_keep hs bb⟩
  clear hok hL hn hk hs hrl
  obtain ⟨TC, hTC⟩ : ∃ TC, TC = (t.cells (.slice p n c)).toArray := ⟨_, rfl⟩
  obtain ⟨RC, hRC⟩ : ∃ RC, RC = (bytesV root).toArray := ⟨_, rfl⟩
  rw [← hTC, ← hRC] at HB0
  rw [← hTC, ← hRC]
  have HTC := Lib.hid hTC
  have HRC := Lib.hid hRC
  clear hTC hRC
  go_enter Tryd.func33, Tryd.ntmps33
  go_upto_region 1 with (fail)
  refine wp_gen (fun A => VeB root t (.slice p n c) w A) HB0.out ?_
  rintro A hA
  have HA := Lib.hid hA
  clear hA HB0
  cases hm : madeM t
  · have HV : Hid (verE root t = 19) := show _ = _ from verE_no hm
    refine region_grow (fun W => VeB root t (.slice p n c) w W) (fun i vz wz => match i with | 0 => vz = .agg (t.cells (.slice p n c)).toArray | 1 => vz = .bool false | 2 => vz = .bool true | 3 => vz = .bool true | 4 => vz = undef | 5 => vz = undef | 6 => vz = undef | 7 => vz = undef | 8 => vz = undef | 9 => vz = undef | 10 => vz = undef | _ => True) (by kernel_rfl) (by kernel_rfl) (by kernel_rfl) (by kernel_rfl) (by decide) (HA.out.step (Below.refl _ _).drew) ?_ ?_
    · skip
      intro i vz wz w2 hb hf
      match i, hf with
      | 0, hf => exact hf
      | 1, hf => exact hf
      | 2, hf => exact hf
      | 3, hf => exact hf
      | 4, hf => exact hf
      | 5, hf => exact hf
      | 6, hf => exact hf
      | 7, hf => exact hf
      | 8, hf => exact hf
      | 9, hf => exact hf
      | 10, hf => exact hf
      | _ + 11, _ => trivial
    intro ops hops
    have hf2 : ∀ (i : Nat) (o : Oper), ops[i]? = some o → o.dst ≠ some 2 := by rw [hops]; exact fun i o h => slot_free (by kernel_rfl) i o h
    have hf3 : ∀ (i : Nat) (o : Oper), ops[i]? = some o → o.dst ≠ some 3 := by rw [hops]; exact fun i o h => slot_free (by kernel_rfl) i o h
    have hns : ops.size = 12 := by rw [hops]; rfl
    obtain ⟨o0, po0, q0, d0, gd0⟩ : ∃ o, ops[0]? = some o ∧ o.op = .load 50 (.tmp 3) ∧ o.dst = some 5 ∧ o.guard = none := ⟨_, by rw [hops]; rfl, rfl, rfl, rfl⟩
    obtain ⟨o1, po1, q1, d1, gd1, dp1_0⟩ : ∃ o, ops[1]? = some o ∧ o.op = .call { callee := .value (.func 107), args := #[.tmp 5], argTypes := #[50] } ∧ o.dst = some 6 ∧ o.guard = none ∧ (o.after.any fun e => Region.binds .any e && decide (e.on = 0)) = true := ⟨_, by rw [hops]; rfl, rfl, rfl, rfl, by kernel_rfl⟩
    obtain ⟨o2, po2, q2, d2, gd2, dp2_1⟩ : ∃ o, ops[2]? = some o ∧ o.op = .unOp .not 4 (.tmp 6) ∧ o.dst = some 7 ∧ o.guard = none ∧ (o.after.any fun e => Region.binds .any e && decide (e.on = 1)) = true := ⟨_, by rw [hops]; rfl, rfl, rfl, rfl, by kernel_rfl⟩
    obtain ⟨o3, po3, q3, d3, gd3, dp3_2⟩ : ∃ o, ops[3]? = some o ∧ o.op = .move (.tmp 7) ∧ o.dst = some 8 ∧ o.guard = none ∧ (o.after.any fun e => Region.binds .any e && decide (e.on = 2)) = true := ⟨_, by rw [hops]; rfl, rfl, rfl, rfl, by kernel_rfl⟩
    obtain ⟨o4, po4, q4, d4, gd4, dp4_3⟩ : ∃ o, ops[4]? = some o ∧ o.op = .fieldAddr 50 (.tmp 3) 3 ∧ o.dst = some 9 ∧ o.guard = some (3, false) ∧ (o.after.any fun e => Region.binds .any e && decide (e.on = 3)) = true := ⟨_, by rw [hops]; rfl, rfl, rfl, rfl, by kernel_rfl⟩
    obtain ⟨o5, po5, q5, d5, gd5, dp5_4, dp5_3⟩ : ∃ o, ops[5]? = some o ∧ o.op = .load 48 (.tmp 9) ∧ o.dst = some 10 ∧ o.guard = some (3, false) ∧ (o.after.any fun e => Region.binds .any e && decide (e.on = 4)) = true ∧ (o.after.any fun e => Region.binds .any e && decide (e.on = 3)) = true := ⟨_, by rw [hops]; rfl, rfl, rfl, rfl, by kernel_rfl, by kernel_rfl⟩
    obtain ⟨o6, po6, q6, d6, gd6, dp6_3⟩ : ∃ o, ops[6]? = some o ∧ o.op = .load 23 (.tmp 2) ∧ o.dst = some 11 ∧ o.guard = some (3, false) ∧ (o.after.any fun e => Region.binds .any e && decide (e.on = 3)) = true := ⟨_, by rw [hops]; rfl, rfl, rfl, rfl, by kernel_rfl⟩
    obtain ⟨o7, po7, q7, d7, gd7, dp7_3⟩ : ∃ o, ops[7]? = some o ∧ o.op = .load 50 (.tmp 3) ∧ o.dst = some 12 ∧ o.guard = some (3, false) ∧ (o.after.any fun e => Region.binds .any e && decide (e.on = 3)) = true := ⟨_, by rw [hops]; rfl, rfl, rfl, rfl, by kernel_rfl⟩
    obtain ⟨o8, po8, q8, d8, gd8, dp8_6, dp8_7, dp8_3⟩ : ∃ o, ops[8]? = some o ∧ o.op = .call { callee := .value (.func 98), args := #[.tmp 11, .tmp 12], argTypes := #[23, 50] } ∧ o.dst = some 13 ∧ o.guard = some (3, false) ∧ (o.after.any fun e => Region.binds .any e && decide (e.on = 6)) = true ∧ (o.after.any fun e => Region.binds .any e && decide (e.on = 7)) = true ∧ (o.after.any fun e => Region.binds .any e && decide (e.on = 3)) = true := ⟨_, by rw [hops]; rfl, rfl, rfl, rfl, by kernel_rfl, by kernel_rfl, by kernel_rfl⟩
    obtain ⟨o9, po9, q9, d9, gd9, dp9_5, dp9_8, dp9_3⟩ : ∃ o, ops[9]? = some o ∧ o.op = .call { callee := .value (.func 108), args := #[.tmp 10, .tmp 13], argTypes := #[48, 48] } ∧ o.dst = some 14 ∧ o.guard = some (3, false) ∧ (o.after.any fun e => Region.binds .any e && decide (e.on = 5)) = true ∧ (o.after.any fun e => Region.binds .any e && decide (e.on = 8)) = true ∧ (o.after.any fun e => Region.binds .any e && decide (e.on = 3)) = true := ⟨_, by rw [hops]; rfl, rfl, rfl, rfl, by kernel_rfl, by kernel_rfl, by kernel_rfl⟩
    obtain ⟨o10, po10, q10, d10, gd10, dp10_9, dp10_3⟩ : ∃ o, ops[10]? = some o ∧ o.op = .unOp .not 4 (.tmp 14) ∧ o.dst = some 15 ∧ o.guard = some (3, false) ∧ (o.after.any fun e => Region.binds .any e && decide (e.on = 9)) = true ∧ (o.after.any fun e => Region.binds .any e && decide (e.on = 3)) = true := ⟨_, by rw [hops]; rfl, rfl, rfl, rfl, by kernel_rfl, by kernel_rfl⟩
    obtain ⟨o11, po11, q11, d11, gd11⟩ : ∃ o, ops[11]? = some o ∧ o.op = .pick (.tmp 8) (.const (.bool true)) (.tmp 15) ∧ o.dst = some 16 ∧ o.guard = none := ⟨_, by rw [hops]; rfl, rfl, rfl, rfl⟩
    have hslots : ∀ t, t ∉ [5, 6, 7, 8, 9, 10, 11, 12, 13, 14, 15, 16] → ∀ (i : Nat) (o : Oper), ops[i]? = some o → o.dst ≠ some t := by rw [hops]; exact fun t ht i o h => slots_free (by kernel_rfl) t ht i o h
    clear hops
    refine ⟨fun A W HS hfr hAs i o hi ho hdep => ?_, fun A W HS hdf hAs hfr hall => ?_⟩
    · skip
      have base2 : A.eval (.tmp 2) = .pointer (some ⟨w.heap.size, 0, none⟩) := (hfr 2 hf2).trans rfl
      have base3 : A.eval (.tmp 3) = .pointer (some ⟨w.heap.size + 1, 0, none⟩) := (hfr 3 hf3).trans rfl
      rw [hns] at hi
      obtain rfl | rfl | rfl | rfl | rfl | rfl | rfl | rfl | rfl | rfl | rfl : i = 0 ∨ i = 1 ∨ i = 2 ∨ i = 3 ∨ i = 4 ∨ i = 5 ∨ i = 6 ∨ i = 7 ∨ i = 8 ∨ i = 9 ∨ i = 10 := by omega
      · skip
        obtain rfl : o = o0 := Option.some.inj (ho.symm.trans po0)
        refine at_op po0 d0 (wanted_of gd0) (run_loadBlk q0 base3 HS.tok tok_under (size_tok HOK.out.mac _)) ⟨_, by rw [d0], HS, Below.refl _ _, rfl⟩
      · skip
        obtain rfl : o = o1 := Option.some.inj (ho.symm.trans po1)
        have e0 : A.eval (.tmp 5) = .agg (t.cells (.slice p n c)).toArray := hdep 0 _ 5 dp1_0 po0 d0
        refine at_enterT po1 d1 (wanted_of gd1) (run_callf1 q1 rfl e0 Tryd.func107 (by kernel_rfl) _) (well_any t n c p W HN.out HOK.out (HL.out.below HS.below)) ?_
        rintro e w1 ⟨rfl, hb⟩
        exact ⟨_, rfl, ⟨_, by rw [d1], HS.step hb, hb, (show Value.bool _ = Value.bool _ by rw [hm])⟩⟩
      · skip
        obtain rfl : o = o2 := Option.some.inj (ho.symm.trans po2)
        have e1 : A.eval (.tmp 6) = .bool false := hdep 1 _ 6 dp2_1 po1 d1
        refine at_op po2 d2 (wanted_of gd2) (r_notF q2 e1 W) ⟨_, by rw [d2], HS, Below.refl _ _, rfl⟩
      · skip
        obtain rfl : o = o3 := Option.some.inj (ho.symm.trans po3)
        have e2 : A.eval (.tmp 7) = .bool true := hdep 2 _ 7 dp3_2 po2 d2
        refine at_op po3 d3 (wanted_of gd3) (run_move q3 e2 W) ⟨_, by rw [d3], HS, Below.refl _ _, rfl⟩
      · skip
        obtain rfl : o = o4 := Option.some.inj (ho.symm.trans po4)
        have e3 : A.eval (.tmp 8) = .bool true := hdep 3 _ 8 dp4_3 po3 d3
        refine at_unw po4 d4 (w_notFG gd4 po3 d3 e3) ⟨_, by rw [d4], HS, Below.refl _ _, rfl⟩
      · skip
        obtain rfl : o = o5 := Option.some.inj (ho.symm.trans po5)
        have e4 : A.eval (.tmp 9) = undef := hdep 4 _ 9 dp5_4 po4 d4
        have e3 : A.eval (.tmp 8) = .bool true := hdep 3 _ 8 dp5_3 po3 d3
        refine at_unw po5 d5 (w_notFG gd5 po3 d3 e3) ⟨_, by rw [d5], HS, Below.refl _ _, rfl⟩
      · skip
        obtain rfl : o = o6 := Option.some.inj (ho.symm.trans po6)
        have e3 : A.eval (.tmp 8) = .bool true := hdep 3 _ 8 dp6_3 po3 d3
        refine at_unw po6 d6 (w_notFG gd6 po3 d3 e3) ⟨_, by rw [d6], HS, Below.refl _ _, rfl⟩
      · skip
        obtain rfl : o = o7 := Option.some.inj (ho.symm.trans po7)
        have e3 : A.eval (.tmp 8) = .bool true := hdep 3 _ 8 dp7_3 po3 d3
        refine at_unw po7 d7 (w_notFG gd7 po3 d3 e3) ⟨_, by rw [d7], HS, Below.refl _ _, rfl⟩
      · skip
        obtain rfl : o = o8 := Option.some.inj (ho.symm.trans po8)
        have e6 : A.eval (.tmp 11) = undef := hdep 6 _ 11 dp8_6 po6 d6
        have e7 : A.eval (.tmp 12) = undef := hdep 7 _ 12 dp8_7 po7 d7
        have e3 : A.eval (.tmp 8) = .bool true := hdep 3 _ 8 dp8_3 po3 d3
        refine at_unw po8 d8 (w_notFG gd8 po3 d3 e3) ⟨_, by rw [d8], HS, Below.refl _ _, rfl⟩
      · skip
        obtain rfl : o = o9 := Option.some.inj (ho.symm.trans po9)
        have e5 : A.eval (.tmp 10) = undef := hdep 5 _ 10 dp9_5 po5 d5
        have e8 : A.eval (.tmp 13) = undef := hdep 8 _ 13 dp9_8 po8 d8
        have e3 : A.eval (.tmp 8) = .bool true := hdep 3 _ 8 dp9_3 po3 d3
        refine at_unw po9 d9 (w_notFG gd9 po3 d3 e3) ⟨_, by rw [d9], HS, Below.refl _ _, rfl⟩
      · skip
        obtain rfl : o = o10 := Option.some.inj (ho.symm.trans po10)
        have e9 : A.eval (.tmp 14) = undef := hdep 9 _ 14 dp10_9 po9 d9
        have e3 : A.eval (.tmp 8) = .bool true := hdep 3 _ 8 dp10_3 po3 d3
        refine at_unw po10 d10 (w_notFG gd10 po3 d3 e3) ⟨_, by rw [d10], HS, Below.refl _ _, rfl⟩
    have base2 : A.eval (.tmp 2) = .pointer (some ⟨w.heap.size, 0, none⟩) := (hfr 2 hf2).trans rfl
    have base3 : A.eval (.tmp 3) = .pointer (some ⟨w.heap.size + 1, 0, none⟩) := (hfr 3 hf3).trans rfl
    have e0 : A.eval (.tmp 5) = .agg (t.cells (.slice p n c)).toArray := hall 0 _ 5 (by rw [hns]; decide) po0 d0
    have e1 : A.eval (.tmp 6) = .bool false := hall 1 _ 6 (by rw [hns]; decide) po1 d1
    have e2 : A.eval (.tmp 7) = .bool true := hall 2 _ 7 (by rw [hns]; decide) po2 d2
    have e3 : A.eval (.tmp 8) = .bool true := hall 3 _ 8 (by rw [hns]; decide) po3 d3
    have e4 : A.eval (.tmp 9) = undef := hall 4 _ 9 (by rw [hns]; decide) po4 d4
    have e5 : A.eval (.tmp 10) = undef := hall 5 _ 10 (by rw [hns]; decide) po5 d5
    have e6 : A.eval (.tmp 11) = undef := hall 6 _ 11 (by rw [hns]; decide) po6 d6
    have e7 : A.eval (.tmp 12) = undef := hall 7 _ 12 (by rw [hns]; decide) po7 d7
    have e8 : A.eval (.tmp 13) = undef := hall 8 _ 13 (by rw [hns]; decide) po8 d8
    have e9 : A.eval (.tmp 14) = undef := hall 9 _ 14 (by rw [hns]; decide) po9 d9
    have e10 : A.eval (.tmp 15) = undef := hall 10 _ 15 (by rw [hns]; decide) po10 d10
    have hA := act_of_slots [5, 6, 7, 8, 9, 10, 11, 12, 13, 14, 15, 16] _ hAs hdf (fun t ht => hfr t (hslots t ht))
    simp only [List.foldl_cons, List.foldl_nil] at hA
    rw [show rdA A 5 = A.eval (.tmp 5) from rfl, e0] at hA
    rw [show rdA A 6 = A.eval (.tmp 6) from rfl, e1] at hA
    rw [show rdA A 7 = A.eval (.tmp 7) from rfl, e2] at hA
    rw [show rdA A 8 = A.eval (.tmp 8) from rfl, e3] at hA
    rw [show rdA A 9 = A.eval (.tmp 9) from rfl, e4] at hA
    rw [show rdA A 10 = A.eval (.tmp 10) from rfl, e5] at hA
    rw [show rdA A 11 = A.eval (.tmp 11) from rfl, e6] at hA
    rw [show rdA A 12 = A.eval (.tmp 12) from rfl, e7] at hA
    rw [show rdA A 13 = A.eval (.tmp 13) from rfl, e8] at hA
    rw [show rdA A 14 = A.eval (.tmp 14) from rfl, e9] at hA
    rw [show rdA A 15 = A.eval (.tmp 15) from rfl, e10] at hA
    obtain ⟨ul, hul⟩ : ∃ u, rdA A 16 = u := ⟨_, rfl⟩
    rw [hul] at hA
    clear hul
    rw [hns]
    have HSF := Lib.hid HS.below
    refine at_op po11 d11 (wanted_of gd11) (run_pick_true (v := .bool true) q11 e3 rfl W) ?_
    clear hall hdf hAs hfr hslots hns hf2 hf3 po0 q0 d0 gd0 po1 q1 d1 gd1 dp1_0 po2 q2 d2 gd2 dp2_1 po3 q3 d3 gd3 dp3_2 po4 q4 d4 gd4 dp4_3 po5 q5 d5 gd5 dp5_4 dp5_3 po6 q6 d6 gd6 dp6_3 po7 q7 d7 gd7 dp7_3 po8 q8 d8 gd8 dp8_6 dp8_7 dp8_3 po9 q9 d9 gd9 dp9_5 dp9_8 dp9_3 po10 q10 d10 gd10 dp10_9 dp10_3 po11 q11 d11 gd11 base2 base3
    have HA9 := Lib.hid hA
    clear hA HS HA e0 e1 e2 e3 e4 e5 e6 e7 e8 e9 e10
    rw [HA9.out]
    go_frame
    clear HA9
    go_wp2_with fail
    go_ret
    exact ⟨by rw [HV.out]; rfl, HSF.out⟩
  · by_cases hc : t.mac = chainT root t.ten t.id t.gs
    · have HV : Hid (verE root t = 0) := show _ = _ by rw [verE_yes hm, if_pos hc]
      have hsm : sameB t.mac (chainT root t.ten t.id t.gs) = true := by unfold sameB; exact decide_eq_true hc
      refine region_grow (fun W => VeB root t (.slice p n c) w W) (fun i vz wz => match i with | 0 => vz = .agg (t.cells (.slice p n c)).toArray | 1 => vz = .bool true | 2 => vz = .bool false | 3 => vz = .bool false | 4 => vz = .pointer (some ⟨w.heap.size + 1, 3, none⟩) | 5 => vz = .agg (bytesV t.mac).toArray | 6 => vz = .agg (bytesV root).toArray | 7 => vz = .agg (t.cells (.slice p n c)).toArray | 8 => vz = .agg (bytesV (chainT root t.ten t.id t.gs)).toArray | 9 => vz = .bool true | 10 => vz = .bool false | _ => True) (by kernel_rfl) (by kernel_rfl) (by kernel_rfl) (by kernel_rfl) (by decide) (HA.out.step (Below.refl _ _).drew) ?_ ?_
      · skip
        intro i vz wz w2 hb hf
        match i, hf with
        | 0, hf => exact hf
        | 1, hf => exact hf
        | 2, hf => exact hf
        | 3, hf => exact hf
        | 4, hf => exact hf
        | 5, hf => exact hf
        | 6, hf => exact hf
        | 7, hf => exact hf
        | 8, hf => exact hf
        | 9, hf => exact hf
        | 10, hf => exact hf
        | _ + 11, _ => trivial
      intro ops hops
      have hf2 : ∀ (i : Nat) (o : Oper), ops[i]? = some o → o.dst ≠ some 2 := by rw [hops]; exact fun i o h => slot_free (by kernel_rfl) i o h
      have hf3 : ∀ (i : Nat) (o : Oper), ops[i]? = some o → o.dst ≠ some 3 := by rw [hops]; exact fun i o h => slot_free (by kernel_rfl) i o h
      have hns : ops.size = 12 := by rw [hops]; rfl
      obtain ⟨o0, po0, q0, d0, gd0⟩ : ∃ o, ops[0]? = some o ∧ o.op = .load 50 (.tmp 3) ∧ o.dst = some 5 ∧ o.guard = none := ⟨_, by rw [hops]; rfl, rfl, rfl, rfl⟩
      obtain ⟨o1, po1, q1, d1, gd1, dp1_0⟩ : ∃ o, ops[1]? = some o ∧ o.op = .call { callee := .value (.func 107), args := #[.tmp 5], argTypes := #[50] } ∧ o.dst = some 6 ∧ o.guard = none ∧ (o.after.any fun e => Region.binds .any e && decide (e.on = 0)) = true := ⟨_, by rw [hops]; rfl, rfl, rfl, rfl, by kernel_rfl⟩
      obtain ⟨o2, po2, q2, d2, gd2, dp2_1⟩ : ∃ o, ops[2]? = some o ∧ o.op = .unOp .not 4 (.tmp 6) ∧ o.dst = some 7 ∧ o.guard = none ∧ (o.after.any fun e => Region.binds .any e && decide (e.on = 1)) = true := ⟨_, by rw [hops]; rfl, rfl, rfl, rfl, by kernel_rfl⟩
      obtain ⟨o3, po3, q3, d3, gd3, dp3_2⟩ : ∃ o, ops[3]? = some o ∧ o.op = .move (.tmp 7) ∧ o.dst = some 8 ∧ o.guard = none ∧ (o.after.any fun e => Region.binds .any e && decide (e.on = 2)) = true := ⟨_, by rw [hops]; rfl, rfl, rfl, rfl, by kernel_rfl⟩
      obtain ⟨o4, po4, q4, d4, gd4, dp4_3⟩ : ∃ o, ops[4]? = some o ∧ o.op = .fieldAddr 50 (.tmp 3) 3 ∧ o.dst = some 9 ∧ o.guard = some (3, false) ∧ (o.after.any fun e => Region.binds .any e && decide (e.on = 3)) = true := ⟨_, by rw [hops]; rfl, rfl, rfl, rfl, by kernel_rfl⟩
      obtain ⟨o5, po5, q5, d5, gd5, dp5_4, dp5_3⟩ : ∃ o, ops[5]? = some o ∧ o.op = .load 48 (.tmp 9) ∧ o.dst = some 10 ∧ o.guard = some (3, false) ∧ (o.after.any fun e => Region.binds .any e && decide (e.on = 4)) = true ∧ (o.after.any fun e => Region.binds .any e && decide (e.on = 3)) = true := ⟨_, by rw [hops]; rfl, rfl, rfl, rfl, by kernel_rfl, by kernel_rfl⟩
      obtain ⟨o6, po6, q6, d6, gd6, dp6_3⟩ : ∃ o, ops[6]? = some o ∧ o.op = .load 23 (.tmp 2) ∧ o.dst = some 11 ∧ o.guard = some (3, false) ∧ (o.after.any fun e => Region.binds .any e && decide (e.on = 3)) = true := ⟨_, by rw [hops]; rfl, rfl, rfl, rfl, by kernel_rfl⟩
      obtain ⟨o7, po7, q7, d7, gd7, dp7_3⟩ : ∃ o, ops[7]? = some o ∧ o.op = .load 50 (.tmp 3) ∧ o.dst = some 12 ∧ o.guard = some (3, false) ∧ (o.after.any fun e => Region.binds .any e && decide (e.on = 3)) = true := ⟨_, by rw [hops]; rfl, rfl, rfl, rfl, by kernel_rfl⟩
      obtain ⟨o8, po8, q8, d8, gd8, dp8_6, dp8_7, dp8_3⟩ : ∃ o, ops[8]? = some o ∧ o.op = .call { callee := .value (.func 98), args := #[.tmp 11, .tmp 12], argTypes := #[23, 50] } ∧ o.dst = some 13 ∧ o.guard = some (3, false) ∧ (o.after.any fun e => Region.binds .any e && decide (e.on = 6)) = true ∧ (o.after.any fun e => Region.binds .any e && decide (e.on = 7)) = true ∧ (o.after.any fun e => Region.binds .any e && decide (e.on = 3)) = true := ⟨_, by rw [hops]; rfl, rfl, rfl, rfl, by kernel_rfl, by kernel_rfl, by kernel_rfl⟩
      obtain ⟨o9, po9, q9, d9, gd9, dp9_5, dp9_8, dp9_3⟩ : ∃ o, ops[9]? = some o ∧ o.op = .call { callee := .value (.func 108), args := #[.tmp 10, .tmp 13], argTypes := #[48, 48] } ∧ o.dst = some 14 ∧ o.guard = some (3, false) ∧ (o.after.any fun e => Region.binds .any e && decide (e.on = 5)) = true ∧ (o.after.any fun e => Region.binds .any e && decide (e.on = 8)) = true ∧ (o.after.any fun e => Region.binds .any e && decide (e.on = 3)) = true := ⟨_, by rw [hops]; rfl, rfl, rfl, rfl, by kernel_rfl, by kernel_rfl, by kernel_rfl⟩
      obtain ⟨o10, po10, q10, d10, gd10, dp10_9, dp10_3⟩ : ∃ o, ops[10]? = some o ∧ o.op = .unOp .not 4 (.tmp 14) ∧ o.dst = some 15 ∧ o.guard = some (3, false) ∧ (o.after.any fun e => Region.binds .any e && decide (e.on = 9)) = true ∧ (o.after.any fun e => Region.binds .any e && decide (e.on = 3)) = true := ⟨_, by rw [hops]; rfl, rfl, rfl, rfl, by kernel_rfl, by kernel_rfl⟩
      obtain ⟨o11, po11, q11, d11, gd11⟩ : ∃ o, ops[11]? = some o ∧ o.op = .pick (.tmp 8) (.const (.bool true)) (.tmp 15) ∧ o.dst = some 16 ∧ o.guard = none := ⟨_, by rw [hops]; rfl, rfl, rfl, rfl⟩
      have hslots : ∀ t, t ∉ [5, 6, 7, 8, 9, 10, 11, 12, 13, 14, 15, 16] → ∀ (i : Nat) (o : Oper), ops[i]? = some o → o.dst ≠ some t := by rw [hops]; exact fun t ht i o h => slots_free (by kernel_rfl) t ht i o h
      clear hops
      refine ⟨fun A W HS hfr hAs i o hi ho hdep => ?_, fun A W HS hdf hAs hfr hall => ?_⟩
      · skip
        have base2 : A.eval (.tmp 2) = .pointer (some ⟨w.heap.size, 0, none⟩) := (hfr 2 hf2).trans rfl
        have base3 : A.eval (.tmp 3) = .pointer (some ⟨w.heap.size + 1, 0, none⟩) := (hfr 3 hf3).trans rfl
        rw [hns] at hi
        obtain rfl | rfl | rfl | rfl | rfl | rfl | rfl | rfl | rfl | rfl | rfl : i = 0 ∨ i = 1 ∨ i = 2 ∨ i = 3 ∨ i = 4 ∨ i = 5 ∨ i = 6 ∨ i = 7 ∨ i = 8 ∨ i = 9 ∨ i = 10 := by omega
        · skip
          obtain rfl : o = o0 := Option.some.inj (ho.symm.trans po0)
          refine at_op po0 d0 (wanted_of gd0) (run_loadBlk q0 base3 HS.tok tok_under (size_tok HOK.out.mac _)) ⟨_, by rw [d0], HS, Below.refl _ _, rfl⟩
        · skip
          obtain rfl : o = o1 := Option.some.inj (ho.symm.trans po1)
          have e0 : A.eval (.tmp 5) = .agg (t.cells (.slice p n c)).toArray := hdep 0 _ 5 dp1_0 po0 d0
          refine at_enterT po1 d1 (wanted_of gd1) (run_callf1 q1 rfl e0 Tryd.func107 (by kernel_rfl) _) (well_any t n c p W HN.out HOK.out (HL.out.below HS.below)) ?_
          rintro e w1 ⟨rfl, hb⟩
          exact ⟨_, rfl, ⟨_, by rw [d1], HS.step hb, hb, (show Value.bool _ = Value.bool _ by rw [hm])⟩⟩
        · skip
          obtain rfl : o = o2 := Option.some.inj (ho.symm.trans po2)
          have e1 : A.eval (.tmp 6) = .bool true := hdep 1 _ 6 dp2_1 po1 d1
          refine at_op po2 d2 (wanted_of gd2) (r_notT q2 e1 W) ⟨_, by rw [d2], HS, Below.refl _ _, rfl⟩
        · skip
          obtain rfl : o = o3 := Option.some.inj (ho.symm.trans po3)
          have e2 : A.eval (.tmp 7) = .bool false := hdep 2 _ 7 dp3_2 po2 d2
          refine at_op po3 d3 (wanted_of gd3) (run_move q3 e2 W) ⟨_, by rw [d3], HS, Below.refl _ _, rfl⟩
        · skip
          obtain rfl : o = o4 := Option.some.inj (ho.symm.trans po4)
          have e3 : A.eval (.tmp 8) = .bool false := hdep 3 _ 8 dp4_3 po3 d3
          refine at_op po4 d4 (w_false gd4 po3 d3 e3) (run_fieldT (off := 3) q4 (fun _ => by kernel_rfl) base3 W) ⟨_, by rw [d4], HS, Below.refl _ _, rfl⟩
        · skip
          obtain rfl : o = o5 := Option.some.inj (ho.symm.trans po5)
          have e4 : A.eval (.tmp 9) = .pointer (some ⟨w.heap.size + 1, 3, none⟩) := hdep 4 _ 9 dp5_4 po4 d4
          have e3 : A.eval (.tmp 8) = .bool false := hdep 3 _ 8 dp5_3 po3 d3
          refine at_op po5 d5 (w_false gd5 po3 d3 e3) (run_loadMac q5 e4 HOK.out.mac HS.tok.mac) ⟨_, by rw [d5], HS, Below.refl _ _, rfl⟩
        · skip
          obtain rfl : o = o6 := Option.some.inj (ho.symm.trans po6)
          have e3 : A.eval (.tmp 8) = .bool false := hdep 3 _ 8 dp6_3 po3 d3
          refine at_op po6 d6 (w_false gd6 po3 d3 e3) (run_loadKeyT q6 base2 HRL.out HS.root) ⟨_, by rw [d6], HS, Below.refl _ _, rfl⟩
        · skip
          obtain rfl : o = o7 := Option.some.inj (ho.symm.trans po7)
          have e3 : A.eval (.tmp 8) = .bool false := hdep 3 _ 8 dp7_3 po3 d3
          refine at_op po7 d7 (w_false gd7 po3 d3 e3) (run_loadBlk q7 base3 HS.tok tok_under (size_tok HOK.out.mac _)) ⟨_, by rw [d7], HS, Below.refl _ _, rfl⟩
        · skip
          obtain rfl : o = o8 := Option.some.inj (ho.symm.trans po8)
          have e6 : A.eval (.tmp 11) = .agg (bytesV root).toArray := hdep 6 _ 11 dp8_6 po6 d6
          have e7 : A.eval (.tmp 12) = .agg (t.cells (.slice p n c)).toArray := hdep 7 _ 12 dp8_7 po7 d7
          have e3 : A.eval (.tmp 8) = .bool false := hdep 3 _ 8 dp8_3 po3 d3
          refine at_enterT po8 d8 (w_false gd8 po3 d3 e3) (run_callf2 q8 rfl e6 e7 Tryd.func98 (by kernel_rfl) _) (chain_tok root t n c p W HRL.out HOK.out.mac HN.out (by omega) HOK.out.ten (fun x hx => (HOK.out.gs x hx).1) (HL.out.below HS.below) HS.consts HS.starts) ?_
          rintro e w1 ⟨rfl, hb⟩
          exact ⟨_, rfl, ⟨_, by rw [d8], HS.step hb, hb, rfl⟩⟩
        · skip
          obtain rfl : o = o9 := Option.some.inj (ho.symm.trans po9)
          have e5 : A.eval (.tmp 10) = .agg (bytesV t.mac).toArray := hdep 5 _ 10 dp9_5 po5 d5
          have e8 : A.eval (.tmp 13) = .agg (bytesV (chainT root t.ten t.id t.gs)).toArray := hdep 8 _ 13 dp9_8 po8 d8
          have e3 : A.eval (.tmp 8) = .bool false := hdep 3 _ 8 dp9_3 po3 d3
          refine at_enterT po9 d9 (w_false gd9 po3 d3 e3) (run_callf2 q9 rfl e5 e8 Tryd.func108 (by kernel_rfl) _) (macSame_any t.mac (chainT root t.ten t.id t.gs) W HOK.out.mac (chainT_length _ _ _ _)) ?_
          rintro e w1 ⟨rfl, hb⟩
          exact ⟨_, rfl, ⟨_, by rw [d9], HS.step hb, hb, (show Value.bool _ = Value.bool _ by rw [hsm])⟩⟩
        · skip
          obtain rfl : o = o10 := Option.some.inj (ho.symm.trans po10)
          have e9 : A.eval (.tmp 14) = .bool true := hdep 9 _ 14 dp10_9 po9 d9
          have e3 : A.eval (.tmp 8) = .bool false := hdep 3 _ 8 dp10_3 po3 d3
          refine at_op po10 d10 (w_false gd10 po3 d3 e3) (r_notT q10 e9 W) ⟨_, by rw [d10], HS, Below.refl _ _, rfl⟩
      have base2 : A.eval (.tmp 2) = .pointer (some ⟨w.heap.size, 0, none⟩) := (hfr 2 hf2).trans rfl
      have base3 : A.eval (.tmp 3) = .pointer (some ⟨w.heap.size + 1, 0, none⟩) := (hfr 3 hf3).trans rfl
      have e0 : A.eval (.tmp 5) = .agg (t.cells (.slice p n c)).toArray := hall 0 _ 5 (by rw [hns]; decide) po0 d0
      have e1 : A.eval (.tmp 6) = .bool true := hall 1 _ 6 (by rw [hns]; decide) po1 d1
      have e2 : A.eval (.tmp 7) = .bool false := hall 2 _ 7 (by rw [hns]; decide) po2 d2
      have e3 : A.eval (.tmp 8) = .bool false := hall 3 _ 8 (by rw [hns]; decide) po3 d3
      have e4 : A.eval (.tmp 9) = .pointer (some ⟨w.heap.size + 1, 3, none⟩) := hall 4 _ 9 (by rw [hns]; decide) po4 d4
      have e5 : A.eval (.tmp 10) = .agg (bytesV t.mac).toArray := hall 5 _ 10 (by rw [hns]; decide) po5 d5
      have e6 : A.eval (.tmp 11) = .agg (bytesV root).toArray := hall 6 _ 11 (by rw [hns]; decide) po6 d6
      have e7 : A.eval (.tmp 12) = .agg (t.cells (.slice p n c)).toArray := hall 7 _ 12 (by rw [hns]; decide) po7 d7
      have e8 : A.eval (.tmp 13) = .agg (bytesV (chainT root t.ten t.id t.gs)).toArray := hall 8 _ 13 (by rw [hns]; decide) po8 d8
      have e9 : A.eval (.tmp 14) = .bool true := hall 9 _ 14 (by rw [hns]; decide) po9 d9
      have e10 : A.eval (.tmp 15) = .bool false := hall 10 _ 15 (by rw [hns]; decide) po10 d10
      have hA := act_of_slots [5, 6, 7, 8, 9, 10, 11, 12, 13, 14, 15, 16] _ hAs hdf (fun t ht => hfr t (hslots t ht))
      simp only [List.foldl_cons, List.foldl_nil] at hA
      rw [show rdA A 5 = A.eval (.tmp 5) from rfl, e0] at hA
      rw [show rdA A 6 = A.eval (.tmp 6) from rfl, e1] at hA
      rw [show rdA A 7 = A.eval (.tmp 7) from rfl, e2] at hA
      rw [show rdA A 8 = A.eval (.tmp 8) from rfl, e3] at hA
      rw [show rdA A 9 = A.eval (.tmp 9) from rfl, e4] at hA
      rw [show rdA A 10 = A.eval (.tmp 10) from rfl, e5] at hA
      rw [show rdA A 11 = A.eval (.tmp 11) from rfl, e6] at hA
      rw [show rdA A 12 = A.eval (.tmp 12) from rfl, e7] at hA
      rw [show rdA A 13 = A.eval (.tmp 13) from rfl, e8] at hA
      rw [show rdA A 14 = A.eval (.tmp 14) from rfl, e9] at hA
      rw [show rdA A 15 = A.eval (.tmp 15) from rfl, e10] at hA
      obtain ⟨ul, hul⟩ : ∃ u, rdA A 16 = u := ⟨_, rfl⟩
      rw [hul] at hA
      clear hul
      rw [hns]
      have HSF := Lib.hid HS.below
      refine at_op po11 d11 (wanted_of gd11) (r_pickF q11 e3 e10 W) ?_
      clear hall hdf hAs hfr hslots hns hf2 hf3 po0 q0 d0 gd0 po1 q1 d1 gd1 dp1_0 po2 q2 d2 gd2 dp2_1 po3 q3 d3 gd3 dp3_2 po4 q4 d4 gd4 dp4_3 po5 q5 d5 gd5 dp5_4 dp5_3 po6 q6 d6 gd6 dp6_3 po7 q7 d7 gd7 dp7_3 po8 q8 d8 gd8 dp8_6 dp8_7 dp8_3 po9 q9 d9 gd9 dp9_5 dp9_8 dp9_3 po10 q10 d10 gd10 dp10_9 dp10_3 po11 q11 d11 gd11 base2 base3
      have HA9 := Lib.hid hA
      clear hA HS HA e0 e1 e2 e3 e4 e5 e6 e7 e8 e9 e10
      rw [HA9.out]
      go_frame
      clear HA9
      go_wp2_with fail
      go_ret
      exact ⟨by rw [HV.out]; rfl, HSF.out⟩
    · have HV : Hid (verE root t = 19) := show _ = _ by rw [verE_yes hm, if_neg hc]
      have hsm : sameB t.mac (chainT root t.ten t.id t.gs) = false := by unfold sameB; exact decide_eq_false hc
      refine region_grow (fun W => VeB root t (.slice p n c) w W) (fun i vz wz => match i with | 0 => vz = .agg (t.cells (.slice p n c)).toArray | 1 => vz = .bool true | 2 => vz = .bool false | 3 => vz = .bool false | 4 => vz = .pointer (some ⟨w.heap.size + 1, 3, none⟩) | 5 => vz = .agg (bytesV t.mac).toArray | 6 => vz = .agg (bytesV root).toArray | 7 => vz = .agg (t.cells (.slice p n c)).toArray | 8 => vz = .agg (bytesV (chainT root t.ten t.id t.gs)).toArray | 9 => vz = .bool false | 10 => vz = .bool true | _ => True) (by kernel_rfl) (by kernel_rfl) (by kernel_rfl) (by kernel_rfl) (by decide) (HA.out.step (Below.refl _ _).drew) ?_ ?_
      · skip
        intro i vz wz w2 hb hf
        match i, hf with
        | 0, hf => exact hf
        | 1, hf => exact hf
        | 2, hf => exact hf
        | 3, hf => exact hf
        | 4, hf => exact hf
        | 5, hf => exact hf
        | 6, hf => exact hf
        | 7, hf => exact hf
        | 8, hf => exact hf
        | 9, hf => exact hf
        | 10, hf => exact hf
        | _ + 11, _ => trivial
      intro ops hops
      have hf2 : ∀ (i : Nat) (o : Oper), ops[i]? = some o → o.dst ≠ some 2 := by rw [hops]; exact fun i o h => slot_free (by kernel_rfl) i o h
      have hf3 : ∀ (i : Nat) (o : Oper), ops[i]? = some o → o.dst ≠ some 3 := by rw [hops]; exact fun i o h => slot_free (by kernel_rfl) i o h
      have hns : ops.size = 12 := by rw [hops]; rfl
      obtain ⟨o0, po0, q0, d0, gd0⟩ : ∃ o, ops[0]? = some o ∧ o.op = .load 50 (.tmp 3) ∧ o.dst = some 5 ∧ o.guard = none := ⟨_, by rw [hops]; rfl, rfl, rfl, rfl⟩
      obtain ⟨o1, po1, q1, d1, gd1, dp1_0⟩ : ∃ o, ops[1]? = some o ∧ o.op = .call { callee := .value (.func 107), args := #[.tmp 5], argTypes := #[50] } ∧ o.dst = some 6 ∧ o.guard = none ∧ (o.after.any fun e => Region.binds .any e && decide (e.on = 0)) = true := ⟨_, by rw [hops]; rfl, rfl, rfl, rfl, by kernel_rfl⟩
      obtain ⟨o2, po2, q2, d2, gd2, dp2_1⟩ : ∃ o, ops[2]? = some o ∧ o.op = .unOp .not 4 (.tmp 6) ∧ o.dst = some 7 ∧ o.guard = none ∧ (o.after.any fun e => Region.binds .any e && decide (e.on = 1)) = true := ⟨_, by rw [hops]; rfl, rfl, rfl, rfl, by kernel_rfl⟩
      obtain ⟨o3, po3, q3, d3, gd3, dp3_2⟩ : ∃ o, ops[3]? = some o ∧ o.op = .move (.tmp 7) ∧ o.dst = some 8 ∧ o.guard = none ∧ (o.after.any fun e => Region.binds .any e && decide (e.on = 2)) = true := ⟨_, by rw [hops]; rfl, rfl, rfl, rfl, by kernel_rfl⟩
      obtain ⟨o4, po4, q4, d4, gd4, dp4_3⟩ : ∃ o, ops[4]? = some o ∧ o.op = .fieldAddr 50 (.tmp 3) 3 ∧ o.dst = some 9 ∧ o.guard = some (3, false) ∧ (o.after.any fun e => Region.binds .any e && decide (e.on = 3)) = true := ⟨_, by rw [hops]; rfl, rfl, rfl, rfl, by kernel_rfl⟩
      obtain ⟨o5, po5, q5, d5, gd5, dp5_4, dp5_3⟩ : ∃ o, ops[5]? = some o ∧ o.op = .load 48 (.tmp 9) ∧ o.dst = some 10 ∧ o.guard = some (3, false) ∧ (o.after.any fun e => Region.binds .any e && decide (e.on = 4)) = true ∧ (o.after.any fun e => Region.binds .any e && decide (e.on = 3)) = true := ⟨_, by rw [hops]; rfl, rfl, rfl, rfl, by kernel_rfl, by kernel_rfl⟩
      obtain ⟨o6, po6, q6, d6, gd6, dp6_3⟩ : ∃ o, ops[6]? = some o ∧ o.op = .load 23 (.tmp 2) ∧ o.dst = some 11 ∧ o.guard = some (3, false) ∧ (o.after.any fun e => Region.binds .any e && decide (e.on = 3)) = true := ⟨_, by rw [hops]; rfl, rfl, rfl, rfl, by kernel_rfl⟩
      obtain ⟨o7, po7, q7, d7, gd7, dp7_3⟩ : ∃ o, ops[7]? = some o ∧ o.op = .load 50 (.tmp 3) ∧ o.dst = some 12 ∧ o.guard = some (3, false) ∧ (o.after.any fun e => Region.binds .any e && decide (e.on = 3)) = true := ⟨_, by rw [hops]; rfl, rfl, rfl, rfl, by kernel_rfl⟩
      obtain ⟨o8, po8, q8, d8, gd8, dp8_6, dp8_7, dp8_3⟩ : ∃ o, ops[8]? = some o ∧ o.op = .call { callee := .value (.func 98), args := #[.tmp 11, .tmp 12], argTypes := #[23, 50] } ∧ o.dst = some 13 ∧ o.guard = some (3, false) ∧ (o.after.any fun e => Region.binds .any e && decide (e.on = 6)) = true ∧ (o.after.any fun e => Region.binds .any e && decide (e.on = 7)) = true ∧ (o.after.any fun e => Region.binds .any e && decide (e.on = 3)) = true := ⟨_, by rw [hops]; rfl, rfl, rfl, rfl, by kernel_rfl, by kernel_rfl, by kernel_rfl⟩
      obtain ⟨o9, po9, q9, d9, gd9, dp9_5, dp9_8, dp9_3⟩ : ∃ o, ops[9]? = some o ∧ o.op = .call { callee := .value (.func 108), args := #[.tmp 10, .tmp 13], argTypes := #[48, 48] } ∧ o.dst = some 14 ∧ o.guard = some (3, false) ∧ (o.after.any fun e => Region.binds .any e && decide (e.on = 5)) = true ∧ (o.after.any fun e => Region.binds .any e && decide (e.on = 8)) = true ∧ (o.after.any fun e => Region.binds .any e && decide (e.on = 3)) = true := ⟨_, by rw [hops]; rfl, rfl, rfl, rfl, by kernel_rfl, by kernel_rfl, by kernel_rfl⟩
      obtain ⟨o10, po10, q10, d10, gd10, dp10_9, dp10_3⟩ : ∃ o, ops[10]? = some o ∧ o.op = .unOp .not 4 (.tmp 14) ∧ o.dst = some 15 ∧ o.guard = some (3, false) ∧ (o.after.any fun e => Region.binds .any e && decide (e.on = 9)) = true ∧ (o.after.any fun e => Region.binds .any e && decide (e.on = 3)) = true := ⟨_, by rw [hops]; rfl, rfl, rfl, rfl, by kernel_rfl, by kernel_rfl⟩
      obtain ⟨o11, po11, q11, d11, gd11⟩ : ∃ o, ops[11]? = some o ∧ o.op = .pick (.tmp 8) (.const (.bool true)) (.tmp 15) ∧ o.dst = some 16 ∧ o.guard = none := ⟨_, by rw [hops]; rfl, rfl, rfl, rfl⟩
      have hslots : ∀ t, t ∉ [5, 6, 7, 8, 9, 10, 11, 12, 13, 14, 15, 16] → ∀ (i : Nat) (o : Oper), ops[i]? = some o → o.dst ≠ some t := by rw [hops]; exact fun t ht i o h => slots_free (by kernel_rfl) t ht i o h
      clear hops
      refine ⟨fun A W HS hfr hAs i o hi ho hdep => ?_, fun A W HS hdf hAs hfr hall => ?_⟩
      · skip
        have base2 : A.eval (.tmp 2) = .pointer (some ⟨w.heap.size, 0, none⟩) := (hfr 2 hf2).trans rfl
        have base3 : A.eval (.tmp 3) = .pointer (some ⟨w.heap.size + 1, 0, none⟩) := (hfr 3 hf3).trans rfl
        rw [hns] at hi
        obtain rfl | rfl | rfl | rfl | rfl | rfl | rfl | rfl | rfl | rfl | rfl : i = 0 ∨ i = 1 ∨ i = 2 ∨ i = 3 ∨ i = 4 ∨ i = 5 ∨ i = 6 ∨ i = 7 ∨ i = 8 ∨ i = 9 ∨ i = 10 := by omega
        · skip
          obtain rfl : o = o0 := Option.some.inj (ho.symm.trans po0)
          refine at_op po0 d0 (wanted_of gd0) (run_loadBlk q0 base3 HS.tok tok_under (size_tok HOK.out.mac _)) ⟨_, by rw [d0], HS, Below.refl _ _, rfl⟩
        · skip
          obtain rfl : o = o1 := Option.some.inj (ho.symm.trans po1)
          have e0 : A.eval (.tmp 5) = .agg (t.cells (.slice p n c)).toArray := hdep 0 _ 5 dp1_0 po0 d0
          refine at_enterT po1 d1 (wanted_of gd1) (run_callf1 q1 rfl e0 Tryd.func107 (by kernel_rfl) _) (well_any t n c p W HN.out HOK.out (HL.out.below HS.below)) ?_
          rintro e w1 ⟨rfl, hb⟩
          exact ⟨_, rfl, ⟨_, by rw [d1], HS.step hb, hb, (show Value.bool _ = Value.bool _ by rw [hm])⟩⟩
        · skip
          obtain rfl : o = o2 := Option.some.inj (ho.symm.trans po2)
          have e1 : A.eval (.tmp 6) = .bool true := hdep 1 _ 6 dp2_1 po1 d1
          refine at_op po2 d2 (wanted_of gd2) (r_notT q2 e1 W) ⟨_, by rw [d2], HS, Below.refl _ _, rfl⟩
        · skip
          obtain rfl : o = o3 := Option.some.inj (ho.symm.trans po3)
          have e2 : A.eval (.tmp 7) = .bool false := hdep 2 _ 7 dp3_2 po2 d2
          refine at_op po3 d3 (wanted_of gd3) (run_move q3 e2 W) ⟨_, by rw [d3], HS, Below.refl _ _, rfl⟩
        · skip
          obtain rfl : o = o4 := Option.some.inj (ho.symm.trans po4)
          have e3 : A.eval (.tmp 8) = .bool false := hdep 3 _ 8 dp4_3 po3 d3
          refine at_op po4 d4 (w_false gd4 po3 d3 e3) (run_fieldT (off := 3) q4 (fun _ => by kernel_rfl) base3 W) ⟨_, by rw [d4], HS, Below.refl _ _, rfl⟩
        · skip
          obtain rfl : o = o5 := Option.some.inj (ho.symm.trans po5)
          have e4 : A.eval (.tmp 9) = .pointer (some ⟨w.heap.size + 1, 3, none⟩) := hdep 4 _ 9 dp5_4 po4 d4
          have e3 : A.eval (.tmp 8) = .bool false := hdep 3 _ 8 dp5_3 po3 d3
          refine at_op po5 d5 (w_false gd5 po3 d3 e3) (run_loadMac q5 e4 HOK.out.mac HS.tok.mac) ⟨_, by rw [d5], HS, Below.refl _ _, rfl⟩
        · skip
          obtain rfl : o = o6 := Option.some.inj (ho.symm.trans po6)
          have e3 : A.eval (.tmp 8) = .bool false := hdep 3 _ 8 dp6_3 po3 d3
          refine at_op po6 d6 (w_false gd6 po3 d3 e3) (run_loadKeyT q6 base2 HRL.out HS.root) ⟨_, by rw [d6], HS, Below.refl _ _, rfl⟩
        · skip
          obtain rfl : o = o7 := Option.some.inj (ho.symm.trans po7)
          have e3 : A.eval (.tmp 8) = .bool false := hdep 3 _ 8 dp7_3 po3 d3
          refine at_op po7 d7 (w_false gd7 po3 d3 e3) (run_loadBlk q7 base3 HS.tok tok_under (size_tok HOK.out.mac _)) ⟨_, by rw [d7], HS, Below.refl _ _, rfl⟩
        · skip
          obtain rfl : o = o8 := Option.some.inj (ho.symm.trans po8)
          have e6 : A.eval (.tmp 11) = .agg (bytesV root).toArray := hdep 6 _ 11 dp8_6 po6 d6
          have e7 : A.eval (.tmp 12) = .agg (t.cells (.slice p n c)).toArray := hdep 7 _ 12 dp8_7 po7 d7
          have e3 : A.eval (.tmp 8) = .bool false := hdep 3 _ 8 dp8_3 po3 d3
          refine at_enterT po8 d8 (w_false gd8 po3 d3 e3) (run_callf2 q8 rfl e6 e7 Tryd.func98 (by kernel_rfl) _) (chain_tok root t n c p W HRL.out HOK.out.mac HN.out (by omega) HOK.out.ten (fun x hx => (HOK.out.gs x hx).1) (HL.out.below HS.below) HS.consts HS.starts) ?_
          rintro e w1 ⟨rfl, hb⟩
          exact ⟨_, rfl, ⟨_, by rw [d8], HS.step hb, hb, rfl⟩⟩
        · skip
          obtain rfl : o = o9 := Option.some.inj (ho.symm.trans po9)
          have e5 : A.eval (.tmp 10) = .agg (bytesV t.mac).toArray := hdep 5 _ 10 dp9_5 po5 d5
          have e8 : A.eval (.tmp 13) = .agg (bytesV (chainT root t.ten t.id t.gs)).toArray := hdep 8 _ 13 dp9_8 po8 d8
          have e3 : A.eval (.tmp 8) = .bool false := hdep 3 _ 8 dp9_3 po3 d3
          refine at_enterT po9 d9 (w_false gd9 po3 d3 e3) (run_callf2 q9 rfl e5 e8 Tryd.func108 (by kernel_rfl) _) (macSame_any t.mac (chainT root t.ten t.id t.gs) W HOK.out.mac (chainT_length _ _ _ _)) ?_
          rintro e w1 ⟨rfl, hb⟩
          exact ⟨_, rfl, ⟨_, by rw [d9], HS.step hb, hb, (show Value.bool _ = Value.bool _ by rw [hsm])⟩⟩
        · skip
          obtain rfl : o = o10 := Option.some.inj (ho.symm.trans po10)
          have e9 : A.eval (.tmp 14) = .bool false := hdep 9 _ 14 dp10_9 po9 d9
          have e3 : A.eval (.tmp 8) = .bool false := hdep 3 _ 8 dp10_3 po3 d3
          refine at_op po10 d10 (w_false gd10 po3 d3 e3) (r_notF q10 e9 W) ⟨_, by rw [d10], HS, Below.refl _ _, rfl⟩
      have base2 : A.eval (.tmp 2) = .pointer (some ⟨w.heap.size, 0, none⟩) := (hfr 2 hf2).trans rfl
      have base3 : A.eval (.tmp 3) = .pointer (some ⟨w.heap.size + 1, 0, none⟩) := (hfr 3 hf3).trans rfl
      have e0 : A.eval (.tmp 5) = .agg (t.cells (.slice p n c)).toArray := hall 0 _ 5 (by rw [hns]; decide) po0 d0
      have e1 : A.eval (.tmp 6) = .bool true := hall 1 _ 6 (by rw [hns]; decide) po1 d1
      have e2 : A.eval (.tmp 7) = .bool false := hall 2 _ 7 (by rw [hns]; decide) po2 d2
      have e3 : A.eval (.tmp 8) = .bool false := hall 3 _ 8 (by rw [hns]; decide) po3 d3
      have e4 : A.eval (.tmp 9) = .pointer (some ⟨w.heap.size + 1, 3, none⟩) := hall 4 _ 9 (by rw [hns]; decide) po4 d4
      have e5 : A.eval (.tmp 10) = .agg (bytesV t.mac).toArray := hall 5 _ 10 (by rw [hns]; decide) po5 d5
      have e6 : A.eval (.tmp 11) = .agg (bytesV root).toArray := hall 6 _ 11 (by rw [hns]; decide) po6 d6
      have e7 : A.eval (.tmp 12) = .agg (t.cells (.slice p n c)).toArray := hall 7 _ 12 (by rw [hns]; decide) po7 d7
      have e8 : A.eval (.tmp 13) = .agg (bytesV (chainT root t.ten t.id t.gs)).toArray := hall 8 _ 13 (by rw [hns]; decide) po8 d8
      have e9 : A.eval (.tmp 14) = .bool false := hall 9 _ 14 (by rw [hns]; decide) po9 d9
      have e10 : A.eval (.tmp 15) = .bool true := hall 10 _ 15 (by rw [hns]; decide) po10 d10
      have hA := act_of_slots [5, 6, 7, 8, 9, 10, 11, 12, 13, 14, 15, 16] _ hAs hdf (fun t ht => hfr t (hslots t ht))
      simp only [List.foldl_cons, List.foldl_nil] at hA
      rw [show rdA A 5 = A.eval (.tmp 5) from rfl, e0] at hA
      rw [show rdA A 6 = A.eval (.tmp 6) from rfl, e1] at hA
      rw [show rdA A 7 = A.eval (.tmp 7) from rfl, e2] at hA
      rw [show rdA A 8 = A.eval (.tmp 8) from rfl, e3] at hA
      rw [show rdA A 9 = A.eval (.tmp 9) from rfl, e4] at hA
      rw [show rdA A 10 = A.eval (.tmp 10) from rfl, e5] at hA
      rw [show rdA A 11 = A.eval (.tmp 11) from rfl, e6] at hA
      rw [show rdA A 12 = A.eval (.tmp 12) from rfl, e7] at hA
      rw [show rdA A 13 = A.eval (.tmp 13) from rfl, e8] at hA
      rw [show rdA A 14 = A.eval (.tmp 14) from rfl, e9] at hA
      rw [show rdA A 15 = A.eval (.tmp 15) from rfl, e10] at hA
      obtain ⟨ul, hul⟩ : ∃ u, rdA A 16 = u := ⟨_, rfl⟩
      rw [hul] at hA
      clear hul
      rw [hns]
      have HSF := Lib.hid HS.below
      refine at_op po11 d11 (wanted_of gd11) (r_pickF q11 e3 e10 W) ?_
      clear hall hdf hAs hfr hslots hns hf2 hf3 po0 q0 d0 gd0 po1 q1 d1 gd1 dp1_0 po2 q2 d2 gd2 dp2_1 po3 q3 d3 gd3 dp3_2 po4 q4 d4 gd4 dp4_3 po5 q5 d5 gd5 dp5_4 dp5_3 po6 q6 d6 gd6 dp6_3 po7 q7 d7 gd7 dp7_3 po8 q8 d8 gd8 dp8_6 dp8_7 dp8_3 po9 q9 d9 gd9 dp9_5 dp9_8 dp9_3 po10 q10 d10 gd10 dp10_9 dp10_3 po11 q11 d11 gd11 base2 base3
      have HA9 := Lib.hid hA
      clear hA HS HA e0 e1 e2 e3 e4 e5 e6 e7 e8 e9 e10
      rw [HA9.out]
      go_frame
      clear HA9
      go_wp2_with fail
      go_ret
      exact ⟨by rw [HV.out]; rfl, HSF.out⟩
end Go.Proofs.YtgeacocdnenhdaaDoor
