/-
  What other texts lean on: TkKn, TkLong.
-/
import Derived.Test.YtgeacocdnenhdaaDoorPkTd
import Derived.Test.YtgeacocdnenhdaaDoorPkTf
/-
  The law's example: a token that is narrowed, and one that can't be widened.
-/
namespace Go.Proofs.YtgeacocdnenhdaaDoor
open Go.RowKit Go.Proofs.ShaWords
abbrev annS : ByteArray := ⟨#[97, 110, 110]⟩
abbrev opnS : ByteArray := ⟨#[111, 112, 101, 110]⟩
abbrev lgS : ByteArray := ⟨#[111, 112, 101, 110, 46, 108, 111, 103]⟩
def kR : List (BitVec 8) := 1#8 :: noughts 31
def k1 : GrantM := ⟨3, opnS, false, 0⟩
def k2 : GrantM := ⟨1, lgS, true, 0⟩
def k3 : GrantM := ⟨7, opnS, false, 0⟩
theorem kn_mint : mintE annS 7 k1 = 0 := by decide +kernel
theorem kn_att2 : attE [k1] k2 = 0 := by decide +kernel
theorem kn_att3 : attE [k1] k3 = 25 := by decide +kernel
theorem kn_made1 (m : List (BitVec 8)) : madeM ⟨annS, 7, [k1], m⟩ = true := show (nameS annS && (idOk 7 && narrowsL [k1])) = true by decide +kernel
theorem kn_made2 (m : List (BitVec 8)) : madeM ⟨annS, 7, [k1, k2], m⟩ = true := show (nameS annS && (idOk 7 && narrowsL [k1, k2])) = true by decide +kernel
theorem k_ok : ∀ x ∈ [k1, k2], x.pre.size ≤ 1000000 ∧ x.Ok := by
  intro x hx
  simp only [List.mem_cons, List.not_mem_nil, or_false] at hx
  rcases hx with rfl | rfl <;> exact ⟨by decide, ⟨by decide +kernel, by decide +kernel, by decide +kernel⟩⟩
/-- A token in a block, its grants somewhere. -/
structure TkIn (w : World) (b : Nat) (t : TokM) (q : Option Addr) (n c : Nat) : Prop where
  tok : TokAt w b t (.slice q n c)
  len : t.gs.length = n
  gs : GrantsAt w q t.gs
theorem TkIn.keep {w w' : World} {b : Nat} {t : TokM} {q : Option Addr} {n c : Nat} (h : TkIn w b t q n c) (hb : Below w.heap.size w w') : TkIn w' b t q n c := ⟨h.tok.keep hb, h.len, h.gs.below hb⟩
theorem own_in {B : Nat} {w : World} {l : List GrantM} {q : Option Addr} {n c : Nat} (h : OwnGrants B w l (.slice q n c)) : l.length = n ∧ GrantsAt w q l := by
  obtain ⟨p, cap, e, -, -, h3, -⟩ := h.lies GrantM.len
  cases e
  exact ⟨rfl, h3⟩
theorem run_extractT {ρ : Operand → Value} {o : Oper} {x : Operand} {vs : Array Value} {k : Nat} {v : Value} {P : Program} (ho : o.op = .extract x k) (hx : ρ x = .tuple vs) (hv : vs[k]? = some v) (w : World) : (execOp ρ o).run P w = .ok (.value v) w := by
  obtain ⟨dst, op, ty', pos, after, guard⟩ := o
  simp only at ho
  subst ho
  go_simp
section
variable {ρ : Operand → Value} {o : Oper} {x y : Operand}
theorem run_eqlE {a b : Int} {v : Bool} {ty : TypeId} (hv : (a == b) = v) (ho : o.op = .binOp .eql 34 x y ty) (hx : ρ x = .int .i64 a) (hy : ρ y = .int .i64 b) (w : World) : (execOp ρ o).run Tryd.prog w = .ok (.value (.bool v)) w := by
  obtain ⟨dst, op, ty', pos, after, guard⟩ := o
  simp only at ho
  subst ho
  subst hv
  go_simp
theorem run_eqlI3 {a b : Int} {v : Bool} {ty : TypeId} (hv : (a == b) = v) (ho : o.op = .binOp .eql 3 x y ty) (hx : ρ x = .int .i64 a) (hy : ρ y = .int .i64 b) (w : World) : (execOp ρ o).run Tryd.prog w = .ok (.value (.bool v)) w := by
  obtain ⟨dst, op, ty', pos, after, guard⟩ := o
  simp only at ho
  subst ho
  subst hv
  go_simp
set_option maxRecDepth 100000 in
theorem run_fieldX {g : GrantM} (ho : o.op = .field 54 x 2) (hx : ρ x = .agg g.cells.toArray) (w : World) : (execOp ρ o).run Tryd.prog w = .ok (.value (.bool g.exact)) w := by
  obtain ⟨dst, op, ty', pos, after, guard⟩ := o
  simp only at ho
  subst ho
  cases g
  simp only [GrantM.cells] at hx
  go_simp
  try rfl
end
theorem run_bldK2 {ρ : Operand → Value} {o : Oper} (ho : o.op = .build 54 #[(0, .const (.int .i64 1)), (1, .const (.string lgS)), (2, .const (.bool true))]) (w : World) (h0 : ∀ v, ρ (.const v) = v := by intro v; rfl) : (execOp ρ o).run Tryd.prog w = .ok (.value (.agg k2.cells.toArray)) w := by
  have hb : Tryd.prog.built 54 [(0, .int .i64 1), (1, .string lgS), (2, .bool true)] = some k2.cells.toArray := by kernel_rfl
  have hr := Go.run_build (P := Tryd.prog) w 54 #[(0, .int .i64 1), (1, .string lgS), (2, .bool true)] _ hb
  obtain ⟨dst, op, ty', pos, after, guard⟩ := o
  simp only at ho
  subst ho
  unfold execOp
  simp only [List.map_toArray, List.map_cons, List.map_nil, h0, Sem.run_bind, hr, Result.andThen_ok, Sem.run_pure]
theorem run_bldK3 {ρ : Operand → Value} {o : Oper} (ho : o.op = .build 54 #[(0, .const (.int .i64 7)), (1, .const (.string opnS))]) (w : World) (h0 : ∀ v, ρ (.const v) = v := by intro v; rfl) : (execOp ρ o).run Tryd.prog w = .ok (.value (.agg k3.cells.toArray)) w := by
  have hb : Tryd.prog.built 54 [(0, .int .i64 7), (1, .string opnS)] = some k3.cells.toArray := by kernel_rfl
  have hr := Go.run_build (P := Tryd.prog) w 54 #[(0, .int .i64 7), (1, .string opnS)] _ hb
  obtain ⟨dst, op, ty', pos, after, guard⟩ := o
  simp only at ho
  subst ho
  unfold execOp
  simp only [List.map_toArray, List.map_cons, List.map_nil, h0, Sem.run_bind, hr, Result.andThen_ok, Sem.run_pure]
theorem run_keyT {ρ : Operand → Value} {o : Oper} (ho : o.op = .build 23 #[(0, .const (.int .u8 1))]) (h0 : ρ (.const (.int .u8 1)) = .int .u8 1) (w : World) : (execOp ρ o).run Tryd.prog w = .ok (.value (.agg (bytesV kR).toArray)) w := by
  have hb : Tryd.prog.built 23 [(0, .int .u8 1)] = some (bytesV kR).toArray := by kernel_rfl
  have hr := Go.run_build (P := Tryd.prog) w 23 #[(0, .int .u8 1)] _ hb
  obtain ⟨dst, op, ty', pos, after, guard⟩ := o
  simp only at ho
  subst ho
  unfold execOp
  simp only [List.map_toArray, List.map_cons, List.map_nil, h0, Sem.run_bind, hr, Result.andThen_ok, Sem.run_pure]
/-- Storing a token into a block that was just made. -/
theorem new_tok {w : World} {t : TokM} {q : Option Addr} {n c : Nat} (_hl : t.mac.length = 32) (hn : t.gs.length = n) (hg : GrantsAt w q t.gs) : TkIn ((w.alloc (.cells (zeroTok.cells (.slice none 0 0)).toArray 50)).setRow w.heap.size (t.cells (.slice q n c)).toArray) w.heap.size t q n c ∧ Below w.heap.size w ((w.alloc (.cells (zeroTok.cells (.slice none 0 0)).toArray 50)).setRow w.heap.size (t.cells (.slice q n c)).toArray) := by
  have hb := below_setRow (allocBelow w (.cells (zeroTok.cells (.slice none 0 0)).toArray 50)) (Nat.le_refl _) (t.cells (.slice q n c)).toArray
  exact ⟨⟨setRow_heap _ _ _ _ _ _ (heap_new_at rfl), hn, hg.below hb⟩, hb⟩
theorem zero_size {t : TokM} (hl : t.mac.length = 32) (q : Value) : (zeroTok.cells (.slice none 0 0)).toArray.size = (t.cells q).toArray.size := by rw [List.size_toArray, List.size_toArray, tok_len (t := zeroTok) rfl, tok_len hl]
theorem ver_made {root : List (BitVec 8)} {t : TokM} (h : madeM t = true) (hm : t.mac = chainT root t.ten t.id t.gs) : verE root t = 0 := by rw [verE_yes h, if_pos hm]
attribute [local irreducible] chainT kR verE in
set_option maxRecDepth 100000 in
set_option maxHeartbeats 8000000 in
theorem known14_any (w : World) (hk : Consts w) (hs : Starts w) : Calls Tryd.prog 23 #[] w (ReturnsG true w) := by
  obtain ⟨T1, hT1⟩ : ∃ T1 : TokM, T1 = ⟨annS, 7, [k1], chainT kR annS 7 [k1]⟩ := ⟨_, rfl⟩
  obtain ⟨T2, hT2⟩ : ∃ T2 : TokM, T2 = ⟨annS, 7, [k1, k2], macOf (chainT kR annS 7 [k1]) (encG k2)⟩ := ⟨_, rfl⟩
  have HRL : Hid (kR.length = 32) := show _ = _ by unfold kR; simp [noughts]
  have HM1 : Hid (∀ w, Consts w → Starts w → Calls Tryd.prog 24 #[.agg (bytesV kR).toArray, .string annS, .int .i64 7, .agg k1.cells.toArray] w fun e w' => ∃ q nq cq, e = .returned (.tuple #[.agg (T1.cells (.slice q nq cq)).toArray, .int .i64 0]) ∧ OwnGrants w.heap.size w' T1.gs (.slice q nq cq) ∧ Below w.heap.size w w') := show ∀ _, _ → _ → _ from fun w hk hs => by
    have h := mint_any kR annS 7 k1 w HRL.out (by decide) (by decide) hk hs
    rw [kn_mint, mintM_yes kn_mint, ← hT1] at h
    exact h
  have hg1 : T1.gs = [k1] := by rw [hT1]
  have HOK1 : Hid T1.Ok := show TokM.Ok _ by
    rw [hT1]
    exact ⟨chainT_length _ _ _ _, by decide, fun x hx => k_ok x (by simp only [List.mem_cons, List.not_mem_nil, or_false] at hx ⊢; exact .inl hx), by decide, by decide +kernel⟩
  have HOK2 : Hid T2.Ok := show TokM.Ok _ by
    rw [hT2]
    exact ⟨macOf_length _ _, by decide, k_ok, by decide, by decide +kernel⟩
  have HA2 : Hid (∀ w p n c, T1.gs.length = n → GrantsAt w p T1.gs → Consts w → Starts w → Calls Tryd.prog 29 #[.agg (T1.cells (.slice p n c)).toArray, .agg k2.cells.toArray] w fun e w' => ∃ q nq cq, e = .returned (.tuple #[.agg (T2.cells (.slice q nq cq)).toArray, .int .i64 0]) ∧ OwnGrants w.heap.size w' T2.gs (.slice q nq cq) ∧ Below w.heap.size w w') := show ∀ _ _ _ _, _ → _ → _ → _ → _ from fun w p n c hn hL hk hs => by
    have h := atten_any T1 k2 n c p w hn HOK1.out (by decide) ⟨by decide +kernel, by decide +kernel, by decide +kernel⟩ hL hk hs
    have e0 : attE T1.gs k2 = 0 := by rw [hg1]; exact kn_att2
    rw [attM_yes e0, e0] at h
    have e2 : (⟨T1.ten, T1.id, T1.gs ++ [k2], macOf T1.mac (encG k2)⟩ : TokM) = T2 := by rw [hT1, hT2]; rfl
    rw [e2] at h
    exact h
  have HA3 : Hid (∀ w p n c, T1.gs.length = n → GrantsAt w p T1.gs → Consts w → Starts w → Calls Tryd.prog 29 #[.agg (T1.cells (.slice p n c)).toArray, .agg k3.cells.toArray] w fun e w' => ∃ q nq cq, e = .returned (.tuple #[.agg (zeroTok.cells (.slice q nq cq)).toArray, .int .i64 25]) ∧ OwnGrants w.heap.size w' zeroTok.gs (.slice q nq cq) ∧ Below w.heap.size w w') := show ∀ _ _ _ _, _ → _ → _ → _ → _ from fun w p n c hn hL hk hs => by
    have h := atten_any T1 k3 n c p w hn HOK1.out (by decide) ⟨by decide +kernel, by decide +kernel, by decide +kernel⟩ hL hk hs
    have e0 : attE T1.gs k3 = 25 := by rw [hg1]; exact kn_att3
    rw [attM_no (by rw [e0]; decide), e0] at h
    exact h
  have HV1 : Hid (∀ w p n c, T1.gs.length = n → GrantsAt w p T1.gs → Consts w → Starts w → Calls Tryd.prog 33 #[.agg (bytesV kR).toArray, .agg (T1.cells (.slice p n c)).toArray] w fun e w' => e = .returned (.int .i64 0) ∧ Below w.heap.size w w') := show ∀ _ _ _ _, _ → _ → _ → _ → _ from fun w p n c hn hL hk hs => by
    have h := verify_tok kR T1 n c p w HRL.out hn HOK1.out hL hk hs
    have e0 : verE kR T1 = 0 := by rw [hT1]; exact ver_made (kn_made1 _) rfl
    rw [e0] at h
    exact h
  have HV2 : Hid (∀ w p n c, T2.gs.length = n → GrantsAt w p T2.gs → Consts w → Starts w → Calls Tryd.prog 33 #[.agg (bytesV kR).toArray, .agg (T2.cells (.slice p n c)).toArray] w fun e w' => e = .returned (.int .i64 0) ∧ Below w.heap.size w w') := show ∀ _ _ _ _, _ → _ → _ → _ → _ from fun w p n c hn hL hk hs => by
    have h := verify_tok kR T2 n c p w HRL.out hn HOK2.out hL hk hs
    have e0 : verE kR T2 = 0 := by rw [hT2]; exact ver_made (kn_made2 _) (chainT_snoc kR annS 7 [k1] k2).symm
    rw [e0] at h
    exact h
  have HL2 : Hid (∀ w p n c, T2.gs.length = n → GrantsAt w p T2.gs → Calls Tryd.prog 35 #[.agg (T2.cells (.slice p n c)).toArray] w fun e w' => e = .returned (.agg k2.cells.toArray) ∧ Below w.heap.size w w') := show ∀ _ _ _ _, _ → _ → _ from fun w p n c hn hL => by
    have h := last_tok T2 n c p w hn (by rw [← hn, hT2]; decide) (fun x hx => (HOK2.out.gs x hx).1) hL
    rw [show lastG T2.gs = k2 by rw [hT2]; rfl] at h
    exact h
  have HN2 : Hid (T2.gs.length = 2) := show _ = _ by rw [hT2]; rfl
  have HK := Lib.hid hk
  have HS := Lib.hid hs
  clear hg1 hT1 hT2 hk hs
  go_enter Tryd.func23, Tryd.ntmps23
  go_upto_region 1 with (fail)
  refine wp_region_lit ?_
  refine wpList_run (by rfl) (run_keyT rfl rfl _) ?_
  refine wpList_run (by rfl) (show _ = Result.ok (Next.value (.agg k1.cells.toArray)) _ from by kernel_rfl) ?_
  refine wpList_enterT (by rfl) (run_callf4 (v := .agg (bytesV kR).toArray) (u := .string annS) (z := .int .i64 7) (z2 := .agg k1.cells.toArray) rfl rfl rfl rfl rfl rfl Tryd.func24 (by kernel_rfl) _) (HM1.out _ HK.out HS.out) ?_
  rintro e w1 ⟨q1, n1, c1, rfl, ho1, hb1⟩
  refine ⟨_, rfl, ?_⟩
  obtain ⟨l1, g1⟩ := own_in ho1
  refine wpList_run (by rfl) (run_move (v := .tuple #[.agg (T1.cells (.slice q1 n1 c1)).toArray, .int .i64 0]) rfl rfl _) ?_
  refine wpList_run (by rfl) (run_extractT (v := .agg (T1.cells (.slice q1 n1 c1)).toArray) rfl rfl rfl _) ?_
  refine wpList_run (by rfl) (run_extractT (v := .int .i64 0) rfl rfl rfl _) ?_
  refine wpList_runW8 (by rfl) (run_allocTok rfl _) ?_
  refine wpList_store_row rfl 50 (.tmp 1) (.tmp 11) rfl w1.heap.size (T1.cells (.slice q1 n1 c1)).toArray rfl rfl 50 _ (heap_new_at rfl) (size_tok HOK1.out.mac _) (zero_size HOK1.out.mac _) (tok_ones _ _ _ _) ?_
  refine wpList_run (by rfl) (run_assign (v := .int .i64 0) rfl rfl _) ?_
  refine wpList_nil ?_
  obtain ⟨x1, y1⟩ := new_tok (c := c1) HOK1.out.mac l1 g1
  have hA := And.intro x1 (hb1.trans (y1.mono hb1.size))
  generalize (w1.alloc (.cells (zeroTok.cells (.slice none 0 0)).toArray 50)).setRow w1.heap.size (T1.cells (.slice q1 n1 c1)).toArray = A1 at hA ⊢
  obtain ⟨B1, hB1⟩ : ∃ B, B = w1.heap.size := ⟨_, rfl⟩
  rw [← hB1] at hA
  rw [← hB1]
  have H1 := Lib.hid hA
  clear x1 y1 hb1 ho1 l1 g1 hA hB1
  go_frame
  go_upto_region 2 with (fail)
  refine wp_act fun F2 hA => ?_
  have hsz : F2.tmps.size = 58 := by rw [hA]; rfl
  have base1 : F2.eval (.tmp 1) = .pointer (some ⟨B1, 0, none⟩) := by rw [hA]; rfl
  have HAA := Lib.hid hA; clear hA
  refine wp_region_lit ?_
  refine wpList_run (wanted_of rfl) (run_loadBlk (C := (T1.cells (.slice q1 n1 c1)).toArray) rfl base1 H1.out.1.tok tok_under (size_tok HOK1.out.mac _)) ?_
  refine wpList_run (wanted_of rfl) (run_bldK2 rfl _) ?_
  refine wpList_enterT (wanted_of rfl) (run_callf2 (v := .agg (T1.cells (.slice q1 n1 c1)).toArray) (u := .agg k2.cells.toArray) rfl rfl ((eval_other _ 15 14 _ (by decide)).trans (eval_same _ _ _ (by rw [hsz]; decide))) (eval_same _ _ _ (by simp only [put_size, hsz]; decide)) Tryd.func29 (by kernel_rfl) _) (HA2.out _ _ _ _ H1.out.1.len H1.out.1.gs (HK.out.below H1.out.2 HK.out.size) (range_keep HS.out H1.out.2)) ?_
  rintro e w2 ⟨q2, n2, c2, rfl, ho2, hb2⟩
  refine ⟨_, rfl, ?_⟩
  obtain ⟨l2, g2⟩ := own_in ho2
  refine wpList_run (wanted_of rfl) (run_move (v := .tuple #[.agg (T2.cells (.slice q2 n2 c2)).toArray, .int .i64 0]) rfl (eval_same _ _ _ (by simp only [put_size, hsz]; decide)) _) ?_
  refine wpList_run (wanted_of rfl) (run_extractT (v := .agg (T2.cells (.slice q2 n2 c2)).toArray) rfl (eval_same _ _ _ (by simp only [put_size, hsz]; decide)) rfl _) ?_
  refine wpList_run (wanted_of rfl) (run_extractT (v := .int .i64 0) rfl ((eval_other _ 17 13 _ (by decide)).trans (eval_same _ _ _ (by simp only [put_size, hsz]; decide))) rfl _) ?_
  refine wpList_runW8 (wanted_of rfl) (run_allocTok rfl _) ?_
  refine wpList_skip (wanted_of rfl) (run_storeRowT (g := w2.heap.size) (cells := (T2.cells (.slice q2 n2 c2)).toArray) rfl (eval_same _ _ _ (by simp only [put_size, hsz]; decide)) ((eval_other _ 3 17 _ (by decide)).trans ((eval_other _ 18 17 _ (by decide)).trans (eval_same _ _ _ (by simp only [put_size, hsz]; decide)))) (heap_new_at rfl) (size_tok HOK2.out.mac _) (zero_size HOK2.out.mac _) (tok_ones _ _ _ _)) ?_
  refine wpList_run (wanted_of rfl) (run_assign (v := .int .i64 0) rfl ((eval_none _ _ 18).trans ((eval_other _ 3 18 _ (by decide)).trans (eval_same _ _ _ (by simp only [put_size, hsz]; decide)))) _) ?_
  refine wpList_nil ?_
  rw [HAA.out]
  go_frame
  clear HAA
  obtain ⟨x2, y2⟩ := new_tok (t := T2) (c := c2) HOK2.out.mac l2 g2
  have hb2b := hb2.trans (y2.mono hb2.size)
  generalize (w2.alloc (.cells (zeroTok.cells (.slice none 0 0)).toArray 50)).setRow w2.heap.size (T2.cells (.slice q2 n2 c2)).toArray = A2 at x2 hb2b ⊢
  obtain ⟨B2, hB2⟩ : ∃ B, B = w2.heap.size := ⟨_, rfl⟩
  rw [← hB2] at x2
  rw [← hB2]
  have H2 : Hid (TkIn A2 B1 T1 q1 n1 c1 ∧ TkIn A2 B2 T2 q2 n2 c2 ∧ Below w.heap.size w A2) := show _ ∧ _ ∧ _ from ⟨H1.out.1.keep hb2b, x2, H1.out.2.trans (hb2b.mono H1.out.2.size)⟩
  clear x2 y2 hb2 hb2b ho2 l2 g2 hB2 H1
  go_upto_region 3 with (fail)
  refine wp_act fun F3 hA => ?_
  have hsz : F3.tmps.size = 58 := by rw [hA]; rfl
  have base1 : F3.eval (.tmp 1) = .pointer (some ⟨B1, 0, none⟩) := by rw [hA]; rfl
  have HAA := Lib.hid hA; clear hA
  refine wp_region_lit ?_
  refine wpList_run (wanted_of rfl) (run_loadBlk (C := (T1.cells (.slice q1 n1 c1)).toArray) rfl base1 H2.out.1.tok tok_under (size_tok HOK1.out.mac _)) ?_
  refine wpList_run (wanted_of rfl) (run_bldK3 rfl _) ?_
  refine wpList_enterT (wanted_of rfl) (run_callf2 (v := .agg (T1.cells (.slice q1 n1 c1)).toArray) (u := .agg k3.cells.toArray) rfl rfl ((eval_other _ 21 20 _ (by decide)).trans (eval_same _ _ _ (by rw [hsz]; decide))) (eval_same _ _ _ (by simp only [put_size, hsz]; decide)) Tryd.func29 (by kernel_rfl) _) (HA3.out _ _ _ _ H2.out.1.len H2.out.1.gs (HK.out.below H2.out.2.2 HK.out.size) (range_keep HS.out H2.out.2.2)) ?_
  rintro e w3 ⟨q3, n3, c3, rfl, ho3, hb3⟩
  refine ⟨_, rfl, ?_⟩
  obtain ⟨l3, g3⟩ := own_in ho3
  refine wpList_run (wanted_of rfl) (run_move (v := .tuple #[.agg (zeroTok.cells (.slice q3 n3 c3)).toArray, .int .i64 25]) rfl (eval_same _ _ _ (by simp only [put_size, hsz]; decide)) _) ?_
  refine wpList_run (wanted_of rfl) (run_extractT (v := .agg (zeroTok.cells (.slice q3 n3 c3)).toArray) rfl (eval_same _ _ _ (by simp only [put_size, hsz]; decide)) rfl _) ?_
  refine wpList_run (wanted_of rfl) (run_extractT (v := .int .i64 25) rfl ((eval_other _ 23 19 _ (by decide)).trans (eval_same _ _ _ (by simp only [put_size, hsz]; decide))) rfl _) ?_
  refine wpList_runW8 (wanted_of rfl) (run_allocTok rfl _) ?_
  refine wpList_skip (wanted_of rfl) (run_storeRowT (g := w3.heap.size) (cells := (zeroTok.cells (.slice q3 n3 c3)).toArray) rfl (eval_same _ _ _ (by simp only [put_size, hsz]; decide)) ((eval_other _ 5 23 _ (by decide)).trans ((eval_other _ 24 23 _ (by decide)).trans (eval_same _ _ _ (by simp only [put_size, hsz]; decide)))) (heap_new_at rfl) (size_tok rfl _) (zero_size rfl _) (tok_ones _ _ _ _)) ?_
  refine wpList_run (wanted_of rfl) (run_assign (v := .int .i64 25) rfl ((eval_none _ _ 24).trans ((eval_other _ 5 24 _ (by decide)).trans (eval_same _ _ _ (by simp only [put_size, hsz]; decide)))) _) ?_
  refine wpList_nil ?_
  rw [HAA.out]
  go_frame
  clear HAA
  obtain ⟨x3, y3⟩ := new_tok (t := zeroTok) (c := c3) rfl l3 g3
  have hb3b := hb3.trans (y3.mono hb3.size)
  generalize (w3.alloc (.cells (zeroTok.cells (.slice none 0 0)).toArray 50)).setRow w3.heap.size (zeroTok.cells (.slice q3 n3 c3)).toArray = A3 at x3 hb3b ⊢
  obtain ⟨B3, hB3⟩ : ∃ B, B = w3.heap.size := ⟨_, rfl⟩
  rw [← hB3] at x3
  rw [← hB3]
  have H3 : Hid (TkIn A3 B1 T1 q1 n1 c1 ∧ TkIn A3 B2 T2 q2 n2 c2 ∧ Below w.heap.size w A3) := show _ ∧ _ ∧ _ from ⟨H2.out.1.keep hb3b, H2.out.2.1.keep hb3b, H2.out.2.2.trans (hb3b.mono H2.out.2.2.size)⟩
  clear x3 y3 hb3 hb3b ho3 l3 g3 hB3 H2
  have ct := H3.out.2.1.tok.c2
  obtain rfl : n2 = 2 := H3.out.2.1.len.symm.trans HN2.out
  have HKC : Hid (∀ W, Below w.heap.size w W → Consts W ∧ Starts W) := show ∀ _, _ → _ from fun W h => ⟨HK.out.below h HK.out.size, range_keep HS.out h⟩
  go_upto_region 4 with (fail)
  refine wp_act fun F4 hA => ?_
  have hsz : F4.tmps.size = 58 := by rw [hA]; rfl
  have base1 : F4.eval (.tmp 1) = .pointer (some ⟨B1, 0, none⟩) := by rw [hA]; rfl
  have base3 : F4.eval (.tmp 3) = .pointer (some ⟨B2, 0, none⟩) := by rw [hA]; rfl
  have base2 : F4.eval (.tmp 2) = .int .i64 0 := by rw [hA]; rfl
  have base4 : F4.eval (.tmp 4) = .int .i64 0 := by rw [hA]; rfl
  have base6 : F4.eval (.tmp 6) = .int .i64 25 := by rw [hA]; rfl
  have HAA := Lib.hid hA; clear hA
  refine wp_region_lit ?_
  refine wpList_run (wanted_of rfl) (run_move (v := .int .i64 0) rfl base2 _) ?_
  refine wpList_run (wanted_of rfl) (run_eqlE (v := true) (by decide) rfl (eval_same _ _ _ (by rw [hsz]; decide)) rfl _) ?_
  refine wpList_run (wanted_of rfl) (run_move (v := .bool true) rfl (eval_same _ _ _ (by simp only [put_size, hsz]; decide)) _) ?_
  refine wpList_run (wanted_guard rfl rfl rfl (eval_same _ _ _ (by simp only [put_size, hsz]; decide))) (run_move (v := .int .i64 0) rfl ((eval_other _ 27 4 _ (by decide)).trans ((eval_other _ 26 4 _ (by decide)).trans ((eval_other _ 25 4 _ (by decide)).trans base4))) _) ?_
  refine wpList_run (wanted_guard rfl rfl rfl ((eval_other _ 28 27 _ (by decide)).trans (eval_same _ _ _ (by simp only [put_size, hsz]; decide)))) (run_eqlE (v := true) (by decide) rfl (eval_same _ _ _ (by simp only [put_size, hsz]; decide)) rfl _) ?_
  refine wpList_run (wanted_of rfl) (run_pick_true (v := .bool true) rfl ((eval_other _ 29 27 _ (by decide)).trans ((eval_other _ 28 27 _ (by decide)).trans (eval_same _ _ _ (by simp only [put_size, hsz]; decide)))) (eval_same _ _ _ (by simp only [put_size, hsz]; decide)) _) ?_
  generalize hA30 : Act.put _ _ _ = A30
  have nb1 : A30.eval (.tmp 1) = .pointer (some ⟨B1, 0, none⟩) := by rw [← hA30]; exact ((eval_other _ 30 1 _ (by decide)).trans ((eval_other _ 29 1 _ (by decide)).trans ((eval_other _ 28 1 _ (by decide)).trans ((eval_other _ 27 1 _ (by decide)).trans ((eval_other _ 26 1 _ (by decide)).trans ((eval_other _ 25 1 _ (by decide)).trans base1))))))
  have nb3 : A30.eval (.tmp 3) = .pointer (some ⟨B2, 0, none⟩) := by rw [← hA30]; exact ((eval_other _ 30 3 _ (by decide)).trans ((eval_other _ 29 3 _ (by decide)).trans ((eval_other _ 28 3 _ (by decide)).trans ((eval_other _ 27 3 _ (by decide)).trans ((eval_other _ 26 3 _ (by decide)).trans ((eval_other _ 25 3 _ (by decide)).trans base3))))))
  have nb6 : A30.eval (.tmp 6) = .int .i64 25 := by rw [← hA30]; exact ((eval_other _ 30 6 _ (by decide)).trans ((eval_other _ 29 6 _ (by decide)).trans ((eval_other _ 28 6 _ (by decide)).trans ((eval_other _ 27 6 _ (by decide)).trans ((eval_other _ 26 6 _ (by decide)).trans ((eval_other _ 25 6 _ (by decide)).trans base6))))))
  have nb30 : A30.eval (.tmp 30) = .bool true := by rw [← hA30]; exact (eval_same _ _ _ (by simp only [put_size, hsz]; decide))
  have nsz : A30.tmps.size = 58 := by rw [← hA30]; simp only [put_size, hsz]
  have HA30 := Lib.hid hA30; clear hA30
  have base1 := nb1
  have base3 := nb3
  have base6 := nb6
  have base30 := nb30
  have hsz := nsz
  refine wpList_run (wanted_of rfl) (run_move (v := .bool true) rfl base30 _) ?_
  refine wpList_run (wanted_guard rfl rfl rfl (eval_same _ _ _ (by rw [hsz]; decide))) (run_move (v := .int .i64 25) rfl ((eval_other _ 31 6 _ (by decide)).trans base6) _) ?_
  refine wpList_run (wanted_guard rfl rfl rfl ((eval_other _ 32 31 _ (by decide)).trans (eval_same _ _ _ (by rw [hsz]; decide)))) (run_eqlE (v := true) (by decide) rfl (eval_same _ _ _ (by simp only [put_size, hsz]; decide)) rfl _) ?_
  refine wpList_run (wanted_of rfl) (run_pick_true (v := .bool true) rfl ((eval_other _ 33 31 _ (by decide)).trans ((eval_other _ 32 31 _ (by decide)).trans (eval_same _ _ _ (by rw [hsz]; decide)))) (eval_same _ _ _ (by simp only [put_size, hsz]; decide)) _) ?_
  generalize hA31 : Act.put _ _ _ = A31
  have nb1 : A31.eval (.tmp 1) = .pointer (some ⟨B1, 0, none⟩) := by rw [← hA31]; exact ((eval_other _ 34 1 _ (by decide)).trans ((eval_other _ 33 1 _ (by decide)).trans ((eval_other _ 32 1 _ (by decide)).trans ((eval_other _ 31 1 _ (by decide)).trans base1))))
  have nb3 : A31.eval (.tmp 3) = .pointer (some ⟨B2, 0, none⟩) := by rw [← hA31]; exact ((eval_other _ 34 3 _ (by decide)).trans ((eval_other _ 33 3 _ (by decide)).trans ((eval_other _ 32 3 _ (by decide)).trans ((eval_other _ 31 3 _ (by decide)).trans base3))))
  have nb34 : A31.eval (.tmp 34) = .bool true := by rw [← hA31]; exact (eval_same _ _ _ (by simp only [put_size, hsz]; decide))
  have nsz : A31.tmps.size = 58 := by rw [← hA31]; simp only [put_size, hsz]
  have HA31 := Lib.hid hA31; clear hA31
  have base1 := nb1
  have base3 := nb3
  have base34 := nb34
  have hsz := nsz
  refine wpList_run (wanted_of rfl) (run_move (v := .bool true) rfl base34 _) ?_
  refine wpList_run (wanted_guard rfl rfl rfl (eval_same _ _ _ (by rw [hsz]; decide))) (run_keyT rfl rfl _) ?_
  refine wpList_run (wanted_guard rfl rfl rfl ((eval_other _ 36 35 _ (by decide)).trans (eval_same _ _ _ (by rw [hsz]; decide)))) (run_loadBlk (C := (T1.cells (.slice q1 n1 c1)).toArray) rfl ((eval_other _ 36 1 _ (by decide)).trans ((eval_other _ 35 1 _ (by decide)).trans base1)) H3.out.1.tok tok_under (size_tok HOK1.out.mac _)) ?_
  refine wpList_enterT (wanted_guard rfl rfl rfl ((eval_other _ 37 35 _ (by decide)).trans ((eval_other _ 36 35 _ (by decide)).trans (eval_same _ _ _ (by rw [hsz]; decide))))) (run_callf2 (v := .agg (bytesV kR).toArray) (u := .agg (T1.cells (.slice q1 n1 c1)).toArray) rfl rfl ((eval_other _ 37 36 _ (by decide)).trans (eval_same _ _ _ (by simp only [put_size, hsz]; decide))) (eval_same _ _ _ (by simp only [put_size, hsz]; decide)) Tryd.func33 (by kernel_rfl) _) (HV1.out _ _ _ _ H3.out.1.len H3.out.1.gs (HKC.out _ H3.out.2.2).1 (HKC.out _ H3.out.2.2).2) ?_
  rintro e v1 ⟨rfl, hv1⟩
  refine ⟨_, rfl, ?_⟩
  have H41 : Hid (TkIn v1 B1 T1 q1 n1 c1 ∧ TkIn v1 B2 T2 q2 2 c2 ∧ Below w.heap.size w v1) := show _ ∧ _ ∧ _ from ⟨H3.out.1.keep hv1, H3.out.2.1.keep hv1, H3.out.2.2.trans (hv1.mono H3.out.2.2.size)⟩
  refine wpList_run (wanted_guard rfl rfl rfl ((eval_other _ 38 35 _ (by decide)).trans ((eval_other _ 37 35 _ (by decide)).trans ((eval_other _ 36 35 _ (by decide)).trans (eval_same _ _ _ (by rw [hsz]; decide)))))) (run_eqlE (v := true) (by decide) rfl (eval_same _ _ _ (by simp only [put_size, hsz]; decide)) rfl _) ?_
  refine wpList_run (wanted_of rfl) (run_pick_true (v := .bool true) rfl ((eval_other _ 39 35 _ (by decide)).trans ((eval_other _ 38 35 _ (by decide)).trans ((eval_other _ 37 35 _ (by decide)).trans ((eval_other _ 36 35 _ (by decide)).trans (eval_same _ _ _ (by rw [hsz]; decide)))))) (eval_same _ _ _ (by simp only [put_size, hsz]; decide)) _) ?_
  generalize hA32 : Act.put _ _ _ = A32
  have nb3 : A32.eval (.tmp 3) = .pointer (some ⟨B2, 0, none⟩) := by rw [← hA32]; exact ((eval_other _ 40 3 _ (by decide)).trans ((eval_other _ 39 3 _ (by decide)).trans ((eval_other _ 38 3 _ (by decide)).trans ((eval_other _ 37 3 _ (by decide)).trans ((eval_other _ 36 3 _ (by decide)).trans ((eval_other _ 35 3 _ (by decide)).trans base3))))))
  have nb40 : A32.eval (.tmp 40) = .bool true := by rw [← hA32]; exact (eval_same _ _ _ (by simp only [put_size, hsz]; decide))
  have nsz : A32.tmps.size = 58 := by rw [← hA32]; simp only [put_size, hsz]
  have HA32 := Lib.hid hA32; clear hA32
  have base3 := nb3
  have base40 := nb40
  have hsz := nsz
  refine wpList_run (wanted_of rfl) (run_move (v := .bool true) rfl base40 _) ?_
  refine wpList_run (wanted_guard rfl rfl rfl (eval_same _ _ _ (by rw [hsz]; decide))) (run_keyT rfl rfl _) ?_
  refine wpList_run (wanted_guard rfl rfl rfl ((eval_other _ 42 41 _ (by decide)).trans (eval_same _ _ _ (by rw [hsz]; decide)))) (run_loadBlk (C := (T2.cells (.slice q2 2 c2)).toArray) rfl ((eval_other _ 42 3 _ (by decide)).trans ((eval_other _ 41 3 _ (by decide)).trans base3)) H41.out.2.1.tok tok_under (size_tok HOK2.out.mac _)) ?_
  refine wpList_enterT (wanted_guard rfl rfl rfl ((eval_other _ 43 41 _ (by decide)).trans ((eval_other _ 42 41 _ (by decide)).trans (eval_same _ _ _ (by rw [hsz]; decide))))) (run_callf2 (v := .agg (bytesV kR).toArray) (u := .agg (T2.cells (.slice q2 2 c2)).toArray) rfl rfl ((eval_other _ 43 42 _ (by decide)).trans (eval_same _ _ _ (by simp only [put_size, hsz]; decide))) (eval_same _ _ _ (by simp only [put_size, hsz]; decide)) Tryd.func33 (by kernel_rfl) _) (HV2.out _ _ _ _ H41.out.2.1.len H41.out.2.1.gs (HKC.out _ H41.out.2.2).1 (HKC.out _ H41.out.2.2).2) ?_
  rintro e v2 ⟨rfl, hv2⟩
  refine ⟨_, rfl, ?_⟩
  have H42 : Hid (TkIn v2 B1 T1 q1 n1 c1 ∧ TkIn v2 B2 T2 q2 2 c2 ∧ Below w.heap.size w v2) := show _ ∧ _ ∧ _ from ⟨H41.out.1.keep hv2, H41.out.2.1.keep hv2, H41.out.2.2.trans (hv2.mono H41.out.2.2.size)⟩
  refine wpList_run (wanted_guard rfl rfl rfl ((eval_other _ 44 41 _ (by decide)).trans ((eval_other _ 43 41 _ (by decide)).trans ((eval_other _ 42 41 _ (by decide)).trans (eval_same _ _ _ (by rw [hsz]; decide)))))) (run_eqlE (v := true) (by decide) rfl (eval_same _ _ _ (by simp only [put_size, hsz]; decide)) rfl _) ?_
  refine wpList_run (wanted_of rfl) (run_pick_true (v := .bool true) rfl ((eval_other _ 45 41 _ (by decide)).trans ((eval_other _ 44 41 _ (by decide)).trans ((eval_other _ 43 41 _ (by decide)).trans ((eval_other _ 42 41 _ (by decide)).trans (eval_same _ _ _ (by rw [hsz]; decide)))))) (eval_same _ _ _ (by simp only [put_size, hsz]; decide)) _) ?_
  generalize hA33 : Act.put _ _ _ = A33
  have nb3 : A33.eval (.tmp 3) = .pointer (some ⟨B2, 0, none⟩) := by rw [← hA33]; exact ((eval_other _ 46 3 _ (by decide)).trans ((eval_other _ 45 3 _ (by decide)).trans ((eval_other _ 44 3 _ (by decide)).trans ((eval_other _ 43 3 _ (by decide)).trans ((eval_other _ 42 3 _ (by decide)).trans ((eval_other _ 41 3 _ (by decide)).trans base3))))))
  have nb46 : A33.eval (.tmp 46) = .bool true := by rw [← hA33]; exact (eval_same _ _ _ (by simp only [put_size, hsz]; decide))
  have nsz : A33.tmps.size = 58 := by rw [← hA33]; simp only [put_size, hsz]
  have HA33 := Lib.hid hA33; clear hA33
  have base3 := nb3
  have base46 := nb46
  have hsz := nsz
  refine wpList_run (wanted_of rfl) (run_move (v := .bool true) rfl base46 _) ?_
  refine wpList_run (wanted_guard rfl rfl rfl (eval_same _ _ _ (by rw [hsz]; decide))) (run_loadBlk (C := (T2.cells (.slice q2 2 c2)).toArray) rfl ((eval_other _ 47 3 _ (by decide)).trans base3) H42.out.2.1.tok tok_under (size_tok HOK2.out.mac _)) ?_
  refine wpList_enterT (wanted_guard rfl rfl rfl ((eval_other _ 48 47 _ (by decide)).trans (eval_same _ _ _ (by rw [hsz]; decide)))) (run_callf1 (v := .agg (T2.cells (.slice q2 2 c2)).toArray) rfl rfl (eval_same _ _ _ (by simp only [put_size, hsz]; decide)) Tryd.func35 (by kernel_rfl) _) (HL2.out _ _ _ _ H42.out.2.1.len H42.out.2.1.gs) ?_
  rintro e v3 ⟨rfl, hv3⟩
  refine ⟨_, rfl, ?_⟩
  have H43 : Hid (TkIn v3 B1 T1 q1 n1 c1 ∧ TkIn v3 B2 T2 q2 2 c2 ∧ Below w.heap.size w v3) := show _ ∧ _ ∧ _ from ⟨H42.out.1.keep hv3, H42.out.2.1.keep hv3, H42.out.2.2.trans (hv3.mono H42.out.2.2.size)⟩
  refine wpList_run (wanted_guard rfl rfl rfl ((eval_other _ 49 47 _ (by decide)).trans ((eval_other _ 48 47 _ (by decide)).trans (eval_same _ _ _ (by rw [hsz]; decide))))) (run_fieldX rfl (eval_same _ _ _ (by simp only [put_size, hsz]; decide)) _) ?_
  refine wpList_run (wanted_of rfl) (run_pick_true (v := .bool true) rfl ((eval_other _ 50 47 _ (by decide)).trans ((eval_other _ 49 47 _ (by decide)).trans ((eval_other _ 48 47 _ (by decide)).trans (eval_same _ _ _ (by rw [hsz]; decide))))) (eval_same _ _ _ (by simp only [put_size, hsz]; decide)) _) ?_
  generalize hA34 : Act.put _ _ _ = A34
  have nb3 : A34.eval (.tmp 3) = .pointer (some ⟨B2, 0, none⟩) := by rw [← hA34]; exact ((eval_other _ 51 3 _ (by decide)).trans ((eval_other _ 50 3 _ (by decide)).trans ((eval_other _ 49 3 _ (by decide)).trans ((eval_other _ 48 3 _ (by decide)).trans ((eval_other _ 47 3 _ (by decide)).trans base3)))))
  have nb51 : A34.eval (.tmp 51) = .bool true := by rw [← hA34]; exact (eval_same _ _ _ (by simp only [put_size, hsz]; decide))
  have nsz : A34.tmps.size = 58 := by rw [← hA34]; simp only [put_size, hsz]
  have HA34 := Lib.hid hA34; clear hA34
  have base3 := nb3
  have base51 := nb51
  have hsz := nsz
  refine wpList_run (wanted_of rfl) (run_move (v := .bool true) rfl base51 _) ?_
  refine wpList_run (wanted_guard rfl rfl rfl (eval_same _ _ _ (by rw [hsz]; decide))) (run_fieldT (off := 2) rfl (fun _ => by kernel_rfl) ((eval_other _ 52 3 _ (by decide)).trans base3) _) ?_
  refine wpList_run (wanted_guard rfl rfl rfl ((eval_other _ 53 52 _ (by decide)).trans (eval_same _ _ _ (by rw [hsz]; decide)))) (run_loadSlG rfl (eval_same _ _ _ (by simp only [put_size, hsz]; decide)) H43.out.2.1.tok.c2) ?_
  refine wpList_run (wanted_guard rfl rfl rfl ((eval_other _ 54 52 _ (by decide)).trans ((eval_other _ 53 52 _ (by decide)).trans (eval_same _ _ _ (by rw [hsz]; decide))))) (run_lenG rfl (eval_same _ _ _ (by simp only [put_size, hsz]; decide)) _) ?_
  refine wpList_run (wanted_guard rfl rfl rfl ((eval_other _ 55 52 _ (by decide)).trans ((eval_other _ 54 52 _ (by decide)).trans ((eval_other _ 53 52 _ (by decide)).trans (eval_same _ _ _ (by rw [hsz]; decide)))))) (run_eqlI3 (v := true) (by decide) rfl (eval_same _ _ _ (by simp only [put_size, hsz]; decide)) rfl _) ?_
  refine wpList_run (wanted_of rfl) (run_pick_true (v := .bool true) rfl ((eval_other _ 56 52 _ (by decide)).trans ((eval_other _ 55 52 _ (by decide)).trans ((eval_other _ 54 52 _ (by decide)).trans ((eval_other _ 53 52 _ (by decide)).trans (eval_same _ _ _ (by rw [hsz]; decide)))))) (eval_same _ _ _ (by simp only [put_size, hsz]; decide)) _) ?_
  refine wpList_run (wanted_of rfl) (run_assign (v := .bool true) rfl (eval_same _ _ _ (by simp only [put_size, hsz]; decide)) _) ?_
  refine wpList_nil ?_
  rw [← HA34.out]
  rw [← HA33.out]
  rw [← HA32.out]
  rw [← HA31.out]
  rw [← HA30.out]
  rw [HAA.out]
  go_frame
  clear HAA HA30 HA31 HA32 HA33 HA34
  go_wp2_with fail
  go_ret
  exact ⟨rfl, H43.out.2.2⟩
end Go.Proofs.YtgeacocdnenhdaaDoor

/-
  The laws' bound on grants (gen_tkveri.py).
-/
namespace Go.Proofs.YtgeacocdnenhdaaDoor
open Go.RowKit Go.Proofs.ShaWords
def longB (gs : List GrantM) : Bool := decide (20 < gs.length) || gs.any (fun g => decide (1024 < g.pre.size))
theorem longB_no {gs : List GrantM} (h : longB gs = false) : gs.length ≤ 20 ∧ ∀ x ∈ gs, x.pre.size ≤ 1024 := by
  unfold longB at h
  rw [Bool.or_eq_false_iff] at h
  refine ⟨by have := of_decide_eq_false h.1; omega, fun x hx => ?_⟩
  have := of_decide_eq_false (Bool.eq_false_iff.2 (List.any_eq_false.1 h.2 x hx))
  omega
theorem longB_yes {gs : List GrantM} {k : Nat} (hk : k < gs.length) (h : 1024 < gs[k].pre.size) : longB gs = true := by
  unfold longB
  rw [Bool.or_eq_true]
  exact .inr (List.any_eq_true.2 ⟨_, List.getElem_mem hk, decide_eq_true h⟩)
set_option maxRecDepth 100000 in
set_option maxHeartbeats 4000000 in
theorem long14_any (gs : List GrantM) (n c : Nat) (p : Option Addr) (w : World) (hn : gs.length = n) (hL : GrantsAt w p gs) : Calls Tryd.prog 22 #[.slice p n c] w (ReturnsB (longB gs) w) := by
  have HN := Lib.hid hn
  have HL := Lib.hid hL
  clear hn hL
  go_enter Tryd.func22, Tryd.ntmps22
  by_cases h20 : 20 < n
  · have q0 : (n : Int) > 20 := by omega
    have HR : Hid (longB gs = true) := show _ = _ by unfold longB; rw [decide_eq_true (by rw [HN.out]; exact h20)]; rfl
    go_wp2_with fail
    go_ret
    exact ⟨by rw [HR.out]; rfl, rfl⟩
  have q0 : ¬ (n : Int) > 20 := by omega
  go_upto_region 3 with (fail)
  go_wp2_with fail
  go_loopw [3] (fun i wr => ∃ k : Nat, k ≤ n ∧ i = .int .i64 (k : Int) ∧ (∀ x ∈ gs.take k, x.pre.size ≤ 1024) ∧ w = wr) (fun i _ => n - (intOf i).toNat)
  case atStart => exact ⟨0, Nat.zero_le _, rfl, fun x hx => by simp at hx, rfl⟩
  case round =>
    obtain ⟨k, hk, rfl, hall, rfl⟩ := hrel
    by_cases hlt : k < n
    · have hlt' : k < gs.length := by rw [HN.out]; exact hlt
      rcases HL.out.at' with h1 | ⟨b, off, rfl, hr⟩
      · exfalso; rw [h1] at hlt'; simp at hlt'
      have hc : w.cell? ⟨b, off + k * 4 + 1, none⟩ = some (.string (gs[k]).pre) := hr k hlt' 1 _ rfl
      have HTK := Lib.hid (List.take_succ_eq_append_getElem hlt')
      have HY := Lib.hid (longB_yes hlt')
      generalize gs[k] = x at hc HTK HY
      have HALL := Lib.hid hall
      clear hall hr hlt'
      have q1 : (k : Int) < (n : Int) := by omega
      by_cases hx : 1024 < x.pre.size
      · have HR := Lib.hid (HY.out hx)
        have q2 : (x.pre.size : Int) > 1024 := by omega
        go_wp2_with fail
        go_ret
        exact ⟨by rw [HR.out]; rfl, rfl⟩
      · have q2 : ¬ (x.pre.size : Int) > 1024 := by omega
        have HX : Hid (x.pre.size ≤ 1024) := show _ ≤ _ by omega
        go_wp2_with fail
        go_roundw
        case rel => exact ⟨k + 1, by omega, by go_num, fun y hy => by rw [HTK.out] at hy; rcases List.mem_append.1 hy with hy | hy; exact HALL.out y hy; rw [List.mem_singleton.1 hy]; exact HX.out, by trivial⟩
        case measure => simp [intOf]; omega
    · obtain rfl : k = n := by omega
      have HR : Hid (longB gs = false) := show _ = _ by
        unfold longB
        rw [decide_eq_false (by rw [HN.out]; exact h20), Bool.false_or, List.any_eq_false]
        intro x hx
        rw [List.take_of_length_le (by rw [HN.out]; omega)] at hall
        have := hall x hx
        simp; omega
      go_wp2_with fail
      go_ret
      exact ⟨by rw [HR.out]; rfl, rfl⟩
end Go.Proofs.YtgeacocdnenhdaaDoor
