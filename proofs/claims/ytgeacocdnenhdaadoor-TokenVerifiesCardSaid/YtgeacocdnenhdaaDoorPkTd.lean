/-
  What other texts lean on: TkAtt, TkAtt2, TkMint, TkPut.
-/
import Derived.Test.YtgeacocdnenhdaaDoorPkM
import Derived.Test.YtgeacocdnenhdaaDoorPkTb
import Derived.Test.YtgeacocdnenhdaaDoorPkTc
/-
  The program's followed and Attenuate (gen_tkatt.py).
-/
namespace Go.Proofs.YtgeacocdnenhdaaDoor
open Go.RowKit Go.Proofs.ShaWords
theorem infoGr : (Tryd.prog.info? 54).map (fun i => (i.zero, i.size, i.bytes)) = some (some (.agg gz.cells.toArray), 4, 40) := by kernel_rfl
theorem run_makeG0 {ρ : Operand → Value} {o : Oper} {x y : Operand} {n : Nat} (hn : n ≤ 1000001) (ho : o.op = .makeSlice 44 x y) (hx : ρ x = .int .i64 0) (hy : ρ y = .int .i64 (n : Int)) (w : World) :
    (execOp ρ o).run Tryd.prog w = .ok (.value (.slice (some ⟨w.heap.size, 0, none⟩) 0 n)) (w.alloc (.cells (madeCells gz.cells.toArray (n * 4)) 54)) := by
  obtain ⟨i, hi, hz, hs, hb⟩ := info_parts infoGr
  have hrun := run_make (P := Tryd.prog) w 44 54 i (.agg gz.cells.toArray) Tryd.underlying44 hi hz .i64 .i64 0 (n : Int) (by omega) (by omega) (by rw [hb]; omega) (by omega)
  rw [hs] at hrun
  simp only [Int.toNat_natCast, Int.toNat_zero] at hrun
  unfold execOp
  simp only [ho, hx, hy, Sem.run_bind, hrun, Result.andThen_ok, Sem.run_pure]
  rfl
theorem made0 {B n : Nat} {w : World} (hB : B ≤ w.heap.size) (hn : n ≤ 1000001) : OwnGrants B (w.alloc (.cells (madeCells gz.cells.toArray (n * 4)) 54)) [] (.slice (some ⟨w.heap.size, 0, none⟩) 0 n) :=
  ⟨rfl, .inr ⟨w.heap.size, n, _, rfl, hB, heap_new_at rfl, Nat.zero_le _, by unfold maxLen; omega, size_madeCells _ _, by simp [flatV]⟩⟩
/-- The token, the grant, the answer's block. -/
structure FoB (t : TokM) (q : Value) (g : GrantM) (W w : World) : Prop where
  tok : TokAt w W.heap.size t q
  grant : GrantAt w (W.heap.size + 1) g
  out : TokAt w (W.heap.size + 2) zeroTok (.slice none 0 0)
  below : Below W.heap.size W w
  consts : Consts w
  starts : Starts w
theorem FoB.step {t : TokM} {q : Value} {g : GrantM} {W w w' : World} (hcs : W.heap.size > 2 ∧ W.heap.size > 1) (h : FoB t q g W w) (hb : Below (W.heap.size + 3) w w') : FoB t q g W w' :=
  ⟨h.tok.below hb (by omega), h.grant.below hb (by omega), h.out.below hb (by omega), h.below.trans (hb.mono (by omega)), h.consts.below hb (by omega), fun j v hv => (hb.cell (p := ⟨1, 0 + j, none⟩) (by show 1 < _; omega)).trans (h.starts j v hv)⟩
theorem FoB.size {t : TokM} {q : Value} {g : GrantM} {W w : World} (h : FoB t q g W w) : W.heap.size + 3 ≤ w.heap.size := h.out.lt
theorem FoB.grow {t : TokM} {q : Value} {g : GrantM} {W w w' : World} (h : FoB t q g W w) (hb : Below w.heap.size w w') : FoB t q g W w' :=
  ⟨h.tok.keep hb, h.grant.below hb (by have := h.size; omega), h.out.keep hb, h.below.trans (hb.mono h.below.size), consts_below h.consts hb, starts_below h.starts hb⟩
/-- Ahead of the append the former grants' slice is whole. -/
structure FoS (t : TokM) (q : Value) (g : GrantM) (V : Value) (H : Nat) (X : World) (L : Array Bool) (w : World) : Prop where
  base : FoB t q g X w
  own : L.getD 9 false = false → OwnGrants (X.heap.size + 3) w t.gs V
  size : H ≤ w.heap.size
theorem FoS.step {t : TokM} {q : Value} {g : GrantM} {V : Value} {H i : Nat} {X w w' : World} {L : Array Bool} (h : FoS t q g V H X L w) (hi : i ≠ 9) (hb : Below w.heap.size w w') : FoS t q g V H X (L.setIfInBounds i true) w' :=
  ⟨h.base.grow hb, fun hl => (h.own (by rw [getD_set_ne false hi] at hl; exact hl)).below hb, Nat.le_trans h.size hb.size⟩
theorem tok_built (s : ByteArray) (i : Int) (q : Option Addr) (n c : Nat) (gs : List GrantM) (m : List (BitVec 8)) (hm : m.length = 32) : Tryd.prog.built 50 [(0, .string s), (1, .int .i64 i), (2, .slice q n c), (3, .agg (bytesV m).toArray)] = some (TokM.cells ⟨s, i, gs, m⟩ (.slice q n c)).toArray := by
  have h := built_seq (P := Tryd.prog) 50 [.string s, .int .i64 i, .slice q n c, .agg (bytesV m).toArray] _ [(0, 1), (1, 1), (2, 1), (3, 32)] 35 Tryd.underlying50 (by kernel_rfl) (by kernel_rfl) ⟨rfl, rfl, rfl, (by show some (3, 32) = some (3, (bytesV m).toArray.size); rw [bytesV_size _ 32 hm]), trivial⟩ (by simp [Value.cells, bytesV_length, hm])
  have e : ([Value.string s, .int .i64 i, .slice q n c, .agg (bytesV m).toArray].flatMap (·.cells.toList)) = TokM.cells ⟨s, i, gs, m⟩ (.slice q n c) := by simp [Value.cells, TokM.cells]
  rw [e] at h
  exact h
section
variable {ρ : Operand → Value} {o : Oper} {x y z u : Operand}
theorem run_bld4T {T : TypeId} {i j k l : Nat} {a b c d : Value} {C : Array Value} (ho : o.op = .build T #[(i, x), (j, y), (k, z), (l, u)]) (hx : ρ x = a) (hy : ρ y = b) (hz : ρ z = c) (hu : ρ u = d) (hb : Tryd.prog.built T [(i, a), (j, b), (k, c), (l, d)] = some C) (w : World) : (execOp ρ o).run Tryd.prog w = .ok (.value (.agg C)) w := by
  have hr := Go.run_build (P := Tryd.prog) w T #[(i, a), (j, b), (k, c), (l, d)] _ hb
  obtain ⟨dst, op, ty', pos, after, guard⟩ := o
  simp only at ho
  subst ho
  unfold execOp
  simp only [List.map_toArray, List.map_cons, List.map_nil, hx, hy, hz, hu, Sem.run_bind, hr, Result.andThen_ok, Sem.run_pure]
theorem run_bld3T {T : TypeId} {i j k : Nat} {a b c : Value} {C : Array Value} (ho : o.op = .build T #[(i, x), (j, y), (k, z)]) (hx : ρ x = a) (hy : ρ y = b) (hz : ρ z = c) (hb : Tryd.prog.built T [(i, a), (j, b), (k, c)] = some C) (w : World) : (execOp ρ o).run Tryd.prog w = .ok (.value (.agg C)) w := by
  have hr := Go.run_build (P := Tryd.prog) w T #[(i, a), (j, b), (k, c)] _ hb
  obtain ⟨dst, op, ty', pos, after, guard⟩ := o
  simp only at ho
  subst ho
  unfold execOp
  simp only [List.map_toArray, List.map_cons, List.map_nil, hx, hy, hz, Sem.run_bind, hr, Result.andThen_ok, Sem.run_pure]
end
theorem set_false {L : Array Bool} {i : Nat} (h : L.getD i true = false) (hl : (L.setIfInBounds i true).getD i false = false) : False := by
  have hi : i < L.size := by
    rcases Nat.lt_or_ge i L.size with h' | h'
    · exact h'
    · simp [Array.getElem?_eq_none h'] at h
  simp [hi] at hl
theorem lowerR {tr : TypeId} {N : Nat} {α : Type} {cells : α → List Value} {B B' : Nat} {w : World} {l : List α} {v : Value} (h : OwnR tr N cells B w l v) (hb : B' ≤ B) : OwnR tr N cells B' w l v := by
  rcases h.2 with h0 | ⟨g, cap, cur, he, hg, r⟩
  · exact ⟨h.1, .inl h0⟩
  · exact ⟨h.1, .inr ⟨g, cap, cur, he, Nat.le_trans hb hg, r⟩⟩
theorem one_row {w : World} {b : Nat} {x : GrantM} (h : w.heap[b]? = some (.cells x.cells.toArray 54 (0, 0))) : GrantsAt w (some ⟨b, 0, none⟩) [x] :=
  rowOf_flat GrantM.len (t := 54) (by simpa [flatV] using h)
set_option maxRecDepth 100000 in
set_option maxHeartbeats 8000000 in
theorem followed_any (t : TokM) (g : GrantM) (n c : Nat) (p : Option Addr) (w : World) (hn : t.gs.length = n) (hok : t.Ok) (hg : g.pre.size ≤ 1000000) (hL : GrantsAt w p t.gs) (hk : Consts w) (hs : Starts w) :
    Calls Tryd.prog 103 #[.agg (t.cells (.slice p n c)).toArray, .agg g.cells.toArray] w fun e w' => ∃ q nq cq, e = .returned (.agg (TokM.cells ⟨t.ten, t.id, t.gs ++ [g], macOf t.mac (encG g)⟩ (.slice q nq cq)).toArray) ∧ OwnGrants w.heap.size w' (t.gs ++ [g]) (.slice q nq cq) ∧ Below w.heap.size w w' := by
  have hcs : w.heap.size > 2 ∧ w.heap.size > 1 := ⟨hk.size, by have := World.block_lt_of_cell? w _ (hs 0 _ rfl); exact this⟩
  have hn6 : n ≤ 1000 := by rw [← hn]; exact hok.few
  have HCS := Lib.hid hcs
  have HOK := Lib.hid hok
  have HG := Lib.hid hg
  have HL := Lib.hid hL
  have HN := Lib.hid hn
  have HB0 : Hid (FoB t (.slice p n c) g w (((w.alloc (.cells (t.cells (.slice p n c)).toArray 50)).alloc (.cells g.cells.toArray 54)).alloc (.cells (zeroTok.cells (.slice none 0 0)).toArray 50))) := by
    have b1 := allocBelow w (.cells (t.cells (.slice p n c)).toArray 50)
    have r1 : TokAt (w.alloc (.cells (t.cells (.slice p n c)).toArray 50)) w.heap.size t (.slice p n c) := heap_new_at rfl
    have z1 := size_alloc w (.cells (t.cells (.slice p n c)).toArray 50)
    generalize w.alloc (.cells (t.cells (.slice p n c)).toArray 50) = w1 at b1 r1 z1 ⊢
    have b2 := allocBelow w1 (.cells g.cells.toArray 54)
    have r2 : GrantAt (w1.alloc (.cells g.cells.toArray 54)) (w.heap.size + 1) g := heap_new_at z1
    have z2 := size_alloc w1 (.cells g.cells.toArray 54)
    generalize w1.alloc (.cells g.cells.toArray 54) = w2 at b2 r2 z2 ⊢
    have b3 := allocBelow w2 (.cells (zeroTok.cells (.slice none 0 0)).toArray 50)
    have bb := (b1.trans (b2.mono (by omega))).trans (b3.mono (by omega))
    exact ⟨(r1.keep b2).keep b3, r2.below b3 (by omega), heap_new_at (by omega), bb, hk.below bb hk.size, range_keep hs bb⟩
  clear hok hL hn hk hs hg hcs
  obtain ⟨TC, hTC⟩ : ∃ TC, TC = (t.cells (.slice p n c)).toArray := ⟨_, rfl⟩
  obtain ⟨GC, hGC⟩ : ∃ GC, GC = g.cells.toArray := ⟨_, rfl⟩
  rw [← hTC, ← hGC] at HB0
  rw [← hTC, ← hGC]
  have HTC := Lib.hid hTC
  have HGC := Lib.hid hGC
  clear hTC hGC
  go_enter Tryd.func103, Tryd.ntmps103
  go_upto_region 1 with (fail)
  refine wp_gen (fun A => FoB t (.slice p n c) g w A) (by exact HB0.out) ?_
  rintro A hA
  have c2 := hA.tok.c2
  have HA := Lib.hid hA
  clear hA HB0
  go_wp2_with (show wpList _ _ _ (⟨_, .makeSlice _ _ _, _, _, _, _⟩ :: _) _ _; refine wpList_runW8 (by rfl) (run_makeG0 (n := n + 1) (by omega) rfl rfl rfl _) ?_; have HW0 : Hid (FoB t (.slice p n c) g w (A.alloc (.cells (madeCells gz.cells.toArray ((n + 1) * 4)) 54)) ∧ OwnGrants (w.heap.size + 3) (A.alloc (.cells (madeCells gz.cells.toArray ((n + 1) * 4)) 54)) [] (.slice (some ⟨A.heap.size, 0, none⟩) 0 (n + 1))) := (show _ ∧ _ from ⟨HA.out.grow (allocBelow _ _), made0 HA.out.size (by omega)⟩); have c2b := HW0.out.1.tok.c2; generalize A.alloc (.cells (madeCells gz.cells.toArray ((n + 1) * 4)) 54) = A1 at HW0 c2b ⊢)
  go_loopw [5, 16] (fun v i wr => ∃ k : Nat, k ≤ n ∧ i = .int .i64 (k : Int) ∧ FoB t (.slice p n c) g w wr ∧ OwnGrants (w.heap.size + 3) wr (t.gs.take k) v) (fun _ i _ => n - (intOf i).toNat)
  case atStart => exact ⟨0, Nat.zero_le _, rfl, HW0.out.1, by simpa using HW0.out.2⟩
  case round =>
    clear HW0 HA
    obtain ⟨k, hk, rfl, hfo, hown⟩ := hrel
    by_cases hlt : k < n
    · have hlt' : k < t.gs.length := by rw [HN.out]; exact hlt
      rcases HL.out.at' with h1 | ⟨b, off, rfl, hr⟩
      · exfalso; rw [h1] at hlt'; simp at hlt'
      have hrk := range_keep (hr k hlt') hfo.below
      have HTK := Lib.hid (List.take_succ_eq_append_getElem hlt')
      have HSM := Lib.hid (HOK.out.gs _ (List.getElem_mem hlt')).1
      generalize t.gs[k] = x at hrk HTK HSM
      have HK1 : Hid ((t.gs.take k).length ≤ 1000000) := show _ ≤ _ by rw [List.length_take]; omega
      have HR := Lib.hid hrk
      have HFO := Lib.hid hfo
      have HOW := Lib.hid hown
      have HKL := Lib.hid hlt
      clear hfo hown hr hrk hlt'
      go_upto_region 4 with (fail)
      refine wp_region_lit ?_
      refine wpList_run (by rfl) (grantT.run_ix rfl rfl rfl HKL.out _) ?_
      refine wpList_run (by rfl) (grantT.run_ld Tryd.underlying54 rfl (GrantM.len x) rfl rfl HR.out) ?_
      refine wpList_runW8 (by rfl) (run_allocGr rfl _) ?_
      refine wpList_store_row rfl 54 (.tmp 7) (.tmp 19) rfl wr.heap.size x.cells.toArray rfl rfl 54 _ (heap_new_at rfl) (size_grant x) rfl (grant_ones2 x) ?_
      refine wpList_nil ?_
      have hA : EnG wr.heap.size x wr ((wr.alloc (.cells gz.cells.toArray 54)).setRow wr.heap.size x.cells.toArray) := ⟨setRow_heap _ _ _ _ _ _ (heap_new_at rfl), below_setRow (allocBelow _ _) (Nat.le_refl _) _⟩
      generalize (wr.alloc (.cells gz.cells.toArray 54)).setRow wr.heap.size x.cells.toArray = A2 at hA ⊢
      have HA2 := Lib.hid hA; clear hA
      go_frame
      have hlen2 := GrantM.len x
      go_wp2_with (first
        | (show wpList _ _ _ (⟨_, .load 54 _, _, _, _, _⟩ :: _) _ _; refine wpList_run (by rfl) (run_loadBlk rfl rfl HA2.out.box grant_under (size_grant x)) ?_)
        | (go_at_call 97; refine (ownG_any x A2 (by have := HSM.out; omega)).mono ?_; rintro e w5 ⟨rfl, hb5⟩; have HB5 : Hid (Below wr.heap.size wr w5) := (show Below _ _ _ from HA2.out.below.trans (hb5.mono HA2.out.below.size)); have HF5 := Lib.hid (HFO.out.grow HB5.out); have HO5 := Lib.hid (HOW.out.below HB5.out); clear hb5)
        | (at_builtin; refine grantT.wpList_grow GrantM.len (by rfl) rfl rfl (HO5.out.below (boxBelow _ _)) rfl (heap_new_at rfl) x.ones HK1.out (by have := HF5.out.size; rw [size_alloc]; omega) ?_; intro v' w' ho' hb' _ _; rw [← HTK.out] at ho'; have HO' := Lib.hid ho'; have HF' := Lib.hid ((HF5.out.grow (allocBelow _ _)).step HCS.out hb'); clear ho' hb'))
      go_roundw
      case rel => exact ⟨k + 1, by omega, by go_num, HF'.out, HO'.out⟩
      case measure => simp [intOf]; omega
    · obtain rfl : k = n := by omega
      rw [List.take_of_length_le (by rw [HN.out]; omega)] at hown
      have hl := hown.lies GrantM.len
      rw [HN.out] at hl
      obtain ⟨pv, cv, rfl, hcv, -, -, hblk⟩ := hl
      have HFO := Lib.hid hfo
      have HOW := Lib.hid hown
      have HBK := Lib.hid hblk
      have HCV := Lib.hid hcv
      clear hfo hown hblk hcv
      go_upto_region 7 with (fail)
      have HS0 : Hid (FoS t (.slice p k c) g (.slice pv k cv) wr.heap.size w (Array.replicate 17 false) wr) := show FoS _ _ _ _ _ _ _ _ from ⟨HFO.out, fun _ => HOW.out, Nat.le_refl _⟩
      have HOB : Hid (∀ b, (Value.slice pv k cv).ownBlock = some b → w.heap.size + 3 ≤ b ∧ b < wr.heap.size) := show ∀ _, _ → _ from fun b h => World.ownsRow.lt HOW.out b h
      have HK6 : Hid (k ≤ 1000) := show _ ≤ _ from hn6
      refine region_growR (FoS t (.slice p k c) g (.slice pv k cv) wr.heap.size w) (fun j W W' => if j = 9 then Stays (fun b => (Value.slice pv k cv).ownBlock = some b) W W' else Below W.heap.size W W') (fun i vz wz => match i with | 0 => vz = .pointer (some ⟨w.heap.size, 0, none⟩) | 1 => vz = .string t.ten | 2 => vz = .string t.ten | 3 => vz = .pointer (some ⟨w.heap.size, 1, none⟩) | 4 => vz = .int .i64 t.id | 5 => vz = .slice pv k cv | 6 => vz = .agg g.cells.toArray | 7 => vz = .agg g.cells.toArray | 8 => ∃ b : Nat, vz = .slice (some ⟨b, 0, none⟩) 1 1 ∧ wr.heap.size ≤ b ∧ GrantAt wz b g | 9 => ∃ (q : Option Addr) (cq : Nat), vz = .slice q (k + 1) cq ∧ OwnGrants (w.heap.size + 3) wz (t.gs ++ [g]) (.slice q (k + 1) cq) | 10 => vz = .pointer (some ⟨w.heap.size, 3, none⟩) | 11 => vz = .agg (bytesV t.mac).toArray | 12 => vz = .agg g.cells.toArray | 13 => ∃ (q : Option Addr) (cq : Nat), vz = .slice q (g.pre.size + 32) cq ∧ g.pre.size + 32 ≤ cq ∧ cq ≤ 9223372036854775807 ∧ Own wr.heap.size wz (encG g) (.slice q (g.pre.size + 32) cq) | 14 => vz = .agg (bytesV (macOf t.mac (encG g))).toArray | 15 => ∃ (q : Option Addr) (cq : Nat), vz = .agg (TokM.cells ⟨t.ten, t.id, t.gs ++ [g], macOf t.mac (encG g)⟩ (.slice q (k + 1) cq)).toArray ∧ OwnGrants (w.heap.size + 3) wz (t.gs ++ [g]) (.slice q (k + 1) cq) | _ => True) (by kernel_rfl) (by kernel_rfl) (by kernel_rfl) (by kernel_rfl) (by decide) (⟨HFO.out.grow (Below.refl _ _).drew, fun _ => OwnR.below HOW.out (Below.refl _ _).drew, Nat.le_refl _⟩) ?_ ?_
      · skip
        intro i jz vz wz w2 hij hw hr hf
        match i, hij, hw, hf with
        | 0, _, _, hf => exact hf
        | 1, _, _, hf => exact hf
        | 2, _, _, hf => exact hf
        | 3, _, _, hf => exact hf
        | 4, _, _, hf => exact hf
        | 5, _, _, hf => exact hf
        | 6, _, _, hf => exact hf
        | 7, _, _, hf => exact hf
        | 8, _, hw, hf =>
          by_cases hj : jz = 9
          · rw [if_pos hj] at hr; have hs := hr; obtain ⟨b, e, h1, h⟩ := hf; exact ⟨b, e, h1, (hs.block b (Array.getElem?_eq_some_iff.1 h).1 (fun t => by have h2 := HOB.out b t; omega)).trans h⟩
          · rw [if_neg hj] at hr; have hb := hr; obtain ⟨b, e, h1, h⟩ := hf; exact ⟨b, e, h1, h.below hb (Array.getElem?_eq_some_iff.1 h).1⟩
        | 9, hij, _, hf => rw [if_neg (Ne.symm hij)] at hr; have hb := hr; obtain ⟨q, cq, e, h⟩ := hf; exact ⟨q, cq, e, OwnR.below h hb⟩
        | 10, _, _, hf => exact hf
        | 11, _, _, hf => exact hf
        | 12, _, _, hf => exact hf
        | 13, _, hw, hf =>
          by_cases hj : jz = 9
          · rw [if_pos hj] at hr; have hs := hr; obtain ⟨q, cq, e, h1, h2, h⟩ := hf; exact ⟨q, cq, e, h1, h2, ownsRow_stays h hs (fun j e t => by have h1 := World.ownsRow.lt h j e; have h2 := HOB.out j t; omega)⟩
          · rw [if_neg hj] at hr; have hb := hr; obtain ⟨q, cq, e, h1, h2, h⟩ := hf; exact ⟨q, cq, e, h1, h2, h.below hb⟩
        | 14, _, _, hf => exact hf
        | 15, _, hw, hf =>
          by_cases hj : jz = 9
          · subst hj; exact Bool.noConfusion (hw.symm.trans (by kernel_rfl) : false = true)
          · rw [if_neg hj] at hr; have hb := hr; obtain ⟨q, cq, e, h⟩ := hf; exact ⟨q, cq, e, OwnR.below h hb⟩
        | _ + 16, _, _, _ => trivial
      intro ops hops
      have hf2 : ∀ (i : Nat) (o : Oper), ops[i]? = some o → o.dst ≠ some 2 := by rw [hops]; exact fun i o h => slot_free (by kernel_rfl) i o h
      have hf3 : ∀ (i : Nat) (o : Oper), ops[i]? = some o → o.dst ≠ some 3 := by rw [hops]; exact fun i o h => slot_free (by kernel_rfl) i o h
      have hf4 : ∀ (i : Nat) (o : Oper), ops[i]? = some o → o.dst ≠ some 4 := by rw [hops]; exact fun i o h => slot_free (by kernel_rfl) i o h
      have hf5 : ∀ (i : Nat) (o : Oper), ops[i]? = some o → o.dst ≠ some 5 := by rw [hops]; exact fun i o h => slot_free (by kernel_rfl) i o h
      have hns : ops.size = 17 := by rw [hops]; rfl
      obtain ⟨o0, po0, q0, d0, gd0⟩ : ∃ o, ops[0]? = some o ∧ o.op = .fieldAddr 50 (.tmp 2) 0 ∧ o.dst = some 26 ∧ o.guard = none := ⟨_, by rw [hops]; rfl, rfl, rfl, rfl⟩
      obtain ⟨o1, po1, q1, d1, gd1, dp1_0⟩ : ∃ o, ops[1]? = some o ∧ o.op = .load 9 (.tmp 26) ∧ o.dst = some 27 ∧ o.guard = none ∧ (o.after.any fun e => Region.binds .any e && decide (e.on = 0)) = true := ⟨_, by rw [hops]; rfl, rfl, rfl, rfl, by kernel_rfl⟩
      obtain ⟨o2, po2, q2, d2, gd2, dp2_1⟩ : ∃ o, ops[2]? = some o ∧ o.op = .call { callee := .value (.func 96), args := #[.tmp 27], argTypes := #[9] } ∧ o.dst = some 28 ∧ o.guard = none ∧ (o.after.any fun e => Region.binds .any e && decide (e.on = 1)) = true := ⟨_, by rw [hops]; rfl, rfl, rfl, rfl, by kernel_rfl⟩
      obtain ⟨o3, po3, q3, d3, gd3⟩ : ∃ o, ops[3]? = some o ∧ o.op = .fieldAddr 50 (.tmp 2) 1 ∧ o.dst = some 29 ∧ o.guard = none := ⟨_, by rw [hops]; rfl, rfl, rfl, rfl⟩
      obtain ⟨o4, po4, q4, d4, gd4, dp4_3⟩ : ∃ o, ops[4]? = some o ∧ o.op = .load 3 (.tmp 29) ∧ o.dst = some 30 ∧ o.guard = none ∧ (o.after.any fun e => Region.binds .any e && decide (e.on = 3)) = true := ⟨_, by rw [hops]; rfl, rfl, rfl, rfl, by kernel_rfl⟩
      obtain ⟨o5, po5, q5, d5, gd5⟩ : ∃ o, ops[5]? = some o ∧ o.op = .move (.tmp 5) ∧ o.dst = some 31 ∧ o.guard = none := ⟨_, by rw [hops]; rfl, rfl, rfl, rfl⟩
      obtain ⟨o6, po6, q6, d6, gd6⟩ : ∃ o, ops[6]? = some o ∧ o.op = .load 54 (.tmp 3) ∧ o.dst = some 32 ∧ o.guard = none := ⟨_, by rw [hops]; rfl, rfl, rfl, rfl⟩
      obtain ⟨o7, po7, q7, d7, gd7, dp7_6⟩ : ∃ o, ops[7]? = some o ∧ o.op = .call { callee := .value (.func 97), args := #[.tmp 32], argTypes := #[54] } ∧ o.dst = some 33 ∧ o.guard = none ∧ (o.after.any fun e => Region.binds .any e && decide (e.on = 6)) = true := ⟨_, by rw [hops]; rfl, rfl, rfl, rfl, by kernel_rfl⟩
      obtain ⟨o8, po8, q8, d8, gd8, dp8_7⟩ : ∃ o, ops[8]? = some o ∧ o.op = .buildSlice 44 1 #[(0, (.tmp 33))] ∧ o.dst = some 34 ∧ o.guard = none ∧ (o.after.any fun e => Region.binds .any e && decide (e.on = 7)) = true := ⟨_, by rw [hops]; rfl, rfl, rfl, rfl, by kernel_rfl⟩
      obtain ⟨o9, po9, q9, d9, gd9, dp9_5, dp9_8⟩ : ∃ o, ops[9]? = some o ∧ o.op = .call { callee := .builtin .append, args := #[.tmp 31, .tmp 34], argTypes := #[44, 44] } ∧ o.dst = some 35 ∧ o.guard = none ∧ (o.after.any fun e => Region.binds .any e && decide (e.on = 5)) = true ∧ (o.after.any fun e => Region.binds .any e && decide (e.on = 8)) = true := ⟨_, by rw [hops]; rfl, rfl, rfl, rfl, by kernel_rfl, by kernel_rfl⟩
      obtain ⟨o10, po10, q10, d10, gd10⟩ : ∃ o, ops[10]? = some o ∧ o.op = .fieldAddr 50 (.tmp 2) 3 ∧ o.dst = some 36 ∧ o.guard = none := ⟨_, by rw [hops]; rfl, rfl, rfl, rfl⟩
      obtain ⟨o11, po11, q11, d11, gd11, dp11_10⟩ : ∃ o, ops[11]? = some o ∧ o.op = .load 48 (.tmp 36) ∧ o.dst = some 37 ∧ o.guard = none ∧ (o.after.any fun e => Region.binds .any e && decide (e.on = 10)) = true := ⟨_, by rw [hops]; rfl, rfl, rfl, rfl, by kernel_rfl⟩
      obtain ⟨o12, po12, q12, d12, gd12⟩ : ∃ o, ops[12]? = some o ∧ o.op = .load 54 (.tmp 3) ∧ o.dst = some 38 ∧ o.guard = none := ⟨_, by rw [hops]; rfl, rfl, rfl, rfl⟩
      obtain ⟨o13, po13, q13, d13, gd13, dp13_12⟩ : ∃ o, ops[13]? = some o ∧ o.op = .call { callee := .value (.func 163), args := #[.tmp 38], argTypes := #[54] } ∧ o.dst = some 39 ∧ o.guard = none ∧ (o.after.any fun e => Region.binds .any e && decide (e.on = 12)) = true := ⟨_, by rw [hops]; rfl, rfl, rfl, rfl, by kernel_rfl⟩
      obtain ⟨o14, po14, q14, d14, gd14, dp14_11, dp14_13⟩ : ∃ o, ops[14]? = some o ∧ o.op = .call { callee := .value (.func 60), args := #[.tmp 37, .tmp 39], argTypes := #[48, 24] } ∧ o.dst = some 40 ∧ o.guard = none ∧ (o.after.any fun e => Region.binds .any e && decide (e.on = 11)) = true ∧ (o.after.any fun e => Region.binds .any e && decide (e.on = 13)) = true := ⟨_, by rw [hops]; rfl, rfl, rfl, rfl, by kernel_rfl, by kernel_rfl⟩
      obtain ⟨o15, po15, q15, d15, gd15, dp15_2, dp15_4, dp15_9, dp15_14⟩ : ∃ o, ops[15]? = some o ∧ o.op = .build 50 #[(0, (.tmp 28)), (1, (.tmp 30)), (2, (.tmp 35)), (3, (.tmp 40))] ∧ o.dst = some 41 ∧ o.guard = none ∧ (o.after.any fun e => Region.binds .any e && decide (e.on = 2)) = true ∧ (o.after.any fun e => Region.binds .any e && decide (e.on = 4)) = true ∧ (o.after.any fun e => Region.binds .any e && decide (e.on = 9)) = true ∧ (o.after.any fun e => Region.binds .any e && decide (e.on = 14)) = true := ⟨_, by rw [hops]; rfl, rfl, rfl, rfl, by kernel_rfl, by kernel_rfl, by kernel_rfl, by kernel_rfl⟩
      obtain ⟨o16, po16, q16, d16, gd16⟩ : ∃ o, ops[16]? = some o ∧ o.op = .store 50 (.tmp 4) (.tmp 41) ∧ o.dst = none ∧ o.guard = none := ⟨_, by rw [hops]; rfl, rfl, rfl, rfl⟩
      have hslots : ∀ t, t ∉ [26, 27, 28, 29, 30, 31, 32, 33, 34, 35, 36, 37, 38, 39, 40, 41] → ∀ (i : Nat) (o : Oper), ops[i]? = some o → o.dst ≠ some t := by rw [hops]; exact fun t ht i o h => slots_free (by kernel_rfl) t ht i o h
      clear hops
      refine ⟨fun A W L HS hfr hAs i o hi hLi ho hdep => ?_, fun A W L HS hdf hAs hfr hall => ?_⟩
      · skip
        have base2 : A.eval (.tmp 2) = .pointer (some ⟨w.heap.size, 0, none⟩) := (hfr 2 hf2).trans rfl
        have base3 : A.eval (.tmp 3) = .pointer (some ⟨w.heap.size + 1, 0, none⟩) := (hfr 3 hf3).trans rfl
        have base4 : A.eval (.tmp 4) = .pointer (some ⟨w.heap.size + 2, 0, none⟩) := (hfr 4 hf4).trans rfl
        have base5 : A.eval (.tmp 5) = .slice pv k cv := (hfr 5 hf5).trans rfl
        rw [hns] at hi
        obtain rfl | rfl | rfl | rfl | rfl | rfl | rfl | rfl | rfl | rfl | rfl | rfl | rfl | rfl | rfl | rfl : i = 0 ∨ i = 1 ∨ i = 2 ∨ i = 3 ∨ i = 4 ∨ i = 5 ∨ i = 6 ∨ i = 7 ∨ i = 8 ∨ i = 9 ∨ i = 10 ∨ i = 11 ∨ i = 12 ∨ i = 13 ∨ i = 14 ∨ i = 15 := by omega
        · skip
          obtain rfl : o = o0 := Option.some.inj (ho.symm.trans po0)
          refine at_op po0 d0 (wanted_of gd0) (run_fieldT (off := 0) q0 (fun _ => by kernel_rfl) base2 W) ⟨_, by rw [d0], (HS.step (by decide) (Below.refl _ _)), (by rw [if_neg (by decide)]; exact Below.refl _ _), rfl⟩
        · skip
          obtain rfl : o = o1 := Option.some.inj (ho.symm.trans po1)
          have e0 : A.eval (.tmp 26) = .pointer (some ⟨w.heap.size, 0, none⟩) := hdep 0 _ 26 dp1_0 po0 d0
          refine at_op po1 d1 (wanted_of gd1) (run_loadStr q1 e0 HS.base.tok.c0) ⟨_, by rw [d1], (HS.step (by decide) (Below.refl _ _)), (by rw [if_neg (by decide)]; exact Below.refl _ _), rfl⟩
        · skip
          obtain rfl : o = o2 := Option.some.inj (ho.symm.trans po2)
          have e1 : A.eval (.tmp 27) = .string t.ten := hdep 1 _ 27 dp2_1 po1 d1
          refine at_enterT po2 d2 (wanted_of gd2) (run_callf1 q2 rfl e1 Tryd.func96 (by kernel_rfl) _) (clone_str t.ten W (by have := HOK.out.ten; omega)) ?_
          rintro e w1 ⟨rfl, hb⟩
          exact ⟨_, rfl, ⟨_, by rw [d2], (HS.step (by decide) hb), (by rw [if_neg (by decide)]; exact hb), rfl⟩⟩
        · skip
          obtain rfl : o = o3 := Option.some.inj (ho.symm.trans po3)
          refine at_op po3 d3 (wanted_of gd3) (run_fieldT (off := 1) q3 (fun _ => by kernel_rfl) base2 W) ⟨_, by rw [d3], (HS.step (by decide) (Below.refl _ _)), (by rw [if_neg (by decide)]; exact Below.refl _ _), rfl⟩
        · skip
          obtain rfl : o = o4 := Option.some.inj (ho.symm.trans po4)
          have e3 : A.eval (.tmp 29) = .pointer (some ⟨w.heap.size, 1, none⟩) := hdep 3 _ 29 dp4_3 po3 d3
          refine at_op po4 d4 (wanted_of gd4) (run_loadInt q4 e3 HS.base.tok.c1) ⟨_, by rw [d4], (HS.step (by decide) (Below.refl _ _)), (by rw [if_neg (by decide)]; exact Below.refl _ _), rfl⟩
        · skip
          obtain rfl : o = o5 := Option.some.inj (ho.symm.trans po5)
          refine at_op po5 d5 (wanted_of gd5) (run_move q5 base5 W) ⟨_, by rw [d5], (HS.step (by decide) (Below.refl _ _)), (by rw [if_neg (by decide)]; exact Below.refl _ _), rfl⟩
        · skip
          obtain rfl : o = o6 := Option.some.inj (ho.symm.trans po6)
          refine at_op po6 d6 (wanted_of gd6) (run_loadBlk q6 base3 HS.base.grant grant_under (size_grant g)) ⟨_, by rw [d6], (HS.step (by decide) (Below.refl _ _)), (by rw [if_neg (by decide)]; exact Below.refl _ _), rfl⟩
        · skip
          obtain rfl : o = o7 := Option.some.inj (ho.symm.trans po7)
          have e6 : A.eval (.tmp 32) = .agg g.cells.toArray := hdep 6 _ 32 dp7_6 po6 d6
          refine at_enterT po7 d7 (wanted_of gd7) (run_callf1 q7 rfl e6 Tryd.func97 (by kernel_rfl) _) (ownG_any g W (by have := HG.out; omega)) ?_
          rintro e w1 ⟨rfl, hb⟩
          exact ⟨_, rfl, ⟨_, by rw [d7], (HS.step (by decide) hb), (by rw [if_neg (by decide)]; exact hb), rfl⟩⟩
        · skip
          obtain rfl : o = o8 := Option.some.inj (ho.symm.trans po8)
          have e7 : A.eval (.tmp 33) = .agg g.cells.toArray := hdep 7 _ 33 dp8_7 po7 d7
          refine at_op po8 d8 (wanted_of gd8) (grantT.run_one q8 e7 rfl W) ⟨_, by rw [d8], (HS.step (by decide) (allocBelow _ _)), (by rw [if_neg (by decide)]; exact (allocBelow _ _)), ⟨_, rfl, HS.size, heap_new_at rfl⟩⟩
        · skip
          obtain rfl : o = o9 := Option.some.inj (ho.symm.trans po9)
          have e5 : A.eval (.tmp 31) = .slice pv k cv := hdep 5 _ 31 dp9_5 po5 d5
          have f8 : ∃ b : Nat, (A.eval (.tmp 34)) = .slice (some ⟨b, 0, none⟩) 1 1 ∧ wr.heap.size ≤ b ∧ GrantAt W b g := hdep 8 _ 34 dp9_8 po8 d8
          obtain ⟨b8, e8, m8, l8⟩ := f8
          obtain ⟨v9, w9, hrun, ho9, hb9, hg9, -⟩ := grantT.run_appendMany GrantM.len GrantM.ones q9 e5 e8 (HS.own (getD_both hLi)) (k := 1) (m := [g]) rfl (one_row l8) (by rw [HN.out]; have := HK6.out; omega) HS.base.size
          have hl9 := ho9.lies GrantM.len
          rw [List.length_append, HN.out, List.length_singleton] at hl9
          obtain ⟨q9a, c9a, rfl, -⟩ := hl9
          refine at_op po9 d9 (wanted_of gd9) hrun ⟨_, by rw [d9], ⟨HS.base.step HCS.out hb9, fun hl => (set_false hLi hl).elim, Nat.le_trans HS.size hg9.size⟩, (by rw [if_pos rfl]; exact ⟨hg9.os, hg9.tape, hg9.output, hg9.size, fun j hj hn => hg9.block j hj (fun e => hn e.symm)⟩), ⟨_, _, rfl, ho9⟩⟩
        · skip
          obtain rfl : o = o10 := Option.some.inj (ho.symm.trans po10)
          refine at_op po10 d10 (wanted_of gd10) (run_fieldT (off := 3) q10 (fun _ => by kernel_rfl) base2 W) ⟨_, by rw [d10], (HS.step (by decide) (Below.refl _ _)), (by rw [if_neg (by decide)]; exact Below.refl _ _), rfl⟩
        · skip
          obtain rfl : o = o11 := Option.some.inj (ho.symm.trans po11)
          have e10 : A.eval (.tmp 36) = .pointer (some ⟨w.heap.size, 3, none⟩) := hdep 10 _ 36 dp11_10 po10 d10
          refine at_op po11 d11 (wanted_of gd11) (run_loadMac q11 e10 HOK.out.mac HS.base.tok.mac) ⟨_, by rw [d11], (HS.step (by decide) (Below.refl _ _)), (by rw [if_neg (by decide)]; exact Below.refl _ _), rfl⟩
        · skip
          obtain rfl : o = o12 := Option.some.inj (ho.symm.trans po12)
          refine at_op po12 d12 (wanted_of gd12) (run_loadBlk q12 base3 HS.base.grant grant_under (size_grant g)) ⟨_, by rw [d12], (HS.step (by decide) (Below.refl _ _)), (by rw [if_neg (by decide)]; exact Below.refl _ _), rfl⟩
        · skip
          obtain rfl : o = o13 := Option.some.inj (ho.symm.trans po13)
          have e12 : A.eval (.tmp 38) = .agg g.cells.toArray := hdep 12 _ 38 dp13_12 po12 d12
          refine at_enterT po13 d13 (wanted_of gd13) (run_callf1 q13 rfl e12 Tryd.func163 (by kernel_rfl) _) (encode_any g W HG.out) ?_
          rintro e w1 ⟨v, rfl, ho, hb⟩; obtain ⟨q3, c3, rfl, i3, j3, -⟩ := ho.named3 (encG_length g)
          exact ⟨_, rfl, ⟨_, by rw [d13], (HS.step (by decide) hb), (by rw [if_neg (by decide)]; exact hb), ⟨_, _, rfl, i3, j3, ho.lower HS.size⟩⟩⟩
        · skip
          obtain rfl : o = o14 := Option.some.inj (ho.symm.trans po14)
          have e11 : A.eval (.tmp 37) = .agg (bytesV t.mac).toArray := hdep 11 _ 37 dp14_11 po11 d11
          have f13 : ∃ (q : Option Addr) (cq : Nat), (A.eval (.tmp 39)) = .slice q (g.pre.size + 32) cq ∧ g.pre.size + 32 ≤ cq ∧ cq ≤ 9223372036854775807 ∧ Own wr.heap.size W (encG g) (.slice q (g.pre.size + 32) cq) := hdep 13 _ 39 dp14_13 po13 d13
          obtain ⟨y13, k13, e13, m13, n13, l13⟩ := f13
          refine at_enterT po14 d14 (wanted_of gd14) (run_callf2 q14 rfl e11 e13 Tryd.func60 (by kernel_rfl) _) (chain_len (g.pre.size + 32) t.mac (encG g) y13 k13 W (encG_length g) HOK.out.mac (l13.named (encG_length g) |>.elim fun _ h => h.elim fun _ h => by obtain ⟨h1, -, h2⟩ := h; cases h1; exact h2) m13 n13 (by have := HG.out; omega) HS.base.consts HS.base.starts) ?_
          rintro e w1 ⟨rfl, hb⟩
          exact ⟨_, rfl, ⟨_, by rw [d14], (HS.step (by decide) hb), (by rw [if_neg (by decide)]; exact hb), rfl⟩⟩
        · skip
          obtain rfl : o = o15 := Option.some.inj (ho.symm.trans po15)
          have e2 : A.eval (.tmp 28) = .string t.ten := hdep 2 _ 28 dp15_2 po2 d2
          have e4 : A.eval (.tmp 30) = .int .i64 t.id := hdep 4 _ 30 dp15_4 po4 d4
          have f9 : ∃ (q : Option Addr) (cq : Nat), (A.eval (.tmp 35)) = .slice q (k + 1) cq ∧ OwnGrants (w.heap.size + 3) W (t.gs ++ [g]) (.slice q (k + 1) cq) := hdep 9 _ 35 dp15_9 po9 d9
          obtain ⟨y9, k9, e9, l9⟩ := f9
          have e14 : A.eval (.tmp 40) = .agg (bytesV (macOf t.mac (encG g))).toArray := hdep 14 _ 40 dp15_14 po14 d14
          refine at_op po15 d15 (wanted_of gd15) (run_bld4T (a := .string t.ten) (b := .int .i64 t.id) (c := .slice y9 (k + 1) k9) (d := .agg (bytesV (macOf t.mac (encG g))).toArray) q15 e2 e4 e9 e14 (tok_built t.ten t.id y9 (k + 1) k9 (t.gs ++ [g]) _ (macOf_length _ _)) W) ⟨_, by rw [d15], (HS.step (by decide) (Below.refl _ _)), (by rw [if_neg (by decide)]; exact Below.refl _ _), ⟨_, _, rfl, l9⟩⟩
      have base2 : A.eval (.tmp 2) = .pointer (some ⟨w.heap.size, 0, none⟩) := (hfr 2 hf2).trans rfl
      have base3 : A.eval (.tmp 3) = .pointer (some ⟨w.heap.size + 1, 0, none⟩) := (hfr 3 hf3).trans rfl
      have base4 : A.eval (.tmp 4) = .pointer (some ⟨w.heap.size + 2, 0, none⟩) := (hfr 4 hf4).trans rfl
      have base5 : A.eval (.tmp 5) = .slice pv k cv := (hfr 5 hf5).trans rfl
      have e0 : A.eval (.tmp 26) = .pointer (some ⟨w.heap.size, 0, none⟩) := hall 0 _ 26 (by rw [hns]; decide) po0 d0
      have e1 : A.eval (.tmp 27) = .string t.ten := hall 1 _ 27 (by rw [hns]; decide) po1 d1
      have e2 : A.eval (.tmp 28) = .string t.ten := hall 2 _ 28 (by rw [hns]; decide) po2 d2
      have e3 : A.eval (.tmp 29) = .pointer (some ⟨w.heap.size, 1, none⟩) := hall 3 _ 29 (by rw [hns]; decide) po3 d3
      have e4 : A.eval (.tmp 30) = .int .i64 t.id := hall 4 _ 30 (by rw [hns]; decide) po4 d4
      have e5 : A.eval (.tmp 31) = .slice pv k cv := hall 5 _ 31 (by rw [hns]; decide) po5 d5
      have e6 : A.eval (.tmp 32) = .agg g.cells.toArray := hall 6 _ 32 (by rw [hns]; decide) po6 d6
      have e7 : A.eval (.tmp 33) = .agg g.cells.toArray := hall 7 _ 33 (by rw [hns]; decide) po7 d7
      have f8 : ∃ b : Nat, (A.eval (.tmp 34)) = .slice (some ⟨b, 0, none⟩) 1 1 ∧ wr.heap.size ≤ b ∧ GrantAt W b g := hall 8 _ 34 (by rw [hns]; decide) po8 d8
      obtain ⟨b8, e8, m8, l8⟩ := f8
      have f9 : ∃ (q : Option Addr) (cq : Nat), (A.eval (.tmp 35)) = .slice q (k + 1) cq ∧ OwnGrants (w.heap.size + 3) W (t.gs ++ [g]) (.slice q (k + 1) cq) := hall 9 _ 35 (by rw [hns]; decide) po9 d9
      obtain ⟨y9, k9, e9, l9⟩ := f9
      have e10 : A.eval (.tmp 36) = .pointer (some ⟨w.heap.size, 3, none⟩) := hall 10 _ 36 (by rw [hns]; decide) po10 d10
      have e11 : A.eval (.tmp 37) = .agg (bytesV t.mac).toArray := hall 11 _ 37 (by rw [hns]; decide) po11 d11
      have e12 : A.eval (.tmp 38) = .agg g.cells.toArray := hall 12 _ 38 (by rw [hns]; decide) po12 d12
      have f13 : ∃ (q : Option Addr) (cq : Nat), (A.eval (.tmp 39)) = .slice q (g.pre.size + 32) cq ∧ g.pre.size + 32 ≤ cq ∧ cq ≤ 9223372036854775807 ∧ Own wr.heap.size W (encG g) (.slice q (g.pre.size + 32) cq) := hall 13 _ 39 (by rw [hns]; decide) po13 d13
      obtain ⟨y13, k13, e13, m13, n13, l13⟩ := f13
      have e14 : A.eval (.tmp 40) = .agg (bytesV (macOf t.mac (encG g))).toArray := hall 14 _ 40 (by rw [hns]; decide) po14 d14
      have f15 : ∃ (q : Option Addr) (cq : Nat), (A.eval (.tmp 41)) = .agg (TokM.cells ⟨t.ten, t.id, t.gs ++ [g], macOf t.mac (encG g)⟩ (.slice q (k + 1) cq)).toArray ∧ OwnGrants (w.heap.size + 3) W (t.gs ++ [g]) (.slice q (k + 1) cq) := hall 15 _ 41 (by rw [hns]; decide) po15 d15
      obtain ⟨y15, k15, e15, l15⟩ := f15
      have hA := act_of_slots [26, 27, 28, 29, 30, 31, 32, 33, 34, 35, 36, 37, 38, 39, 40, 41] _ hAs hdf (fun t ht => hfr t (hslots t ht))
      simp only [List.foldl_cons, List.foldl_nil] at hA
      rw [show rdA A 26 = A.eval (.tmp 26) from rfl, e0] at hA
      rw [show rdA A 27 = A.eval (.tmp 27) from rfl, e1] at hA
      rw [show rdA A 28 = A.eval (.tmp 28) from rfl, e2] at hA
      rw [show rdA A 29 = A.eval (.tmp 29) from rfl, e3] at hA
      rw [show rdA A 30 = A.eval (.tmp 30) from rfl, e4] at hA
      rw [show rdA A 31 = A.eval (.tmp 31) from rfl, e5] at hA
      rw [show rdA A 32 = A.eval (.tmp 32) from rfl, e6] at hA
      rw [show rdA A 33 = A.eval (.tmp 33) from rfl, e7] at hA
      rw [show rdA A 34 = A.eval (.tmp 34) from rfl, e8] at hA
      rw [show rdA A 35 = A.eval (.tmp 35) from rfl, e9] at hA
      rw [show rdA A 36 = A.eval (.tmp 36) from rfl, e10] at hA
      rw [show rdA A 37 = A.eval (.tmp 37) from rfl, e11] at hA
      rw [show rdA A 38 = A.eval (.tmp 38) from rfl, e12] at hA
      rw [show rdA A 39 = A.eval (.tmp 39) from rfl, e13] at hA
      rw [show rdA A 40 = A.eval (.tmp 40) from rfl, e14] at hA
      rw [show rdA A 41 = A.eval (.tmp 41) from rfl, e15] at hA
      rw [hns]
      have hrow := setRow_heap W (w.heap.size + 2) _ (TokM.cells ⟨t.ten, t.id, t.gs ++ [g], macOf t.mac (encG g)⟩ (.slice y15 (k + 1) k15)).toArray 50 _ HS.base.out
      have hsz9 := size_tok (t := ⟨t.ten, t.id, t.gs ++ [g], macOf t.mac (encG g)⟩) (macOf_length _ _) (.slice y15 (k + 1) k15)
      refine at_skip po16 d16 (wanted_of gd16) (run_storeRowT q16 base4 e15 HS.base.out hsz9 (by rw [List.size_toArray, List.size_toArray, tok_len (t := zeroTok) rfl, tok_len (t := ⟨t.ten, t.id, t.gs ++ [g], macOf t.mac (encG g)⟩) (macOf_length _ _)]) (tok_ones _ _ _ _)) ?_
      have HOWN : Hid (OwnGrants w.heap.size (W.setRow (w.heap.size + 2) (TokM.cells ⟨t.ten, t.id, t.gs ++ [g], macOf t.mac (encG g)⟩ (.slice y15 (k + 1) k15)).toArray) (t.gs ++ [g]) (.slice y15 (k + 1) k15)) := show OwnR _ _ _ _ _ _ _ from lowerR (ownsRow_stays l15 (spares_stays (T := fun b => b = w.heap.size + 2) (Spares.grown (grown_setRow _ _ _) rfl)) (fun j e t => by have := World.ownsRow.lt l15 j e; omega)) (by omega)
      have HBEL := Lib.hid (below_setRow HS.base.below (show w.heap.size ≤ w.heap.size + 2 by omega) (TokM.cells ⟨t.ten, t.id, t.gs ++ [g], macOf t.mac (encG g)⟩ (.slice y15 (k + 1) k15)).toArray)
      have HROW := Lib.hid hrow
      generalize W.setRow (w.heap.size + 2) (TokM.cells ⟨t.ten, t.id, t.gs ++ [g], macOf t.mac (encG g)⟩ (.slice y15 (k + 1) k15)).toArray = W9 at HOWN HBEL HROW ⊢
      clear hall hdf hAs hfr hslots hns hf2 hf3 hf4 hf5 po0 q0 d0 gd0 po1 q1 d1 gd1 dp1_0 po2 q2 d2 gd2 dp2_1 po3 q3 d3 gd3 po4 q4 d4 gd4 dp4_3 po5 q5 d5 gd5 po6 q6 d6 gd6 po7 q7 d7 gd7 dp7_6 po8 q8 d8 gd8 dp8_7 po9 q9 d9 gd9 dp9_5 dp9_8 po10 q10 d10 gd10 po11 q11 d11 gd11 dp11_10 po12 q12 d12 gd12 po13 q13 d13 gd13 dp13_12 po14 q14 d14 gd14 dp14_11 dp14_13 po15 q15 d15 gd15 dp15_2 dp15_4 dp15_9 dp15_14 po16 q16 d16 gd16 base2 base3 base4 base5
      have HA9 := Lib.hid hA
      clear hA HS l15 l9 l13 l8 hrow HFO HOW HBK HOB HS0 e0 e1 e2 e3 e4 e5 e6 e7 e8 e9 e10 e11 e12 e13 e14 e15
      rw [HA9.out]
      go_frame
      clear HA9
      go_wp2_with fail
      exact bodyPost_ret (v := .agg (TokM.cells ⟨t.ten, t.id, t.gs ++ [g], macOf t.mac (encG g)⟩ (.slice y15 (k + 1) k15)).toArray) (results_cell_row (P := Tryd.prog) (p := 4) (ty := 50) Tryd.results103 _ _ (w.heap.size + 2) 50 (TokM.cells ⟨t.ten, t.id, t.gs ++ [g], macOf t.mac (encG g)⟩ (.slice y15 (k + 1) k15)).toArray (0, 0) _ rfl HROW.out Tryd.underlying50 rfl hsz9) rfl ⟨_, _, _, rfl, HOWN.out, HBEL.out⟩
end Go.Proofs.YtgeacocdnenhdaaDoor

/-
  The program's Attenuate (gen_tkatt2.py).
-/
namespace Go.Proofs.YtgeacocdnenhdaaDoor
open Go.RowKit Go.Proofs.ShaWords
theorem results_row_tmpT {P : Program} {fn : Func} {p u : Tmp} {ty : TypeId} (h : fn.results = #[.cell p ty, .tmp u]) (tmps : Array Value) (w : World) (g : Nat) (t : TypeId) (cs : Array Value) (fr : Nat × Nat) (d : TypeDesc) (v : Value)
    (hp : tmps.getD p undef = .pointer (some ⟨g, 0, none⟩)) (hv : tmps.getD u undef = v) (hg : w.heap[g]? = some (.cells cs t fr))
    (hu : P.underlying ty = some d) (hd : (match d with | .struct _ | .array _ _ => true | _ => false) = true) (hi : (P.info? ty).map (·.size) = some cs.size) :
    (results fn tmps).run P w = .ok (.tuple #[.agg cs, v]) w := by
  rw [results_cell_tmp h, hp, hv]
  simp [asAddr, Result.andThen, run_loadVar_row w g t ty cs fr d hg hu hd hi]
theorem attM_no {t : TokM} {g : GrantM} (h : attE t.gs g ≠ 0) : attM t g = zeroTok := by unfold attM; rw [if_neg h]
theorem attM_yes {t : TokM} {g : GrantM} (h : attE t.gs g = 0) : attM t g = ⟨t.ten, t.id, t.gs ++ [g], macOf t.mac (encG g)⟩ := by unfold attM; rw [if_pos h]
attribute [local irreducible] attM attE in
set_option maxRecDepth 100000 in
set_option maxHeartbeats 8000000 in
theorem atten_any (t : TokM) (g : GrantM) (n c : Nat) (p : Option Addr) (w : World) (hn : t.gs.length = n) (hok : t.Ok) (hg : g.pre.size ≤ 1000000) (hgo : g.Ok) (hL : GrantsAt w p t.gs) (hk : Consts w) (hs : Starts w) :
    Calls Tryd.prog 29 #[.agg (t.cells (.slice p n c)).toArray, .agg g.cells.toArray] w fun e w' => ∃ q nq cq, e = .returned (.tuple #[.agg ((attM t g).cells (.slice q nq cq)).toArray, .int .i64 (attE t.gs g)]) ∧ OwnGrants w.heap.size w' (attM t g).gs (.slice q nq cq) ∧ Below w.heap.size w w' := by
  have hcs : w.heap.size > 2 ∧ w.heap.size > 1 := ⟨hk.size, by have := World.block_lt_of_cell? w _ (hs 0 _ rfl); exact this⟩
  have hn6 : n ≤ 1000 := by rw [← hn]; exact hok.few
  have HEQ : Hid (attE t.gs g = if n = 0 then 1 else if 6 ≤ n then 3 else if checkM g ≠ 0 then checkM g else if narrowM (lastG t.gs) g = true then 0 else 25) := show _ = _ by unfold attE; rw [hn]
  have HCS := Lib.hid hcs
  have HOK := Lib.hid hok
  have HG := Lib.hid hg
  have HGO := Lib.hid hgo
  have HL := Lib.hid hL
  have HN := Lib.hid hn
  have HB0 : Hid (FoB t (.slice p n c) g w (((w.alloc (.cells (t.cells (.slice p n c)).toArray 50)).alloc (.cells g.cells.toArray 54)).alloc (.cells (zeroTok.cells (.slice none 0 0)).toArray 50))) := by
    have b1 := allocBelow w (.cells (t.cells (.slice p n c)).toArray 50)
    have r1 : TokAt (w.alloc (.cells (t.cells (.slice p n c)).toArray 50)) w.heap.size t (.slice p n c) := heap_new_at rfl
    have z1 := size_alloc w (.cells (t.cells (.slice p n c)).toArray 50)
    generalize w.alloc (.cells (t.cells (.slice p n c)).toArray 50) = w1 at b1 r1 z1 ⊢
    have b2 := allocBelow w1 (.cells g.cells.toArray 54)
    have r2 : GrantAt (w1.alloc (.cells g.cells.toArray 54)) (w.heap.size + 1) g := heap_new_at z1
    have z2 := size_alloc w1 (.cells g.cells.toArray 54)
    generalize w1.alloc (.cells g.cells.toArray 54) = w2 at b2 r2 z2 ⊢
    have b3 := allocBelow w2 (.cells (zeroTok.cells (.slice none 0 0)).toArray 50)
    have bb := (b1.trans (b2.mono (by omega))).trans (b3.mono (by omega))
    exact ⟨(r1.keep b2).keep b3, r2.below b3 (by omega), heap_new_at (by omega), bb, hk.below bb hk.size, range_keep hs bb⟩
  clear hok hL hn hk hs hg hcs hgo
  obtain ⟨TC, hTC⟩ : ∃ TC, TC = (t.cells (.slice p n c)).toArray := ⟨_, rfl⟩
  obtain ⟨GC, hGC⟩ : ∃ GC, GC = g.cells.toArray := ⟨_, rfl⟩
  rw [← hTC, ← hGC] at HB0
  rw [← hTC, ← hGC]
  have HTC := Lib.hid hTC
  have HGC := Lib.hid hGC
  clear hTC hGC
  go_enter Tryd.func29, Tryd.ntmps29
  go_upto_region 1 with (fail)
  refine wp_gen (fun A => FoB t (.slice p n c) g w A) (by exact HB0.out) ?_
  rintro A hA
  have c2 := hA.tok.c2
  have HA := Lib.hid hA
  clear hA HB0
  by_cases h0 : n = 0
  · subst h0
    have HE : Hid (attE t.gs g = 1) := show _ = _ by rw [HEQ.out, if_pos rfl]
    have HM : Hid (attM t g = zeroTok) := show _ = _ from attM_no (by rw [HE.out]; decide)
    go_upto_region 2 with (fail)
    refine wp_region_lit ?_
    refine wpList_run (by rfl) (show _ = Result.ok (Next.value (.agg (zeroTok.cells (.slice none 0 0)).toArray)) _ from by kernel_rfl) ?_
    refine wpList_store_row rfl 50 (.tmp 4) (.tmp 12) rfl (w.heap.size + 2) (zeroTok.cells (.slice none 0 0)).toArray rfl rfl 50 _ HA.out.out (size_tok (t := zeroTok) rfl _) rfl (tok_ones zeroTok none 0 0) ?_
    refine wpList_run (by rfl) (run_assign (v := .int .i64 1) rfl rfl _) ?_
    refine wpList_nil ?_
    go_frame
    go_wp2_with fail
    exact bodyPost_ret (v := .tuple #[.agg (zeroTok.cells (.slice none 0 0)).toArray, .int .i64 1]) (results_row_tmpT Tryd.results29 _ _ (w.heap.size + 2) 50 (zeroTok.cells (.slice none 0 0)).toArray (0, 0) _ _ rfl rfl (setRow_heap _ _ _ _ _ _ HA.out.out) Tryd.underlying50 rfl (size_tok (t := zeroTok) rfl _)) rfl ⟨none, 0, 0, by rw [HM.out, HE.out], by rw [HM.out]; exact OwnR.nil _ _ _ _ _, below_setRow HA.out.below (by omega) _⟩
  by_cases h6 : 6 ≤ n
  · have HE : Hid (attE t.gs g = 3) := show _ = _ by rw [HEQ.out, if_neg h0, if_pos h6]
    have HM : Hid (attM t g = zeroTok) := show _ = _ from attM_no (by rw [HE.out]; decide)
    have q1 : ¬ (n : Int) = 0 := by omega
    have q2 : (n : Int) ≥ 6 := by omega
    go_upto_region 4 with (fail)
    refine wp_region_lit ?_
    refine wpList_run (by rfl) (show _ = Result.ok (Next.value (.agg (zeroTok.cells (.slice none 0 0)).toArray)) _ from by kernel_rfl) ?_
    refine wpList_store_row rfl 50 (.tmp 4) (.tmp 18) rfl (w.heap.size + 2) (zeroTok.cells (.slice none 0 0)).toArray rfl rfl 50 _ HA.out.out (size_tok (t := zeroTok) rfl _) rfl (tok_ones zeroTok none 0 0) ?_
    refine wpList_run (by rfl) (run_assign (v := .int .i64 3) rfl rfl _) ?_
    refine wpList_nil ?_
    go_frame
    go_wp2_with fail
    exact bodyPost_ret (v := .tuple #[.agg (zeroTok.cells (.slice none 0 0)).toArray, .int .i64 3]) (results_row_tmpT Tryd.results29 _ _ (w.heap.size + 2) 50 (zeroTok.cells (.slice none 0 0)).toArray (0, 0) _ _ rfl rfl (setRow_heap _ _ _ _ _ _ HA.out.out) Tryd.underlying50 rfl (size_tok (t := zeroTok) rfl _)) rfl ⟨none, 0, 0, by rw [HM.out, HE.out], by rw [HM.out]; exact OwnR.nil _ _ _ _ _, below_setRow HA.out.below (by omega) _⟩
  have q1 : ¬ (n : Int) = 0 := by omega
  have q2 : ¬ (n : Int) ≥ 6 := by omega
  have HSZ := Lib.hid (size_grant g)
  obtain ⟨E, hE⟩ : ∃ E, checkM g = E := ⟨_, rfl⟩
  have HCH : Hid (∀ W, Calls Tryd.prog 62 #[.agg g.cells.toArray] W (ReturnsZ E W)) := show ∀ _, _ from fun W => by rw [← hE]; exact check_any g W (by have := HG.out; omega)
  rw [hE] at HEQ
  have HEE := Lib.hid hE
  clear hE
  go_upto_region 6 with (first
    | (show wpList _ _ _ (⟨_, .load 54 _, _, _, _, _⟩ :: _) _ _; refine wpList_run (by rfl) (run_loadBlk rfl rfl HA.out.grant grant_under HSZ.out) ?_)
    | (go_at_call 62; refine (HCH.out A).mono ?_; rintro e w1 ⟨rfl, hb⟩; have HA1 := Lib.hid (HA.out.grow hb); have c2b := HA1.out.tok.c2; clear hb))
  by_cases hE0 : E = 0
  · subst hE0
    have q3 : ¬ ((0 : Int) != 0) = true := by decide
    go_upto_region 8 with (fail)
    cases hnw : narrowM (lastG t.gs) g
    · have HE : Hid (attE t.gs g = 25) := show _ = _ by rw [HEQ.out, if_neg h0, if_neg h6, if_neg (by decide), hnw]; rfl
      have HM : Hid (attM t g = zeroTok) := show _ = _ from attM_no (by rw [HE.out]; decide)
      refine region_grow (fun W => FoB t (.slice p n c) g w W) (fun i vz wz => match i with | 0 => vz = .agg (t.cells (.slice p n c)).toArray | 1 => vz = .agg (lastG t.gs).cells.toArray | 2 => vz = .agg g.cells.toArray | 3 => vz = .bool false | _ => True) (by kernel_rfl) (by kernel_rfl) (by kernel_rfl) (by kernel_rfl) (by decide) (HA1.out.grow (Below.refl _ _).drew) ?_ ?_
      · skip
        intro i vz wz w2 hb hf
        match i, hf with
        | 0, hf => exact hf
        | 1, hf => exact hf
        | 2, hf => exact hf
        | 3, hf => exact hf
        | _ + 4, _ => trivial
      intro ops hops
      have hf2 : ∀ (i : Nat) (o : Oper), ops[i]? = some o → o.dst ≠ some 2 := by rw [hops]; exact fun i o h => slot_free (by kernel_rfl) i o h
      have hf3 : ∀ (i : Nat) (o : Oper), ops[i]? = some o → o.dst ≠ some 3 := by rw [hops]; exact fun i o h => slot_free (by kernel_rfl) i o h
      have hns : ops.size = 5 := by rw [hops]; rfl
      obtain ⟨o0, po0, q0, d0, gd0⟩ : ∃ o, ops[0]? = some o ∧ o.op = .load 50 (.tmp 2) ∧ o.dst = some 25 ∧ o.guard = none := ⟨_, by rw [hops]; rfl, rfl, rfl, rfl⟩
      obtain ⟨o1, po1, q1, d1, gd1, dp1_0⟩ : ∃ o, ops[1]? = some o ∧ o.op = .call { callee := .value (.func 35), args := #[.tmp 25], argTypes := #[50] } ∧ o.dst = some 26 ∧ o.guard = none ∧ (o.after.any fun e => Region.binds .any e && decide (e.on = 0)) = true := ⟨_, by rw [hops]; rfl, rfl, rfl, rfl, by kernel_rfl⟩
      obtain ⟨o2, po2, q2, d2, gd2⟩ : ∃ o, ops[2]? = some o ∧ o.op = .load 54 (.tmp 3) ∧ o.dst = some 27 ∧ o.guard = none := ⟨_, by rw [hops]; rfl, rfl, rfl, rfl⟩
      obtain ⟨o3, po3, q3, d3, gd3, dp3_1, dp3_2⟩ : ∃ o, ops[3]? = some o ∧ o.op = .call { callee := .value (.func 63), args := #[.tmp 26, .tmp 27], argTypes := #[54, 54] } ∧ o.dst = some 28 ∧ o.guard = none ∧ (o.after.any fun e => Region.binds .any e && decide (e.on = 1)) = true ∧ (o.after.any fun e => Region.binds .any e && decide (e.on = 2)) = true := ⟨_, by rw [hops]; rfl, rfl, rfl, rfl, by kernel_rfl, by kernel_rfl⟩
      obtain ⟨o4, po4, q4, d4, gd4⟩ : ∃ o, ops[4]? = some o ∧ o.op = .unOp .not 4 (.tmp 28) ∧ o.dst = some 29 ∧ o.guard = none := ⟨_, by rw [hops]; rfl, rfl, rfl, rfl⟩
      have hslots : ∀ t, t ∉ [25, 26, 27, 28, 29] → ∀ (i : Nat) (o : Oper), ops[i]? = some o → o.dst ≠ some t := by rw [hops]; exact fun t ht i o h => slots_free (by kernel_rfl) t ht i o h
      clear hops
      refine ⟨fun A W HS hfr hAs i o hi ho hdep => ?_, fun A W HS hdf hAs hfr hall => ?_⟩
      · skip
        have base2 : A.eval (.tmp 2) = .pointer (some ⟨w.heap.size, 0, none⟩) := (hfr 2 hf2).trans rfl
        have base3 : A.eval (.tmp 3) = .pointer (some ⟨w.heap.size + 1, 0, none⟩) := (hfr 3 hf3).trans rfl
        rw [hns] at hi
        obtain rfl | rfl | rfl | rfl : i = 0 ∨ i = 1 ∨ i = 2 ∨ i = 3 := by omega
        · skip
          obtain rfl : o = o0 := Option.some.inj (ho.symm.trans po0)
          refine at_op po0 d0 (wanted_of gd0) (run_loadBlk q0 base2 HS.tok tok_under (size_tok HOK.out.mac _)) ⟨_, by rw [d0], HS, Below.refl _ _, rfl⟩
        · skip
          obtain rfl : o = o1 := Option.some.inj (ho.symm.trans po1)
          have e0 : A.eval (.tmp 25) = .agg (t.cells (.slice p n c)).toArray := hdep 0 _ 25 dp1_0 po0 d0
          refine at_enterT po1 d1 (wanted_of gd1) (run_callf1 q1 rfl e0 Tryd.func35 (by kernel_rfl) _) (last_tok t n c p W HN.out (by omega) (fun x hx => (HOK.out.gs x hx).1) (HL.out.below HS.below)) ?_
          rintro e w1 ⟨rfl, hb⟩
          exact ⟨_, rfl, ⟨_, by rw [d1], HS.grow hb, hb, rfl⟩⟩
        · skip
          obtain rfl : o = o2 := Option.some.inj (ho.symm.trans po2)
          refine at_op po2 d2 (wanted_of gd2) (run_loadBlk q2 base3 HS.grant grant_under (size_grant g)) ⟨_, by rw [d2], HS, Below.refl _ _, rfl⟩
        · skip
          obtain rfl : o = o3 := Option.some.inj (ho.symm.trans po3)
          have e1 : A.eval (.tmp 26) = .agg (lastG t.gs).cells.toArray := hdep 1 _ 26 dp3_1 po1 d1
          have e2 : A.eval (.tmp 27) = .agg g.cells.toArray := hdep 2 _ 27 dp3_2 po2 d2
          refine at_enterT po3 d3 (wanted_of gd3) (run_callf2 q3 rfl e1 e2 Tryd.func63 (by kernel_rfl) _) (narrow_any (lastG t.gs) g W HGO.out.rw) ?_
          rintro e w1 ⟨rfl, hb⟩
          exact ⟨_, rfl, ⟨_, by rw [d3], HS.grow hb, hb, (show Value.bool _ = Value.bool _ by rw [hnw])⟩⟩
      have base2 : A.eval (.tmp 2) = .pointer (some ⟨w.heap.size, 0, none⟩) := (hfr 2 hf2).trans rfl
      have base3 : A.eval (.tmp 3) = .pointer (some ⟨w.heap.size + 1, 0, none⟩) := (hfr 3 hf3).trans rfl
      have e0 : A.eval (.tmp 25) = .agg (t.cells (.slice p n c)).toArray := hall 0 _ 25 (by rw [hns]; decide) po0 d0
      have e1 : A.eval (.tmp 26) = .agg (lastG t.gs).cells.toArray := hall 1 _ 26 (by rw [hns]; decide) po1 d1
      have e2 : A.eval (.tmp 27) = .agg g.cells.toArray := hall 2 _ 27 (by rw [hns]; decide) po2 d2
      have e3 : A.eval (.tmp 28) = .bool false := hall 3 _ 28 (by rw [hns]; decide) po3 d3
      have hA := act_of_slots [25, 26, 27, 28, 29] _ hAs hdf (fun t ht => hfr t (hslots t ht))
      simp only [List.foldl_cons, List.foldl_nil] at hA
      rw [show rdA A 25 = A.eval (.tmp 25) from rfl, e0] at hA
      rw [show rdA A 26 = A.eval (.tmp 26) from rfl, e1] at hA
      rw [show rdA A 27 = A.eval (.tmp 27) from rfl, e2] at hA
      rw [show rdA A 28 = A.eval (.tmp 28) from rfl, e3] at hA
      obtain ⟨ul, hul⟩ : ∃ u, rdA A 29 = u := ⟨_, rfl⟩
      rw [hul] at hA
      clear hul
      rw [hns]
      have HS9 := Lib.hid HS
      refine at_op po4 d4 (wanted_of gd4) (r_notF q4 e3 W) ?_
      obtain ⟨W8, hW8⟩ : ∃ W8, W8 = W := ⟨_, rfl⟩
      rw [← hW8] at HS9
      rw [← hW8]
      clear hW8
      clear hall hdf hAs hfr hslots hns hf2 hf3 po0 q0 d0 gd0 po1 q1 d1 gd1 dp1_0 po2 q2 d2 gd2 po3 q3 d3 gd3 dp3_1 dp3_2 po4 q4 d4 gd4 base2 base3
      have HA9 := Lib.hid hA
      clear hA HS HA1 HA e0 e1 e2 e3
      rw [HA9.out]
      go_frame
      clear HA9
      go_upto_region 9 with (fail)
      refine wp_region_lit ?_
      refine wpList_run (by rfl) (show _ = Result.ok (Next.value (.agg (zeroTok.cells (.slice none 0 0)).toArray)) _ from by kernel_rfl) ?_
      refine wpList_store_row rfl 50 (.tmp 4) (.tmp 30) rfl (w.heap.size + 2) (zeroTok.cells (.slice none 0 0)).toArray rfl rfl 50 _ HS9.out.out (size_tok (t := zeroTok) rfl _) rfl (tok_ones zeroTok none 0 0) ?_
      refine wpList_run (by rfl) (run_assign (v := .int .i64 25) rfl rfl _) ?_
      refine wpList_nil ?_
      go_frame
      go_wp2_with fail
      exact bodyPost_ret (v := .tuple #[.agg (zeroTok.cells (.slice none 0 0)).toArray, .int .i64 25]) (results_row_tmpT Tryd.results29 _ _ (w.heap.size + 2) 50 (zeroTok.cells (.slice none 0 0)).toArray (0, 0) _ _ rfl rfl (setRow_heap _ _ _ _ _ _ HS9.out.out) Tryd.underlying50 rfl (size_tok (t := zeroTok) rfl _)) rfl ⟨none, 0, 0, by rw [HM.out, HE.out], by rw [HM.out]; exact OwnR.nil _ _ _ _ _, below_setRow HS9.out.below (by omega) _⟩
    · have HE : Hid (attE t.gs g = 0) := show _ = _ by rw [HEQ.out, if_neg h0, if_neg h6, if_neg (by decide), hnw]; rfl
      have HM : Hid (attM t g = ⟨t.ten, t.id, t.gs ++ [g], macOf t.mac (encG g)⟩) := show _ = _ from attM_yes HE.out
      refine region_grow (fun W => FoB t (.slice p n c) g w W) (fun i vz wz => match i with | 0 => vz = .agg (t.cells (.slice p n c)).toArray | 1 => vz = .agg (lastG t.gs).cells.toArray | 2 => vz = .agg g.cells.toArray | 3 => vz = .bool true | _ => True) (by kernel_rfl) (by kernel_rfl) (by kernel_rfl) (by kernel_rfl) (by decide) (HA1.out.grow (Below.refl _ _).drew) ?_ ?_
      · skip
        intro i vz wz w2 hb hf
        match i, hf with
        | 0, hf => exact hf
        | 1, hf => exact hf
        | 2, hf => exact hf
        | 3, hf => exact hf
        | _ + 4, _ => trivial
      intro ops hops
      have hf2 : ∀ (i : Nat) (o : Oper), ops[i]? = some o → o.dst ≠ some 2 := by rw [hops]; exact fun i o h => slot_free (by kernel_rfl) i o h
      have hf3 : ∀ (i : Nat) (o : Oper), ops[i]? = some o → o.dst ≠ some 3 := by rw [hops]; exact fun i o h => slot_free (by kernel_rfl) i o h
      have hns : ops.size = 5 := by rw [hops]; rfl
      obtain ⟨o0, po0, q0, d0, gd0⟩ : ∃ o, ops[0]? = some o ∧ o.op = .load 50 (.tmp 2) ∧ o.dst = some 25 ∧ o.guard = none := ⟨_, by rw [hops]; rfl, rfl, rfl, rfl⟩
      obtain ⟨o1, po1, q1, d1, gd1, dp1_0⟩ : ∃ o, ops[1]? = some o ∧ o.op = .call { callee := .value (.func 35), args := #[.tmp 25], argTypes := #[50] } ∧ o.dst = some 26 ∧ o.guard = none ∧ (o.after.any fun e => Region.binds .any e && decide (e.on = 0)) = true := ⟨_, by rw [hops]; rfl, rfl, rfl, rfl, by kernel_rfl⟩
      obtain ⟨o2, po2, q2, d2, gd2⟩ : ∃ o, ops[2]? = some o ∧ o.op = .load 54 (.tmp 3) ∧ o.dst = some 27 ∧ o.guard = none := ⟨_, by rw [hops]; rfl, rfl, rfl, rfl⟩
      obtain ⟨o3, po3, q3, d3, gd3, dp3_1, dp3_2⟩ : ∃ o, ops[3]? = some o ∧ o.op = .call { callee := .value (.func 63), args := #[.tmp 26, .tmp 27], argTypes := #[54, 54] } ∧ o.dst = some 28 ∧ o.guard = none ∧ (o.after.any fun e => Region.binds .any e && decide (e.on = 1)) = true ∧ (o.after.any fun e => Region.binds .any e && decide (e.on = 2)) = true := ⟨_, by rw [hops]; rfl, rfl, rfl, rfl, by kernel_rfl, by kernel_rfl⟩
      obtain ⟨o4, po4, q4, d4, gd4⟩ : ∃ o, ops[4]? = some o ∧ o.op = .unOp .not 4 (.tmp 28) ∧ o.dst = some 29 ∧ o.guard = none := ⟨_, by rw [hops]; rfl, rfl, rfl, rfl⟩
      have hslots : ∀ t, t ∉ [25, 26, 27, 28, 29] → ∀ (i : Nat) (o : Oper), ops[i]? = some o → o.dst ≠ some t := by rw [hops]; exact fun t ht i o h => slots_free (by kernel_rfl) t ht i o h
      clear hops
      refine ⟨fun A W HS hfr hAs i o hi ho hdep => ?_, fun A W HS hdf hAs hfr hall => ?_⟩
      · skip
        have base2 : A.eval (.tmp 2) = .pointer (some ⟨w.heap.size, 0, none⟩) := (hfr 2 hf2).trans rfl
        have base3 : A.eval (.tmp 3) = .pointer (some ⟨w.heap.size + 1, 0, none⟩) := (hfr 3 hf3).trans rfl
        rw [hns] at hi
        obtain rfl | rfl | rfl | rfl : i = 0 ∨ i = 1 ∨ i = 2 ∨ i = 3 := by omega
        · skip
          obtain rfl : o = o0 := Option.some.inj (ho.symm.trans po0)
          refine at_op po0 d0 (wanted_of gd0) (run_loadBlk q0 base2 HS.tok tok_under (size_tok HOK.out.mac _)) ⟨_, by rw [d0], HS, Below.refl _ _, rfl⟩
        · skip
          obtain rfl : o = o1 := Option.some.inj (ho.symm.trans po1)
          have e0 : A.eval (.tmp 25) = .agg (t.cells (.slice p n c)).toArray := hdep 0 _ 25 dp1_0 po0 d0
          refine at_enterT po1 d1 (wanted_of gd1) (run_callf1 q1 rfl e0 Tryd.func35 (by kernel_rfl) _) (last_tok t n c p W HN.out (by omega) (fun x hx => (HOK.out.gs x hx).1) (HL.out.below HS.below)) ?_
          rintro e w1 ⟨rfl, hb⟩
          exact ⟨_, rfl, ⟨_, by rw [d1], HS.grow hb, hb, rfl⟩⟩
        · skip
          obtain rfl : o = o2 := Option.some.inj (ho.symm.trans po2)
          refine at_op po2 d2 (wanted_of gd2) (run_loadBlk q2 base3 HS.grant grant_under (size_grant g)) ⟨_, by rw [d2], HS, Below.refl _ _, rfl⟩
        · skip
          obtain rfl : o = o3 := Option.some.inj (ho.symm.trans po3)
          have e1 : A.eval (.tmp 26) = .agg (lastG t.gs).cells.toArray := hdep 1 _ 26 dp3_1 po1 d1
          have e2 : A.eval (.tmp 27) = .agg g.cells.toArray := hdep 2 _ 27 dp3_2 po2 d2
          refine at_enterT po3 d3 (wanted_of gd3) (run_callf2 q3 rfl e1 e2 Tryd.func63 (by kernel_rfl) _) (narrow_any (lastG t.gs) g W HGO.out.rw) ?_
          rintro e w1 ⟨rfl, hb⟩
          exact ⟨_, rfl, ⟨_, by rw [d3], HS.grow hb, hb, (show Value.bool _ = Value.bool _ by rw [hnw])⟩⟩
      have base2 : A.eval (.tmp 2) = .pointer (some ⟨w.heap.size, 0, none⟩) := (hfr 2 hf2).trans rfl
      have base3 : A.eval (.tmp 3) = .pointer (some ⟨w.heap.size + 1, 0, none⟩) := (hfr 3 hf3).trans rfl
      have e0 : A.eval (.tmp 25) = .agg (t.cells (.slice p n c)).toArray := hall 0 _ 25 (by rw [hns]; decide) po0 d0
      have e1 : A.eval (.tmp 26) = .agg (lastG t.gs).cells.toArray := hall 1 _ 26 (by rw [hns]; decide) po1 d1
      have e2 : A.eval (.tmp 27) = .agg g.cells.toArray := hall 2 _ 27 (by rw [hns]; decide) po2 d2
      have e3 : A.eval (.tmp 28) = .bool true := hall 3 _ 28 (by rw [hns]; decide) po3 d3
      have hA := act_of_slots [25, 26, 27, 28, 29] _ hAs hdf (fun t ht => hfr t (hslots t ht))
      simp only [List.foldl_cons, List.foldl_nil] at hA
      rw [show rdA A 25 = A.eval (.tmp 25) from rfl, e0] at hA
      rw [show rdA A 26 = A.eval (.tmp 26) from rfl, e1] at hA
      rw [show rdA A 27 = A.eval (.tmp 27) from rfl, e2] at hA
      rw [show rdA A 28 = A.eval (.tmp 28) from rfl, e3] at hA
      obtain ⟨ul, hul⟩ : ∃ u, rdA A 29 = u := ⟨_, rfl⟩
      rw [hul] at hA
      clear hul
      rw [hns]
      have HS9 := Lib.hid HS
      refine at_op po4 d4 (wanted_of gd4) (r_notT q4 e3 W) ?_
      obtain ⟨W8, hW8⟩ : ∃ W8, W8 = W := ⟨_, rfl⟩
      rw [← hW8] at HS9
      rw [← hW8]
      clear hW8
      clear hall hdf hAs hfr hslots hns hf2 hf3 po0 q0 d0 gd0 po1 q1 d1 gd1 dp1_0 po2 q2 d2 gd2 po3 q3 d3 gd3 dp3_1 dp3_2 po4 q4 d4 gd4 base2 base3
      have HA9 := Lib.hid hA
      clear hA HS HA1 HA e0 e1 e2 e3
      rw [HA9.out]
      go_frame
      clear HA9
      have hsz9 := size_tok (t := ⟨t.ten, t.id, t.gs ++ [g], macOf t.mac (encG g)⟩) (macOf_length _ _)
      have HSZ9 := Lib.hid hsz9
      clear hsz9
      go_wp2_with (first
        | (show wpList _ _ _ (⟨_, .load 54 _, _, _, _, _⟩ :: _) _ _; refine wpList_run (by rfl) (run_loadBlk rfl rfl HS9.out.grant grant_under HSZ.out) ?_)
        | (show wpList _ _ _ (⟨_, .load 50 _, _, _, _, _⟩ :: _) _ _; refine wpList_run (by rfl) (run_loadBlk rfl rfl HS9.out.tok tok_under (size_tok HOK.out.mac _)) ?_)
        | (go_at_call 103; refine (followed_any t g n c p W8 HN.out HOK.out HG.out (HL.out.below HS9.out.below) HS9.out.consts HS9.out.starts).mono ?_; rintro e w5 ⟨qf, nf, cf, rfl, hof, hbf⟩; have HF5 := Lib.hid (HS9.out.grow hbf); have HOF := Lib.hid (lowerR hof HS9.out.size); clear hof hbf)
        | (refine wpList_store_row rfl 50 (.tmp 4) (.tmp 33) rfl (w.heap.size + 2) (TokM.cells ⟨t.ten, t.id, t.gs ++ [g], macOf t.mac (encG g)⟩ (.slice qf nf cf)).toArray rfl rfl 50 _ HF5.out.out (HSZ9.out _) (by rw [List.size_toArray, List.size_toArray, tok_len (t := zeroTok) (by unfold zeroTok; rfl), tok_len (t := ⟨t.ten, t.id, t.gs ++ [g], macOf t.mac (encG g)⟩) (macOf_length _ _)]) (tok_ones _ _ _ _) ?_))
      exact bodyPost_ret (v := .tuple #[.agg (TokM.cells ⟨t.ten, t.id, t.gs ++ [g], macOf t.mac (encG g)⟩ (.slice qf nf cf)).toArray, .int .i64 0]) (results_row_tmpT Tryd.results29 _ _ (w.heap.size + 2) 50 _ (0, 0) _ _ rfl rfl (setRow_heap _ _ _ _ _ _ HF5.out.out) Tryd.underlying50 rfl (HSZ9.out _)) rfl ⟨qf, nf, cf, by rw [HM.out, HE.out], by rw [HM.out]; exact lowerR (ownsRow_stays HOF.out (spares_stays (T := fun b => b = w.heap.size + 2) (Spares.grown (grown_setRow _ _ _) rfl)) (fun j e t => by have := World.ownsRow.lt HOF.out j e; omega)) (by omega), below_setRow HF5.out.below (by omega) _⟩
  · have HE : Hid (attE t.gs g = E) := show _ = _ by rw [HEQ.out, if_neg h0, if_neg h6, if_pos hE0]
    have HM : Hid (attM t g = zeroTok) := show _ = _ from attM_no (by rw [HE.out]; exact hE0)
    have q3 : (E != 0) = true := by simpa using hE0
    go_upto_region 7 with (fail)
    refine wp_region_lit ?_
    refine wpList_run (by rfl) (show _ = Result.ok (Next.value (.agg (zeroTok.cells (.slice none 0 0)).toArray)) _ from by kernel_rfl) ?_
    refine wpList_run (by rfl) (run_move (v := .int .i64 E) rfl rfl _) ?_
    refine wpList_store_row rfl 50 (.tmp 4) (.tmp 23) rfl (w.heap.size + 2) (zeroTok.cells (.slice none 0 0)).toArray rfl rfl 50 _ HA1.out.out (size_tok (t := zeroTok) rfl _) rfl (tok_ones zeroTok none 0 0) ?_
    refine wpList_run (by rfl) (run_assign (v := .int .i64 E) rfl rfl _) ?_
    refine wpList_nil ?_
    go_frame
    go_wp2_with fail
    exact bodyPost_ret (v := .tuple #[.agg (zeroTok.cells (.slice none 0 0)).toArray, .int .i64 E]) (results_row_tmpT Tryd.results29 _ _ (w.heap.size + 2) 50 (zeroTok.cells (.slice none 0 0)).toArray (0, 0) _ _ rfl rfl (setRow_heap _ _ _ _ _ _ HA1.out.out) Tryd.underlying50 rfl (size_tok (t := zeroTok) rfl _)) rfl ⟨none, 0, 0, by rw [HM.out, HE.out], by rw [HM.out]; exact OwnR.nil _ _ _ _ _, below_setRow HA1.out.below (by omega) _⟩
end Go.Proofs.YtgeacocdnenhdaaDoor

/-
  The program's Mint (gen_tkmint.py).
-/
namespace Go.Proofs.YtgeacocdnenhdaaDoor
open Go.RowKit Go.Proofs.ShaWords
theorem tok_setMac {w : World} {b : Nat} {t : TokM} {q : Value} {m : List (BitVec 8)} (h : TokAt w b t q) (hl : t.mac.length = 32) (hm : m.length = 32) : TokAt (w.setCells b 3 (bytesV m)) b ⟨t.ten, t.id, t.gs, m⟩ q := by
  have h1 := heap_setCells b 50 (bytesV m) 3 (t.cells q) w h (by rw [bytesV_length, hm, tok_len hl]; decide)
  have e : splice (t.cells q) 3 (bytesV m) = TokM.cells ⟨t.ten, t.id, t.gs, m⟩ q := by
    unfold splice TokM.cells
    rw [List.drop_of_length_le (by simp [bytesV_length, hl, hm])]
    simp
  rw [e] at h1
  exact h1
theorem tok_there {w : World} {b : Nat} {t : TokM} {q : Value} (h : TokAt w b t q) (hl : t.mac.length = 32) : w.there b 3 32 := fun j hj => by
  refine ⟨?_, frozen_of_row _ _ _ _ _ h⟩
  rw [h.cell (3 + j), List.getElem?_eq_getElem (by rw [tok_len hl]; omega)]
  rfl
theorem run_storeMac {ρ : Operand → Value} {o : Oper} {x y : Operand} {b : Nat} {l : List (BitVec 8)} {w : World} (ho : o.op = .store 48 x y) (hx : ρ x = .pointer (some ⟨b, 3, none⟩)) (hy : ρ y = .agg (bytesV l).toArray) (hl : l.length = 32) (ht : w.there b 3 32) :
    (execOp ρ o).run Tryd.prog w = .ok .skip (w.setCells b 3 (bytesV l)) := by
  have h := run_storeAt_mid (P := Tryd.prog) w b 3 48 (bytesV l).toArray (by rw [bytesV_size _ 32 hl]; exact ht) (infoSum l hl) (bytesV_one l)
  unfold execOp
  simp only [ho, hx, hy, Sem.run_bind, h, Result.andThen_ok, Sem.run_pure]
theorem wpList_skip {P : Program} {ops : Array Oper} {rest : List Oper} {o : Oper} {a : Act} {w w' : World} {Q : Exit → Act → World → Prop} (hw : Region.wanted o (yielded ops a.tmps) = true) (hr : (execOp a.eval o).run P w = .ok .skip w') (h : wpList P ops Q rest (a.put o.dst undef) w') : wpList P ops Q (o :: rest) a w := by
  unfold wpList
  rw [if_pos hw]
  refine .inl ?_
  unfold Oper.wp
  rw [hr, Oper.upon_skip]
  exact h
theorem wpList_enterT {P : Program} {ops : Array Oper} {rest : List Oper} {o : Oper} {a : Act} {w : World} {Q : Exit → Act → World → Prop} {f : FuncId} {args : Array Value} {R : Ending → World → Prop} (hw : Region.wanted o (yielded ops a.tmps) = true) (hr : (execOp a.eval o).run P w = .ok (.enter f args) w)
    (hc : Calls P f args w R) (h : ∀ e w', R e w' → ∃ v, e = .returned v ∧ wpList P ops Q rest (a.put o.dst v) w') : wpList P ops Q (o :: rest) a w := by
  unfold wpList
  rw [if_pos hw]
  refine .inl ?_
  unfold Oper.wp
  rw [hr, Oper.upon_enter]
  refine hc.mono ?_
  rintro e w' hR
  obtain ⟨v, rfl, h⟩ := h e w' hR
  exact h
theorem own_ne_tok {B b b2 n c : Nat} {w : World} {l : List GrantM} {t : TokM} {q : Value} (h : OwnGrants B w l (.slice (some ⟨b, 0, none⟩) n c)) (h2 : TokAt w b2 t q) : b ≠ b2 := by
  rcases h.2 with ⟨h0, _⟩ | ⟨g, cap, cur, he, _, hh, _⟩
  · cases h0
  · cases he
    rintro rfl
    have h3 := Obj.cells.inj (Option.some.inj (hh.symm.trans h2))
    exact absurd h3.2.1 (by decide)
theorem run_allocTok {ρ : Operand → Value} {o : Oper} (ho : o.op = .alloc 50) (w : World) : (execOp ρ o).run Tryd.prog w = .ok (.value (.pointer (some ⟨w.heap.size, 0, none⟩))) (w.alloc (.cells (zeroTok.cells (.slice none 0 0)).toArray 50)) := by
  have e : (zeroTok.cells (.slice none 0 0)).toArray = #[.string ⟨#[]⟩, .int .i64 0, .slice none 0 0] ++ Array.replicate 32 (.int .u8 0) := by kernel_rfl
  rw [e]
  obtain ⟨dst, op, ty', pos, after, guard⟩ := o
  simp only at ho
  subst ho
  go_simp
  rfl
theorem one_lit (B : Nat) (w : World) (g : GrantM) (hB : B ≤ w.heap.size) : OwnGrants B (w.alloc (.cells g.cells.toArray 54)) [g] (.slice (some ⟨w.heap.size, 0, none⟩) 1 1) :=
  ⟨by simp [flatV, GrantM.len], .inr ⟨w.heap.size, 1, _, rfl, hB, heap_new_at rfl, Nat.le_refl _, by unfold maxLen; omega, by simp [GrantM.len], by simp [flatV, GrantM.cells]⟩⟩
/-- The root, the grant, the answer's block. -/
structure MiB (root : List (BitVec 8)) (g : GrantM) (W w : World) : Prop where
  root : BytesAt w W.heap.size 23 root
  grant : GrantAt w (W.heap.size + 1) g
  out : TokAt w (W.heap.size + 2) zeroTok (.slice none 0 0)
  below : Below W.heap.size W w
  consts : Consts w
  starts : Starts w
theorem MiB.size {root : List (BitVec 8)} {g : GrantM} {W w : World} (h : MiB root g W w) : W.heap.size + 3 ≤ w.heap.size := h.out.lt
theorem MiB.grow {root : List (BitVec 8)} {g : GrantM} {W w w' : World} (h : MiB root g W w) (hb : Below w.heap.size w w') : MiB root g W w' :=
  ⟨h.root.keep hb, h.grant.below hb (by have := h.size; omega), h.out.keep hb, h.below.trans (hb.mono h.below.size), consts_below h.consts hb, starts_below h.starts hb⟩
theorem MiB.spares {T : Nat → Prop} {root : List (BitVec 8)} {g : GrantM} {W w w' : World} (hcs : W.heap.size > 2 ∧ W.heap.size > 1) (h : MiB root g W w) (hs : Spares T w w') (hT : ∀ b, T b → W.heap.size + 3 ≤ b) : MiB root g W w' := by
  have hb : Below (W.heap.size + 3) w w' := hs.below h.size (fun k hk ht => by have := hT k ht; omega)
  exact ⟨bytesAt_spares h.root hs (fun ht => by have := hT _ ht; omega), h.grant.below hb (by omega), tok_spares h.out hs (fun ht => by have := hT _ ht; omega), h.below.trans (hb.mono (by omega)),
    h.consts.below hb (by omega), fun j v hv => (hb.cell (p := ⟨1, 0 + j, none⟩) (by show 1 < _; omega)).trans (h.starts j v hv)⟩
theorem mintM_no {root : List (BitVec 8)} {ten : ByteArray} {id : Int} {g : GrantM} (h : mintE ten id g ≠ 0) : mintM root ten id g = zeroTok := by unfold mintM; rw [if_neg h]
theorem mintM_yes {root : List (BitVec 8)} {ten : ByteArray} {id : Int} {g : GrantM} (h : mintE ten id g = 0) : mintM root ten id g = ⟨ten, id, [g], chainT root ten id [g]⟩ := by unfold mintM; rw [if_pos h]
theorem tok_built3 (s : ByteArray) (i : Int) (q : Option Addr) (n c : Nat) (gs : List GrantM) : Tryd.prog.built 50 [(0, .string s), (1, .int .i64 i), (2, .slice q n c)] = some (TokM.cells ⟨s, i, gs, List.replicate 32 0#8⟩ (.slice q n c)).toArray := by kernel_rfl
attribute [local irreducible] mintM mintE in
set_option maxRecDepth 100000 in
set_option maxHeartbeats 8000000 in
theorem mint_any (root : List (BitVec 8)) (ten : ByteArray) (id : Int) (g : GrantM) (w : World) (hrl : root.length = 32) (hts : ten.size ≤ 1000000) (hg : g.pre.size ≤ 1000000) (hk : Consts w) (hs : Starts w) :
    Calls Tryd.prog 24 #[.agg (bytesV root).toArray, .string ten, .int .i64 id, .agg g.cells.toArray] w fun e w' => ∃ q nq cq, e = .returned (.tuple #[.agg ((mintM root ten id g).cells (.slice q nq cq)).toArray, .int .i64 (mintE ten id g)]) ∧ OwnGrants w.heap.size w' (mintM root ten id g).gs (.slice q nq cq) ∧ Below w.heap.size w w' := by
  have hcs : w.heap.size > 2 ∧ w.heap.size > 1 := ⟨hk.size, by have := World.block_lt_of_cell? w _ (hs 0 _ rfl); exact this⟩
  have HEQ : Hid (mintE ten id g = if nameS ten = false then 10 else if idOk id = false then 1 else checkM g) := show _ = _ by unfold mintE; rfl
  have HCS := Lib.hid hcs
  have HRL := Lib.hid hrl
  have HTS := Lib.hid hts
  have HG := Lib.hid hg
  have HB0 : Hid (MiB root g w (((w.alloc (.cells (bytesV root).toArray 23)).alloc (.cells g.cells.toArray 54)).alloc (.cells (zeroTok.cells (.slice none 0 0)).toArray 50))) := by
    have b1 := allocBelow w (.cells (bytesV root).toArray 23)
    have r1 : BytesAt (w.alloc (.cells (bytesV root).toArray 23)) w.heap.size 23 root := heap_new_at rfl
    have z1 := size_alloc w (.cells (bytesV root).toArray 23)
    generalize w.alloc (.cells (bytesV root).toArray 23) = w1 at b1 r1 z1 ⊢
    have b2 := allocBelow w1 (.cells g.cells.toArray 54)
    have r2 : GrantAt (w1.alloc (.cells g.cells.toArray 54)) (w.heap.size + 1) g := heap_new_at z1
    have z2 := size_alloc w1 (.cells g.cells.toArray 54)
    generalize w1.alloc (.cells g.cells.toArray 54) = w2 at b2 r2 z2 ⊢
    have b3 := allocBelow w2 (.cells (zeroTok.cells (.slice none 0 0)).toArray 50)
    have bb := (b1.trans (b2.mono (by omega))).trans (b3.mono (by omega))
    exact ⟨(r1.keep b2).keep b3, r2.below b3 (by omega), heap_new_at (by omega), bb, hk.below bb hk.size, range_keep hs bb⟩
  have HNA : Hid (∀ w, Calls Tryd.prog 59 #[.string ten] w (ReturnsB (nameS ten) w)) := show ∀ _, _ from fun w => rtName_any ten w (by omega)
  clear hrl hk hs hg hcs hts
  obtain ⟨RC, hRC⟩ : ∃ RC, RC = (bytesV root).toArray := ⟨_, rfl⟩
  obtain ⟨GC, hGC⟩ : ∃ GC, GC = g.cells.toArray := ⟨_, rfl⟩
  rw [← hRC, ← hGC] at HB0
  rw [← hRC, ← hGC]
  have HRC := Lib.hid hRC
  have HGC := Lib.hid hGC
  clear hRC hGC
  go_enter Tryd.func24, Tryd.ntmps24
  go_upto_region 1 with (fail)
  refine wp_gen (fun A => MiB root g w A) (by exact HB0.out) ?_
  rintro A hA
  have HA := Lib.hid hA
  clear hA HB0
  cases h1 : nameS ten
  · have HE : Hid (mintE ten id g = 10) := show _ = _ by rw [HEQ.out, h1, if_pos rfl]
    have HM : Hid (mintM root ten id g = zeroTok) := show _ = _ from mintM_no (by rw [HE.out]; decide)
    go_upto_region 2 with (go_at_call 59; refine (HNA.out A).mono ?_; rintro e w1 ⟨rfl, rfl⟩; rw [h1])
    go_upto_region 2 with (fail)
    refine wp_region_lit ?_
    refine wpList_run (by rfl) (show _ = Result.ok (Next.value (.agg (zeroTok.cells (.slice none 0 0)).toArray)) _ from by kernel_rfl) ?_
    refine wpList_store_row rfl 50 (.tmp 8) (.tmp 16) rfl (w.heap.size + 2) (zeroTok.cells (.slice none 0 0)).toArray rfl rfl 50 _ HA.out.out (size_tok (t := zeroTok) rfl _) rfl (tok_ones zeroTok none 0 0) ?_
    refine wpList_run (by rfl) (run_assign (v := .int .i64 10) rfl rfl _) ?_
    refine wpList_nil ?_
    go_frame
    go_wp2_with fail
    exact bodyPost_ret (v := .tuple #[.agg (zeroTok.cells (.slice none 0 0)).toArray, .int .i64 10]) (results_row_tmpT Tryd.results24 _ _ (w.heap.size + 2) 50 (zeroTok.cells (.slice none 0 0)).toArray (0, 0) _ _ rfl rfl (setRow_heap _ _ _ _ _ _ HA.out.out) Tryd.underlying50 rfl (size_tok (t := zeroTok) rfl _)) rfl ⟨none, 0, 0, by rw [HM.out, HE.out], by rw [HM.out]; exact OwnR.nil _ _ _ _ _, below_setRow HA.out.below (by omega) _⟩
  cases h2 : idOk id
  · have HE : Hid (mintE ten id g = 1) := show _ = _ by rw [HEQ.out, h1, if_neg (by decide), h2, if_pos rfl]
    have HM : Hid (mintM root ten id g = zeroTok) := show _ = _ from mintM_no (by rw [HE.out]; decide)
    go_upto_region 4 with (first
      | (go_at_call 59; refine (HNA.out A).mono ?_; rintro e w1 ⟨rfl, rfl⟩; rw [h1])
      | (go_at_call 95; refine (validId_any id _).mono ?_; rintro e w1 ⟨rfl, rfl⟩; rw [h2]))
    go_upto_region 4 with (fail)
    refine wp_region_lit ?_
    refine wpList_run (by rfl) (show _ = Result.ok (Next.value (.agg (zeroTok.cells (.slice none 0 0)).toArray)) _ from by kernel_rfl) ?_
    refine wpList_store_row rfl 50 (.tmp 8) (.tmp 21) rfl (w.heap.size + 2) (zeroTok.cells (.slice none 0 0)).toArray rfl rfl 50 _ HA.out.out (size_tok (t := zeroTok) rfl _) rfl (tok_ones zeroTok none 0 0) ?_
    refine wpList_run (by rfl) (run_assign (v := .int .i64 1) rfl rfl _) ?_
    refine wpList_nil ?_
    go_frame
    go_wp2_with fail
    exact bodyPost_ret (v := .tuple #[.agg (zeroTok.cells (.slice none 0 0)).toArray, .int .i64 1]) (results_row_tmpT Tryd.results24 _ _ (w.heap.size + 2) 50 (zeroTok.cells (.slice none 0 0)).toArray (0, 0) _ _ rfl rfl (setRow_heap _ _ _ _ _ _ HA.out.out) Tryd.underlying50 rfl (size_tok (t := zeroTok) rfl _)) rfl ⟨none, 0, 0, by rw [HM.out, HE.out], by rw [HM.out]; exact OwnR.nil _ _ _ _ _, below_setRow HA.out.below (by omega) _⟩
  have HSZ := Lib.hid (size_grant g)
  obtain ⟨E, hE⟩ : ∃ E, checkM g = E := ⟨_, rfl⟩
  have HCH : Hid (∀ W, Calls Tryd.prog 62 #[.agg g.cells.toArray] W (ReturnsZ E W)) := show ∀ _, _ from fun W => by rw [← hE]; exact check_any g W (by have := HG.out; omega)
  have HEQ2 : Hid (mintE ten id g = E) := show _ = _ by rw [HEQ.out, h1, if_neg (by decide), h2, if_neg (by decide), hE]
  clear hE HEQ
  go_upto_region 6 with (first
    | (go_at_call 59; refine (HNA.out A).mono ?_; rintro e w1 ⟨rfl, rfl⟩; rw [h1])
    | (go_at_call 95; refine (validId_any id _).mono ?_; rintro e w1 ⟨rfl, rfl⟩; rw [h2])
    | (show wpList _ _ _ (⟨_, .load 54 _, _, _, _, _⟩ :: _) _ _; refine wpList_run (by rfl) (run_loadBlk rfl rfl HA.out.grant grant_under HSZ.out) ?_)
    | (go_at_call 62; refine (HCH.out _).mono ?_; rintro e w1 ⟨rfl, hb⟩; have HA1 := Lib.hid (HA.out.grow hb); clear hb))
  by_cases hE0 : E = 0
  · subst hE0
    have q3 : ¬ ((0 : Int) != 0) = true := by decide
    have HM : Hid (mintM root ten id g = ⟨ten, id, [g], chainT root ten id [g]⟩) := show _ = _ from mintM_yes HEQ2.out
    go_upto_region 8 with (fail)
    refine region_grow (fun W => MiB root g w W) (fun i vz wz => match i with | 0 => vz = .string ten | 1 => vz = .string ten | 2 => vz = .int .i64 id | 3 => vz = .agg g.cells.toArray | 4 => vz = .agg g.cells.toArray | 5 => ∃ b : Nat, vz = .slice (some ⟨b, 0, none⟩) 1 1 ∧ OwnGrants (w.heap.size + 3) wz [g] (.slice (some ⟨b, 0, none⟩) 1 1) | 6 => ∃ b : Nat, vz = .agg (TokM.cells ⟨ten, id, [g], List.replicate 32 0#8⟩ (.slice (some ⟨b, 0, none⟩) 1 1)).toArray ∧ OwnGrants (w.heap.size + 3) wz [g] (.slice (some ⟨b, 0, none⟩) 1 1) | 7 => ∃ b : Nat, vz = .pointer (some ⟨b, 0, none⟩) ∧ w.heap.size + 3 ≤ b ∧ TokAt wz b zeroTok (.slice none 0 0) | _ => True) (by kernel_rfl) (by kernel_rfl) (by kernel_rfl) (by kernel_rfl) (by decide) (HA1.out.grow (Below.refl _ _).drew) ?_ ?_
    · skip
      intro i vz wz w2 hb hf
      match i, hf with
      | 0, hf => exact hf
      | 1, hf => exact hf
      | 2, hf => exact hf
      | 3, hf => exact hf
      | 4, hf => exact hf
      | 5, hf => obtain ⟨b, e, h⟩ := hf; exact ⟨b, e, OwnR.below h hb⟩
      | 6, hf => obtain ⟨b, e, h⟩ := hf; exact ⟨b, e, OwnR.below h hb⟩
      | 7, hf => obtain ⟨b, e, h1, h⟩ := hf; exact ⟨b, e, h1, h.keep hb⟩
      | _ + 8, _ => trivial
    intro ops hops
    have hf1 : ∀ (i : Nat) (o : Oper), ops[i]? = some o → o.dst ≠ some 1 := by rw [hops]; exact fun i o h => slot_free (by kernel_rfl) i o h
    have hf2 : ∀ (i : Nat) (o : Oper), ops[i]? = some o → o.dst ≠ some 2 := by rw [hops]; exact fun i o h => slot_free (by kernel_rfl) i o h
    have hf7 : ∀ (i : Nat) (o : Oper), ops[i]? = some o → o.dst ≠ some 7 := by rw [hops]; exact fun i o h => slot_free (by kernel_rfl) i o h
    have hns : ops.size = 9 := by rw [hops]; rfl
    obtain ⟨o0, po0, q0, d0, gd0⟩ : ∃ o, ops[0]? = some o ∧ o.op = .move (.tmp 1) ∧ o.dst = some 28 ∧ o.guard = none := ⟨_, by rw [hops]; rfl, rfl, rfl, rfl⟩
    obtain ⟨o1, po1, q1, d1, gd1, dp1_0⟩ : ∃ o, ops[1]? = some o ∧ o.op = .call { callee := .value (.func 96), args := #[.tmp 28], argTypes := #[9] } ∧ o.dst = some 29 ∧ o.guard = none ∧ (o.after.any fun e => Region.binds .any e && decide (e.on = 0)) = true := ⟨_, by rw [hops]; rfl, rfl, rfl, rfl, by kernel_rfl⟩
    obtain ⟨o2, po2, q2, d2, gd2⟩ : ∃ o, ops[2]? = some o ∧ o.op = .move (.tmp 2) ∧ o.dst = some 30 ∧ o.guard = none := ⟨_, by rw [hops]; rfl, rfl, rfl, rfl⟩
    obtain ⟨o3, po3, q3, d3, gd3⟩ : ∃ o, ops[3]? = some o ∧ o.op = .load 54 (.tmp 7) ∧ o.dst = some 31 ∧ o.guard = none := ⟨_, by rw [hops]; rfl, rfl, rfl, rfl⟩
    obtain ⟨o4, po4, q4, d4, gd4, dp4_3⟩ : ∃ o, ops[4]? = some o ∧ o.op = .call { callee := .value (.func 97), args := #[.tmp 31], argTypes := #[54] } ∧ o.dst = some 32 ∧ o.guard = none ∧ (o.after.any fun e => Region.binds .any e && decide (e.on = 3)) = true := ⟨_, by rw [hops]; rfl, rfl, rfl, rfl, by kernel_rfl⟩
    obtain ⟨o5, po5, q5, d5, gd5, dp5_4⟩ : ∃ o, ops[5]? = some o ∧ o.op = .buildSlice 44 1 #[(0, (.tmp 32))] ∧ o.dst = some 33 ∧ o.guard = none ∧ (o.after.any fun e => Region.binds .any e && decide (e.on = 4)) = true := ⟨_, by rw [hops]; rfl, rfl, rfl, rfl, by kernel_rfl⟩
    obtain ⟨o6, po6, q6, d6, gd6, dp6_1, dp6_2, dp6_5⟩ : ∃ o, ops[6]? = some o ∧ o.op = .build 50 #[(0, (.tmp 29)), (1, (.tmp 30)), (2, (.tmp 33))] ∧ o.dst = some 34 ∧ o.guard = none ∧ (o.after.any fun e => Region.binds .any e && decide (e.on = 1)) = true ∧ (o.after.any fun e => Region.binds .any e && decide (e.on = 2)) = true ∧ (o.after.any fun e => Region.binds .any e && decide (e.on = 5)) = true := ⟨_, by rw [hops]; rfl, rfl, rfl, rfl, by kernel_rfl, by kernel_rfl, by kernel_rfl⟩
    obtain ⟨o7, po7, q7, d7, gd7⟩ : ∃ o, ops[7]? = some o ∧ o.op = .alloc 50 ∧ o.dst = some 11 ∧ o.guard = none := ⟨_, by rw [hops]; rfl, rfl, rfl, rfl⟩
    obtain ⟨o8, po8, q8, d8, gd8⟩ : ∃ o, ops[8]? = some o ∧ o.op = .store 50 (.tmp 11) (.tmp 34) ∧ o.dst = none ∧ o.guard = none := ⟨_, by rw [hops]; rfl, rfl, rfl, rfl⟩
    have hslots : ∀ t, t ∉ [28, 29, 30, 31, 32, 33, 34, 11] → ∀ (i : Nat) (o : Oper), ops[i]? = some o → o.dst ≠ some t := by rw [hops]; exact fun t ht i o h => slots_free (by kernel_rfl) t ht i o h
    clear hops
    refine ⟨fun A W HS hfr hAs i o hi ho hdep => ?_, fun A W HS hdf hAs hfr hall => ?_⟩
    · skip
      have base1 : A.eval (.tmp 1) = .string ten := (hfr 1 hf1).trans rfl
      have base2 : A.eval (.tmp 2) = .int .i64 id := (hfr 2 hf2).trans rfl
      have base7 : A.eval (.tmp 7) = .pointer (some ⟨w.heap.size + 1, 0, none⟩) := (hfr 7 hf7).trans rfl
      rw [hns] at hi
      obtain rfl | rfl | rfl | rfl | rfl | rfl | rfl | rfl : i = 0 ∨ i = 1 ∨ i = 2 ∨ i = 3 ∨ i = 4 ∨ i = 5 ∨ i = 6 ∨ i = 7 := by omega
      · skip
        obtain rfl : o = o0 := Option.some.inj (ho.symm.trans po0)
        refine at_op po0 d0 (wanted_of gd0) (run_move q0 base1 W) ⟨_, by rw [d0], HS, Below.refl _ _, rfl⟩
      · skip
        obtain rfl : o = o1 := Option.some.inj (ho.symm.trans po1)
        have e0 : A.eval (.tmp 28) = .string ten := hdep 0 _ 28 dp1_0 po0 d0
        refine at_enterT po1 d1 (wanted_of gd1) (run_callf1 q1 rfl e0 Tryd.func96 (by kernel_rfl) _) (clone_str ten W (by have := HTS.out; omega)) ?_
        rintro e w1 ⟨rfl, hb⟩
        exact ⟨_, rfl, ⟨_, by rw [d1], HS.grow hb, hb, rfl⟩⟩
      · skip
        obtain rfl : o = o2 := Option.some.inj (ho.symm.trans po2)
        refine at_op po2 d2 (wanted_of gd2) (run_move q2 base2 W) ⟨_, by rw [d2], HS, Below.refl _ _, rfl⟩
      · skip
        obtain rfl : o = o3 := Option.some.inj (ho.symm.trans po3)
        refine at_op po3 d3 (wanted_of gd3) (run_loadBlk q3 base7 HS.grant grant_under (size_grant g)) ⟨_, by rw [d3], HS, Below.refl _ _, rfl⟩
      · skip
        obtain rfl : o = o4 := Option.some.inj (ho.symm.trans po4)
        have e3 : A.eval (.tmp 31) = .agg g.cells.toArray := hdep 3 _ 31 dp4_3 po3 d3
        refine at_enterT po4 d4 (wanted_of gd4) (run_callf1 q4 rfl e3 Tryd.func97 (by kernel_rfl) _) (ownG_any g W (by have := HG.out; omega)) ?_
        rintro e w1 ⟨rfl, hb⟩
        exact ⟨_, rfl, ⟨_, by rw [d4], HS.grow hb, hb, rfl⟩⟩
      · skip
        obtain rfl : o = o5 := Option.some.inj (ho.symm.trans po5)
        have e4 : A.eval (.tmp 32) = .agg g.cells.toArray := hdep 4 _ 32 dp5_4 po4 d4
        refine at_op po5 d5 (wanted_of gd5) (grantT.run_one q5 e4 rfl W) ⟨_, by rw [d5], HS.grow (allocBelow _ _), (allocBelow _ _), ⟨_, rfl, one_lit _ _ _ HS.size⟩⟩
      · skip
        obtain rfl : o = o6 := Option.some.inj (ho.symm.trans po6)
        have e1 : A.eval (.tmp 29) = .string ten := hdep 1 _ 29 dp6_1 po1 d1
        have e2 : A.eval (.tmp 30) = .int .i64 id := hdep 2 _ 30 dp6_2 po2 d2
        have f5 : ∃ b : Nat, (A.eval (.tmp 33)) = .slice (some ⟨b, 0, none⟩) 1 1 ∧ OwnGrants (w.heap.size + 3) W [g] (.slice (some ⟨b, 0, none⟩) 1 1) := hdep 5 _ 33 dp6_5 po5 d5
        obtain ⟨b5, e5, l5⟩ := f5
        refine at_op po6 d6 (wanted_of gd6) (run_bld3T (a := .string ten) (b := .int .i64 id) (c := .slice (some ⟨b5, 0, none⟩) 1 1) q6 e1 e2 e5 (tok_built3 ten id (some ⟨b5, 0, none⟩) 1 1 [g]) W) ⟨_, by rw [d6], HS, Below.refl _ _, ⟨_, rfl, l5⟩⟩
      · skip
        obtain rfl : o = o7 := Option.some.inj (ho.symm.trans po7)
        refine at_op po7 d7 (wanted_of gd7) (show _ = Result.ok (Next.value (.pointer (some ⟨W.heap.size, 0, none⟩))) (W.alloc (.cells (zeroTok.cells (.slice none 0 0)).toArray 50)) from run_allocTok q7 W) ⟨_, by rw [d7], HS.grow (allocBelow _ _), (allocBelow _ _), ⟨_, rfl, HS.size, heap_new_at rfl⟩⟩
    have base1 : A.eval (.tmp 1) = .string ten := (hfr 1 hf1).trans rfl
    have base2 : A.eval (.tmp 2) = .int .i64 id := (hfr 2 hf2).trans rfl
    have base7 : A.eval (.tmp 7) = .pointer (some ⟨w.heap.size + 1, 0, none⟩) := (hfr 7 hf7).trans rfl
    have e0 : A.eval (.tmp 28) = .string ten := hall 0 _ 28 (by rw [hns]; decide) po0 d0
    have e1 : A.eval (.tmp 29) = .string ten := hall 1 _ 29 (by rw [hns]; decide) po1 d1
    have e2 : A.eval (.tmp 30) = .int .i64 id := hall 2 _ 30 (by rw [hns]; decide) po2 d2
    have e3 : A.eval (.tmp 31) = .agg g.cells.toArray := hall 3 _ 31 (by rw [hns]; decide) po3 d3
    have e4 : A.eval (.tmp 32) = .agg g.cells.toArray := hall 4 _ 32 (by rw [hns]; decide) po4 d4
    have f5 : ∃ b : Nat, (A.eval (.tmp 33)) = .slice (some ⟨b, 0, none⟩) 1 1 ∧ OwnGrants (w.heap.size + 3) W [g] (.slice (some ⟨b, 0, none⟩) 1 1) := hall 5 _ 33 (by rw [hns]; decide) po5 d5
    obtain ⟨b5, e5, l5⟩ := f5
    have f6 : ∃ b : Nat, (A.eval (.tmp 34)) = .agg (TokM.cells ⟨ten, id, [g], List.replicate 32 0#8⟩ (.slice (some ⟨b, 0, none⟩) 1 1)).toArray ∧ OwnGrants (w.heap.size + 3) W [g] (.slice (some ⟨b, 0, none⟩) 1 1) := hall 6 _ 34 (by rw [hns]; decide) po6 d6
    obtain ⟨b6, e6, l6⟩ := f6
    have f7 : ∃ b : Nat, (A.eval (.tmp 11)) = .pointer (some ⟨b, 0, none⟩) ∧ w.heap.size + 3 ≤ b ∧ TokAt W b zeroTok (.slice none 0 0) := hall 7 _ 11 (by rw [hns]; decide) po7 d7
    obtain ⟨b7, e7, m7, l7⟩ := f7
    have hA := act_of_slots [28, 29, 30, 31, 32, 33, 34, 11] _ hAs hdf (fun t ht => hfr t (hslots t ht))
    simp only [List.foldl_cons, List.foldl_nil] at hA
    rw [show rdA A 28 = A.eval (.tmp 28) from rfl, e0] at hA
    rw [show rdA A 29 = A.eval (.tmp 29) from rfl, e1] at hA
    rw [show rdA A 30 = A.eval (.tmp 30) from rfl, e2] at hA
    rw [show rdA A 31 = A.eval (.tmp 31) from rfl, e3] at hA
    rw [show rdA A 32 = A.eval (.tmp 32) from rfl, e4] at hA
    rw [show rdA A 33 = A.eval (.tmp 33) from rfl, e5] at hA
    rw [show rdA A 34 = A.eval (.tmp 34) from rfl, e6] at hA
    rw [show rdA A 11 = A.eval (.tmp 11) from rfl, e7] at hA
    rw [hns]
    have hrow := setRow_heap W b7 _ (TokM.cells ⟨ten, id, [g], List.replicate 32 0#8⟩ (.slice (some ⟨b6, 0, none⟩) 1 1)).toArray 50 _ l7
    refine at_skip po8 d8 (wanted_of gd8) (run_storeRowT q8 e7 e6 l7 (size_tok (t := ⟨ten, id, [g], List.replicate 32 0#8⟩) rfl _) (by rw [List.size_toArray, List.size_toArray, tok_len (t := zeroTok) rfl, tok_len (t := ⟨ten, id, [g], List.replicate 32 0#8⟩) rfl]) (tok_ones ⟨ten, id, [g], List.replicate 32 0#8⟩ _ _ _)) ?_
    have hsp : Spares (fun b => b = b7) W (W.setRow b7 (TokM.cells ⟨ten, id, [g], List.replicate 32 0#8⟩ (.slice (some ⟨b6, 0, none⟩) 1 1)).toArray) := Spares.grown (grown_setRow _ _ _) rfl
    have HS9 : Hid (MiB root g w (W.setRow b7 (TokM.cells ⟨ten, id, [g], List.replicate 32 0#8⟩ (.slice (some ⟨b6, 0, none⟩) 1 1)).toArray) ∧ TokAt (W.setRow b7 (TokM.cells ⟨ten, id, [g], List.replicate 32 0#8⟩ (.slice (some ⟨b6, 0, none⟩) 1 1)).toArray) b7 ⟨ten, id, [g], List.replicate 32 0#8⟩ (.slice (some ⟨b6, 0, none⟩) 1 1) ∧ OwnGrants (w.heap.size + 3) (W.setRow b7 (TokM.cells ⟨ten, id, [g], List.replicate 32 0#8⟩ (.slice (some ⟨b6, 0, none⟩) 1 1)).toArray) [g] (.slice (some ⟨b6, 0, none⟩) 1 1) ∧ w.heap.size + 3 ≤ b7 ∧ b6 ≠ b7) := ⟨HS.spares HCS.out hsp (fun b e => by subst e; exact m7), hrow, ownsRow_stays l6 (spares_stays hsp) (fun j e t => own_ne_tok l6 l7 ((Option.some.inj e).trans t)), m7, own_ne_tok l6 l7⟩
    generalize W.setRow b7 (TokM.cells ⟨ten, id, [g], List.replicate 32 0#8⟩ (.slice (some ⟨b6, 0, none⟩) 1 1)).toArray = W9 at HS9 ⊢
    clear hall hdf hAs hfr hslots hns hf1 hf2 hf7 po0 q0 d0 gd0 po1 q1 d1 gd1 dp1_0 po2 q2 d2 gd2 po3 q3 d3 gd3 po4 q4 d4 gd4 dp4_3 po5 q5 d5 gd5 dp5_4 po6 q6 d6 gd6 dp6_1 dp6_2 dp6_5 po7 q7 d7 gd7 po8 q8 d8 gd8 base1 base2 base7
    have HA9 := Lib.hid hA
    clear hA HS HA1 HA hrow hsp l5 l6 l7 m7 e0 e1 e2 e3 e4 e5 e6 e7
    rw [HA9.out]
    go_frame
    clear HA9
    go_upto_region 9 with (fail)
    refine wp_region_lit ?_
    refine wpList_run (by rfl) (run_loadKeyT rfl rfl HRL.out HS9.out.1.root) ?_
    refine wpList_run (by rfl) (run_loadBlk rfl rfl HS9.out.2.1 tok_under (size_tok (t := ⟨ten, id, [g], List.replicate 32 0#8⟩) rfl _)) ?_
    obtain ⟨i1, i2, i3, i4, i5⟩ := HS9.out
    have hrow1 : GrantsAt W9 (some ⟨b6, 0, none⟩) [g] := by
      obtain ⟨pp, cc, e, -, -, h, -⟩ := i3.lies GrantM.len
      cases e
      exact h
    have hcall : Calls Tryd.prog 98 #[.agg (bytesV root).toArray, .agg (TokM.cells ⟨ten, id, [g], List.replicate 32 0#8⟩ (.slice (some ⟨b6, 0, none⟩) 1 1)).toArray] W9 fun e w' => e = .returned (.agg (bytesV (chainT root ten id [g])).toArray) ∧ Below W9.heap.size W9 w' :=
      chain_tok root ⟨ten, id, [g], List.replicate 32 0#8⟩ 1 1 (some ⟨b6, 0, none⟩) W9 HRL.out rfl rfl (by decide) HTS.out (fun x hx => by rw [List.mem_singleton.1 hx]; exact HG.out) hrow1 i1.consts i1.starts
    have hml := chainT_length root ten id [g]
    generalize hcd : chainT root ten id [g] = CD at hcall hml HM
    refine wpList_enterT (by rfl) (run_callf2 (v := .agg (bytesV root).toArray) (u := .agg (TokM.cells ⟨ten, id, [g], List.replicate 32 0#8⟩ (.slice (some ⟨b6, 0, none⟩) 1 1)).toArray) rfl rfl rfl rfl Tryd.func98 (by kernel_rfl) _) hcall ?_
    rintro e w5 ⟨rfl, hb5⟩
    refine ⟨_, rfl, ?_⟩
    have k1 := i1.grow hb5
    have k2 := i2.keep hb5
    have k3 := OwnR.below i3 hb5
    refine wpList_run (by rfl) (run_fieldT (off := 3) rfl (fun _ => by kernel_rfl) rfl _) ?_
    refine wpList_skip (by rfl) (run_storeMac rfl rfl rfl hml (tok_there k2 rfl)) ?_
    refine wpList_nil ?_
    have hsp : Spares (fun b => b = b7) w5 (w5.setCells b7 3 (bytesV (CD))) := Spares.grown (grown_setCells _ _ _ _) rfl
    have HS5 : Hid (MiB root g w (w5.setCells b7 3 (bytesV (CD))) ∧ TokAt (w5.setCells b7 3 (bytesV (CD))) b7 ⟨ten, id, [g], CD⟩ (.slice (some ⟨b6, 0, none⟩) 1 1) ∧ OwnGrants (w.heap.size + 3) (w5.setCells b7 3 (bytesV (CD))) [g] (.slice (some ⟨b6, 0, none⟩) 1 1)) := ⟨k1.spares HCS.out hsp (fun b e => by omega), tok_setMac k2 rfl hml, ownsRow_stays k3 (spares_stays hsp) (fun j e t => i5 ((Option.some.inj e).trans t))⟩
    have HML := Lib.hid hml
    have hsz9 := size_tok (t := ⟨ten, id, [g], CD⟩) hml (.slice (some ⟨b6, 0, none⟩) 1 1)
    have hsl9 : (zeroTok.cells (.slice none 0 0)).toArray.size = (TokM.cells ⟨ten, id, [g], CD⟩ (.slice (some ⟨b6, 0, none⟩) 1 1)).toArray.size := by rw [List.size_toArray, List.size_toArray, tok_len (t := zeroTok) rfl, tok_len (t := ⟨ten, id, [g], CD⟩) hml]
    generalize w5.setCells b7 3 (bytesV (CD)) = W6 at HS5 ⊢
    have HSZ9 := Lib.hid hsz9
    have HSL9 := Lib.hid hsl9
    clear k1 k2 k3 hsp hml i1 i2 i3 i4 i5 hrow1 hb5 HS9 hsz9 hsl9
    go_frame
    go_upto_region 10 with (fail)
    refine wp_region_lit ?_
    refine wpList_run (by rfl) (run_loadBlk rfl rfl HS5.out.2.1 tok_under HSZ9.out) ?_
    refine wpList_store_row rfl 50 (.tmp 8) (.tmp 39) rfl (w.heap.size + 2) (TokM.cells ⟨ten, id, [g], CD⟩ (.slice (some ⟨b6, 0, none⟩) 1 1)).toArray rfl rfl 50 _ HS5.out.1.out HSZ9.out HSL9.out (tok_ones _ _ _ _) ?_
    refine wpList_run (by rfl) (run_assign (v := .int .i64 0) rfl rfl _) ?_
    refine wpList_nil ?_
    go_frame
    go_wp2_with fail
    exact bodyPost_ret (v := .tuple #[.agg (TokM.cells ⟨ten, id, [g], CD⟩ (.slice (some ⟨b6, 0, none⟩) 1 1)).toArray, .int .i64 0]) (results_row_tmpT Tryd.results24 _ _ (w.heap.size + 2) 50 _ (0, 0) _ _ rfl rfl (setRow_heap _ _ _ _ _ _ HS5.out.1.out) Tryd.underlying50 rfl HSZ9.out) rfl ⟨some ⟨b6, 0, none⟩, 1, 1, by rw [HM.out, HEQ2.out], by rw [HM.out]; exact lowerR (ownsRow_stays HS5.out.2.2 (spares_stays (T := fun b => b = w.heap.size + 2) (Spares.grown (grown_setRow _ _ _) rfl)) (fun j e t => by have := World.ownsRow.lt HS5.out.2.2 j e; omega)) (by omega), below_setRow HS5.out.1.below (by omega) _⟩
  · have HM : Hid (mintM root ten id g = zeroTok) := show _ = _ from mintM_no (by rw [HEQ2.out]; exact hE0)
    have q3 : (E != 0) = true := by simpa using hE0
    go_upto_region 7 with (fail)
    refine wp_region_lit ?_
    refine wpList_run (by rfl) (show _ = Result.ok (Next.value (.agg (zeroTok.cells (.slice none 0 0)).toArray)) _ from by kernel_rfl) ?_
    refine wpList_run (by rfl) (run_move (v := .int .i64 E) rfl rfl _) ?_
    refine wpList_store_row rfl 50 (.tmp 8) (.tmp 26) rfl (w.heap.size + 2) (zeroTok.cells (.slice none 0 0)).toArray rfl rfl 50 _ HA1.out.out (size_tok (t := zeroTok) rfl _) rfl (tok_ones zeroTok none 0 0) ?_
    refine wpList_run (by rfl) (run_assign (v := .int .i64 E) rfl rfl _) ?_
    refine wpList_nil ?_
    go_frame
    go_wp2_with fail
    exact bodyPost_ret (v := .tuple #[.agg (zeroTok.cells (.slice none 0 0)).toArray, .int .i64 E]) (results_row_tmpT Tryd.results24 _ _ (w.heap.size + 2) 50 (zeroTok.cells (.slice none 0 0)).toArray (0, 0) _ _ rfl rfl (setRow_heap _ _ _ _ _ _ HA1.out.out) Tryd.underlying50 rfl (size_tok (t := zeroTok) rfl _)) rfl ⟨none, 0, 0, by rw [HM.out, HEQ2.out], by rw [HM.out]; exact OwnR.nil _ _ _ _ _, below_setRow HA1.out.below (by omega) _⟩
end Go.Proofs.YtgeacocdnenhdaaDoor

/-
  The program's bytes of a token (gen_tkput.py).
-/
namespace Go.Proofs.YtgeacocdnenhdaaDoor
open Go.RowKit Go.Proofs.ShaWords
attribute [local go_sem] Oper.semAt_some
section
variable {ρ : Operand → Value} {o : Oper} {x y : Operand} {w : World}
theorem run_lenG {p : Option Addr} {n c : Nat} (ho : o.op = .call { callee := .builtin .len, args := #[x], argTypes := #[44] }) (hx : ρ x = .slice p n c) (w : World) : (execOp ρ o).run Tryd.prog w = .ok (.value (.int .i64 (n : Int))) w := by
  obtain ⟨dst, op, ty', pos, after, guard⟩ := o
  simp only at ho
  subst ho
  go_simp
end
/-- The bytes so far in a cell, the token in a block. -/
structure PtB (v : Value) (t : TokM) (q : Value) (W w : World) : Prop where
  cell : w.heap[W.heap.size]? = some (.cells #[v] 24 (0, 0))
  tok : TokAt w (W.heap.size + 1) t q
  below : Below W.heap.size W w
theorem PtB.step {v : Value} {t : TokM} {q : Value} {W w w' : World} (h : PtB v t q W w) (hb : Below w.heap.size w w') : PtB v t q W w' :=
  ⟨(hb.block _ (Array.getElem?_eq_some_iff.1 h.cell).1).trans h.cell, h.tok.keep hb, h.below.trans (hb.mono h.below.size)⟩
theorem PtB.size {v : Value} {t : TokM} {q : Value} {W w : World} (h : PtB v t q W w) : W.heap.size + 1 < w.heap.size := h.tok.lt
theorem PtB.spares {T : Nat → Prop} {v : Value} {t : TokM} {q : Value} {W w w' : World} (h : PtB v t q W w) (hs : Spares T w w') (hT : ∀ b, T b → W.heap.size + 2 ≤ b) : PtB v t q W w' := by
  have hb : Below (W.heap.size + 2) w w' := hs.below h.size (fun k hk ht => by have := hT k ht; omega)
  exact ⟨(hb.block _ (by omega)).trans h.cell, h.tok.below hb (by omega), h.below.trans (hb.mono (by omega))⟩
/-- Behind so many grants; the bytes' own block is none of two. -/
structure PtW (l : List (BitVec 8)) (t : TokM) (q : Value) (X k : Nat) (W w : World) : Prop where
  ex : ∃ v, PtB v t q W w ∧ Own (W.heap.size + 2) w (l ++ (t.gs.take k).flatMap encG) v ∧ ∀ j, v.ownBlock = some j → j ≠ X ∧ j ≠ X + 1
end Go.Proofs.YtgeacocdnenhdaaDoor
