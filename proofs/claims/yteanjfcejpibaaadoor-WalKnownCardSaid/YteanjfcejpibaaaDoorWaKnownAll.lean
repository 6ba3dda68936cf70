/-
  WalKnown: the law returns true; the package's table starts as the program's own text lays it (the tie is given).
-/
import Derived.Test.YteanjfcejpibaaaDoorPkA
import Derived.Test.YteanjfcejpibaaaDoorPkH
import Derived.Deep.LoopGhost
import Derived.Test.YteanjfcejpibaaaDoorTie
import Derived.Test.YteanjfcejpibaaaDoorCards
import Derived.SevenTiedAt
/-
  What WalKnown does, as plain data: the chapter's examples, thirty segments more, a disk with little room.
-/
namespace Go.Proofs.YteanjfcejpibaaaDoor
open Go.Proofs.ShaWords
theorem AddedW.eq {d : DiskM} {E : Nat} {z : Int} {f : RowW} (ha : AddedW d E f (appendW d E false z f)) {E' : Nat} (hE : (if fitsW d E f.2.length = true then E else E + 1) = E') : appendW d E false z f = ⟨(appendW d E false z f).d, E', false, 0⟩ := by
  have h1 := ha.seg; have h2 := ha.dead; have h3 := ha.e
  rw [hE] at h1
  cases hx : appendW d E false z f with
  | mk x1 x2 x3 x4 => rw [hx] at h1 h2 h3; simp only at h1 h2 h3; rw [h1, h2, h3]
def k9 : RowW := (kb 3, [9#8])
def f2012 : RowW := (kb 2, noughts 2012)
def f1 : RowW := (kb 2, noughts 1)
theorem kb_3 : kb 3 ≠ 0#8 := by decide
theorem kb_7 : kb 7 ≠ 0#8 := by decide
attribute [local irreducible] noughts
theorem fits_not {d : DiskM} {E m L : Nat} (hl : (d.files E).all.length = L) (h : 2048 < L + (m + 9)) : fitsW d E m = false := by
  unfold fitsW
  rw [hl]
  have : ¬ L + (m + 9) ≤ 2048 := by omega
  simp; omega
theorem walKnown_first {d : DiskM} {N : Nat} (hF : d.files = openF (fun _ => ⟨[], 0⟩) 0 N) (hc : d.Calm) (hr : d.room = 262144) : ∃ d1 d2 d3 d4, appendW d 0 false 1 kAB = ⟨d1, 1, false, 0⟩ ∧ appendW d1 1 false 0 (kb 0, []) = ⟨d1, 1, false, 2⟩ ∧ appendW d1 1 false 255 (kb 255, []) = ⟨d1, 1, false, 2⟩ ∧ appendW d1 1 false 1 (kb 1, noughts 2023) = ⟨d1, 1, false, 5⟩ ∧
    appendW d1 1 false 2 f2012 = ⟨d2, 2, false, 0⟩ ∧ appendW d2 2 false 2 f1 = ⟨d3, 2, false, 0⟩ ∧ appendW d3 2 false 3 k9 = ⟨d4, 3, false, 0⟩ ∧ d4.room = 262144 ∧
    (d4.Ok → ∃ segs, LogOf (fun s => ((d4.crash []).files s).all) 2 segs [] ∧ rowsW segs 2 = [kAB, f2012, f1] ∧ (framesB (hdW 2 :: segs 2)).length = 2048 ∧ (d4.crash []).used ≤ 2200) := by
  obtain ⟨k0, hu0, hs0⟩ := kn_open hF hc
  have hfit0 : fitsW d 0 kAB.2.length = false := rfl
  have hn0 : needW d 0 kAB.2.length = 28 := by unfold needW; rw [hfit0]; rfl
  obtain ⟨a1, q1, hd1, -⟩ := k0.seg 1 (by decide) kAB ⟨kb_1, by decide⟩ hfit0 (by decide) (by rw [hn0, hu0, hr]; decide)
  have e1 := a1.eq (E' := 1) (by rw [hfit0]; rfl)
  have hl1 := a1.len
  rw [a1.seg, hfit0] at hl1
  have hl1 : ((appendW d 0 false 1 kAB).d.files 1).all.length = 28 := hl1
  have hu1 : (appendW d 0 false 1 kAB).d.used = 28 := by rw [a1.used, hn0, hu0]
  have hr1 : (appendW d 0 false 1 kAB).d.room = 262144 := by rw [a1.room, hr]
  have hx1 : ((appendW d 0 false 1 kAB).d.files 2).dur = 0 ∧ ((appendW d 0 false 1 kAB).d.files 3).dur = 0 := by
    have hfi := a1.files
    rw [if_neg (by rw [hfit0]; decide), if_pos rfl] at hfi
    rw [hfi]
    refine ⟨?_, ?_⟩
    · rw [write_other _ _ (by decide), write_other _ _ (by decide), hs0]
    · rw [write_other _ _ (by decide), write_other _ _ (by decide), hs0]
  generalize (appendW d 0 false 1 kAB).d = d1 at e1 q1 hl1 hu1 hr1 hx1
  have hnd : ¬ (false = true ∨ d1.down = true) := by rw [q1.calm.down]; decide
  have e2 : appendW d1 1 false 0 (kb 0, []) = ⟨d1, 1, false, 2⟩ := by unfold appendW; rw [if_neg hnd, if_pos (by omega)]
  have e3 : appendW d1 1 false 255 (kb 255, []) = ⟨d1, 1, false, 2⟩ := by unfold appendW; rw [if_neg hnd, if_pos (by omega)]
  have e4 : appendW d1 1 false 1 (kb 1, noughts 2023) = ⟨d1, 1, false, 5⟩ := by unfold appendW; rw [if_neg hnd, if_neg (by omega), if_pos (by show 2022 < (noughts 2023).length; rw [noughts_length]; decide)]
  have g5 : f2012.2.length = 2012 := noughts_length 2012
  have hfit5 : fitsW d1 1 f2012.2.length = false := fits_not hl1 (by rw [g5]; decide)
  have hn5 : needW d1 1 f2012.2.length = 2038 := by unfold needW; rw [hfit5, g5]; rfl
  obtain ⟨a5, q5, hd5, -⟩ := q1.seg 2 (by decide) f2012 ⟨kb_2, by rw [g5]; decide⟩ hfit5 (by decide) (by rw [hn5, hu1, hr1]; decide)
  have e5 := a5.eq (E' := 2) (by rw [hfit5]; rfl)
  have hl5 := a5.len
  rw [a5.seg, hfit5, g5] at hl5
  have hl5 : ((appendW d1 1 false 2 f2012).d.files 2).all.length = 2038 := hl5
  have hu5 : (appendW d1 1 false 2 f2012).d.used = 2066 := by rw [a5.used, hn5, hu1]
  have hr5 : (appendW d1 1 false 2 f2012).d.room = 262144 := by rw [a5.room, hr1]
  have hx5 : ((appendW d1 1 false 2 f2012).d.files 3).dur = 0 := by
    have hfi := a5.files
    rw [if_neg (by rw [hfit5]; decide), if_neg (by decide)] at hfi
    rw [hfi, write_other _ _ (by decide), write_other _ _ (by decide), sync_other _ (by decide)]
    exact hx1.2
  have q5 : KnW (appendW d1 1 false 2 f2012).d 2 (setW (setW (fun _ => []) 1 [kAB]) 2 [f2012]) [kAB, f2012] := q5
  generalize (appendW d1 1 false 2 f2012).d = d2 at e5 q5 hl5 hu5 hr5 hx5
  have g6 : f1.2.length = 1 := noughts_length 1
  have hfit6 : fitsW d2 2 f1.2.length = true := fitsW_yes1 (by decide) (by rw [hl5, g6]; decide)
  have hn6 : needW d2 2 f1.2.length = 10 := by unfold needW; rw [hfit6, g6]; rfl
  obtain ⟨a6, q6⟩ := q5.row 2 (by decide) f1 ⟨kb_2, by rw [g6]; decide⟩ hfit6 (by rw [hn6, hu5, hr5]; decide)
  have e6 := a6.eq (E' := 2) (by rw [hfit6]; rfl)
  have hl6 := a6.len
  rw [a6.seg, hfit6, g6] at hl6
  have hl6 : ((appendW d2 2 false 2 f1).d.files 2).all.length = 2048 := hl6.trans (by rw [if_pos rfl, hl5])
  have hu6 : (appendW d2 2 false 2 f1).d.used = 2076 := by rw [a6.used, hn6, hu5]
  have hr6 : (appendW d2 2 false 2 f1).d.room = 262144 := by rw [a6.room, hr5]
  have hx6 : ((appendW d2 2 false 2 f1).d.files 3).dur = 0 := by
    have hfi := a6.files
    rw [if_pos hfit6] at hfi
    rw [hfi, write_other _ _ (by decide)]
    exact hx5
  have q6 : KnW (appendW d2 2 false 2 f1).d 2 (setW (setW (setW (fun _ => []) 1 [kAB]) 2 [f2012]) 2 [f2012, f1]) [kAB, f2012, f1] := by
    have h := q6
    rw [setW_same] at h
    exact h
  generalize (appendW d2 2 false 2 f1).d = d3 at e6 q6 hl6 hu6 hr6 hx6
  have g7 : k9.2.length = 1 := rfl
  have hfit7 : fitsW d3 2 k9.2.length = false := fits_not hl6 (by rw [g7]; decide)
  have hn7 : needW d3 2 k9.2.length = 27 := by unfold needW; rw [hfit7, g7]; rfl
  obtain ⟨a7, q7, hd7, -⟩ := q6.seg 3 (by decide) k9 ⟨kb_3, by decide⟩ hfit7 (by decide) (by rw [hn7, hu6, hr6]; decide)
  have e7 := a7.eq (E' := 3) (by rw [hfit7]; rfl)
  have hd7 : ((appendW d3 2 false 3 k9).d.files (2 + 1)).dur = 0 := hd7.trans hx6
  have hu7 : (appendW d3 2 false 3 k9).d.used = 2103 := by rw [a7.used, hn7, hu6]
  have hr7 : (appendW d3 2 false 3 k9).d.room = 262144 := by rw [a7.room, hr6]
  generalize (appendW d3 2 false 3 k9).d = d4 at e7 q7 hd7 hu7 hr7
  refine ⟨d1, d2, d3, d4, e1, e2, e3, e4, e5, e6, e7, hr7, fun ok => ?_⟩
  have hg := crash_gone (E := 2) q7.live.files ok q7.live.dur.ahead hd7
  refine ⟨_, hg.log, ?_, ?_, ?_⟩
  · rw [rowsW_below _ _ _ (by decide)]
    exact q6.live.rows
  · rw [setW_other _ _ (by decide), setW_same]
    have h := q6.live.files.seg 2 (by decide) (Nat.le_refl _)
    rw [setW_same] at h
    have h2 : ((d3.files 2).all).length = _ := congrArg List.length h
    rw [hl6] at h2
    exact h2.symm
  · have h1 : (d4.crash []).used ≤ d4.used := by
      unfold DiskM.used
      refine sumTo_mono 33 fun s hs => ?_
      have h2 : ((d4.crash []).files s).all = (d4.files s).all.take (d4.files s).dur := crash_none d4.files s hs (ok.dur s hs)
      rw [h2, List.length_take]; omega
    omega
/-- Between two of the segments that follow. -/
structure SegK (d : DiskM) (E : Nat) : Prop where
  kn : ∃ segs all, KnW d E segs all
  len : (d.files E).all.length = 2048
  used : d.used ≤ 2048 * E
  room : d.room = 262144
theorem SegK.next {d : DiskM} {E : Nat} (h : SegK d E) (hE : E < 32) : ∃ d', appendW d E false 7 (kb 7, noughts 2022) = ⟨d', E + 1, false, 0⟩ ∧ SegK d' (E + 1) := by
  obtain ⟨segs, all, k⟩ := h.kn
  have g : ((kb 7, noughts 2022) : RowW).2.length = 2022 := noughts_length 2022
  have hfit : fitsW d E ((kb 7, noughts 2022) : RowW).2.length = false := fits_not h.len (by rw [g]; decide)
  have hn : needW d E ((kb 7, noughts 2022) : RowW).2.length = 2048 := by unfold needW; rw [hfit, g]; rfl
  have hu := h.used
  have hr := h.room
  obtain ⟨a, q, -, -⟩ := k.seg 7 (by decide) (kb 7, noughts 2022) ⟨kb_7, by rw [g]; decide⟩ hfit hE (by rw [hn]; omega)
  have e := a.eq (E' := E + 1) (by rw [hfit]; rfl)
  have hl := a.len
  rw [a.seg, hfit, g] at hl
  refine ⟨_, e, ⟨_, _, q⟩, hl, by rw [a.used, hn]; omega, by rw [a.room]; exact hr⟩
theorem SegK.full {d : DiskM} (h : SegK d 32) : appendW d 32 false 7 (kb 7, []) = ⟨d, 32, false, 8⟩ := by
  obtain ⟨segs, all, k⟩ := h.kn
  have hfit : fitsW d 32 ((kb 7, []) : RowW).2.length = false := fits_not h.len (by decide)
  unfold appendW
  rw [if_neg (by rw [k.calm.down]; decide), if_neg (by omega), if_neg (by show ¬ 2022 < 0; omega), if_pos (Or.inl ⟨hfit, rfl⟩)]
theorem SegK.struck {d : DiskM} (h : SegK d 32) : syncW (d.arm 0) 32 false = ⟨(d.arm 0).tick, 32, true, 9⟩ ∧ (d.arm 0).tick.down = true := by
  obtain ⟨segs, all, k⟩ := h.kn
  have hl : (d.arm 0).left = 0 := by unfold DiskM.arm; show max (0 : Int) (-1) = 0; omega
  have hdn : (d.arm 0).down = false := k.calm.down
  have hs := DiskM.sync_struck hdn (f := 32) (by decide) hl
  have hs2 : syncedW (d.arm 0) 32 = ((d.arm 0).tick, 9) := by unfold syncedW; rw [if_neg (by decide)]; exact hs
  refine ⟨?_, by show decide ((d.arm 0).left = 0) = true; rw [hl]; rfl⟩
  unfold syncW
  rw [if_neg (by rw [hdn]; decide), hs2]
  rfl
/-- A disk with little room. -/
theorem little_pure {d : DiskM} {N : Nat} (hF : d.files = openF (fun _ => ⟨[], 0⟩) 0 N) (hc : d.Calm) (hr : d.room = 50) : d.used = 0 ∧ appendW d 0 false 1 (kb 1, noughts 25) = ⟨d, 0, false, 8⟩ ∧ ∃ d', appendW d 0 false 1 (kb 1, noughts 24) = ⟨d', 1, false, 0⟩ ∧ d'.used = 50 := by
  obtain ⟨k0, hu0, hs0⟩ := kn_open hF hc
  have g25 : ((kb 1, noughts 25) : RowW).2.length = 25 := noughts_length 25
  have g24 : ((kb 1, noughts 24) : RowW).2.length = 24 := noughts_length 24
  have hfit : ∀ m, fitsW d 0 m = false := fun _ => rfl
  have hn : ∀ m, needW d 0 m = m + 26 := fun m => by unfold needW; rw [hfit]; show m + 9 + 17 = _; omega
  refine ⟨hu0, ?_, ?_⟩
  · unfold appendW
    rw [if_neg (by rw [hc.down]; decide), if_neg (by omega), if_neg (by rw [g25]; decide), if_pos (Or.inr (by rw [hn, g25, hu0, hr]; decide))]
  · obtain ⟨a, q, -, -⟩ := k0.seg 1 (by decide) (kb 1, noughts 24) ⟨kb_1, by rw [g24]; decide⟩ (hfit _) (by decide) (by rw [hn, g24, hu0, hr]; decide)
    have e := a.eq (E' := 1) (by rw [hfit]; rfl)
    exact ⟨_, e, by rw [a.used, hn, g24, hu0]⟩
end Go.Proofs.YteanjfcejpibaaaDoor

/-
  WalKnown: the chapter's examples; a log that has no further segment; a disk with little room.
-/
namespace Go.Proofs.YteanjfcejpibaaaDoor
open Go.RowKit Go.Proofs.ShaWords
theorem run_makeW {ρ : Operand → Value} {o : Oper} {x y : Operand} {n : Nat} (ho : o.op = .makeSlice 41 x y) (hx : ρ x = .int .i64 (n : Int)) (hy : ρ y = .int .i64 (n : Int)) (hn : n ≤ 1000000) (w : World) :
    ∃ w', (execOp ρ o).run Tryd.prog w = .ok (.value (.slice (some ⟨w.heap.size, 0, none⟩) n n)) w' ∧ w'.heap[w.heap.size]? = some (.cells (bytesV (noughts n)).toArray 5 (0, 0)) ∧ Below w.heap.size w w' := by
  obtain ⟨i, hi, hz, hs, hb⟩ := info_parts info5
  have hrun := run_make (P := Tryd.prog) w 41 5 i (.int .u8 0) Tryd.underlying41 hi hz .i64 .i64 (n : Int) (n : Int) (by omega) (by omega) (by rw [hb]; omega) (by omega)
  rw [hs, Nat.mul_one] at hrun
  simp only [Int.toNat_natCast] at hrun
  refine ⟨w.alloc (.cells (madeCells (Value.int .u8 0).cells n) 5), ?_, ?_, (Below.refl w.heap.size w).alloc (Nat.le_refl _) _⟩
  · unfold execOp
    simp only [ho, hx, hy, Sem.run_bind, hrun, Result.andThen_ok, Sem.run_pure]
  · show _ = some (Obj.cells (bytesV (List.replicate n 0#8)).toArray _ _)
    rw [← made_noughts]
    exact heap_new_at rfl
theorem wpList_makeW {ops : Array Oper} {rest : List Oper} {o : Oper} {a : Act} {w : World} {Q : Exit → Act → World → Prop} {x y : Operand} (n : Nat) (hw : Region.wanted o (yielded ops a.tmps) = true) (ho : o.op = .makeSlice 41 x y) (hx : a.eval x = .int .i64 (n : Int)) (hy : a.eval y = .int .i64 (n : Int)) (hn : n ≤ 1000000)
    (h : ∀ w', w'.heap[w.heap.size]? = some (.cells (bytesV (noughts n)).toArray 5 (0, 0)) → Below w.heap.size w w' → wpList Tryd.prog ops Q rest (a.put o.dst (.slice (some ⟨w.heap.size, 0, none⟩) n n)) w') : wpList Tryd.prog ops Q (o :: rest) a w := by
  obtain ⟨w', hr, h1, h2⟩ := run_makeW ho hx hy hn w
  exact wpList_runL hw hr (h w' h1 h2)
theorem WaL.made {lo b g E n : Nat} {d : DiskM} {dead : Bool} {w w' : World} {L : List (Nat × Obj)} (h : WaL lo w b g d E dead L) (hm : w'.heap[w.heap.size]? = some (.cells (bytesV (noughts n)).toArray 5 (0, 0))) (hb : Below w.heap.size w w') : WaL lo w' b g d E dead [(w.heap.size, .cells (bytesV (noughts n)).toArray 5 (0, 0))] :=
  (h.more (L' := [(w.heap.size, .cells (bytesV (noughts n)).toArray 5 (0, 0))]) hb (fun x hx => by rw [List.mem_singleton.1 hx]; exact ⟨Nat.le_refl _, hm⟩)).fewer (fun x hx => List.mem_append_left _ hx)
def KnP (W : World) (e : Ending) (w' : World) : Prop := e = .returned (.bool true) ∧ Below W.heap.size W w'
theorem crash_dur (d : DiskM) (ok : d.Ok) (keep : List Int) (s : Nat) (hs : s < 33) : ((d.crash keep).files s).dur = ((d.crash keep).files s).all.length := by
  obtain ⟨k, hk⟩ := crashTo_one d.files keep s hs
  show ((crashTo d.files keep 33).1 s).dur = ((crashTo d.files keep 33).1 s).all.length
  rw [hk]
  exact (cutTo_ok (ok.dur s hs) k).2.1
theorem DkL.small {lo g : Nat} {d : DiskM} {w : World} {L : List (Nat × Obj)} (h : DkL lo w g d L) (hr : d.used < 100000) (s : Nat) (h2 : s ≤ 32) : (d.files s).all.length < 100000 := by
  have hle := sumTo_le d.files s 33 (by omega)
  unfold DiskM.used at hr
  have _ := h
  omega
attribute [local irreducible] noughts
set_option maxRecDepth 1000000 in
set_option maxHeartbeats 4000000 in
theorem walKnown_any (w : World) (hR : Rem w) : Calls Tryd.prog 6 #[] w fun e w' => KnP w e w' := by
  have HR := Lib.hid hR
  have HG := Lib.hid hR.size
  have kc := fun (w : World) (C : Array Value) (n c : Nat) => Lib.run_convert_bytes_const (P := Tryd.prog) w 41 5 C n c Tryd.underlying41 Tryd.underlying5
  clear hR
  go_enter Tryd.func6, Tryd.ntmps6
  go_wp2_with fail
  refine (dkNewL 262144 w).mono ?_
  rintro e w1 ⟨g, rfl, hi, hb⟩
  have HI1 := Lib.hid hi; have HB1 := Lib.hid hb; clear hi hb
  go_wp2_with fail
  refine (HI1.out.open HB1.out.size (HR.out.on HB1.out) (calm_new _) (by rw [new_count]; decide) (fun _ => []) [] (new_log 262144) (fun s _ _ => new_small _ s)).mono ?_
  rintro e w2 ⟨b, hv, vs, d0, L', rfl, hi, hb, hfr, -, hF, hcalm, hroom, hcnt⟩
  obtain ⟨q0, c0, rfl, -⟩ := hfr.sl9 (n := 0) rfl
  have HI2 := Lib.hid (hi.fewer (L' := []) (fun x hx => absurd hx List.not_mem_nil)); have HB2 := Lib.hid (HB1.out.trans hb)
  obtain ⟨d1, d2, d3, d4, e1, e2, e3, e4, e5, e6, e7, hr4, hend⟩ := walKnown_first hF hcalm hroom
  have HE1 := Lib.hid e1; have HE2 := Lib.hid e2; have HE3 := Lib.hid e3; have HE4 := Lib.hid e4; have HE5 := Lib.hid e5; have HE6 := Lib.hid e6; have HE7 := Lib.hid e7; have HR4 := Lib.hid hr4; have HEND := Lib.hid hend
  have HN0 : Hid (d0.count ≤ 33 ∧ True) := show _ ∧ _ from ⟨by rw [new_count] at hcnt; omega, trivial⟩
  clear hi hb hfr hF hcalm hroom hcnt e1 e2 e3 e4 e5 e6 e7 hr4 hend HI1 HB1
  go_wp2_with (go_at_call 16; fail)
  have hi := HI2.out.one (.cells #[.int .u8 97, .int .u8 98] 5 (2, 3))
  have hb : Below w2.heap.size w2 (w2.alloc (.cells #[.int .u8 97, .int .u8 98] 5 (2, 3))) := (Below.refl _ _).alloc (Nat.le_refl _) _
  generalize w2.alloc (.cells #[.int .u8 97, .int .u8 98] 5 (2, 3)) = w3 at hi hb ⊢
  have HI3 := Lib.hid hi; have HB3 := Lib.hid (HB2.out.trans (hb.mono HB2.out.size)); clear hi hb HI2 HB2
  have hcall := HI3.out.append HB3.out.size HG.out (HR.out.on HB3.out) (by have := HN0.out.1; omega) 1 [97#8, 98#8] 2 2 (some ⟨w2.heap.size, 0, none⟩) rfl (by decide) (fun w' h _ => lies_obj (h _ List.mem_cons_self) rfl)
  rw [show ((kb 1, [97#8, 98#8]) : RowW) = kAB from rfl, HE1.out] at hcall
  have HN1 : Hid (d1.count ≤ 36 ∧ True) := show _ ∧ _ from ⟨by have h1 := appendW_count d0 0 false 1 kAB; rw [HE1.out] at h1; have h1 : d1.count ≤ d0.count + 3 := h1; have := HN0.out.1; omega, trivial⟩
  have HCALL := Lib.hid hcall; clear hcall
  refine HCALL.out.mono ?_
  rintro e w4 ⟨rfl, hi, hb⟩
  have HI4 : Hid (WaL w.heap.size w4 b g d1 1 false []) := show WaL _ _ _ _ _ _ _ _ from WaL.fewer hi (fun x hx => absurd hx List.not_mem_nil); have HB4 := Lib.hid (HB3.out.trans hb)
  clear hi hb HI3 HB3 HCALL
  go_wp2_with (go_at_call 16; fail)
  have hcall := HI4.out.append HB4.out.size HG.out (HR.out.on HB4.out) (by have := HN1.out.1; omega) 0 [] 0 0 none rfl (by decide) (fun _ _ _ => Or.inl rfl)
  rw [HE2.out] at hcall
  have HCALL := Lib.hid hcall; clear hcall
  refine HCALL.out.mono ?_
  rintro e w5 ⟨rfl, hi, hb⟩
  have HI5 : Hid (WaL w.heap.size w5 b g d1 1 false []) := hi; have HB5 := Lib.hid (HB4.out.trans hb)
  clear hi hb HI4 HB4 HCALL
  go_wp2_with (go_at_call 16; fail)
  have hcall := HI5.out.append HB5.out.size HG.out (HR.out.on HB5.out) (by have := HN1.out.1; omega) 255 [] 0 0 none rfl (by decide) (fun _ _ _ => Or.inl rfl)
  rw [HE3.out] at hcall
  have HCALL := Lib.hid hcall; clear hcall
  refine HCALL.out.mono ?_
  rintro e w6 ⟨rfl, hi, hb⟩
  have HI6 : Hid (WaL w.heap.size w6 b g d1 1 false []) := hi; have HB6 := Lib.hid (HB5.out.trans hb)
  clear hi hb HI5 HB5 HCALL
  go_wp2_with (first | (at_make; refine wpList_makeW 2023 (by rfl) rfl rfl rfl (by decide) ?_; intro w7 h7 b7; have HI7 := Lib.hid (HI6.out.made h7 b7); have HB7 := Lib.hid (HB6.out.trans (b7.mono HB6.out.size)); clear h7 b7) | (go_at_call 16; fail))
  have hcall := HI7.out.append HB7.out.size HG.out (HR.out.on HB7.out) (by have := HN1.out.1; omega) 1 (noughts 2023) 2023 2023 (some ⟨w6.heap.size, 0, none⟩) (noughts_length _) (by decide) (fun w' h _ => lies_obj (h _ List.mem_cons_self) rfl)
  rw [HE4.out] at hcall
  have HCALL := Lib.hid hcall; clear hcall
  refine HCALL.out.mono ?_
  rintro e w8 ⟨rfl, hi, hb⟩
  have HI8 : Hid (WaL w.heap.size w8 b g d1 1 false []) := show WaL _ _ _ _ _ _ _ _ from WaL.fewer hi (fun x hx => absurd hx List.not_mem_nil); have HB8 := Lib.hid (HB7.out.trans hb)
  clear hi hb HI6 HB6 HI7 HB7 HCALL
  go_wp2_with (first | (at_make; refine wpList_makeW 2012 (by rfl) rfl rfl rfl (by decide) ?_; intro w9 h9 b9; have HI9 := Lib.hid (HI8.out.made h9 b9); have HB9 := Lib.hid (HB8.out.trans (b9.mono HB8.out.size)); clear h9 b9) | (go_at_call 16; fail))
  have hcall := HI9.out.append HB9.out.size HG.out (HR.out.on HB9.out) (by have := HN1.out.1; omega) 2 (noughts 2012) 2012 2012 (some ⟨w8.heap.size, 0, none⟩) (noughts_length _) (by decide) (fun w' h _ => lies_obj (h _ List.mem_cons_self) rfl)
  rw [show ((kb 2, noughts 2012) : RowW) = f2012 from rfl, HE5.out] at hcall
  have HN2 : Hid (d2.count ≤ 39 ∧ True) := show _ ∧ _ from ⟨by have h1 := appendW_count d1 1 false 2 f2012; rw [HE5.out] at h1; have h1 : d2.count ≤ d1.count + 3 := h1; have := HN1.out.1; omega, trivial⟩
  have HCALL := Lib.hid hcall; clear hcall
  refine HCALL.out.mono ?_
  rintro e w10 ⟨rfl, hi, hb⟩
  have HI10 : Hid (WaL w.heap.size w10 b g d2 2 false []) := show WaL _ _ _ _ _ _ _ _ from WaL.fewer hi (fun x hx => absurd hx List.not_mem_nil); have HB10 := Lib.hid (HB9.out.trans hb)
  clear hi hb HI8 HB8 HI9 HB9 HCALL
  go_wp2_with (first | (go_at_call 18; refine HI10.out.seg.mono ?_; rintro e wq ⟨rfl, rfl⟩) | (at_make; refine wpList_makeW 1 (by rfl) rfl rfl rfl (by decide) ?_; intro w11 h11 b11; have HI11 := Lib.hid (HI10.out.made h11 b11); have HB11 := Lib.hid (HB10.out.trans (b11.mono HB10.out.size)); clear h11 b11) | (go_at_call 16; fail))
  have hcall := HI11.out.append HB11.out.size HG.out (HR.out.on HB11.out) (by have := HN2.out.1; omega) 2 (noughts 1) 1 1 (some ⟨w10.heap.size, 0, none⟩) (noughts_length _) (by decide) (fun w' h _ => lies_obj (h _ List.mem_cons_self) rfl)
  rw [show ((kb 2, noughts 1) : RowW) = f1 from rfl, HE6.out] at hcall
  have HN3 : Hid (d3.count ≤ 42 ∧ True) := show _ ∧ _ from ⟨by have h1 := appendW_count d2 2 false 2 f1; rw [HE6.out] at h1; have h1 : d3.count ≤ d2.count + 3 := h1; have := HN2.out.1; omega, trivial⟩
  have HCALL := Lib.hid hcall; clear hcall
  refine HCALL.out.mono ?_
  rintro e w12 ⟨rfl, hi, hb⟩
  have HI12 : Hid (WaL w.heap.size w12 b g d3 2 false []) := show WaL _ _ _ _ _ _ _ _ from WaL.fewer hi (fun x hx => absurd hx List.not_mem_nil); have HB12 := Lib.hid (HB11.out.trans hb)
  clear hi hb HI10 HB10 HI11 HB11 HCALL
  go_wp2_with (first | (go_at_call 18; refine HI12.out.seg.mono ?_; rintro e wq ⟨rfl, rfl⟩) | (go_at_call 16; fail))
  have hi := HI12.out.one (.cells #[.int .u8 9] 5 (0, 0))
  have hb : Below w12.heap.size w12 (w12.alloc (.cells #[.int .u8 9] 5 (0, 0))) := (Below.refl _ _).alloc (Nat.le_refl _) _
  show Calls _ _ _ (w12.alloc (.cells #[.int .u8 9] 5 (0, 0))) _
  generalize w12.alloc (.cells #[.int .u8 9] 5 (0, 0)) = w13 at hi hb ⊢
  have HI13 := Lib.hid hi; have HB13 := Lib.hid (HB12.out.trans (hb.mono HB12.out.size)); clear hi hb
  have hcall := HI13.out.append HB13.out.size HG.out (HR.out.on HB13.out) (by have := HN3.out.1; omega) 3 [9#8] 1 1 (some ⟨w12.heap.size, 0, none⟩) rfl (by decide) (fun w' h _ => lies_obj (h _ List.mem_cons_self) rfl)
  rw [show ((kb 3, [9#8]) : RowW) = k9 from rfl, HE7.out] at hcall
  have HN4 : Hid (d4.count ≤ 45 ∧ True) := show _ ∧ _ from ⟨by have h1 := appendW_count d3 2 false 3 k9; rw [HE7.out] at h1; have h1 : d4.count ≤ d3.count + 3 := h1; have := HN3.out.1; omega, trivial⟩
  have HCALL := Lib.hid hcall; clear hcall
  refine HCALL.out.mono ?_
  rintro e w14 ⟨rfl, hi, hb⟩
  have HI14 : Hid (WaL w.heap.size w14 b g d4 3 false []) := show WaL _ _ _ _ _ _ _ _ from WaL.fewer hi (fun x hx => absurd hx List.not_mem_nil); have HB14 := Lib.hid (HB13.out.trans hb)
  clear hi hb HI12 HB12 HI13 HB13 HCALL
  go_wp2_with (first | (go_at_call 18; refine HI14.out.seg.mono ?_; rintro e wq ⟨rfl, rfl⟩) | (go_at_call 11; fail))
  obtain ⟨S7, s1, s2, s3⟩ := HI14.out.dk
  refine (dkCrash_any S7 g d4 [] 0 0 none w14 s1 rfl (Nat.le_refl _) (Or.inl rfl)).mono ?_
  rintro e w15 ⟨rfl, hgo⟩
  obtain ⟨hi, hb⟩ := DkGo.intoL (L := []) hgo s2 HB14.out.size (fun x hx => absurd hx List.not_mem_nil)
  have HI15 := Lib.hid hi; have HB15 := Lib.hid (HB14.out.trans hb)
  obtain ⟨segs, x1, x2, x3, x4⟩ := HEND.out HI14.out.ok
  have hcd := crash_dur d4 HI14.out.ok []
  have hlo2 := x1.opened
  have HX1 := Lib.hid x1; have HX2 := Lib.hid x2; have HX3 := Lib.hid x3; have HX4 := Lib.hid (And.intro x4 trivial)
  have HLIVE : Hid (∀ d5 : DiskM, d5.files = openF (d4.crash []).files 2 (framesB (hdW 2 :: segs 2)).length → LiveW d5 2 segs (rowsW segs 2).length (rowsW segs 2)) := show ∀ d5, _ → _ from fun d5 h5 => LiveW.opened x1 (fun s h1 h2 => hcd s (by omega)) h5
  have HLO2 := Lib.hid hlo2
  clear s1 s2 s3 hgo hi hb x1 x2 x3 x4 hcd hlo2 HI14 HB14
  go_wp2_with (go_at_call 8; fail)
  refine (HI15.out.open HB15.out.size (HR.out.on HB15.out) (calm_crash _ _) (show d4.count < _ by have := HN4.out.1; omega) segs [] HX1.out (fun s _ h2 => HI15.out.small (by have := HX4.out.1; omega) s h2)).mono ?_
  rintro e w16 ⟨b2, hv2, vs2, d5, L5, rfl, hi, hb, hfr, -, hF5, hc5, hr5, hn5⟩
  rw [HX2.out] at hfr
  obtain ⟨q6, c6, rfl, -⟩ := hfr.sl9 (n := 3) rfl
  obtain ⟨gF, cF, eF, -⟩ := hfr.cell (by decide)
  cases eF
  obtain ⟨v2, hv2'⟩ : ∃ v2, vs2[2]? = some v2 := ⟨_, List.getElem?_eq_getElem (by rw [hfr.len]; decide)⟩
  have ho2 := hfr.each 2 v2 f1 hv2' rfl
  obtain ⟨m0, m1⟩ := hfr.cellAt (n := 3) rfl 2 f1 v2 rfl hv2'
  obtain ⟨qu, cu, rfl, -, -, -⟩ := ho2.slN (n := 1) (noughts_length 1)
  replace m0 : w16.cell? ⟨gF, 4, none⟩ = some (.int .i64 2) := m0
  replace m1 : w16.cell? ⟨gF, 5, none⟩ = some (.slice qu 1 cu) := m1
  have HI16 := Lib.hid (hi.fewer (L' := []) (fun x hx => absurd hx List.not_mem_nil)); have HB16 := Lib.hid (HB15.out.trans hb)
  have hlive := HLIVE.out d5 hF5
  have hl5 : (d5.files 2).all.length = 2048 := by
    have h1 := hlive.files.seg 2 (by decide) (Nat.le_refl _)
    have h2 : ((d5.files 2).all).length = _ := congrArg List.length h1
    rw [h2]; exact HX3.out
  have hu5 : d5.used ≤ 2200 := by
    have h1 : d5.used ≤ (d4.crash []).used := by unfold DiskM.used; rw [hF5]; exact open_used_le
    have := HX4.out.1
    omega
  have HSK : Hid (SegK d5 2) := ⟨⟨segs, rowsW segs 2, ⟨⟨hlive.files, ⟨hlive.dur.ahead, Or.inl (Nat.zero_le _)⟩, hlive.rows⟩, hc5⟩⟩, hl5, by omega, hr5.trans HR4.out⟩
  have h30 : d5.read 3 = [] := by
    unfold DiskM.read
    rw [if_pos (by decide)]
    exact hlive.files.rest 3 (by decide) (by decide)
  have hrd := HI16.out.read 3
  rw [h30] at hrd
  have HRD := Lib.hid hrd
  have HN5 : Hid (d5.count ≤ 78 ∧ True) := show _ ∧ _ from ⟨by have h1 : d5.count ≤ d4.count + 33 := hn5; have := HN4.out.1; omega, trivial⟩
  clear hi hb hfr hF5 hc5 hr5 hn5 hv2' ho2 hlive hl5 hu5 h30 hrd HI15 HB15 HLIVE
  go_wp2_with (first | (go_at_call 18; refine HI16.out.seg.mono ?_; rintro e wq ⟨rfl, rfl⟩) | (go_at_call 19; fail))
  refine HRD.out.mono ?_
  rintro e w17 ⟨v, rfl, ho, hb⟩
  obtain ⟨q7, c7, rfl, -, -, -⟩ := ho.slN (n := 0) rfl
  have HI17 := Lib.hid (HI16.out.below hb); have HB17 := Lib.hid (HB16.out.trans (hb.mono HB16.out.size))
  clear ho hb HI16 HB16 HRD m0 m1
  go_wp2_with fail
  go_loopg [14] 30 (fun gk s14 wx => ∃ (E : Nat) (d : DiskM), E + gk = 32 ∧ s14 = .int .i64 ((E : Int) + 1) ∧ 2 ≤ E ∧ SegK d E ∧ WaL w.heap.size wx b2 g d E false [] ∧ Below w.heap.size w wx ∧ Hid (d.count ≤ 78 + 3 * E ∧ True))
  case atStart => exact ⟨2, d5, by omega, rfl, Nat.le_refl _, HSK.out, HI17.out, HB17.out, (show _ ∧ _ from ⟨by have := HN5.out.1; omega, trivial⟩)⟩
  case round =>
    clear HI17 HB17 HSK
    obtain ⟨E, d, hE, rfl, hE2, hS, hI, hB, HCN⟩ := hrel
    have HS := Lib.hid hS; have HI := Lib.hid hI; have HB := Lib.hid hB
    clear hS hI hB
    cases gk with
    | succ g1 =>
      have qE : (E : Int) + 1 ≤ 32 := by omega
      obtain ⟨d', ea, hS'⟩ := HS.out.next (by omega)
      have HEA := Lib.hid ea; have HS2 := Lib.hid hS'
      clear ea hS'
      go_wp2_with (first | (at_make; refine wpList_makeW 2022 (by rfl) rfl rfl rfl (by decide) ?_; intro w18 h18 b18; have HI18 := Lib.hid (HI.out.made h18 b18); have HB18 := Lib.hid (HB.out.trans (b18.mono HB.out.size)); clear h18 b18) | (go_at_call 16; fail))
      have hcall := HI18.out.append HB18.out.size HG.out (HR.out.on HB18.out) (by have := HCN.out.1; omega) 7 (noughts 2022) 2022 2022 (some ⟨wr.heap.size, 0, none⟩) (noughts_length _) (by decide) (fun w' h _ => lies_obj (h _ List.mem_cons_self) rfl)
      rw [HEA.out] at hcall
      have HN6 : Hid (d'.count ≤ 78 + 3 * (E + 1) ∧ True) := show _ ∧ _ from ⟨by have h1 := appendW_count d E false 7 (kb 7, noughts 2022); rw [HEA.out] at h1; have h1 : d'.count ≤ d.count + 3 := h1; have := HCN.out.1; omega, trivial⟩
      have HCALL := Lib.hid hcall; clear hcall
      refine HCALL.out.mono ?_
      rintro e w19 ⟨rfl, hi, hb⟩
      have HI19 : Hid (WaL w.heap.size w19 b2 g d' (E + 1) false []) := show WaL _ _ _ _ _ _ _ _ from WaL.fewer hi (fun x hx => absurd hx List.not_mem_nil); have HB19 := Lib.hid (HB18.out.trans hb)
      have hsg := HI19.out.seg
      rw [show ((E + 1 : Nat) : Int) = (E : Int) + 1 by omega] at hsg
      have HSG := Lib.hid hsg
      clear hi hb HCALL hsg
      go_wp2_with (first | (go_at_call 18; refine HSG.out.mono ?_; rintro e wq ⟨rfl, rfl⟩))
      go_roundg g1
      case measure => omega
      case rel => exact ⟨E + 1, d', by omega, by first | rfl | simp, by omega, HS2.out, HI19.out, HB19.out, HN6⟩
    | zero =>
      have hE32 : E = 32 := by omega
      subst hE32
      have hcall := HI.out.append HB.out.size HG.out (HR.out.on HB.out) (by have := HCN.out.1; omega) 7 [] 0 0 none rfl (by decide) (fun _ _ _ => Or.inl rfl)
      rw [HS.out.full] at hcall
      have HCALL := Lib.hid hcall; clear hcall
      go_wp2_with (go_at_call 16; fail)
      refine HCALL.out.mono ?_
      rintro e w18 ⟨rfl, hi, hb⟩
      have HI18 : Hid (WaL w.heap.size w18 b2 g d 32 false []) := hi; have HB18 := Lib.hid (HB.out.trans hb)
      clear hi hb HCALL HI HB
      go_wp2_with (first | (go_at_call 18; refine HI18.out.seg.mono ?_; rintro e wq ⟨rfl, rfl⟩) | (go_at_call 21; fail))
      refine (HI18.out.arm HB18.out.size 0 (by decide)).mono ?_
      rintro e w19 ⟨rfl, hi, hb⟩
      have HI19 := Lib.hid hi; have HB19 := Lib.hid (HB18.out.trans hb)
      obtain ⟨t1, t2⟩ := HS.out.struck
      have HT1 := Lib.hid t1; have HT2 := Lib.hid t2
      have hcall := HI19.out.sync HB19.out.size (show d.count < _ by have := HCN.out.1; omega)
      rw [HT1.out] at hcall
      have HCALL := Lib.hid hcall
      clear hi hb t1 t2 hcall HI18 HB18
      go_wp2_with (go_at_call 22; fail)
      refine HCALL.out.mono ?_
      rintro e w20 ⟨rfl, hi, hb⟩
      have hi : WaL w.heap.size w20 b2 g (d.arm 0).tick 32 true [] := hi
      have HI20 := Lib.hid hi; have HB20 := Lib.hid (HB19.out.trans hb)
      have hcall := hi.append HB20.out.size HG.out (HR.out.on HB20.out) (show d.count < _ by have := HCN.out.1; omega) 0 [] 0 0 none rfl (by decide) (fun _ _ _ => Or.inl rfl)
      have had : appendW (d.arm 0).tick 32 true 0 (kb 0, []) = ⟨(d.arm 0).tick, 32, true, 9⟩ := if_pos (Or.inl rfl)
      rw [had] at hcall
      have HCALL2 := Lib.hid hcall
      clear hi hb hcall had HCALL HI19 HB19
      go_wp2_with (go_at_call 16; fail)
      refine HCALL2.out.mono ?_
      rintro e w21 ⟨rfl, hi, hb⟩
      have hi : WaL w.heap.size w21 b2 g (d.arm 0).tick 32 true [] := hi
      have HB21 := Lib.hid (HB20.out.trans hb)
      have HOD := Lib.hid (hi.dk.openDown HT2.out)
      clear hi hb HCALL2 HI20 HB20
      go_wp2_with (first | (go_at_call 8; refine HOD.out.mono ?_; rintro e w22 ⟨rfl, rfl⟩) | (go_at_call 7; fail))
      refine (dkNewL 50 w22).mono ?_
      rintro e w23 ⟨g3, rfl, hi, hb⟩
      have HI23 := Lib.hid hi; have HL23 := Lib.hid hb; have HB23 := Lib.hid (HB21.out.trans (hb.mono HB21.out.size))
      have HG2 : Hid (0 < w22.heap.size) := show _ < _ by have := HB21.out.size; have := HG.out; omega
      clear hi hb HOD
      go_wp2_with (go_at_call 8; fail)
      refine (HI23.out.open HL23.out.size (HR.out.on HB23.out) (calm_new _) (by rw [new_count]; decide) (fun _ => []) [] (new_log 50) (fun s _ _ => new_small _ s)).mono ?_
      rintro e w24 ⟨b4, hv4, vs4, d9, L9, rfl, hi, hb, hfr, -, hF, hcalm, hroom, hcnt⟩
      obtain ⟨q8, c8, rfl, -⟩ := hfr.sl9 (n := 0) rfl
      have HI24 := Lib.hid (hi.fewer (L' := []) (fun x hx => absurd hx List.not_mem_nil)); have HL24 := Lib.hid (HL23.out.trans hb); have HB24 := Lib.hid (HB23.out.trans (hb.mono HB21.out.size))
      obtain ⟨u1, u2, d10, u3, u4⟩ := little_pure hF hcalm hroom
      have HU1 := Lib.hid u1; have HU2 := Lib.hid u2; have HU3 := Lib.hid u3; have HU4 := Lib.hid u4
      have HN9 : Hid (d9.count ≤ 33 ∧ True) := show _ ∧ _ from ⟨by rw [new_count] at hcnt; omega, trivial⟩
      clear hi hb hfr hF hcalm hroom hcnt u1 u2 u3 u4 HI23 HB23
      go_wp2_with (first | (at_make; refine wpList_makeW 25 (by rfl) rfl rfl rfl (by decide) ?_; intro w25 h25 b25; have HI25 := Lib.hid (HI24.out.made h25 b25); have HL25 := Lib.hid (HL24.out.trans (b25.mono HL24.out.size)); have HB25 := Lib.hid (HB24.out.trans (b25.mono HB24.out.size)); clear h25 b25) | (go_at_call 16; fail))
      have hcall := HI25.out.append HL25.out.size HG2.out (HR.out.on HB25.out) (by have := HN9.out.1; omega) 1 (noughts 25) 25 25 (some ⟨w24.heap.size, 0, none⟩) (noughts_length _) (by decide) (fun w' h _ => lies_obj (h _ List.mem_cons_self) rfl)
      rw [HU2.out] at hcall
      have HCALL := Lib.hid hcall; clear hcall
      refine HCALL.out.mono ?_
      rintro e w26 ⟨rfl, hi, hb⟩
      have HI26 : Hid (WaL w22.heap.size w26 b4 g3 d9 0 false []) := show WaL _ _ _ _ _ _ _ _ from WaL.fewer hi (fun x hx => absurd hx List.not_mem_nil); have HL26 := Lib.hid (HL25.out.trans hb); have HB26 := Lib.hid (HB25.out.trans (hb.mono HB21.out.size))
      have hus := HI26.out.used
      rw [HU1.out] at hus
      have HUS := Lib.hid hus
      clear hi hb hus HCALL HI24 HB24 HL24 HI25 HB25 HL25
      go_wp2_with (first | (go_at_call 14; refine HUS.out.mono ?_; rintro e wq ⟨rfl, rfl⟩) | (at_make; refine wpList_makeW 24 (by rfl) rfl rfl rfl (by decide) ?_; intro w27 h27 b27; have HI27 := Lib.hid (HI26.out.made h27 b27); have HL27 := Lib.hid (HL26.out.trans (b27.mono HL26.out.size)); have HB27 := Lib.hid (HB26.out.trans (b27.mono HB26.out.size)); clear h27 b27) | (go_at_call 16; fail))
      have hcall := HI27.out.append HL27.out.size HG2.out (HR.out.on HB27.out) (by have := HN9.out.1; omega) 1 (noughts 24) 24 24 (some ⟨w26.heap.size, 0, none⟩) (noughts_length _) (by decide) (fun w' h _ => lies_obj (h _ List.mem_cons_self) rfl)
      rw [HU3.out] at hcall
      have HCALL := Lib.hid hcall; clear hcall
      refine HCALL.out.mono ?_
      rintro e w28 ⟨rfl, hi, hb⟩
      have hi : WaL w22.heap.size w28 b4 g3 d10 1 false _ := hi
      have HB28 := Lib.hid (HB27.out.trans (hb.mono HB21.out.size))
      have hus := hi.used
      rw [HU4.out] at hus
      have HUS2 := Lib.hid hus
      clear hi hb hus HCALL HI26 HB26 HL26 HI27 HB27 HL27 HUS
      go_wp2_with (first | (go_at_call 14; refine HUS2.out.mono ?_; rintro e wq ⟨rfl, rfl⟩) | (go_at_call 9; fail))
      refine (known10_any w28 (HR.out.on HB28.out)).mono ?_
      rintro e w29 ⟨rfl, hb⟩
      have HB29 := Lib.hid (HB28.out.trans (hb.mono HB28.out.size))
      clear hb
      go_wp2_with fail
      go_ret
      exact ⟨rfl, HB29.out⟩
end Go.Proofs.YteanjfcejpibaaaDoor

/-
  WalKnown: the law returns true; the package's table starts as the program's own text lays it (the tie is given).
-/
namespace Go.Proofs.YteanjfcejpibaaaDoor
open Go.ChangeShapes Go.WideShapes Go.ChangeAt Go.RowKit Go.Proofs.ShaWords

set_option maxRecDepth 100000 in
theorem walKnown_lifted (os : Os) (started : os.Started) (H : Type) (enc : TypeId × Value → H) :
    ReturnsInHanded {} Tryd.checked os 6 .any (fun w args => (Rows.walKnownSpec.pre enc Tryd.prog Tryd.f6 [] false w args ∧ laidMetH Tryd.prog laid10 w) ∧ sizedMet enc Tryd.prog Tryd.f6 (OpenSpec.ofChange Rows.walKnownSpec) false w args)
      (Rows.walKnownSpec.post enc Tryd.prog Tryd.f6 false true false false) := by
  refine returnsInHanded_of_change_and (C := Tryd.checked) (X := fun w _ => laidMetH Tryd.prog laid10 w) (fun _ _ _ hh h => h.of_heap hh) own started (by kernel_rfl) Tryd.func6
    (ChangeSpec.witness_shaped (enc := enc) (C := Tryd.checked) (os := os) (X := fun w _ => laidMetH Tryd.prog laid10 w) false (World.doorLaid Tryd.prog 400 os) #[] 8 rfl (World.shaped_of_RefB (by kernel_rfl) (by kernel_rfl)) (by kernel_rfl) (by kernel_rfl) (by kernel_rfl) (door_met10 os _)) ?_
  intro W base args ds gs before hval0 hW _ hsz hL _
  have hW' := hW
  obtain ⟨p, q, hA0, hV, rfl, hfz, hnd⟩ := hW
  have hA : DataW.TrodAll enc Tryd.prog W 0 (fun _ => true) true Tryd.f6.params.toList args.toList ds p := hA0
  have hval : ∀ (j : Nat) t v, Tryd.f6.params[j]? = some t → args[j]? = some v → Value.okWide Tryd.prog W .any base t v := hval0
  have hsz2 : (DataW.weightsEach Tryd.prog (Tryd.f6.params.toList ++ Rows.walKnownSpec.plain.varTypes Tryd.prog) (ds ++ gs)).all (· ≤ reachBytes) = true := hsz
  rw [Tryd.params6] at hA hval hsz2
  obtain ⟨hargs, rfl, rfl⟩ := trodAll_nil hA
  obtain rfl : args = #[] := by cases args; simp_all
  obtain ⟨rfl, rfl⟩ := trodVars_none hV
  have hQ := of_laid10 hL
  clear hA0 hval0
  refine (walKnown_any W hQ).mono fun e W' ⟨he, bel⟩ => ?_
  subst he
  exact ⟨_, rfl, _, _, _, [], _, [], hW', trodAll_mk1 (shut_bool Tryd.underlying4 _), trodAll_mk0, rfl, bel.frame _, fun h => by cases h⟩

theorem walKnown_holds : Rows.WalKnownSaid :=
  OpenClaim.holds_of_wide 6 Tryd.f6 rfl rfl rfl rfl rfl rfl rfl ⟨rfl, rfl, rfl, rfl, rfl⟩ rfl rfl rfl rfl rfl (by kernel_rfl) Tryd.func6 (by kernel_rfl)
    (of_decide_eq_true (by kernel_rfl)) (by unfold Func.isWrapper; first | (rw [if_pos (by decide +kernel)]; kernel_rfl) | (rw [if_neg (by decide +kernel)]; exact ⟨rfl, rfl⟩))
    (fun os started H enc _ => walKnown_lifted os started H enc)

theorem walKnown_card : Rows.WalKnownCardSaid :=
  Claim7.holds_tied_plain_at .later [] [.data] true Rows.walKnownCard.stood.harness false
    walKnown_holds (fun _ h => by cases h) (by kernel_rfl) (fun _ h => by cases h) walKnown_row_tie rfl ⟨rfl, rfl⟩ (by kernel_rfl) rfl
    (fun f fn hf hfn => by
      obtain rfl : f = 6 := Option.some.inj (hf.symm.trans (show _ = some 6 by kernel_rfl))
      obtain rfl : fn = Tryd.f6 := (Option.some.inj (Tryd.func6.symm.trans hfn)).symm
      exact ⟨by kernel_rfl, fun j t ht => by
        rw [Tryd.params6] at ht
        simp at ht⟩)
    (by kernel_rfl)
#print axioms walKnown_card
end Go.Proofs.YteanjfcejpibaaaDoor
