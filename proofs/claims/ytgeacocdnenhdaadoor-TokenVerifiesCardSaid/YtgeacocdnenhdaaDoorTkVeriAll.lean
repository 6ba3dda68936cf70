/-
  TokenVerifies, for any root key, any token and either way: the law returns true, and what came in reads afterwards as it read before; the package's two tables start as the program's own text lays them (the tie is given).
-/
import Derived.Test.YtgeacocdnenhdaaDoorPkJ
import Derived.Test.YtgeacocdnenhdaaDoorPkTa
import Derived.Test.YtgeacocdnenhdaaDoorPkTg
import Derived.Test.YtgeacocdnenhdaaDoorTie
import Derived.Test.YtgeacocdnenhdaaDoorCards
import Derived.SevenTiedAt
/-
  TokenVerifies' walk (gen_tkveri.py).
-/
namespace Go.Proofs.YtgeacocdnenhdaaDoor
open Go.RowKit Go.Proofs.ShaWords
set_option maxRecDepth 100000 in
set_option maxHeartbeats 16000000 in
theorem tokVerifies_any (root : List (BitVec 8)) (t : TokM) (well : Bool) (n c : Nat) (p : Option Addr) (w : World) (hrl : root.length = 32) (hml : t.mac.length = 32) (hn : t.gs.length = n) (hgo : ∀ x ∈ t.gs, x.Ok) (hid : wrap64 t.id = t.id) (hps : t.ten.size ≤ 140737488351232) (hL : GrantsAt w p t.gs) (hk : Consts w) (hs : Starts w) :
    Calls Tryd.prog 5 #[.agg (bytesV root).toArray, .agg (t.cells (.slice p n c)).toArray, .bool well] w fun e w' => e = .returned (.bool true) ∧ Below w.heap.size w w' := by
  have hcs : w.heap.size > 2 ∧ w.heap.size > 1 := ⟨hk.size, by have := World.block_lt_of_cell? w _ (hs 0 _ rfl); exact this⟩
  have HCS := Lib.hid hcs
  have HL := Lib.hid hL
  have HN := Lib.hid hn
  have HRL := Lib.hid hrl
  have HML := Lib.hid hml
  have HGO := Lib.hid hgo
  have HID := Lib.hid hid
  have HPS := Lib.hid hps
  have HB0 : Hid (VeB root t (.slice p n c) w ((w.alloc (.cells (bytesV root).toArray 23)).alloc (.cells (t.cells (.slice p n c)).toArray 50))) := by
    have b1 := allocBelow w (.cells (bytesV root).toArray 23)
    have b2 := allocBelow (w.alloc (.cells (bytesV root).toArray 23)) (.cells (t.cells (.slice p n c)).toArray 50)
    have r1 : BytesAt (w.alloc (.cells (bytesV root).toArray 23)) w.heap.size 23 root := heap_new_at rfl
    have bb := b1.trans (b2.mono (by rw [size_alloc]; omega))
    exact ⟨r1.keep b2, heap_new_at (size_alloc _ _), bb, hk.below bb hk.size, range_keep hs bb⟩
  clear hL hn hk hs hrl hcs hgo hid hps hml
  obtain ⟨TC, hTC⟩ : ∃ TC, TC = (t.cells (.slice p n c)).toArray := ⟨_, rfl⟩
  obtain ⟨RC, hRC⟩ : ∃ RC, RC = (bytesV root).toArray := ⟨_, rfl⟩
  rw [← hTC, ← hRC] at HB0
  rw [← hTC, ← hRC]
  have HTC := Lib.hid hTC
  have HRC := Lib.hid hRC
  clear hTC hRC
  go_enter Tryd.func5, Tryd.ntmps5
  go_upto_region 1 with (fail)
  refine wp_gen (fun A => VeB root t (.slice p n c) w A) HB0.out ?_
  rintro A hA
  have HA := Lib.hid hA
  have c2 := hA.tok.c2
  have c0 := hA.tok.c0
  clear hA HB0
  have HLO : Hid (Calls Tryd.prog 22 #[.slice p n c] A (ReturnsB (longB t.gs) A)) := show Calls _ _ _ _ _ from long14_any t.gs n c p A HN.out (HL.out.below HA.out.below)
  have HKN : Hid (Calls Tryd.prog 23 #[] A (ReturnsG true A)) := show Calls _ _ _ _ _ from known14_any A HA.out.consts HA.out.starts
  cases hlo : longB t.gs
  · by_cases hte : (t.ten.size : Int) > 1024
    · go_wp2_with (first
        | (go_at_call 22; refine HLO.out.mono ?_; rintro e w1 ⟨rfl, rfl⟩; rw [hlo])
        | (go_at_call 23; refine HKN.out.mono ?_; rintro e w1 ⟨rfl, hb⟩; have HB := Lib.hid (HA.out.below.trans (hb.mono HA.out.below.size)); clear hb))
      go_ret
      exact ⟨rfl, HB.out⟩
    · go_upto_region 3 with (go_at_call 22; refine HLO.out.mono ?_; rintro e w1 ⟨rfl, rfl⟩; rw [hlo])
      have hlq := longB_no hlo
      have HTS : Hid (t.ten.size ≤ 2000) := show _ ≤ _ by omega
      have HPZ : Hid (∀ x ∈ t.gs, x.pre.size ≤ 2000) := show ∀ _, _ → _ from fun x hx => by have := hlq.2 x hx; omega
      have hn20 : n ≤ 20 := by rw [← HN.out]; exact hlq.1
      have HTO : Hid (∀ m : List (BitVec 8), m.length = 32 → TokM.Ok ⟨t.ten, t.id, t.gs, m⟩) := show ∀ _, _ → _ from fun m hm => ⟨hm, by have := HTS.out; show t.ten.size ≤ _; omega, fun x hx => ⟨by have := HPZ.out x hx; omega, HGO.out x hx⟩, by show t.gs.length ≤ _; have := HN.out; omega, HID.out⟩
      clear hlq HLO HKN
      cases well
      · obtain ⟨T, hT⟩ : ∃ T : TokM, T = t := ⟨_, rfl⟩
        have HV : Hid (VeB root T (.slice p n c) w A) := show VeB _ _ _ _ _ by rw [hT]; exact HA.out
        have HTK : Hid (T.Ok) := show TokM.Ok _ by rw [hT]; exact HTO.out t.mac HML.out
        have hgs : T.gs = t.gs := by rw [hT]
        have hten : T.ten = t.ten := by rw [hT]
        obtain ⟨A4, hA4⟩ : ∃ A4, A4 = A := ⟨_, rfl⟩
        rw [← hA4] at HV
        rw [← hA4]
        clear hA4 hT
        rw [← hgs] at HN HL HPZ
        rw [← hten] at HTS
        have HML2 := Lib.hid HTK.out.mac
        go_upto_region 5 with (fail)
        refine wp_region_lit ?_
        refine wpList_run (by rfl) (run_loadBlk (C := (T.cells (.slice p n c)).toArray) rfl rfl HV.out.tok tok_under (size_tok HML2.out _)) ?_
        refine wpList_enterT (by rfl) (run_callf1 (v := .agg (T.cells (.slice p n c)).toArray) rfl rfl rfl Tryd.func38 (by kernel_rfl) _) (copyToken_any T n c p A4 HML2.out HN.out (by omega) (HL.out.below HV.out.below)) ?_
        rintro e w6 ⟨qX, dX, rfl, ho6, hb6⟩
        refine ⟨_, rfl, ?_⟩
        obtain ⟨l6, g6⟩ := own_in ho6
        refine wpList_runW8 (by rfl) (run_allocTok rfl _) ?_
        refine wpList_skip (by rfl) (run_storeRowT (g := w6.heap.size) (cells := (T.cells (.slice qX n dX)).toArray) rfl rfl rfl (heap_new_at rfl) (size_tok HML2.out _) (zero_size HML2.out _) (tok_ones _ _ _ _)) ?_
        refine wpList_nil ?_
        obtain ⟨x7, y7⟩ := new_tok (t := T) (c := dX) HML2.out l6 g6
        have hb7 := hb6.trans (y7.mono hb6.size)
        have hVV := HV.out.step hb7
        generalize (w6.alloc (.cells (zeroTok.cells (.slice none 0 0)).toArray 50)).setRow w6.heap.size (T.cells (.slice qX n dX)).toArray = A7 at x7 hVV ⊢
        obtain ⟨B7, hB7⟩ : ∃ B, B = w6.heap.size := ⟨_, rfl⟩
        rw [← hB7] at x7
        rw [← hB7]
        have H7 : Hid (VeB root T (.slice p n c) w A7 ∧ TkIn A7 B7 T qX n dX) := show _ ∧ _ from ⟨hVV, x7⟩
        clear x7 y7 hb7 hVV hb6 ho6 l6 g6 hB7 HV
        go_frame
        go_upto_region 6 with (fail)
        refine region_grow (fun W => VeB root T (.slice p n c) w W ∧ TkIn W B7 T qX n dX) (fun i vz wz => match i with | 0 => vz = .agg (bytesV root).toArray | 1 => vz = .agg (T.cells (.slice qX n dX)).toArray | 2 => vz = .int .i64 (verE root T) | 3 => vz = .agg (bytesV root).toArray | 4 => vz = .agg (T.cells (.slice p n c)).toArray | 5 => vz = .int .i64 (verE root T) | 6 => vz = .bool true | 7 => vz = .bool true | 8 => vz = .agg (T.cells (.slice qX n dX)).toArray | 9 => vz = .agg (lastG T.gs).cells.toArray | 10 => vz = .agg (T.cells (.slice p n c)).toArray | 11 => vz = .agg (lastG T.gs).cells.toArray | 12 => vz = .bool true | 13 => vz = .bool true | 14 => vz = .bool true | 15 => vz = .agg (T.cells (.slice qX n dX)).toArray | 16 => vz = .agg (T.cells (.slice p n c)).toArray | 17 => vz = .bool true | 18 => vz = .bool true | 19 => vz = .bool true | 20 => vz = .bool true | 21 => vz = .bool true | _ => True) (by kernel_rfl) (by kernel_rfl) (by kernel_rfl) (by kernel_rfl) (by decide) (⟨H7.out.1.step (Below.refl _ _).drew, H7.out.2.keep (Below.refl _ _).drew⟩) ?_ ?_
        · skip
          intro i vz wz w2 hb hf
          match i, hf with
          | 0, hf => exact hf
          | 1, hf => exact hf
          | 2, hf => exact hf
          | 3, hf => exact hf
          | 4, hf => exact hf
          | 5, hf => exact hf
          | 6, hf => exact hf
          | 7, hf => exact hf
          | 8, hf => exact hf
          | 9, hf => exact hf
          | 10, hf => exact hf
          | 11, hf => exact hf
          | 12, hf => exact hf
          | 13, hf => exact hf
          | 14, hf => exact hf
          | 15, hf => exact hf
          | 16, hf => exact hf
          | 17, hf => exact hf
          | 18, hf => exact hf
          | 19, hf => exact hf
          | 20, hf => exact hf
          | 21, hf => exact hf
          | _ + 22, _ => trivial
        intro ops hops
        have hf3 : ∀ (i : Nat) (o : Oper), ops[i]? = some o → o.dst ≠ some 3 := by rw [hops]; exact fun i o h => slot_free (by kernel_rfl) i o h
        have hf4 : ∀ (i : Nat) (o : Oper), ops[i]? = some o → o.dst ≠ some 4 := by rw [hops]; exact fun i o h => slot_free (by kernel_rfl) i o h
        have hf7 : ∀ (i : Nat) (o : Oper), ops[i]? = some o → o.dst ≠ some 7 := by rw [hops]; exact fun i o h => slot_free (by kernel_rfl) i o h
        have hns : ops.size = 23 := by rw [hops]; rfl
        obtain ⟨o0, po0, q0, d0, gd0⟩ : ∃ o, ops[0]? = some o ∧ o.op = .load 23 (.tmp 3) ∧ o.dst = some 25 ∧ o.guard = none := ⟨_, by rw [hops]; rfl, rfl, rfl, rfl⟩
        obtain ⟨o1, po1, q1, d1, gd1⟩ : ∃ o, ops[1]? = some o ∧ o.op = .load 50 (.tmp 7) ∧ o.dst = some 26 ∧ o.guard = none := ⟨_, by rw [hops]; rfl, rfl, rfl, rfl⟩
        obtain ⟨o2, po2, q2, d2, gd2, dp2_0, dp2_1⟩ : ∃ o, ops[2]? = some o ∧ o.op = .call { callee := .value (.func 33), args := #[.tmp 25, .tmp 26], argTypes := #[23, 50] } ∧ o.dst = some 27 ∧ o.guard = none ∧ (o.after.any fun e => Region.binds .any e && decide (e.on = 0)) = true ∧ (o.after.any fun e => Region.binds .any e && decide (e.on = 1)) = true := ⟨_, by rw [hops]; rfl, rfl, rfl, rfl, by kernel_rfl, by kernel_rfl⟩
        obtain ⟨o3, po3, q3, d3, gd3⟩ : ∃ o, ops[3]? = some o ∧ o.op = .load 23 (.tmp 3) ∧ o.dst = some 28 ∧ o.guard = none := ⟨_, by rw [hops]; rfl, rfl, rfl, rfl⟩
        obtain ⟨o4, po4, q4, d4, gd4⟩ : ∃ o, ops[4]? = some o ∧ o.op = .load 50 (.tmp 4) ∧ o.dst = some 29 ∧ o.guard = none := ⟨_, by rw [hops]; rfl, rfl, rfl, rfl⟩
        obtain ⟨o5, po5, q5, d5, gd5, dp5_3, dp5_4⟩ : ∃ o, ops[5]? = some o ∧ o.op = .call { callee := .value (.func 34), args := #[.tmp 28, .tmp 29], argTypes := #[23, 50] } ∧ o.dst = some 30 ∧ o.guard = none ∧ (o.after.any fun e => Region.binds .any e && decide (e.on = 3)) = true ∧ (o.after.any fun e => Region.binds .any e && decide (e.on = 4)) = true := ⟨_, by rw [hops]; rfl, rfl, rfl, rfl, by kernel_rfl, by kernel_rfl⟩
        obtain ⟨o6, po6, q6, d6, gd6, dp6_2, dp6_5⟩ : ∃ o, ops[6]? = some o ∧ o.op = .binOp .eql 34 (.tmp 27) (.tmp 30) 34 ∧ o.dst = some 31 ∧ o.guard = none ∧ (o.after.any fun e => Region.binds .any e && decide (e.on = 2)) = true ∧ (o.after.any fun e => Region.binds .any e && decide (e.on = 5)) = true := ⟨_, by rw [hops]; rfl, rfl, rfl, rfl, by kernel_rfl, by kernel_rfl⟩
        obtain ⟨o7, po7, q7, d7, gd7, dp7_6⟩ : ∃ o, ops[7]? = some o ∧ o.op = .move (.tmp 31) ∧ o.dst = some 32 ∧ o.guard = none ∧ (o.after.any fun e => Region.binds .any e && decide (e.on = 6)) = true := ⟨_, by rw [hops]; rfl, rfl, rfl, rfl, by kernel_rfl⟩
        obtain ⟨o8, po8, q8, d8, gd8, dp8_7⟩ : ∃ o, ops[8]? = some o ∧ o.op = .load 50 (.tmp 7) ∧ o.dst = some 33 ∧ o.guard = some (7, true) ∧ (o.after.any fun e => Region.binds .any e && decide (e.on = 7)) = true := ⟨_, by rw [hops]; rfl, rfl, rfl, rfl, by kernel_rfl⟩
        obtain ⟨o9, po9, q9, d9, gd9, dp9_8, dp9_7⟩ : ∃ o, ops[9]? = some o ∧ o.op = .call { callee := .value (.func 35), args := #[.tmp 33], argTypes := #[50] } ∧ o.dst = some 34 ∧ o.guard = some (7, true) ∧ (o.after.any fun e => Region.binds .any e && decide (e.on = 8)) = true ∧ (o.after.any fun e => Region.binds .any e && decide (e.on = 7)) = true := ⟨_, by rw [hops]; rfl, rfl, rfl, rfl, by kernel_rfl, by kernel_rfl⟩
        obtain ⟨o10, po10, q10, d10, gd10, dp10_7⟩ : ∃ o, ops[10]? = some o ∧ o.op = .load 50 (.tmp 4) ∧ o.dst = some 35 ∧ o.guard = some (7, true) ∧ (o.after.any fun e => Region.binds .any e && decide (e.on = 7)) = true := ⟨_, by rw [hops]; rfl, rfl, rfl, rfl, by kernel_rfl⟩
        obtain ⟨o11, po11, q11, d11, gd11, dp11_10, dp11_7⟩ : ∃ o, ops[11]? = some o ∧ o.op = .call { callee := .value (.func 36), args := #[.tmp 35], argTypes := #[50] } ∧ o.dst = some 36 ∧ o.guard = some (7, true) ∧ (o.after.any fun e => Region.binds .any e && decide (e.on = 10)) = true ∧ (o.after.any fun e => Region.binds .any e && decide (e.on = 7)) = true := ⟨_, by rw [hops]; rfl, rfl, rfl, rfl, by kernel_rfl, by kernel_rfl⟩
        obtain ⟨o12, po12, q12, d12, gd12, dp12_9, dp12_11, dp12_7⟩ : ∃ o, ops[12]? = some o ∧ o.op = .binOp .eql 54 (.tmp 34) (.tmp 36) 54 ∧ o.dst = some 37 ∧ o.guard = some (7, true) ∧ (o.after.any fun e => Region.binds .any e && decide (e.on = 9)) = true ∧ (o.after.any fun e => Region.binds .any e && decide (e.on = 11)) = true ∧ (o.after.any fun e => Region.binds .any e && decide (e.on = 7)) = true := ⟨_, by rw [hops]; rfl, rfl, rfl, rfl, by kernel_rfl, by kernel_rfl, by kernel_rfl⟩
        obtain ⟨o13, po13, q13, d13, gd13, dp13_7, dp13_12⟩ : ∃ o, ops[13]? = some o ∧ o.op = .pick (.tmp 32) (.tmp 37) (.const (.bool false)) ∧ o.dst = some 38 ∧ o.guard = none ∧ (o.after.any fun e => Region.binds .any e && decide (e.on = 7)) = true ∧ (o.after.any fun e => Region.binds .any e && decide (e.on = 12)) = true := ⟨_, by rw [hops]; rfl, rfl, rfl, rfl, by kernel_rfl, by kernel_rfl⟩
        obtain ⟨o14, po14, q14, d14, gd14, dp14_13⟩ : ∃ o, ops[14]? = some o ∧ o.op = .move (.tmp 38) ∧ o.dst = some 39 ∧ o.guard = none ∧ (o.after.any fun e => Region.binds .any e && decide (e.on = 13)) = true := ⟨_, by rw [hops]; rfl, rfl, rfl, rfl, by kernel_rfl⟩
        obtain ⟨o15, po15, q15, d15, gd15, dp15_14⟩ : ∃ o, ops[15]? = some o ∧ o.op = .load 50 (.tmp 7) ∧ o.dst = some 40 ∧ o.guard = some (14, true) ∧ (o.after.any fun e => Region.binds .any e && decide (e.on = 14)) = true := ⟨_, by rw [hops]; rfl, rfl, rfl, rfl, by kernel_rfl⟩
        obtain ⟨o16, po16, q16, d16, gd16, dp16_14⟩ : ∃ o, ops[16]? = some o ∧ o.op = .load 50 (.tmp 4) ∧ o.dst = some 41 ∧ o.guard = some (14, true) ∧ (o.after.any fun e => Region.binds .any e && decide (e.on = 14)) = true := ⟨_, by rw [hops]; rfl, rfl, rfl, rfl, by kernel_rfl⟩
        obtain ⟨o17, po17, q17, d17, gd17, dp17_15, dp17_16, dp17_14⟩ : ∃ o, ops[17]? = some o ∧ o.op = .call { callee := .value (.func 27), args := #[.tmp 40, .tmp 41], argTypes := #[50, 50] } ∧ o.dst = some 42 ∧ o.guard = some (14, true) ∧ (o.after.any fun e => Region.binds .any e && decide (e.on = 15)) = true ∧ (o.after.any fun e => Region.binds .any e && decide (e.on = 16)) = true ∧ (o.after.any fun e => Region.binds .any e && decide (e.on = 14)) = true := ⟨_, by rw [hops]; rfl, rfl, rfl, rfl, by kernel_rfl, by kernel_rfl, by kernel_rfl⟩
        obtain ⟨o18, po18, q18, d18, gd18, dp18_14, dp18_17⟩ : ∃ o, ops[18]? = some o ∧ o.op = .pick (.tmp 39) (.tmp 42) (.const (.bool false)) ∧ o.dst = some 43 ∧ o.guard = none ∧ (o.after.any fun e => Region.binds .any e && decide (e.on = 14)) = true ∧ (o.after.any fun e => Region.binds .any e && decide (e.on = 17)) = true := ⟨_, by rw [hops]; rfl, rfl, rfl, rfl, by kernel_rfl, by kernel_rfl⟩
        obtain ⟨o19, po19, q19, d19, gd19, dp19_18⟩ : ∃ o, ops[19]? = some o ∧ o.op = .move (.tmp 43) ∧ o.dst = some 44 ∧ o.guard = none ∧ (o.after.any fun e => Region.binds .any e && decide (e.on = 18)) = true := ⟨_, by rw [hops]; rfl, rfl, rfl, rfl, by kernel_rfl⟩
        obtain ⟨o20, po20, q20, d20, gd20, dp20_19⟩ : ∃ o, ops[20]? = some o ∧ o.op = .call { callee := .value (.func 23), args := #[], argTypes := #[] } ∧ o.dst = some 45 ∧ o.guard = some (19, true) ∧ (o.after.any fun e => Region.binds .any e && decide (e.on = 19)) = true := ⟨_, by rw [hops]; rfl, rfl, rfl, rfl, by kernel_rfl⟩
        obtain ⟨o21, po21, q21, d21, gd21, dp21_19, dp21_20⟩ : ∃ o, ops[21]? = some o ∧ o.op = .pick (.tmp 44) (.tmp 45) (.const (.bool false)) ∧ o.dst = some 46 ∧ o.guard = none ∧ (o.after.any fun e => Region.binds .any e && decide (e.on = 19)) = true ∧ (o.after.any fun e => Region.binds .any e && decide (e.on = 20)) = true := ⟨_, by rw [hops]; rfl, rfl, rfl, rfl, by kernel_rfl, by kernel_rfl⟩
        obtain ⟨o22, po22, q22, d22, gd22⟩ : ∃ o, ops[22]? = some o ∧ o.op = .assign (.tmp 46) ∧ o.dst = some 6 ∧ o.guard = none := ⟨_, by rw [hops]; rfl, rfl, rfl, rfl⟩
        have hslots : ∀ t, t ∉ [25, 26, 27, 28, 29, 30, 31, 32, 33, 34, 35, 36, 37, 38, 39, 40, 41, 42, 43, 44, 45, 46, 6] → ∀ (i : Nat) (o : Oper), ops[i]? = some o → o.dst ≠ some t := by rw [hops]; exact fun t ht i o h => slots_free (by kernel_rfl) t ht i o h
        clear hops
        refine ⟨fun A W HS hfr hAs i o hi ho hdep => ?_, fun A W HS hdf hAs hfr hall => ?_⟩
        · skip
          have base3 : A.eval (.tmp 3) = .pointer (some ⟨w.heap.size, 0, none⟩) := (hfr 3 hf3).trans rfl
          have base4 : A.eval (.tmp 4) = .pointer (some ⟨w.heap.size + 1, 0, none⟩) := (hfr 4 hf4).trans rfl
          have base7 : A.eval (.tmp 7) = .pointer (some ⟨B7, 0, none⟩) := (hfr 7 hf7).trans rfl
          rw [hns] at hi
          obtain rfl | rfl | rfl | rfl | rfl | rfl | rfl | rfl | rfl | rfl | rfl | rfl | rfl | rfl | rfl | rfl | rfl | rfl | rfl | rfl | rfl | rfl : i = 0 ∨ i = 1 ∨ i = 2 ∨ i = 3 ∨ i = 4 ∨ i = 5 ∨ i = 6 ∨ i = 7 ∨ i = 8 ∨ i = 9 ∨ i = 10 ∨ i = 11 ∨ i = 12 ∨ i = 13 ∨ i = 14 ∨ i = 15 ∨ i = 16 ∨ i = 17 ∨ i = 18 ∨ i = 19 ∨ i = 20 ∨ i = 21 := by omega
          · skip
            obtain rfl : o = o0 := Option.some.inj (ho.symm.trans po0)
            refine at_op po0 d0 (wanted_of gd0) (run_loadKeyT q0 base3 HRL.out HS.1.root) ⟨_, by rw [d0], HS, Below.refl _ _, rfl⟩
          · skip
            obtain rfl : o = o1 := Option.some.inj (ho.symm.trans po1)
            refine at_op po1 d1 (wanted_of gd1) (run_loadBlk q1 base7 HS.2.tok tok_under (size_tok HML2.out _)) ⟨_, by rw [d1], HS, Below.refl _ _, rfl⟩
          · skip
            obtain rfl : o = o2 := Option.some.inj (ho.symm.trans po2)
            have e0 : A.eval (.tmp 25) = .agg (bytesV root).toArray := hdep 0 _ 25 dp2_0 po0 d0
            have e1 : A.eval (.tmp 26) = .agg (T.cells (.slice qX n dX)).toArray := hdep 1 _ 26 dp2_1 po1 d1
            refine at_enterT po2 d2 (wanted_of gd2) (run_callf2 q2 rfl e0 e1 Tryd.func33 (by kernel_rfl) _) (verify_tok root T n dX qX W HRL.out HN.out HTK.out HS.2.gs HS.1.consts HS.1.starts) ?_
            rintro e w1 ⟨rfl, hb⟩
            exact ⟨_, rfl, ⟨_, by rw [d2], ⟨HS.1.step hb, HS.2.keep hb⟩, hb, rfl⟩⟩
          · skip
            obtain rfl : o = o3 := Option.some.inj (ho.symm.trans po3)
            refine at_op po3 d3 (wanted_of gd3) (run_loadKeyT q3 base3 HRL.out HS.1.root) ⟨_, by rw [d3], HS, Below.refl _ _, rfl⟩
          · skip
            obtain rfl : o = o4 := Option.some.inj (ho.symm.trans po4)
            refine at_op po4 d4 (wanted_of gd4) (run_loadBlk q4 base4 HS.1.tok tok_under (size_tok HML2.out _)) ⟨_, by rw [d4], HS, Below.refl _ _, rfl⟩
          · skip
            obtain rfl : o = o5 := Option.some.inj (ho.symm.trans po5)
            have e3 : A.eval (.tmp 28) = .agg (bytesV root).toArray := hdep 3 _ 28 dp5_3 po3 d3
            have e4 : A.eval (.tmp 29) = .agg (T.cells (.slice p n c)).toArray := hdep 4 _ 29 dp5_4 po4 d4
            refine at_enterT po5 d5 (wanted_of gd5) (run_callf2 q5 rfl e3 e4 Tryd.func34 (by kernel_rfl) _) (refVerify_tok root T n c p W HRL.out HN.out HTK.out HTS.out HPZ.out (HL.out.below HS.1.below) HS.1.consts HS.1.starts) ?_
            rintro e w1 ⟨rfl, hb⟩
            exact ⟨_, rfl, ⟨_, by rw [d5], ⟨HS.1.step hb, HS.2.keep hb⟩, hb, rfl⟩⟩
          · skip
            obtain rfl : o = o6 := Option.some.inj (ho.symm.trans po6)
            have e2 : A.eval (.tmp 27) = .int .i64 (verE root T) := hdep 2 _ 27 dp6_2 po2 d2
            have e5 : A.eval (.tmp 30) = .int .i64 (verE root T) := hdep 5 _ 30 dp6_5 po5 d5
            refine at_op po6 d6 (wanted_of gd6) (run_eqlE (v := true) (by simp) q6 e2 e5 W) ⟨_, by rw [d6], HS, Below.refl _ _, rfl⟩
          · skip
            obtain rfl : o = o7 := Option.some.inj (ho.symm.trans po7)
            have e6 : A.eval (.tmp 31) = .bool true := hdep 6 _ 31 dp7_6 po6 d6
            refine at_op po7 d7 (wanted_of gd7) (run_move q7 e6 W) ⟨_, by rw [d7], HS, Below.refl _ _, rfl⟩
          · skip
            obtain rfl : o = o8 := Option.some.inj (ho.symm.trans po8)
            have e7 : A.eval (.tmp 32) = .bool true := hdep 7 _ 32 dp8_7 po7 d7
            refine at_op po8 d8 (wanted_guard gd8 po7 d7 e7) (run_loadBlk q8 base7 HS.2.tok tok_under (size_tok HML2.out _)) ⟨_, by rw [d8], HS, Below.refl _ _, rfl⟩
          · skip
            obtain rfl : o = o9 := Option.some.inj (ho.symm.trans po9)
            have e8 : A.eval (.tmp 33) = .agg (T.cells (.slice qX n dX)).toArray := hdep 8 _ 33 dp9_8 po8 d8
            have e7 : A.eval (.tmp 32) = .bool true := hdep 7 _ 32 dp9_7 po7 d7
            refine at_enterT po9 d9 (wanted_guard gd9 po7 d7 e7) (run_callf1 q9 rfl e8 Tryd.func35 (by kernel_rfl) _) (last_tok T n dX qX W HN.out (by omega) (fun x hx => (HTK.out.gs x hx).1) HS.2.gs) ?_
            rintro e w1 ⟨rfl, hb⟩
            exact ⟨_, rfl, ⟨_, by rw [d9], ⟨HS.1.step hb, HS.2.keep hb⟩, hb, rfl⟩⟩
          · skip
            obtain rfl : o = o10 := Option.some.inj (ho.symm.trans po10)
            have e7 : A.eval (.tmp 32) = .bool true := hdep 7 _ 32 dp10_7 po7 d7
            refine at_op po10 d10 (wanted_guard gd10 po7 d7 e7) (run_loadBlk q10 base4 HS.1.tok tok_under (size_tok HML2.out _)) ⟨_, by rw [d10], HS, Below.refl _ _, rfl⟩
          · skip
            obtain rfl : o = o11 := Option.some.inj (ho.symm.trans po11)
            have e10 : A.eval (.tmp 35) = .agg (T.cells (.slice p n c)).toArray := hdep 10 _ 35 dp11_10 po10 d10
            have e7 : A.eval (.tmp 32) = .bool true := hdep 7 _ 32 dp11_7 po7 d7
            refine at_enterT po11 d11 (wanted_guard gd11 po7 d7 e7) (run_callf1 q11 rfl e10 Tryd.func36 (by kernel_rfl) _) (refLast_tok T n c p W HN.out (by omega) (fun x hx => (HTK.out.gs x hx).1) (HL.out.below HS.1.below)) ?_
            rintro e w1 ⟨rfl, hb⟩
            exact ⟨_, rfl, ⟨_, by rw [d11], ⟨HS.1.step hb, HS.2.keep hb⟩, hb, rfl⟩⟩
          · skip
            obtain rfl : o = o12 := Option.some.inj (ho.symm.trans po12)
            have e9 : A.eval (.tmp 34) = .agg (lastG T.gs).cells.toArray := hdep 9 _ 34 dp12_9 po9 d9
            have e11 : A.eval (.tmp 36) = .agg (lastG T.gs).cells.toArray := hdep 11 _ 36 dp12_11 po11 d11
            have e7 : A.eval (.tmp 32) = .bool true := hdep 7 _ 32 dp12_7 po7 d7
            refine at_op po12 d12 (wanted_guard gd12 po7 d7 e7) (run_eqGrants q12 e9 e11 W) ⟨_, by rw [d12], HS, Below.refl _ _, rfl⟩
          · skip
            obtain rfl : o = o13 := Option.some.inj (ho.symm.trans po13)
            have e7 : A.eval (.tmp 32) = .bool true := hdep 7 _ 32 dp13_7 po7 d7
            have e12 : A.eval (.tmp 37) = .bool true := hdep 12 _ 37 dp13_12 po12 d12
            refine at_op po13 d13 (wanted_of gd13) (run_pick_true (v := .bool true) q13 e7 e12 W) ⟨_, by rw [d13], HS, Below.refl _ _, rfl⟩
          · skip
            obtain rfl : o = o14 := Option.some.inj (ho.symm.trans po14)
            have e13 : A.eval (.tmp 38) = .bool true := hdep 13 _ 38 dp14_13 po13 d13
            refine at_op po14 d14 (wanted_of gd14) (run_move q14 e13 W) ⟨_, by rw [d14], HS, Below.refl _ _, rfl⟩
          · skip
            obtain rfl : o = o15 := Option.some.inj (ho.symm.trans po15)
            have e14 : A.eval (.tmp 39) = .bool true := hdep 14 _ 39 dp15_14 po14 d14
            refine at_op po15 d15 (wanted_guard gd15 po14 d14 e14) (run_loadBlk q15 base7 HS.2.tok tok_under (size_tok HML2.out _)) ⟨_, by rw [d15], HS, Below.refl _ _, rfl⟩
          · skip
            obtain rfl : o = o16 := Option.some.inj (ho.symm.trans po16)
            have e14 : A.eval (.tmp 39) = .bool true := hdep 14 _ 39 dp16_14 po14 d14
            refine at_op po16 d16 (wanted_guard gd16 po14 d14 e14) (run_loadBlk q16 base4 HS.1.tok tok_under (size_tok HML2.out _)) ⟨_, by rw [d16], HS, Below.refl _ _, rfl⟩
          · skip
            obtain rfl : o = o17 := Option.some.inj (ho.symm.trans po17)
            have e15 : A.eval (.tmp 40) = .agg (T.cells (.slice qX n dX)).toArray := hdep 15 _ 40 dp17_15 po15 d15
            have e16 : A.eval (.tmp 41) = .agg (T.cells (.slice p n c)).toArray := hdep 16 _ 41 dp17_16 po16 d16
            have e14 : A.eval (.tmp 39) = .bool true := hdep 14 _ 39 dp17_14 po14 d14
            refine at_enterT po17 d17 (wanted_guard gd17 po14 d14 e14) (run_callf2 q17 rfl e15 e16 Tryd.func27 (by kernel_rfl) _) (sameToken_any T n dX n c qX p W HML2.out HN.out HN.out (by omega) HS.2.gs (HL.out.below HS.1.below)) ?_
            rintro e w1 ⟨rfl, hb⟩
            exact ⟨_, rfl, ⟨_, by rw [d17], ⟨HS.1.step hb, HS.2.keep hb⟩, hb, rfl⟩⟩
          · skip
            obtain rfl : o = o18 := Option.some.inj (ho.symm.trans po18)
            have e14 : A.eval (.tmp 39) = .bool true := hdep 14 _ 39 dp18_14 po14 d14
            have e17 : A.eval (.tmp 42) = .bool true := hdep 17 _ 42 dp18_17 po17 d17
            refine at_op po18 d18 (wanted_of gd18) (run_pick_true (v := .bool true) q18 e14 e17 W) ⟨_, by rw [d18], HS, Below.refl _ _, rfl⟩
          · skip
            obtain rfl : o = o19 := Option.some.inj (ho.symm.trans po19)
            have e18 : A.eval (.tmp 43) = .bool true := hdep 18 _ 43 dp19_18 po18 d18
            refine at_op po19 d19 (wanted_of gd19) (run_move q19 e18 W) ⟨_, by rw [d19], HS, Below.refl _ _, rfl⟩
          · skip
            obtain rfl : o = o20 := Option.some.inj (ho.symm.trans po20)
            have e19 : A.eval (.tmp 44) = .bool true := hdep 19 _ 44 dp20_19 po19 d19
            refine at_enterT po20 d20 (wanted_guard gd20 po19 d19 e19) (run_callf0 q20 rfl Tryd.func23 (by kernel_rfl) _) (known14_any W HS.1.consts HS.1.starts) ?_
            rintro e w1 ⟨rfl, hb⟩
            exact ⟨_, rfl, ⟨_, by rw [d20], ⟨HS.1.step hb, HS.2.keep hb⟩, hb, rfl⟩⟩
          · skip
            obtain rfl : o = o21 := Option.some.inj (ho.symm.trans po21)
            have e19 : A.eval (.tmp 44) = .bool true := hdep 19 _ 44 dp21_19 po19 d19
            have e20 : A.eval (.tmp 45) = .bool true := hdep 20 _ 45 dp21_20 po20 d20
            refine at_op po21 d21 (wanted_of gd21) (run_pick_true (v := .bool true) q21 e19 e20 W) ⟨_, by rw [d21], HS, Below.refl _ _, rfl⟩
        have base3 : A.eval (.tmp 3) = .pointer (some ⟨w.heap.size, 0, none⟩) := (hfr 3 hf3).trans rfl
        have base4 : A.eval (.tmp 4) = .pointer (some ⟨w.heap.size + 1, 0, none⟩) := (hfr 4 hf4).trans rfl
        have base7 : A.eval (.tmp 7) = .pointer (some ⟨B7, 0, none⟩) := (hfr 7 hf7).trans rfl
        have e0 : A.eval (.tmp 25) = .agg (bytesV root).toArray := hall 0 _ 25 (by rw [hns]; decide) po0 d0
        have e1 : A.eval (.tmp 26) = .agg (T.cells (.slice qX n dX)).toArray := hall 1 _ 26 (by rw [hns]; decide) po1 d1
        have e2 : A.eval (.tmp 27) = .int .i64 (verE root T) := hall 2 _ 27 (by rw [hns]; decide) po2 d2
        have e3 : A.eval (.tmp 28) = .agg (bytesV root).toArray := hall 3 _ 28 (by rw [hns]; decide) po3 d3
        have e4 : A.eval (.tmp 29) = .agg (T.cells (.slice p n c)).toArray := hall 4 _ 29 (by rw [hns]; decide) po4 d4
        have e5 : A.eval (.tmp 30) = .int .i64 (verE root T) := hall 5 _ 30 (by rw [hns]; decide) po5 d5
        have e6 : A.eval (.tmp 31) = .bool true := hall 6 _ 31 (by rw [hns]; decide) po6 d6
        have e7 : A.eval (.tmp 32) = .bool true := hall 7 _ 32 (by rw [hns]; decide) po7 d7
        have e8 : A.eval (.tmp 33) = .agg (T.cells (.slice qX n dX)).toArray := hall 8 _ 33 (by rw [hns]; decide) po8 d8
        have e9 : A.eval (.tmp 34) = .agg (lastG T.gs).cells.toArray := hall 9 _ 34 (by rw [hns]; decide) po9 d9
        have e10 : A.eval (.tmp 35) = .agg (T.cells (.slice p n c)).toArray := hall 10 _ 35 (by rw [hns]; decide) po10 d10
        have e11 : A.eval (.tmp 36) = .agg (lastG T.gs).cells.toArray := hall 11 _ 36 (by rw [hns]; decide) po11 d11
        have e12 : A.eval (.tmp 37) = .bool true := hall 12 _ 37 (by rw [hns]; decide) po12 d12
        have e13 : A.eval (.tmp 38) = .bool true := hall 13 _ 38 (by rw [hns]; decide) po13 d13
        have e14 : A.eval (.tmp 39) = .bool true := hall 14 _ 39 (by rw [hns]; decide) po14 d14
        have e15 : A.eval (.tmp 40) = .agg (T.cells (.slice qX n dX)).toArray := hall 15 _ 40 (by rw [hns]; decide) po15 d15
        have e16 : A.eval (.tmp 41) = .agg (T.cells (.slice p n c)).toArray := hall 16 _ 41 (by rw [hns]; decide) po16 d16
        have e17 : A.eval (.tmp 42) = .bool true := hall 17 _ 42 (by rw [hns]; decide) po17 d17
        have e18 : A.eval (.tmp 43) = .bool true := hall 18 _ 43 (by rw [hns]; decide) po18 d18
        have e19 : A.eval (.tmp 44) = .bool true := hall 19 _ 44 (by rw [hns]; decide) po19 d19
        have e20 : A.eval (.tmp 45) = .bool true := hall 20 _ 45 (by rw [hns]; decide) po20 d20
        have e21 : A.eval (.tmp 46) = .bool true := hall 21 _ 46 (by rw [hns]; decide) po21 d21
        have hA := act_of_slots [25, 26, 27, 28, 29, 30, 31, 32, 33, 34, 35, 36, 37, 38, 39, 40, 41, 42, 43, 44, 45, 46, 6] _ hAs hdf (fun t ht => hfr t (hslots t ht))
        simp only [List.foldl_cons, List.foldl_nil] at hA
        rw [show rdA A 25 = A.eval (.tmp 25) from rfl, e0] at hA
        rw [show rdA A 26 = A.eval (.tmp 26) from rfl, e1] at hA
        rw [show rdA A 27 = A.eval (.tmp 27) from rfl, e2] at hA
        rw [show rdA A 28 = A.eval (.tmp 28) from rfl, e3] at hA
        rw [show rdA A 29 = A.eval (.tmp 29) from rfl, e4] at hA
        rw [show rdA A 30 = A.eval (.tmp 30) from rfl, e5] at hA
        rw [show rdA A 31 = A.eval (.tmp 31) from rfl, e6] at hA
        rw [show rdA A 32 = A.eval (.tmp 32) from rfl, e7] at hA
        rw [show rdA A 33 = A.eval (.tmp 33) from rfl, e8] at hA
        rw [show rdA A 34 = A.eval (.tmp 34) from rfl, e9] at hA
        rw [show rdA A 35 = A.eval (.tmp 35) from rfl, e10] at hA
        rw [show rdA A 36 = A.eval (.tmp 36) from rfl, e11] at hA
        rw [show rdA A 37 = A.eval (.tmp 37) from rfl, e12] at hA
        rw [show rdA A 38 = A.eval (.tmp 38) from rfl, e13] at hA
        rw [show rdA A 39 = A.eval (.tmp 39) from rfl, e14] at hA
        rw [show rdA A 40 = A.eval (.tmp 40) from rfl, e15] at hA
        rw [show rdA A 41 = A.eval (.tmp 41) from rfl, e16] at hA
        rw [show rdA A 42 = A.eval (.tmp 42) from rfl, e17] at hA
        rw [show rdA A 43 = A.eval (.tmp 43) from rfl, e18] at hA
        rw [show rdA A 44 = A.eval (.tmp 44) from rfl, e19] at hA
        rw [show rdA A 45 = A.eval (.tmp 45) from rfl, e20] at hA
        rw [show rdA A 46 = A.eval (.tmp 46) from rfl, e21] at hA
        obtain ⟨ul, hul⟩ : ∃ u, rdA A 6 = u := ⟨_, rfl⟩
        rw [hul] at hA
        clear hul
        rw [hns]
        have HSF := Lib.hid HS.1.below
        refine at_op po22 d22 (wanted_of gd22) (run_assign q22 e21 W) ?_
        clear hall hdf hAs hfr hslots hns hf3 hf4 hf7 po0 q0 d0 gd0 po1 q1 d1 gd1 po2 q2 d2 gd2 dp2_0 dp2_1 po3 q3 d3 gd3 po4 q4 d4 gd4 po5 q5 d5 gd5 dp5_3 dp5_4 po6 q6 d6 gd6 dp6_2 dp6_5 po7 q7 d7 gd7 dp7_6 po8 q8 d8 gd8 dp8_7 po9 q9 d9 gd9 dp9_8 dp9_7 po10 q10 d10 gd10 dp10_7 po11 q11 d11 gd11 dp11_10 dp11_7 po12 q12 d12 gd12 dp12_9 dp12_11 dp12_7 po13 q13 d13 gd13 dp13_7 dp13_12 po14 q14 d14 gd14 dp14_13 po15 q15 d15 gd15 dp15_14 po16 q16 d16 gd16 dp16_14 po17 q17 d17 gd17 dp17_15 dp17_16 dp17_14 po18 q18 d18 gd18 dp18_14 dp18_17 po19 q19 d19 gd19 dp19_18 po20 q20 d20 gd20 dp20_19 po21 q21 d21 gd21 dp21_19 dp21_20 po22 q22 d22 gd22 base3 base4 base7
        have HA9 := Lib.hid hA
        clear hA HS H7 e0 e1 e2 e3 e4 e5 e6 e7 e8 e9 e10 e11 e12 e13 e14 e15 e16 e17 e18 e19 e20 e21
        rw [HA9.out]
        go_frame
        go_wp2_with fail
        go_ret
        exact ⟨rfl, HSF.out⟩
      · obtain ⟨T, hT⟩ : ∃ T : TokM, T = ⟨t.ten, t.id, t.gs, chainT root t.ten t.id t.gs⟩ := ⟨_, rfl⟩
        go_upto_region 4 with (fail)
        refine wp_region_lit ?_
        refine wpList_run (by rfl) (run_loadKeyT rfl rfl HRL.out HA.out.root) ?_
        refine wpList_run (by rfl) (run_loadBlk (C := (t.cells (.slice p n c)).toArray) rfl rfl HA.out.tok tok_under (size_tok HML.out _)) ?_
        have hcall := refChain_tok root t n c p A HRL.out HML.out HN.out (by omega) HTS.out HPZ.out (HL.out.below HA.out.below) HA.out.consts HA.out.starts
        have hcl := chainT_length root t.ten t.id t.gs
        generalize hcd : chainT root t.ten t.id t.gs = CD at hcall hcl hT
        refine wpList_enterT (by rfl) (run_callf2 (v := .agg (bytesV root).toArray) (u := .agg (t.cells (.slice p n c)).toArray) rfl rfl rfl rfl Tryd.func37 (by kernel_rfl) _) hcall ?_
        rintro e w5 ⟨rfl, hb5⟩
        refine ⟨_, rfl, ?_⟩
        have k1 := HA.out.step hb5
        refine wpList_run (by rfl) (run_fieldT (off := 3) rfl (fun _ => by kernel_rfl) rfl _) ?_
        refine wpList_skip (by rfl) (run_storeMac rfl rfl rfl hcl (tok_there k1.tok HML.out)) ?_
        refine wpList_nil ?_
        have hsp : Spares (fun b => b = w.heap.size + 1) w5 (w5.setCells (w.heap.size + 1) 3 (bytesV CD)) := Spares.grown (grown_setCells _ _ _ _) rfl
        have HV : Hid (VeB root T (.slice p n c) w (w5.setCells (w.heap.size + 1) 3 (bytesV CD))) := show VeB _ _ _ _ _ from ⟨bytesAt_spares k1.root hsp (by omega), by rw [hT]; exact tok_setMac k1.tok HML.out hcl, k1.below.trans (hsp.below k1.below.size (fun k hk e => by omega)), k1.consts.below (B := w.heap.size + 1) (hsp.below (Nat.le_of_lt k1.tok.lt) (fun k hk e => by omega)) (by have := HCS.out.1; omega), fun j v hv => ((hsp.below (B := w.heap.size + 1) (Nat.le_of_lt k1.tok.lt) (fun k hk e => by omega)).cell (p := ⟨1, 0 + j, none⟩) (by have := HCS.out.2; show 1 < _; omega)).trans (k1.starts j v hv)⟩
        have HTK : Hid (T.Ok) := show TokM.Ok _ by rw [hT]; exact HTO.out CD hcl
        have hgs : T.gs = t.gs := by rw [hT]
        have hten : T.ten = t.ten := by rw [hT]
        generalize w5.setCells (w.heap.size + 1) 3 (bytesV CD) = A4 at HV ⊢
        clear hsp k1 hb5 hcd hcl hcall hT
        go_frame
        rw [← hgs] at HN HL HPZ
        rw [← hten] at HTS
        have HML2 := Lib.hid HTK.out.mac
        go_upto_region 5 with (fail)
        refine wp_region_lit ?_
        refine wpList_run (by rfl) (run_loadBlk (C := (T.cells (.slice p n c)).toArray) rfl rfl HV.out.tok tok_under (size_tok HML2.out _)) ?_
        refine wpList_enterT (by rfl) (run_callf1 (v := .agg (T.cells (.slice p n c)).toArray) rfl rfl rfl Tryd.func38 (by kernel_rfl) _) (copyToken_any T n c p A4 HML2.out HN.out (by omega) (HL.out.below HV.out.below)) ?_
        rintro e w6 ⟨qX, dX, rfl, ho6, hb6⟩
        refine ⟨_, rfl, ?_⟩
        obtain ⟨l6, g6⟩ := own_in ho6
        refine wpList_runW8 (by rfl) (run_allocTok rfl _) ?_
        refine wpList_skip (by rfl) (run_storeRowT (g := w6.heap.size) (cells := (T.cells (.slice qX n dX)).toArray) rfl rfl rfl (heap_new_at rfl) (size_tok HML2.out _) (zero_size HML2.out _) (tok_ones _ _ _ _)) ?_
        refine wpList_nil ?_
        obtain ⟨x7, y7⟩ := new_tok (t := T) (c := dX) HML2.out l6 g6
        have hb7 := hb6.trans (y7.mono hb6.size)
        have hVV := HV.out.step hb7
        generalize (w6.alloc (.cells (zeroTok.cells (.slice none 0 0)).toArray 50)).setRow w6.heap.size (T.cells (.slice qX n dX)).toArray = A7 at x7 hVV ⊢
        obtain ⟨B7, hB7⟩ : ∃ B, B = w6.heap.size := ⟨_, rfl⟩
        rw [← hB7] at x7
        rw [← hB7]
        have H7 : Hid (VeB root T (.slice p n c) w A7 ∧ TkIn A7 B7 T qX n dX) := show _ ∧ _ from ⟨hVV, x7⟩
        clear x7 y7 hb7 hVV hb6 ho6 l6 g6 hB7 HV
        go_frame
        go_upto_region 6 with (fail)
        refine region_grow (fun W => VeB root T (.slice p n c) w W ∧ TkIn W B7 T qX n dX) (fun i vz wz => match i with | 0 => vz = .agg (bytesV root).toArray | 1 => vz = .agg (T.cells (.slice qX n dX)).toArray | 2 => vz = .int .i64 (verE root T) | 3 => vz = .agg (bytesV root).toArray | 4 => vz = .agg (T.cells (.slice p n c)).toArray | 5 => vz = .int .i64 (verE root T) | 6 => vz = .bool true | 7 => vz = .bool true | 8 => vz = .agg (T.cells (.slice qX n dX)).toArray | 9 => vz = .agg (lastG T.gs).cells.toArray | 10 => vz = .agg (T.cells (.slice p n c)).toArray | 11 => vz = .agg (lastG T.gs).cells.toArray | 12 => vz = .bool true | 13 => vz = .bool true | 14 => vz = .bool true | 15 => vz = .agg (T.cells (.slice qX n dX)).toArray | 16 => vz = .agg (T.cells (.slice p n c)).toArray | 17 => vz = .bool true | 18 => vz = .bool true | 19 => vz = .bool true | 20 => vz = .bool true | 21 => vz = .bool true | _ => True) (by kernel_rfl) (by kernel_rfl) (by kernel_rfl) (by kernel_rfl) (by decide) (⟨H7.out.1.step (Below.refl _ _).drew, H7.out.2.keep (Below.refl _ _).drew⟩) ?_ ?_
        · skip
          intro i vz wz w2 hb hf
          match i, hf with
          | 0, hf => exact hf
          | 1, hf => exact hf
          | 2, hf => exact hf
          | 3, hf => exact hf
          | 4, hf => exact hf
          | 5, hf => exact hf
          | 6, hf => exact hf
          | 7, hf => exact hf
          | 8, hf => exact hf
          | 9, hf => exact hf
          | 10, hf => exact hf
          | 11, hf => exact hf
          | 12, hf => exact hf
          | 13, hf => exact hf
          | 14, hf => exact hf
          | 15, hf => exact hf
          | 16, hf => exact hf
          | 17, hf => exact hf
          | 18, hf => exact hf
          | 19, hf => exact hf
          | 20, hf => exact hf
          | 21, hf => exact hf
          | _ + 22, _ => trivial
        intro ops hops
        have hf3 : ∀ (i : Nat) (o : Oper), ops[i]? = some o → o.dst ≠ some 3 := by rw [hops]; exact fun i o h => slot_free (by kernel_rfl) i o h
        have hf4 : ∀ (i : Nat) (o : Oper), ops[i]? = some o → o.dst ≠ some 4 := by rw [hops]; exact fun i o h => slot_free (by kernel_rfl) i o h
        have hf7 : ∀ (i : Nat) (o : Oper), ops[i]? = some o → o.dst ≠ some 7 := by rw [hops]; exact fun i o h => slot_free (by kernel_rfl) i o h
        have hns : ops.size = 23 := by rw [hops]; rfl
        obtain ⟨o0, po0, q0, d0, gd0⟩ : ∃ o, ops[0]? = some o ∧ o.op = .load 23 (.tmp 3) ∧ o.dst = some 25 ∧ o.guard = none := ⟨_, by rw [hops]; rfl, rfl, rfl, rfl⟩
        obtain ⟨o1, po1, q1, d1, gd1⟩ : ∃ o, ops[1]? = some o ∧ o.op = .load 50 (.tmp 7) ∧ o.dst = some 26 ∧ o.guard = none := ⟨_, by rw [hops]; rfl, rfl, rfl, rfl⟩
        obtain ⟨o2, po2, q2, d2, gd2, dp2_0, dp2_1⟩ : ∃ o, ops[2]? = some o ∧ o.op = .call { callee := .value (.func 33), args := #[.tmp 25, .tmp 26], argTypes := #[23, 50] } ∧ o.dst = some 27 ∧ o.guard = none ∧ (o.after.any fun e => Region.binds .any e && decide (e.on = 0)) = true ∧ (o.after.any fun e => Region.binds .any e && decide (e.on = 1)) = true := ⟨_, by rw [hops]; rfl, rfl, rfl, rfl, by kernel_rfl, by kernel_rfl⟩
        obtain ⟨o3, po3, q3, d3, gd3⟩ : ∃ o, ops[3]? = some o ∧ o.op = .load 23 (.tmp 3) ∧ o.dst = some 28 ∧ o.guard = none := ⟨_, by rw [hops]; rfl, rfl, rfl, rfl⟩
        obtain ⟨o4, po4, q4, d4, gd4⟩ : ∃ o, ops[4]? = some o ∧ o.op = .load 50 (.tmp 4) ∧ o.dst = some 29 ∧ o.guard = none := ⟨_, by rw [hops]; rfl, rfl, rfl, rfl⟩
        obtain ⟨o5, po5, q5, d5, gd5, dp5_3, dp5_4⟩ : ∃ o, ops[5]? = some o ∧ o.op = .call { callee := .value (.func 34), args := #[.tmp 28, .tmp 29], argTypes := #[23, 50] } ∧ o.dst = some 30 ∧ o.guard = none ∧ (o.after.any fun e => Region.binds .any e && decide (e.on = 3)) = true ∧ (o.after.any fun e => Region.binds .any e && decide (e.on = 4)) = true := ⟨_, by rw [hops]; rfl, rfl, rfl, rfl, by kernel_rfl, by kernel_rfl⟩
        obtain ⟨o6, po6, q6, d6, gd6, dp6_2, dp6_5⟩ : ∃ o, ops[6]? = some o ∧ o.op = .binOp .eql 34 (.tmp 27) (.tmp 30) 34 ∧ o.dst = some 31 ∧ o.guard = none ∧ (o.after.any fun e => Region.binds .any e && decide (e.on = 2)) = true ∧ (o.after.any fun e => Region.binds .any e && decide (e.on = 5)) = true := ⟨_, by rw [hops]; rfl, rfl, rfl, rfl, by kernel_rfl, by kernel_rfl⟩
        obtain ⟨o7, po7, q7, d7, gd7, dp7_6⟩ : ∃ o, ops[7]? = some o ∧ o.op = .move (.tmp 31) ∧ o.dst = some 32 ∧ o.guard = none ∧ (o.after.any fun e => Region.binds .any e && decide (e.on = 6)) = true := ⟨_, by rw [hops]; rfl, rfl, rfl, rfl, by kernel_rfl⟩
        obtain ⟨o8, po8, q8, d8, gd8, dp8_7⟩ : ∃ o, ops[8]? = some o ∧ o.op = .load 50 (.tmp 7) ∧ o.dst = some 33 ∧ o.guard = some (7, true) ∧ (o.after.any fun e => Region.binds .any e && decide (e.on = 7)) = true := ⟨_, by rw [hops]; rfl, rfl, rfl, rfl, by kernel_rfl⟩
        obtain ⟨o9, po9, q9, d9, gd9, dp9_8, dp9_7⟩ : ∃ o, ops[9]? = some o ∧ o.op = .call { callee := .value (.func 35), args := #[.tmp 33], argTypes := #[50] } ∧ o.dst = some 34 ∧ o.guard = some (7, true) ∧ (o.after.any fun e => Region.binds .any e && decide (e.on = 8)) = true ∧ (o.after.any fun e => Region.binds .any e && decide (e.on = 7)) = true := ⟨_, by rw [hops]; rfl, rfl, rfl, rfl, by kernel_rfl, by kernel_rfl⟩
        obtain ⟨o10, po10, q10, d10, gd10, dp10_7⟩ : ∃ o, ops[10]? = some o ∧ o.op = .load 50 (.tmp 4) ∧ o.dst = some 35 ∧ o.guard = some (7, true) ∧ (o.after.any fun e => Region.binds .any e && decide (e.on = 7)) = true := ⟨_, by rw [hops]; rfl, rfl, rfl, rfl, by kernel_rfl⟩
        obtain ⟨o11, po11, q11, d11, gd11, dp11_10, dp11_7⟩ : ∃ o, ops[11]? = some o ∧ o.op = .call { callee := .value (.func 36), args := #[.tmp 35], argTypes := #[50] } ∧ o.dst = some 36 ∧ o.guard = some (7, true) ∧ (o.after.any fun e => Region.binds .any e && decide (e.on = 10)) = true ∧ (o.after.any fun e => Region.binds .any e && decide (e.on = 7)) = true := ⟨_, by rw [hops]; rfl, rfl, rfl, rfl, by kernel_rfl, by kernel_rfl⟩
        obtain ⟨o12, po12, q12, d12, gd12, dp12_9, dp12_11, dp12_7⟩ : ∃ o, ops[12]? = some o ∧ o.op = .binOp .eql 54 (.tmp 34) (.tmp 36) 54 ∧ o.dst = some 37 ∧ o.guard = some (7, true) ∧ (o.after.any fun e => Region.binds .any e && decide (e.on = 9)) = true ∧ (o.after.any fun e => Region.binds .any e && decide (e.on = 11)) = true ∧ (o.after.any fun e => Region.binds .any e && decide (e.on = 7)) = true := ⟨_, by rw [hops]; rfl, rfl, rfl, rfl, by kernel_rfl, by kernel_rfl, by kernel_rfl⟩
        obtain ⟨o13, po13, q13, d13, gd13, dp13_7, dp13_12⟩ : ∃ o, ops[13]? = some o ∧ o.op = .pick (.tmp 32) (.tmp 37) (.const (.bool false)) ∧ o.dst = some 38 ∧ o.guard = none ∧ (o.after.any fun e => Region.binds .any e && decide (e.on = 7)) = true ∧ (o.after.any fun e => Region.binds .any e && decide (e.on = 12)) = true := ⟨_, by rw [hops]; rfl, rfl, rfl, rfl, by kernel_rfl, by kernel_rfl⟩
        obtain ⟨o14, po14, q14, d14, gd14, dp14_13⟩ : ∃ o, ops[14]? = some o ∧ o.op = .move (.tmp 38) ∧ o.dst = some 39 ∧ o.guard = none ∧ (o.after.any fun e => Region.binds .any e && decide (e.on = 13)) = true := ⟨_, by rw [hops]; rfl, rfl, rfl, rfl, by kernel_rfl⟩
        obtain ⟨o15, po15, q15, d15, gd15, dp15_14⟩ : ∃ o, ops[15]? = some o ∧ o.op = .load 50 (.tmp 7) ∧ o.dst = some 40 ∧ o.guard = some (14, true) ∧ (o.after.any fun e => Region.binds .any e && decide (e.on = 14)) = true := ⟨_, by rw [hops]; rfl, rfl, rfl, rfl, by kernel_rfl⟩
        obtain ⟨o16, po16, q16, d16, gd16, dp16_14⟩ : ∃ o, ops[16]? = some o ∧ o.op = .load 50 (.tmp 4) ∧ o.dst = some 41 ∧ o.guard = some (14, true) ∧ (o.after.any fun e => Region.binds .any e && decide (e.on = 14)) = true := ⟨_, by rw [hops]; rfl, rfl, rfl, rfl, by kernel_rfl⟩
        obtain ⟨o17, po17, q17, d17, gd17, dp17_15, dp17_16, dp17_14⟩ : ∃ o, ops[17]? = some o ∧ o.op = .call { callee := .value (.func 27), args := #[.tmp 40, .tmp 41], argTypes := #[50, 50] } ∧ o.dst = some 42 ∧ o.guard = some (14, true) ∧ (o.after.any fun e => Region.binds .any e && decide (e.on = 15)) = true ∧ (o.after.any fun e => Region.binds .any e && decide (e.on = 16)) = true ∧ (o.after.any fun e => Region.binds .any e && decide (e.on = 14)) = true := ⟨_, by rw [hops]; rfl, rfl, rfl, rfl, by kernel_rfl, by kernel_rfl, by kernel_rfl⟩
        obtain ⟨o18, po18, q18, d18, gd18, dp18_14, dp18_17⟩ : ∃ o, ops[18]? = some o ∧ o.op = .pick (.tmp 39) (.tmp 42) (.const (.bool false)) ∧ o.dst = some 43 ∧ o.guard = none ∧ (o.after.any fun e => Region.binds .any e && decide (e.on = 14)) = true ∧ (o.after.any fun e => Region.binds .any e && decide (e.on = 17)) = true := ⟨_, by rw [hops]; rfl, rfl, rfl, rfl, by kernel_rfl, by kernel_rfl⟩
        obtain ⟨o19, po19, q19, d19, gd19, dp19_18⟩ : ∃ o, ops[19]? = some o ∧ o.op = .move (.tmp 43) ∧ o.dst = some 44 ∧ o.guard = none ∧ (o.after.any fun e => Region.binds .any e && decide (e.on = 18)) = true := ⟨_, by rw [hops]; rfl, rfl, rfl, rfl, by kernel_rfl⟩
        obtain ⟨o20, po20, q20, d20, gd20, dp20_19⟩ : ∃ o, ops[20]? = some o ∧ o.op = .call { callee := .value (.func 23), args := #[], argTypes := #[] } ∧ o.dst = some 45 ∧ o.guard = some (19, true) ∧ (o.after.any fun e => Region.binds .any e && decide (e.on = 19)) = true := ⟨_, by rw [hops]; rfl, rfl, rfl, rfl, by kernel_rfl⟩
        obtain ⟨o21, po21, q21, d21, gd21, dp21_19, dp21_20⟩ : ∃ o, ops[21]? = some o ∧ o.op = .pick (.tmp 44) (.tmp 45) (.const (.bool false)) ∧ o.dst = some 46 ∧ o.guard = none ∧ (o.after.any fun e => Region.binds .any e && decide (e.on = 19)) = true ∧ (o.after.any fun e => Region.binds .any e && decide (e.on = 20)) = true := ⟨_, by rw [hops]; rfl, rfl, rfl, rfl, by kernel_rfl, by kernel_rfl⟩
        obtain ⟨o22, po22, q22, d22, gd22⟩ : ∃ o, ops[22]? = some o ∧ o.op = .assign (.tmp 46) ∧ o.dst = some 6 ∧ o.guard = none := ⟨_, by rw [hops]; rfl, rfl, rfl, rfl⟩
        have hslots : ∀ t, t ∉ [25, 26, 27, 28, 29, 30, 31, 32, 33, 34, 35, 36, 37, 38, 39, 40, 41, 42, 43, 44, 45, 46, 6] → ∀ (i : Nat) (o : Oper), ops[i]? = some o → o.dst ≠ some t := by rw [hops]; exact fun t ht i o h => slots_free (by kernel_rfl) t ht i o h
        clear hops
        refine ⟨fun A W HS hfr hAs i o hi ho hdep => ?_, fun A W HS hdf hAs hfr hall => ?_⟩
        · skip
          have base3 : A.eval (.tmp 3) = .pointer (some ⟨w.heap.size, 0, none⟩) := (hfr 3 hf3).trans rfl
          have base4 : A.eval (.tmp 4) = .pointer (some ⟨w.heap.size + 1, 0, none⟩) := (hfr 4 hf4).trans rfl
          have base7 : A.eval (.tmp 7) = .pointer (some ⟨B7, 0, none⟩) := (hfr 7 hf7).trans rfl
          rw [hns] at hi
          obtain rfl | rfl | rfl | rfl | rfl | rfl | rfl | rfl | rfl | rfl | rfl | rfl | rfl | rfl | rfl | rfl | rfl | rfl | rfl | rfl | rfl | rfl : i = 0 ∨ i = 1 ∨ i = 2 ∨ i = 3 ∨ i = 4 ∨ i = 5 ∨ i = 6 ∨ i = 7 ∨ i = 8 ∨ i = 9 ∨ i = 10 ∨ i = 11 ∨ i = 12 ∨ i = 13 ∨ i = 14 ∨ i = 15 ∨ i = 16 ∨ i = 17 ∨ i = 18 ∨ i = 19 ∨ i = 20 ∨ i = 21 := by omega
          · skip
            obtain rfl : o = o0 := Option.some.inj (ho.symm.trans po0)
            refine at_op po0 d0 (wanted_of gd0) (run_loadKeyT q0 base3 HRL.out HS.1.root) ⟨_, by rw [d0], HS, Below.refl _ _, rfl⟩
          · skip
            obtain rfl : o = o1 := Option.some.inj (ho.symm.trans po1)
            refine at_op po1 d1 (wanted_of gd1) (run_loadBlk q1 base7 HS.2.tok tok_under (size_tok HML2.out _)) ⟨_, by rw [d1], HS, Below.refl _ _, rfl⟩
          · skip
            obtain rfl : o = o2 := Option.some.inj (ho.symm.trans po2)
            have e0 : A.eval (.tmp 25) = .agg (bytesV root).toArray := hdep 0 _ 25 dp2_0 po0 d0
            have e1 : A.eval (.tmp 26) = .agg (T.cells (.slice qX n dX)).toArray := hdep 1 _ 26 dp2_1 po1 d1
            refine at_enterT po2 d2 (wanted_of gd2) (run_callf2 q2 rfl e0 e1 Tryd.func33 (by kernel_rfl) _) (verify_tok root T n dX qX W HRL.out HN.out HTK.out HS.2.gs HS.1.consts HS.1.starts) ?_
            rintro e w1 ⟨rfl, hb⟩
            exact ⟨_, rfl, ⟨_, by rw [d2], ⟨HS.1.step hb, HS.2.keep hb⟩, hb, rfl⟩⟩
          · skip
            obtain rfl : o = o3 := Option.some.inj (ho.symm.trans po3)
            refine at_op po3 d3 (wanted_of gd3) (run_loadKeyT q3 base3 HRL.out HS.1.root) ⟨_, by rw [d3], HS, Below.refl _ _, rfl⟩
          · skip
            obtain rfl : o = o4 := Option.some.inj (ho.symm.trans po4)
            refine at_op po4 d4 (wanted_of gd4) (run_loadBlk q4 base4 HS.1.tok tok_under (size_tok HML2.out _)) ⟨_, by rw [d4], HS, Below.refl _ _, rfl⟩
          · skip
            obtain rfl : o = o5 := Option.some.inj (ho.symm.trans po5)
            have e3 : A.eval (.tmp 28) = .agg (bytesV root).toArray := hdep 3 _ 28 dp5_3 po3 d3
            have e4 : A.eval (.tmp 29) = .agg (T.cells (.slice p n c)).toArray := hdep 4 _ 29 dp5_4 po4 d4
            refine at_enterT po5 d5 (wanted_of gd5) (run_callf2 q5 rfl e3 e4 Tryd.func34 (by kernel_rfl) _) (refVerify_tok root T n c p W HRL.out HN.out HTK.out HTS.out HPZ.out (HL.out.below HS.1.below) HS.1.consts HS.1.starts) ?_
            rintro e w1 ⟨rfl, hb⟩
            exact ⟨_, rfl, ⟨_, by rw [d5], ⟨HS.1.step hb, HS.2.keep hb⟩, hb, rfl⟩⟩
          · skip
            obtain rfl : o = o6 := Option.some.inj (ho.symm.trans po6)
            have e2 : A.eval (.tmp 27) = .int .i64 (verE root T) := hdep 2 _ 27 dp6_2 po2 d2
            have e5 : A.eval (.tmp 30) = .int .i64 (verE root T) := hdep 5 _ 30 dp6_5 po5 d5
            refine at_op po6 d6 (wanted_of gd6) (run_eqlE (v := true) (by simp) q6 e2 e5 W) ⟨_, by rw [d6], HS, Below.refl _ _, rfl⟩
          · skip
            obtain rfl : o = o7 := Option.some.inj (ho.symm.trans po7)
            have e6 : A.eval (.tmp 31) = .bool true := hdep 6 _ 31 dp7_6 po6 d6
            refine at_op po7 d7 (wanted_of gd7) (run_move q7 e6 W) ⟨_, by rw [d7], HS, Below.refl _ _, rfl⟩
          · skip
            obtain rfl : o = o8 := Option.some.inj (ho.symm.trans po8)
            have e7 : A.eval (.tmp 32) = .bool true := hdep 7 _ 32 dp8_7 po7 d7
            refine at_op po8 d8 (wanted_guard gd8 po7 d7 e7) (run_loadBlk q8 base7 HS.2.tok tok_under (size_tok HML2.out _)) ⟨_, by rw [d8], HS, Below.refl _ _, rfl⟩
          · skip
            obtain rfl : o = o9 := Option.some.inj (ho.symm.trans po9)
            have e8 : A.eval (.tmp 33) = .agg (T.cells (.slice qX n dX)).toArray := hdep 8 _ 33 dp9_8 po8 d8
            have e7 : A.eval (.tmp 32) = .bool true := hdep 7 _ 32 dp9_7 po7 d7
            refine at_enterT po9 d9 (wanted_guard gd9 po7 d7 e7) (run_callf1 q9 rfl e8 Tryd.func35 (by kernel_rfl) _) (last_tok T n dX qX W HN.out (by omega) (fun x hx => (HTK.out.gs x hx).1) HS.2.gs) ?_
            rintro e w1 ⟨rfl, hb⟩
            exact ⟨_, rfl, ⟨_, by rw [d9], ⟨HS.1.step hb, HS.2.keep hb⟩, hb, rfl⟩⟩
          · skip
            obtain rfl : o = o10 := Option.some.inj (ho.symm.trans po10)
            have e7 : A.eval (.tmp 32) = .bool true := hdep 7 _ 32 dp10_7 po7 d7
            refine at_op po10 d10 (wanted_guard gd10 po7 d7 e7) (run_loadBlk q10 base4 HS.1.tok tok_under (size_tok HML2.out _)) ⟨_, by rw [d10], HS, Below.refl _ _, rfl⟩
          · skip
            obtain rfl : o = o11 := Option.some.inj (ho.symm.trans po11)
            have e10 : A.eval (.tmp 35) = .agg (T.cells (.slice p n c)).toArray := hdep 10 _ 35 dp11_10 po10 d10
            have e7 : A.eval (.tmp 32) = .bool true := hdep 7 _ 32 dp11_7 po7 d7
            refine at_enterT po11 d11 (wanted_guard gd11 po7 d7 e7) (run_callf1 q11 rfl e10 Tryd.func36 (by kernel_rfl) _) (refLast_tok T n c p W HN.out (by omega) (fun x hx => (HTK.out.gs x hx).1) (HL.out.below HS.1.below)) ?_
            rintro e w1 ⟨rfl, hb⟩
            exact ⟨_, rfl, ⟨_, by rw [d11], ⟨HS.1.step hb, HS.2.keep hb⟩, hb, rfl⟩⟩
          · skip
            obtain rfl : o = o12 := Option.some.inj (ho.symm.trans po12)
            have e9 : A.eval (.tmp 34) = .agg (lastG T.gs).cells.toArray := hdep 9 _ 34 dp12_9 po9 d9
            have e11 : A.eval (.tmp 36) = .agg (lastG T.gs).cells.toArray := hdep 11 _ 36 dp12_11 po11 d11
            have e7 : A.eval (.tmp 32) = .bool true := hdep 7 _ 32 dp12_7 po7 d7
            refine at_op po12 d12 (wanted_guard gd12 po7 d7 e7) (run_eqGrants q12 e9 e11 W) ⟨_, by rw [d12], HS, Below.refl _ _, rfl⟩
          · skip
            obtain rfl : o = o13 := Option.some.inj (ho.symm.trans po13)
            have e7 : A.eval (.tmp 32) = .bool true := hdep 7 _ 32 dp13_7 po7 d7
            have e12 : A.eval (.tmp 37) = .bool true := hdep 12 _ 37 dp13_12 po12 d12
            refine at_op po13 d13 (wanted_of gd13) (run_pick_true (v := .bool true) q13 e7 e12 W) ⟨_, by rw [d13], HS, Below.refl _ _, rfl⟩
          · skip
            obtain rfl : o = o14 := Option.some.inj (ho.symm.trans po14)
            have e13 : A.eval (.tmp 38) = .bool true := hdep 13 _ 38 dp14_13 po13 d13
            refine at_op po14 d14 (wanted_of gd14) (run_move q14 e13 W) ⟨_, by rw [d14], HS, Below.refl _ _, rfl⟩
          · skip
            obtain rfl : o = o15 := Option.some.inj (ho.symm.trans po15)
            have e14 : A.eval (.tmp 39) = .bool true := hdep 14 _ 39 dp15_14 po14 d14
            refine at_op po15 d15 (wanted_guard gd15 po14 d14 e14) (run_loadBlk q15 base7 HS.2.tok tok_under (size_tok HML2.out _)) ⟨_, by rw [d15], HS, Below.refl _ _, rfl⟩
          · skip
            obtain rfl : o = o16 := Option.some.inj (ho.symm.trans po16)
            have e14 : A.eval (.tmp 39) = .bool true := hdep 14 _ 39 dp16_14 po14 d14
            refine at_op po16 d16 (wanted_guard gd16 po14 d14 e14) (run_loadBlk q16 base4 HS.1.tok tok_under (size_tok HML2.out _)) ⟨_, by rw [d16], HS, Below.refl _ _, rfl⟩
          · skip
            obtain rfl : o = o17 := Option.some.inj (ho.symm.trans po17)
            have e15 : A.eval (.tmp 40) = .agg (T.cells (.slice qX n dX)).toArray := hdep 15 _ 40 dp17_15 po15 d15
            have e16 : A.eval (.tmp 41) = .agg (T.cells (.slice p n c)).toArray := hdep 16 _ 41 dp17_16 po16 d16
            have e14 : A.eval (.tmp 39) = .bool true := hdep 14 _ 39 dp17_14 po14 d14
            refine at_enterT po17 d17 (wanted_guard gd17 po14 d14 e14) (run_callf2 q17 rfl e15 e16 Tryd.func27 (by kernel_rfl) _) (sameToken_any T n dX n c qX p W HML2.out HN.out HN.out (by omega) HS.2.gs (HL.out.below HS.1.below)) ?_
            rintro e w1 ⟨rfl, hb⟩
            exact ⟨_, rfl, ⟨_, by rw [d17], ⟨HS.1.step hb, HS.2.keep hb⟩, hb, rfl⟩⟩
          · skip
            obtain rfl : o = o18 := Option.some.inj (ho.symm.trans po18)
            have e14 : A.eval (.tmp 39) = .bool true := hdep 14 _ 39 dp18_14 po14 d14
            have e17 : A.eval (.tmp 42) = .bool true := hdep 17 _ 42 dp18_17 po17 d17
            refine at_op po18 d18 (wanted_of gd18) (run_pick_true (v := .bool true) q18 e14 e17 W) ⟨_, by rw [d18], HS, Below.refl _ _, rfl⟩
          · skip
            obtain rfl : o = o19 := Option.some.inj (ho.symm.trans po19)
            have e18 : A.eval (.tmp 43) = .bool true := hdep 18 _ 43 dp19_18 po18 d18
            refine at_op po19 d19 (wanted_of gd19) (run_move q19 e18 W) ⟨_, by rw [d19], HS, Below.refl _ _, rfl⟩
          · skip
            obtain rfl : o = o20 := Option.some.inj (ho.symm.trans po20)
            have e19 : A.eval (.tmp 44) = .bool true := hdep 19 _ 44 dp20_19 po19 d19
            refine at_enterT po20 d20 (wanted_guard gd20 po19 d19 e19) (run_callf0 q20 rfl Tryd.func23 (by kernel_rfl) _) (known14_any W HS.1.consts HS.1.starts) ?_
            rintro e w1 ⟨rfl, hb⟩
            exact ⟨_, rfl, ⟨_, by rw [d20], ⟨HS.1.step hb, HS.2.keep hb⟩, hb, rfl⟩⟩
          · skip
            obtain rfl : o = o21 := Option.some.inj (ho.symm.trans po21)
            have e19 : A.eval (.tmp 44) = .bool true := hdep 19 _ 44 dp21_19 po19 d19
            have e20 : A.eval (.tmp 45) = .bool true := hdep 20 _ 45 dp21_20 po20 d20
            refine at_op po21 d21 (wanted_of gd21) (run_pick_true (v := .bool true) q21 e19 e20 W) ⟨_, by rw [d21], HS, Below.refl _ _, rfl⟩
        have base3 : A.eval (.tmp 3) = .pointer (some ⟨w.heap.size, 0, none⟩) := (hfr 3 hf3).trans rfl
        have base4 : A.eval (.tmp 4) = .pointer (some ⟨w.heap.size + 1, 0, none⟩) := (hfr 4 hf4).trans rfl
        have base7 : A.eval (.tmp 7) = .pointer (some ⟨B7, 0, none⟩) := (hfr 7 hf7).trans rfl
        have e0 : A.eval (.tmp 25) = .agg (bytesV root).toArray := hall 0 _ 25 (by rw [hns]; decide) po0 d0
        have e1 : A.eval (.tmp 26) = .agg (T.cells (.slice qX n dX)).toArray := hall 1 _ 26 (by rw [hns]; decide) po1 d1
        have e2 : A.eval (.tmp 27) = .int .i64 (verE root T) := hall 2 _ 27 (by rw [hns]; decide) po2 d2
        have e3 : A.eval (.tmp 28) = .agg (bytesV root).toArray := hall 3 _ 28 (by rw [hns]; decide) po3 d3
        have e4 : A.eval (.tmp 29) = .agg (T.cells (.slice p n c)).toArray := hall 4 _ 29 (by rw [hns]; decide) po4 d4
        have e5 : A.eval (.tmp 30) = .int .i64 (verE root T) := hall 5 _ 30 (by rw [hns]; decide) po5 d5
        have e6 : A.eval (.tmp 31) = .bool true := hall 6 _ 31 (by rw [hns]; decide) po6 d6
        have e7 : A.eval (.tmp 32) = .bool true := hall 7 _ 32 (by rw [hns]; decide) po7 d7
        have e8 : A.eval (.tmp 33) = .agg (T.cells (.slice qX n dX)).toArray := hall 8 _ 33 (by rw [hns]; decide) po8 d8
        have e9 : A.eval (.tmp 34) = .agg (lastG T.gs).cells.toArray := hall 9 _ 34 (by rw [hns]; decide) po9 d9
        have e10 : A.eval (.tmp 35) = .agg (T.cells (.slice p n c)).toArray := hall 10 _ 35 (by rw [hns]; decide) po10 d10
        have e11 : A.eval (.tmp 36) = .agg (lastG T.gs).cells.toArray := hall 11 _ 36 (by rw [hns]; decide) po11 d11
        have e12 : A.eval (.tmp 37) = .bool true := hall 12 _ 37 (by rw [hns]; decide) po12 d12
        have e13 : A.eval (.tmp 38) = .bool true := hall 13 _ 38 (by rw [hns]; decide) po13 d13
        have e14 : A.eval (.tmp 39) = .bool true := hall 14 _ 39 (by rw [hns]; decide) po14 d14
        have e15 : A.eval (.tmp 40) = .agg (T.cells (.slice qX n dX)).toArray := hall 15 _ 40 (by rw [hns]; decide) po15 d15
        have e16 : A.eval (.tmp 41) = .agg (T.cells (.slice p n c)).toArray := hall 16 _ 41 (by rw [hns]; decide) po16 d16
        have e17 : A.eval (.tmp 42) = .bool true := hall 17 _ 42 (by rw [hns]; decide) po17 d17
        have e18 : A.eval (.tmp 43) = .bool true := hall 18 _ 43 (by rw [hns]; decide) po18 d18
        have e19 : A.eval (.tmp 44) = .bool true := hall 19 _ 44 (by rw [hns]; decide) po19 d19
        have e20 : A.eval (.tmp 45) = .bool true := hall 20 _ 45 (by rw [hns]; decide) po20 d20
        have e21 : A.eval (.tmp 46) = .bool true := hall 21 _ 46 (by rw [hns]; decide) po21 d21
        have hA := act_of_slots [25, 26, 27, 28, 29, 30, 31, 32, 33, 34, 35, 36, 37, 38, 39, 40, 41, 42, 43, 44, 45, 46, 6] _ hAs hdf (fun t ht => hfr t (hslots t ht))
        simp only [List.foldl_cons, List.foldl_nil] at hA
        rw [show rdA A 25 = A.eval (.tmp 25) from rfl, e0] at hA
        rw [show rdA A 26 = A.eval (.tmp 26) from rfl, e1] at hA
        rw [show rdA A 27 = A.eval (.tmp 27) from rfl, e2] at hA
        rw [show rdA A 28 = A.eval (.tmp 28) from rfl, e3] at hA
        rw [show rdA A 29 = A.eval (.tmp 29) from rfl, e4] at hA
        rw [show rdA A 30 = A.eval (.tmp 30) from rfl, e5] at hA
        rw [show rdA A 31 = A.eval (.tmp 31) from rfl, e6] at hA
        rw [show rdA A 32 = A.eval (.tmp 32) from rfl, e7] at hA
        rw [show rdA A 33 = A.eval (.tmp 33) from rfl, e8] at hA
        rw [show rdA A 34 = A.eval (.tmp 34) from rfl, e9] at hA
        rw [show rdA A 35 = A.eval (.tmp 35) from rfl, e10] at hA
        rw [show rdA A 36 = A.eval (.tmp 36) from rfl, e11] at hA
        rw [show rdA A 37 = A.eval (.tmp 37) from rfl, e12] at hA
        rw [show rdA A 38 = A.eval (.tmp 38) from rfl, e13] at hA
        rw [show rdA A 39 = A.eval (.tmp 39) from rfl, e14] at hA
        rw [show rdA A 40 = A.eval (.tmp 40) from rfl, e15] at hA
        rw [show rdA A 41 = A.eval (.tmp 41) from rfl, e16] at hA
        rw [show rdA A 42 = A.eval (.tmp 42) from rfl, e17] at hA
        rw [show rdA A 43 = A.eval (.tmp 43) from rfl, e18] at hA
        rw [show rdA A 44 = A.eval (.tmp 44) from rfl, e19] at hA
        rw [show rdA A 45 = A.eval (.tmp 45) from rfl, e20] at hA
        rw [show rdA A 46 = A.eval (.tmp 46) from rfl, e21] at hA
        obtain ⟨ul, hul⟩ : ∃ u, rdA A 6 = u := ⟨_, rfl⟩
        rw [hul] at hA
        clear hul
        rw [hns]
        have HSF := Lib.hid HS.1.below
        refine at_op po22 d22 (wanted_of gd22) (run_assign q22 e21 W) ?_
        clear hall hdf hAs hfr hslots hns hf3 hf4 hf7 po0 q0 d0 gd0 po1 q1 d1 gd1 po2 q2 d2 gd2 dp2_0 dp2_1 po3 q3 d3 gd3 po4 q4 d4 gd4 po5 q5 d5 gd5 dp5_3 dp5_4 po6 q6 d6 gd6 dp6_2 dp6_5 po7 q7 d7 gd7 dp7_6 po8 q8 d8 gd8 dp8_7 po9 q9 d9 gd9 dp9_8 dp9_7 po10 q10 d10 gd10 dp10_7 po11 q11 d11 gd11 dp11_10 dp11_7 po12 q12 d12 gd12 dp12_9 dp12_11 dp12_7 po13 q13 d13 gd13 dp13_7 dp13_12 po14 q14 d14 gd14 dp14_13 po15 q15 d15 gd15 dp15_14 po16 q16 d16 gd16 dp16_14 po17 q17 d17 gd17 dp17_15 dp17_16 dp17_14 po18 q18 d18 gd18 dp18_14 dp18_17 po19 q19 d19 gd19 dp19_18 po20 q20 d20 gd20 dp20_19 po21 q21 d21 gd21 dp21_19 dp21_20 po22 q22 d22 gd22 base3 base4 base7
        have HA9 := Lib.hid hA
        clear hA HS H7 e0 e1 e2 e3 e4 e5 e6 e7 e8 e9 e10 e11 e12 e13 e14 e15 e16 e17 e18 e19 e20 e21
        rw [HA9.out]
        go_frame
        go_wp2_with fail
        go_ret
        exact ⟨rfl, HSF.out⟩
  · go_wp2_with (first
      | (go_at_call 22; refine HLO.out.mono ?_; rintro e w1 ⟨rfl, rfl⟩; rw [hlo])
      | (go_at_call 23; refine HKN.out.mono ?_; rintro e w1 ⟨rfl, hb⟩; have HB := Lib.hid (HA.out.below.trans (hb.mono HA.out.below.size)); clear hb))
    go_ret
    exact ⟨rfl, HB.out⟩
end Go.Proofs.YtgeacocdnenhdaaDoor

/-
  TokenVerifies, for any root key, any token and either way: the law returns true, and what came in reads afterwards as it read before; the package's two tables start as the program's own text lays them (the tie is given).
-/
namespace Go.Proofs.YtgeacocdnenhdaaDoor
open Go.ChangeShapes Go.WideShapes Go.ChangeAt Go.RowKit Go.Proofs.ShaWords

set_option maxRecDepth 100000 in
theorem tokenVerifies_lifted (os : Os) (started : os.Started) (H : Type) (enc : TypeId × Value → H) :
    ReturnsInHanded {} Tryd.checked os 5 .any (fun w args => (Rows.tokenVerifiesSpec.pre enc Tryd.prog Tryd.f5 [] false w args ∧ laidMetH Tryd.prog laid14 w) ∧ sizedMet enc Tryd.prog Tryd.f5 (OpenSpec.ofChange Rows.tokenVerifiesSpec) false w args)
      (Rows.tokenVerifiesSpec.post enc Tryd.prog Tryd.f5 false true false false) := by
  refine returnsInHanded_of_change_and (C := Tryd.checked) (X := fun w _ => laidMetH Tryd.prog laid14 w) (fun _ _ _ hh h => h.of_heap hh) own started (by kernel_rfl) Tryd.func5
    (ChangeSpec.witness_shaped (enc := enc) (C := Tryd.checked) (os := os) (X := fun w _ => laidMetH Tryd.prog laid14 w) false (World.doorLaid Tryd.prog 400 os) #[.agg (Array.replicate 32 (.int .u8 0)), .agg (zeroTok.cells (.slice none 0 0)).toArray, .bool false] 8 rfl (World.shaped_of_RefB (by kernel_rfl) (by kernel_rfl)) (by kernel_rfl) (by kernel_rfl) (by kernel_rfl) (door_met14 os _)) ?_
  intro W base args ds gs before hval0 hW _ hsz hL _
  have hW' := hW
  obtain ⟨p, q, hA0, hV, rfl, hfz, hnd⟩ := hW
  have hA : DataW.TrodAll enc Tryd.prog W 0 (fun _ => true) true Tryd.f5.params.toList args.toList ds p := hA0
  have hval : ∀ (j : Nat) t v, Tryd.f5.params[j]? = some t → args[j]? = some v → Value.okWide Tryd.prog W .any base t v := hval0
  have hsz2 : (DataW.weightsEach Tryd.prog (Tryd.f5.params.toList ++ Rows.tokenVerifiesSpec.plain.varTypes Tryd.prog) (ds ++ gs)).all (· ≤ reachBytes) = true := hsz
  rw [Tryd.params5] at hA hval hsz2
  obtain ⟨v0, vs0, d0, ds0, p0, q0, hargs, rfl, rfl, h0, r0⟩ := trodAll_cons hA
  obtain ⟨v1, vs1, d1, ds1, p1, q1, rfl, rfl, rfl, h1, r1⟩ := trodAll_cons r0
  obtain ⟨v2, vs2, d2, ds2, p2, q2, rfl, rfl, rfl, h2, r2⟩ := trodAll_cons r1
  obtain ⟨rfl, rfl, rfl⟩ := trodAll_nil r2
  obtain rfl : args = #[v0, v1, v2] := by cases args; simp_all
  obtain ⟨rfl, rfl⟩ := trodVars_none hV
  obtain ⟨cs0, rfl⟩ := okWide_key (hval 0 23 v0 rfl rfl)
  have k0 := h0
  have lt0 : ∀ x ∈ p0, x.block < W.heap.size := by obtain ⟨m, hm⟩ := k0; exact DataW.trod_lt m _ _ _ hm
  obtain ⟨f0, hf0⟩ := h0
  obtain ⟨xs0, hx0a, hx0b⟩ := open_key hf0
  obtain rfl : cs0 = (bytesV xs0).toArray := by rw [← hx0b]; rfl
  obtain ⟨cs1, rfl⟩ := okWide_token (hval 1 50 v1 rfl rfl)
  have k1 := h1
  have lt1 : ∀ x ∈ p1, x.block < W.heap.size := by obtain ⟨m, hm⟩ := k1; exact DataW.trod_lt m _ _ _ hm
  obtain ⟨f1, hf1⟩ := h1
  obtain ⟨t1, p1g, n1, c1, hx1a, hx1b, hx1c, hx1d, hx1e, hx1f, hx1g⟩ := open_token hf1 (fun n hn => by have := List.all_eq_true.1 hsz2 n (DataW.weights_mem_each (j := 1) rfl rfl n hn); simpa using this)
  obtain rfl : cs1 = (t1.cells (.slice p1g n1 c1)).toArray := by rw [← hx1a]; rfl
  obtain ⟨b2, rfl, rfl, rfl⟩ := open_bool Tryd.underlying4 (hval 2 4 v2 rfl rfl) h2
  obtain ⟨hS, hK⟩ := of_laid14 hL
  clear hA0 hval0
  refine (tokVerifies_any xs0 t1 b2 n1 c1 p1g W hx0a hx1b hx1c hx1d hx1e hx1f hx1g hK hS).mono fun e W' ⟨he, bel⟩ => ?_
  subst he
  exact ⟨_, rfl, _, _, _, [], _, [], hW', trodAll_mk1 (shut_bool Tryd.underlying4 _), (trodAll_cons_mk (Below.trod laidOut (by kernel_rfl) (of_decide_eq_true (by kernel_rfl)) k0 bel lt0) (trodAll_cons_mk (Below.trod laidOut (by kernel_rfl) (of_decide_eq_true (by kernel_rfl)) k1 bel lt1) (trodAll_cons_mk (shut_bool Tryd.underlying4 b2) trodAll_mk0))), rfl, bel.frame _, fun h => by cases h⟩

theorem tokenVerifies_holds : Rows.TokenVerifiesSaid :=
  OpenClaim.holds_of_wide 5 Tryd.f5 rfl rfl rfl rfl rfl rfl rfl ⟨rfl, rfl, rfl, rfl, rfl⟩ rfl rfl rfl rfl rfl (by kernel_rfl) Tryd.func5 (by kernel_rfl)
    (of_decide_eq_true (by kernel_rfl)) (by unfold Func.isWrapper; first | (rw [if_pos (by decide +kernel)]; kernel_rfl) | (rw [if_neg (by decide +kernel)]; exact ⟨rfl, rfl⟩))
    (fun os started H enc _ => tokenVerifies_lifted os started H enc)

theorem tokenVerifies_card : Rows.TokenVerifiesCardSaid :=
  Claim7.holds_tied_plain_at .later [] [.data, .data] true Rows.tokenVerifiesCard.stood.harness false
    tokenVerifies_holds (fun _ h => by cases h) (by kernel_rfl) (fun _ h => by cases h) tokenVerifies_row_tie rfl ⟨rfl, rfl⟩ (by kernel_rfl) rfl
    (fun f fn hf hfn => by
      obtain rfl : f = 5 := Option.some.inj (hf.symm.trans (show _ = some 5 by kernel_rfl))
      obtain rfl : fn = Tryd.f5 := (Option.some.inj (Tryd.func5.symm.trans hfn)).symm
      exact ⟨by kernel_rfl, fun j t ht => by
        rw [Tryd.params5] at ht
        have hm : t ∈ [23, 50, 4] := by simpa using Array.mem_of_getElem? ht
        have hall : ([23, 50, 4].all fun u => !Tryd.prog.wantsStandIn u) = true := by kernel_rfl
        exact (show Tryd.prog.wantsStandIn t = false by simpa using List.all_eq_true.1 hall t hm)⟩)
    (by kernel_rfl)
#print axioms tokenVerifies_card
end Go.Proofs.YtgeacocdnenhdaaDoor
