/-
  WalFits, for any room and rows: the law returns true, and what came in reads afterwards as it read before; the package's table starts as the program's own text lays it (the tie is given).
-/
import Derived.Test.YteanjfcejpibaaaDoorPkH
import Derived.Deep.LoopGhost
import Derived.Test.YteanjfcejpibaaaDoorTie
import Derived.Test.YteanjfcejpibaaaDoorCards
import Derived.SevenTiedAt
/-
  WalFits: whatever is appended, no segment is longer than it may be, what is full refuses without anything being done, and all that was appended is told, in order.
-/
namespace Go.Proofs.YteanjfcejpibaaaDoor
open Go.RowKit Go.Proofs.ShaWords
section
variable {ρ : Operand → Value} {o : Oper} {x y : Operand}
theorem run_neqI3 {n : Int} {ty : TypeId} (ho : o.op = .binOp .neq 3 x y ty) (hx : ρ x = .int .i64 n) (hy : ρ y = .int .i64 n) (w : World) : (execOp ρ o).run Tryd.prog w = .ok (.value (.bool false)) w := by
  obtain ⟨dst, op, ty', pos, after, guard⟩ := o
  simp only at ho
  subst ho
  go_simp
theorem run_geqF {a b : Int} {ty : TypeId} (ho : o.op = .binOp .geq 3 x y ty) (hx : ρ x = .int .i64 a) (hy : ρ y = .int .i64 b) (h : ¬ b ≤ a) (w : World) : (execOp ρ o).run Tryd.prog w = .ok (.value (.bool false)) w := by
  obtain ⟨dst, op, ty', pos, after, guard⟩ := o
  simp only at ho
  subst ho
  go_simp
theorem run_loadRow3 {bb off : Nat} {u v t : Value} {w : World} (ho : o.op = .load 49 x) (hx : ρ x = .pointer (some ⟨bb, off, none⟩)) (h0 : w.cell? ⟨bb, off + 0, none⟩ = some u) (h1 : w.cell? ⟨bb, off + 1, none⟩ = some v) (h2 : w.cell? ⟨bb, off + 2, none⟩ = some t) : (execOp ρ o).run Tryd.prog w = .ok (.value (.agg #[u, v, t])) w := by
  have hl := run_loadAt_mid (P := Tryd.prog) w bb off 49 [u, v, t] _ (fun j y hy => by
    match j, hy with
    | 0, hy => simp only [List.getElem?_cons_zero, Option.some.injEq] at hy; subst hy; exact h0
    | 1, hy => simp only [List.getElem?_cons_succ, List.getElem?_cons_zero, Option.some.injEq] at hy; subst hy; exact h1
    | 2, hy => simp only [List.getElem?_cons_succ, List.getElem?_cons_zero, Option.some.injEq] at hy; subst hy; exact h2) Tryd.underlying49 rfl (show (Tryd.prog.info? 49).map (·.size) = some 3 by kernel_rfl)
  unfold execOp
  simp only [ho, hx, Sem.run_bind, hl, Result.andThen_ok, Sem.run_pure]
end
/-- Between two rounds. -/
structure FitR (lo : Nat) (w0 : World) (b g : Nat) (room : Nat) (k : Nat) (hv : Value) (vs : List Value) (d : DiskM) (E : Nat) (segs : Nat → List RowW) (all : List RowW) (L : List (Nat × Obj)) (A : World) : Prop where
  log : WaL lo A b g d E false L
  fits : FitsW d E segs all
  few : all.length ≤ k
  list : FrK lo L hv vs all
  below : Below lo w0 A
  room : d.room = room
  count : d.count ≤ 33 + 3 * k
theorem n8_rowF (kd sz : Int) (k : Nat) : 1 + (pickZ kd 254 : Int) = n8 (rowF kd sz k).1 := (rowF_n8 kd sz k).symm
attribute [local irreducible] rowBs
set_option maxRecDepth 1000000 in
set_option maxHeartbeats 4000000 in
theorem walFits_any (os : List InRow) (room : Int) (N c : Nat) (p : Option Addr) (w : World) (hN : os.length = N) (hO : RowOf 3 InRow.cells w p os) (hR : Rem w) :
    Calls Tryd.prog 5 #[.int .i64 room, .slice p N c] w fun e w' => e = .returned (.bool true) ∧ Below w.heap.size w w' := by
  have HO := Lib.hid hO
  have HN := Lib.hid hN
  have HR := Lib.hid hR
  have HG := Lib.hid hR.size
  have hpz := pickZ_lt room 16384 (by decide)
  have HPK := fun w => Lib.hid (pickZ_any room 16384 w (by decide) (by decide))
  obtain ⟨RM, hRM⟩ : ∃ RM, RM = pickZ room 16384 := ⟨_, rfl⟩
  rw [← hRM] at hpz HPK
  have hroom0 : (DiskM.new (RM : Int)).room = RM := by show (min (max (RM : Int) 0) 262144).toNat = RM; omega
  have HROOM := Lib.hid hroom0
  have HRML : Hid (RM < 16384 ∧ True) := show _ ∧ _ from ⟨by omega, trivial⟩
  clear hO hN hR hpz hRM hroom0
  go_enter Tryd.func5, Tryd.ntmps5
  go_wp2_with (first | (go_at_call 15; refine (HPK w).out.mono ?_; rintro e w1 ⟨rfl, rfl⟩))
  refine (dkNewL (RM : Int) w1).mono ?_
  rintro e w2 ⟨g, rfl, hi, hb⟩
  have HI2 := Lib.hid hi; have HB2 := Lib.hid hb; clear hi hb
  go_wp2_with fail
  refine (HI2.out.open HB2.out.size (HR.out.on HB2.out) (calm_new _) (by rw [new_count]; decide) (fun _ => []) [] (new_log _) (fun s _ _ => new_small _ s)).mono ?_
  rintro e w3 ⟨b, hv, vs, d0, L', rfl, hi, hb, hfr, -, hF, hcalm, hroom, hcnt⟩
  obtain ⟨q0, c0, rfl, -⟩ := hfr.sl9 (n := 0) rfl
  obtain ⟨kn, -, -⟩ := kn_open hF hcalm
  have H0 : Hid (FitR w1.heap.size w1 b g RM 0 (.slice none 0 0) [] d0 0 (fun _ => []) [] [] w3) := ⟨hi.fewer (fun x hx => absurd hx List.not_mem_nil), ⟨kn.live, hcalm, fun s h1 h2 => by omega, Nat.le_refl _, fun _ => rfl⟩, Nat.zero_le _, FrK.nil _, HB2.out.trans hb, hroom.trans HROOM.out, by rw [new_count] at hcnt; omega⟩
  clear hi hb hfr hF hcalm hroom hcnt kn HI2 HB2
  go_wp2_with fail
  go_loopg [9, 10] 60 (fun gk s9 s10 wx => ∃ (k : Nat) (hv : Value) (vs : List Value) (d : DiskM) (E : Nat) (segs : Nat → List RowW) (all : List RowW) (L : List (Nat × Obj)), k + gk = 60 ∧ s10 = .int .i64 (k : Int) ∧ s9 = hv ∧ k ≤ N ∧ FitR w1.heap.size w1 b g RM k hv vs d E segs all L wx)
  case atStart => exact ⟨0, _, [], d0, 0, _, [], [], by omega, rfl, rfl, Nat.zero_le _, H0.out⟩
  case round =>
    clear H0
    obtain ⟨k, hv, vs, d, E, segs, all, L, hkg, rfl, rfl, hkN, hI⟩ := hrel
    have hfr := hI.list.fr _ hI.log.all
    obtain ⟨NA, hNA⟩ : ∃ NA, all.length = NA := ⟨_, rfl⟩
    obtain ⟨q5, c5, rfl, -⟩ := hfr.sl9 hNA
    have HI := Lib.hid hI
    have HNA := Lib.hid hNA
    by_cases hlt : k < N ∧ k < 60
    · obtain ⟨hlt1, hlt2⟩ := hlt
      obtain ⟨g1, rfl⟩ : ∃ g1, gk = g1 + 1 := ⟨gk - 1, by omega⟩
      obtain ⟨o, hok⟩ : ∃ o, os[k]? = some o := ⟨_, List.getElem?_eq_getElem (by rw [HN.out]; exact hlt1)⟩
      obtain ⟨b0, off, rfl, hb0, hcs⟩ := HO.out.cellsAt hok (by show 0 < 3; decide)
      have k0 := hcs wr _ hI.below hb0 0 _ rfl
      have k1 := hcs wr _ hI.below hb0 1 _ rfl
      have k2 := hcs wr _ hI.below hb0 2 _ rfl
      have qk1 : (k : Int) < (N : Int) := by omega
      have qk2 : (k : Int) < 60 := by omega
      have HFM := Lib.hid (rowFrame_any o.kd o.sz o.sy k wr (by omega))
      have HK60 : Hid (k < 60 ∧ True) := ⟨hlt2, trivial⟩
      clear hI hfr hNA hcs hok hb0 hlt2
      go_wp2_with (first | (refine wpList_runL (by rfl) (run_loadRow3 rfl rfl k0 k1 k2) ?_) | (go_at_call 17; fail))
      refine HFM.out.mono ?_
      rintro e w4 ⟨b4, v, rfl, ho⟩
      obtain ⟨ql, cl, rfl, hcl, -, -⟩ := ho.slN (rowBs_length o.sz k)
      have hps := pickZ_lt o.sz 900 (by decide)
      obtain ⟨M, hM⟩ : ∃ M, M = pickZ o.sz 900 := ⟨_, rfl⟩
      rw [← hM] at ho hps ⊢
      have HLM : Hid ((rowBs o.sz k).length = M) := show _ = _ by rw [rowBs_length, hM]
      have HO4 := Lib.hid ho; have HB4 := Lib.hid b4
      clear ho b4 hM k0 k1 k2 HFM
      go_upto_region 12 with (fail)
      refine wp_gen (fun A => Below wr.heap.size wr A ∧ FrC A w4.heap.size (.int .i64 (1 + (pickZ o.kd 254 : Int))) (.slice ql M cl) ∧ Below w4.heap.size w4 A) ⟨HB4.out.trans (((Below.refl _ _).alloc (Nat.le_refl _) _).mono HB4.out.size), heap_new_at rfl, (Below.refl _ _).alloc (Nat.le_refl _) _⟩ ?_
      rintro A ⟨bA, fA, bA4⟩
      obtain ⟨Lf, hw5, hnf, hlf⟩ := HI.out.log.newF HI.out.below.size bA HB4.out.size fA (HO4.out.below bA4) HLM.out
      obtain ⟨F, hFF⟩ : ∃ F, F = w4.heap.size := ⟨_, rfl⟩
      rw [← hFF] at fA hnf ⊢
      have HW5 := Lib.hid hw5; have HNF := Lib.hid hnf; have HLF := Lib.hid hlf
      have HBA := Lib.hid (HI.out.below.trans (bA.mono HI.out.below.size))
      have HDJ : Hid (∀ x ∈ Lf, ∀ y ∈ L, y.1 ≠ x.1) := show ∀ x ∈ Lf, ∀ y ∈ L, _ from fun x hx y hy e => by
        have h1 := (hlf x hx).1
        have h2 := (Array.getElem?_eq_some_iff.1 (HI.out.log.all y hy)).1
        omega
      obtain ⟨f0, f1, -⟩ := fA.cells
      clear bA fA bA4 hw5 hnf hlf hFF
      go_wp2_with (first
        | (go_at_call 14; refine HW5.out.used.mono ?_; rintro e wq ⟨rfl, rfl⟩)
        | (go_at_call 18; refine HW5.out.seg.mono ?_; rintro e wq ⟨rfl, rfl⟩)
        | (go_at_call 16; fail))
      have hcall := HW5.out.append HBA.out.size HG.out (HR.out.on HBA.out) (by have := HI.out.count; have := HK60.out.1; omega) (1 + (pickZ o.kd 254 : Int)) (rowBs o.sz k) M cl ql HLM.out (by omega) (fun w' h _ => (HNF.out.fr w' (fun x hx => h x (List.mem_append_right _ hx))).2.lieW)
      have hstep := HI.out.fits.step (by have := HI.out.few; have := HK60.out.1; omega) (1 + (pickZ o.kd 254 : Int)) (rowF_kind o.kd) (rowF o.kd o.sz k) (rowF_ok o.kd o.sz k)
      have hcn := appendW_count d E false (1 + (pickZ o.kd 254 : Int)) (rowF o.kd o.sz k)
      have hcall : Calls Tryd.prog 16 #[.pointer (some ⟨b, 0, none⟩), .int .i64 (1 + (pickZ o.kd 254 : Int)), .slice ql M cl] A fun r w' => r = .returned (.int .i64 (appendW d E false (1 + (pickZ o.kd 254 : Int)) (rowF o.kd o.sz k)).e) ∧ WaL w1.heap.size w' b g (appendW d E false (1 + (pickZ o.kd 254 : Int)) (rowF o.kd o.sz k)).d (appendW d E false (1 + (pickZ o.kd 254 : Int)) (rowF o.kd o.sz k)).E (appendW d E false (1 + (pickZ o.kd 254 : Int)) (rowF o.kd o.sz k)).dead (L ++ Lf) ∧ Below w1.heap.size A w' := hcall
      have HKD : Hid (n8 (rowF o.kd o.sz k).1 = 1 + (pickZ o.kd 254 : Int)) := show _ = _ from rowF_n8 o.kd o.sz k
      have HLR : Hid ((rowF o.kd o.sz k).2.length = M) := show _ = _ from HLM.out
      have HNF : Hid (NewF w1.heap.size Lf F (1 + (pickZ o.kd 254 : Int)) ql M cl (rowF o.kd o.sz k).2) := show NewF _ _ _ _ _ _ _ _ from HNF.out
      generalize rowF o.kd o.sz k = f at hcall hstep hcn HKD HLR HNF
      generalize 1 + (pickZ o.kd 254 : Int) = z at hcall hstep hcn HKD HNF ⊢
      rcases hstep with ⟨hroom, ha, ⟨segs', hfw⟩, hlen⟩ | ⟨hfull, hr⟩
      · obtain ⟨r, hr⟩ : ∃ r, r = appendW d E false z f := ⟨_, rfl⟩
        rw [← hr] at hcall hcn ha hfw hlen
        obtain ⟨d2, E2, dd, e2⟩ := r
        have he := ha.e; have hdd := ha.dead; have hus := ha.used; have hseg := ha.seg; have hrm := ha.room
        simp only at he hdd hus hseg hrm hcall hcn hlen hfw
        subst he hdd
        have hnd : M + 9 ≤ needW d E f.2.length ∧ needW d E f.2.length ≤ M + 26 := by
          unfold needW
          rw [HLR.out]
          split <;> omega
        generalize needW d E f.2.length = nd at hus hnd
        have hE2 : E2 ≤ E + 1 := by rw [hseg]; split <;> omega
        have HLEN := Lib.hid (And.intro hlen trivial)
        have HFW := Lib.hid hfw
        have HUS := Lib.hid (And.intro hus hnd)
        have HE2 := Lib.hid (And.intro hE2 trivial)
        have HRM2 := Lib.hid hrm
        have HCN := Lib.hid (And.intro hcn trivial)
        have HCALL := Lib.hid hcall
        clear hr ha hroom hus hseg hrm hnd hE2 hlen hfw hcn hcall f0 f1
        refine HCALL.out.mono ?_
        rintro e w6 ⟨rfl, hi6, hb6⟩
        have HI6 := Lib.hid hi6
        have HB6 := Lib.hid (HBA.out.trans hb6)
        clear hi6 hb6 HCALL
        have hfr6 := HI.out.list.fr w6 (fun x hx => HI6.out.all x (List.mem_append_left _ hx))
        have hrow := hfr6.rows
        rw [HNA.out] at hrow
        have HROW := Lib.hid hrow
        obtain ⟨fC6, -⟩ := HNF.out.fr w6 (fun x hx => HI6.out.all x (List.mem_append_right _ hx))
        have HFC6 := Lib.hid fC6
        have HFB : Hid ((Value.slice q5 NA c5).ownBlock ≠ some F) := show _ ≠ _ from fun e => by
          obtain ⟨o', ho'⟩ := HI.out.list.whole F (Or.inl e)
          obtain ⟨o2, ho2⟩ := HNF.out.blk
          exact HDJ.out _ ho2 _ ho' rfl
        have h2c : ∀ u ∈ [Value.int .i64 z, .slice ql M cl], u.oneCell' = true := by
          intro u hu
          simp only [List.mem_cons, List.not_mem_nil, or_false] at hu
          rcases hu with rfl | rfl <;> rfl
        have hs6 := HB6.out.size
        have hNA6 : NA ≤ 1000000 := by have := HI.out.few; have := HNA.out; have := HK60.out.1; omega
        clear hfr6 hrow
        go_upto_region 16 with (fail)
        refine wp_region_lit ?_
        refine wpList_runL (by rfl) (run_move rfl rfl _) ?_
        refine wpList_runL (by rfl) (run_loadFrW rfl rfl fC6) ?_
        refine wpList_runL (by rfl) (frT.run_one rfl rfl rfl _) ?_
        refine frT.wpList_append (base := w1.heap.size) (n := NA) (C := #[.int .i64 z, .slice ql M cl]) (by rfl) rfl rfl (HROW.out.alloc _) rfl (heap_new_at rfl) rfl h2c hNA6 (by rw [size_alloc]; omega) ?_
        intro v7 w7 hrow7 hg7 ho7
        have hba : Below w6.heap.size w6 (w6.alloc (.cells #[.int .i64 z, .slice ql M cl] 46)) := (Below.refl _ _).alloc (Nat.le_refl _) _
        have hf7 : FrC w7 F (.int .i64 z) (.slice ql M cl) := (hg7.block F (by have := HFC6.out.lt; have := hba.size; omega) (fun e => HFB.out e.symm)).trans (HFC6.out.on hba)
        have hb7 : Below w1.heap.size w1 w7 := (HB6.out.trans (hba.mono HB6.out.size)).grown hg7 (by rw [size_alloc]; omega) (fun j e => (World.ownsRow.lt HROW.out j e).1)
        obtain ⟨L7, k7, i7⟩ := HI6.out.snoc (f := f) HI.out.list HNF.out HDJ.out (by rw [HNA.out, HKD.out]; exact hrow7) hg7 ho7
        obtain ⟨q7, c7, rfl, -⟩ := (k7.fr w7 i7.all).sl9 (n := NA + 1) (by rw [List.length_append, HNA.out]; rfl)
        have HK7 := Lib.hid k7; have HI7 := Lib.hid i7; have HB7 := Lib.hid hb7
        have HC1 : Hid (∀ w', Below w7.heap.size w7 w' → w'.cell? ⟨F, 0 + 1, none⟩ = some (.slice ql M cl)) := show ∀ w', _ → _ from fun w' hb => (hf7.on hb).cells.2.1
        clear hrow7 hg7 ho7 hba hf7 hb7 k7 i7 fC6 HROW h2c hs6 hNA6
        go_frame
        go_upto_region 17 with (fail)
        have HD : Hid (Below w7.heap.size w7 w7.drew) := show Below _ _ _ from (Below.refl _ _).drew
        have HID := Lib.hid (HI7.out.below HD.out)
        have hle2 := HI7.out.le
        have HRDE : Hid (d2.read (E2 : Int) = (d2.files E2).all) := show _ = _ by
          unfold DiskM.read
          rw [if_pos (by omega), Int.toNat_natCast]
        obtain ⟨LE, hLE⟩ : ∃ LE, (d2.files E2).all.length = LE := ⟨_, rfl⟩
        have HLE := Lib.hid hLE
        have hLE2 : LE ≤ 2048 := by rw [← hLE]; exact HLEN.out.1
        obtain ⟨hus, hnd1, hnd2⟩ := HUS.out
        have hE2 := HE2.out.1
        have huk := HI7.out.ok.used
        have hrk := HI7.out.ok.room
        have hE32 := HI.out.log.le
        clear hLE
        refine region_phase (fun w' => Below w7.heap.size w7 w') (fun _ => True) 1 (HD.out) trivial [(0, .free), (2, .free), (3, .free), (4, .free), (5, .free), (6, .free), (7, .free), (1, .behind), (8, .free), (9, .free), (10, .free), (12, .free), (13, .free), (14, .free), (15, .free), (16, .free), (17, .free), (11, .behind), (18, .free), (19, .free), (20, .free), (21, .free), (23, .free), (24, .free), (22, .behind), (25, .free), (26, .free), (27, .free), (28, .free), (29, .free), (30, .behind), (31, .behind), (32, .free), (33, .free), (34, .free)] (by kernel_rfl) (by kernel_rfl) (by kernel_rfl) (by kernel_rfl) (fun ops hops A hA => ?_)
        have hsz : A.tmps.size = 140 := by rw [hA]; rfl
        have base5 : A.eval (.tmp 5) = .pointer (some ⟨g, 0, none⟩) := by rw [hA]; rfl
        have base6 : A.eval (.tmp 6) = .pointer (some ⟨b, 0, none⟩) := by rw [hA]; rfl
        have base11 : A.eval (.tmp 11) = .pointer (some ⟨F, 0, none⟩) := by rw [hA]; rfl
        have base12 : A.eval (.tmp 12) = .int .i64 (d.used : Int) := by rw [hA]; rfl
        have base13 : A.eval (.tmp 13) = .int .i64 (E : Int) := by rw [hA]; rfl
        have HAA := Lib.hid hA; clear hA
        obtain ⟨o0, po0, q0, d0, gd0⟩ : ∃ o, ops[0]? = some o ∧ o.op = .move (.tmp 5) ∧ o.dst = some 66 ∧ o.guard = none := ⟨_, by rw [hops]; rfl, rfl, rfl, rfl⟩
        obtain ⟨o1, po1, q1, d1, gd1⟩ : ∃ o, ops[1]? = some o ∧ o.op = .call { callee := .value (.func 14), args := #[.tmp 66], argTypes := #[23] } ∧ o.dst = some 67 ∧ o.guard = none := ⟨_, by rw [hops]; rfl, rfl, rfl, rfl⟩
        obtain ⟨o2, po2, q2, d2, gd2⟩ : ∃ o, ops[2]? = some o ∧ o.op = .move (.tmp 12) ∧ o.dst = some 68 ∧ o.guard = none := ⟨_, by rw [hops]; rfl, rfl, rfl, rfl⟩
        obtain ⟨o3, po3, q3, d3, gd3⟩ : ∃ o, ops[3]? = some o ∧ o.op = .binOp .add 3 (.tmp 68) (.const (.int .i64 9)) 3 ∧ o.dst = some 69 ∧ o.guard = none := ⟨_, by rw [hops]; rfl, rfl, rfl, rfl⟩
        obtain ⟨o4, po4, q4, d4, gd4⟩ : ∃ o, ops[4]? = some o ∧ o.op = .fieldAddr 46 (.tmp 11) 1 ∧ o.dst = some 70 ∧ o.guard = none := ⟨_, by rw [hops]; rfl, rfl, rfl, rfl⟩
        obtain ⟨o5, po5, q5, d5, gd5⟩ : ∃ o, ops[5]? = some o ∧ o.op = .load 41 (.tmp 70) ∧ o.dst = some 71 ∧ o.guard = none := ⟨_, by rw [hops]; rfl, rfl, rfl, rfl⟩
        obtain ⟨o6, po6, q6, d6, gd6⟩ : ∃ o, ops[6]? = some o ∧ o.op = .call { callee := .builtin .len, args := #[.tmp 71], argTypes := #[41] } ∧ o.dst = some 72 ∧ o.guard = none := ⟨_, by rw [hops]; rfl, rfl, rfl, rfl⟩
        obtain ⟨o7, po7, q7, d7, gd7⟩ : ∃ o, ops[7]? = some o ∧ o.op = .binOp .add 3 (.tmp 69) (.tmp 72) 3 ∧ o.dst = some 73 ∧ o.guard = none := ⟨_, by rw [hops]; rfl, rfl, rfl, rfl⟩
        obtain ⟨o8, po8, q8, d8, gd8⟩ : ∃ o, ops[8]? = some o ∧ o.op = .binOp .lss 3 (.tmp 67) (.tmp 73) 3 ∧ o.dst = some 74 ∧ o.guard = none := ⟨_, by rw [hops]; rfl, rfl, rfl, rfl⟩
        obtain ⟨o9, po9, q9, d9, gd9⟩ : ∃ o, ops[9]? = some o ∧ o.op = .move (.tmp 74) ∧ o.dst = some 75 ∧ o.guard = none := ⟨_, by rw [hops]; rfl, rfl, rfl, rfl⟩
        obtain ⟨o10, po10, q10, d10, gd10⟩ : ∃ o, ops[10]? = some o ∧ o.op = .move (.tmp 5) ∧ o.dst = some 76 ∧ o.guard = some (9, false) := ⟨_, by rw [hops]; rfl, rfl, rfl, rfl⟩
        obtain ⟨o11, po11, q11, d11, gd11⟩ : ∃ o, ops[11]? = some o ∧ o.op = .call { callee := .value (.func 14), args := #[.tmp 76], argTypes := #[23] } ∧ o.dst = some 77 ∧ o.guard = some (9, false) := ⟨_, by rw [hops]; rfl, rfl, rfl, rfl⟩
        obtain ⟨o12, po12, q12, d12, gd12⟩ : ∃ o, ops[12]? = some o ∧ o.op = .move (.tmp 12) ∧ o.dst = some 78 ∧ o.guard = some (9, false) := ⟨_, by rw [hops]; rfl, rfl, rfl, rfl⟩
        obtain ⟨o13, po13, q13, d13, gd13⟩ : ∃ o, ops[13]? = some o ∧ o.op = .binOp .add 3 (.tmp 78) (.const (.int .i64 26)) 3 ∧ o.dst = some 79 ∧ o.guard = some (9, false) := ⟨_, by rw [hops]; rfl, rfl, rfl, rfl⟩
        obtain ⟨o14, po14, q14, d14, gd14⟩ : ∃ o, ops[14]? = some o ∧ o.op = .fieldAddr 46 (.tmp 11) 1 ∧ o.dst = some 80 ∧ o.guard = some (9, false) := ⟨_, by rw [hops]; rfl, rfl, rfl, rfl⟩
        obtain ⟨o15, po15, q15, d15, gd15⟩ : ∃ o, ops[15]? = some o ∧ o.op = .load 41 (.tmp 80) ∧ o.dst = some 81 ∧ o.guard = some (9, false) := ⟨_, by rw [hops]; rfl, rfl, rfl, rfl⟩
        obtain ⟨o16, po16, q16, d16, gd16⟩ : ∃ o, ops[16]? = some o ∧ o.op = .call { callee := .builtin .len, args := #[.tmp 81], argTypes := #[41] } ∧ o.dst = some 82 ∧ o.guard = some (9, false) := ⟨_, by rw [hops]; rfl, rfl, rfl, rfl⟩
        obtain ⟨o17, po17, q17, d17, gd17⟩ : ∃ o, ops[17]? = some o ∧ o.op = .binOp .add 3 (.tmp 79) (.tmp 82) 3 ∧ o.dst = some 83 ∧ o.guard = some (9, false) := ⟨_, by rw [hops]; rfl, rfl, rfl, rfl⟩
        obtain ⟨o18, po18, q18, d18, gd18⟩ : ∃ o, ops[18]? = some o ∧ o.op = .binOp .gtr 3 (.tmp 77) (.tmp 83) 3 ∧ o.dst = some 84 ∧ o.guard = some (9, false) := ⟨_, by rw [hops]; rfl, rfl, rfl, rfl⟩
        obtain ⟨o19, po19, q19, d19, gd19⟩ : ∃ o, ops[19]? = some o ∧ o.op = .pick (.tmp 75) (.const (.bool true)) (.tmp 84) ∧ o.dst = some 85 ∧ o.guard = none := ⟨_, by rw [hops]; rfl, rfl, rfl, rfl⟩
        obtain ⟨o20, po20, q20, d20, gd20⟩ : ∃ o, ops[20]? = some o ∧ o.op = .move (.tmp 85) ∧ o.dst = some 86 ∧ o.guard = none := ⟨_, by rw [hops]; rfl, rfl, rfl, rfl⟩
        obtain ⟨o21, po21, q21, d21, gd21⟩ : ∃ o, ops[21]? = some o ∧ o.op = .move (.tmp 6) ∧ o.dst = some 87 ∧ o.guard = some (20, false) := ⟨_, by rw [hops]; rfl, rfl, rfl, rfl⟩
        obtain ⟨o22, po22, q22, d22, gd22⟩ : ∃ o, ops[22]? = some o ∧ o.op = .call { callee := .value (.func 18), args := #[.tmp 87], argTypes := #[25] } ∧ o.dst = some 88 ∧ o.guard = some (20, false) := ⟨_, by rw [hops]; rfl, rfl, rfl, rfl⟩
        obtain ⟨o23, po23, q23, d23, gd23⟩ : ∃ o, ops[23]? = some o ∧ o.op = .move (.tmp 13) ∧ o.dst = some 89 ∧ o.guard = some (20, false) := ⟨_, by rw [hops]; rfl, rfl, rfl, rfl⟩
        obtain ⟨o24, po24, q24, d24, gd24⟩ : ∃ o, ops[24]? = some o ∧ o.op = .binOp .add 3 (.tmp 89) (.const (.int .i64 1)) 3 ∧ o.dst = some 90 ∧ o.guard = some (20, false) := ⟨_, by rw [hops]; rfl, rfl, rfl, rfl⟩
        obtain ⟨o25, po25, q25, d25, gd25⟩ : ∃ o, ops[25]? = some o ∧ o.op = .binOp .gtr 3 (.tmp 88) (.tmp 90) 3 ∧ o.dst = some 91 ∧ o.guard = some (20, false) := ⟨_, by rw [hops]; rfl, rfl, rfl, rfl⟩
        obtain ⟨o26, po26, q26, d26, gd26⟩ : ∃ o, ops[26]? = some o ∧ o.op = .pick (.tmp 86) (.const (.bool true)) (.tmp 91) ∧ o.dst = some 92 ∧ o.guard = none := ⟨_, by rw [hops]; rfl, rfl, rfl, rfl⟩
        obtain ⟨o27, po27, q27, d27, gd27⟩ : ∃ o, ops[27]? = some o ∧ o.op = .move (.tmp 92) ∧ o.dst = some 93 ∧ o.guard = none := ⟨_, by rw [hops]; rfl, rfl, rfl, rfl⟩
        obtain ⟨o28, po28, q28, d28, gd28⟩ : ∃ o, ops[28]? = some o ∧ o.op = .move (.tmp 5) ∧ o.dst = some 94 ∧ o.guard = some (27, false) := ⟨_, by rw [hops]; rfl, rfl, rfl, rfl⟩
        obtain ⟨o29, po29, q29, d29, gd29⟩ : ∃ o, ops[29]? = some o ∧ o.op = .move (.tmp 6) ∧ o.dst = some 95 ∧ o.guard = some (27, false) := ⟨_, by rw [hops]; rfl, rfl, rfl, rfl⟩
        obtain ⟨o30, po30, q30, d30, gd30⟩ : ∃ o, ops[30]? = some o ∧ o.op = .call { callee := .value (.func 18), args := #[.tmp 95], argTypes := #[25] } ∧ o.dst = some 96 ∧ o.guard = some (27, false) := ⟨_, by rw [hops]; rfl, rfl, rfl, rfl⟩
        obtain ⟨o31, po31, q31, d31, gd31⟩ : ∃ o, ops[31]? = some o ∧ o.op = .call { callee := .value (.func 19), args := #[.tmp 94, .tmp 96], argTypes := #[23, 3] } ∧ o.dst = some 97 ∧ o.guard = some (27, false) := ⟨_, by rw [hops]; rfl, rfl, rfl, rfl⟩
        obtain ⟨o32, po32, q32, d32, gd32⟩ : ∃ o, ops[32]? = some o ∧ o.op = .call { callee := .builtin .len, args := #[.tmp 97], argTypes := #[41] } ∧ o.dst = some 98 ∧ o.guard = some (27, false) := ⟨_, by rw [hops]; rfl, rfl, rfl, rfl⟩
        obtain ⟨o33, po33, q33, d33, gd33⟩ : ∃ o, ops[33]? = some o ∧ o.op = .binOp .gtr 3 (.tmp 98) (.const (.int .i64 2048)) 3 ∧ o.dst = some 99 ∧ o.guard = some (27, false) := ⟨_, by rw [hops]; rfl, rfl, rfl, rfl⟩
        obtain ⟨o34, po34, q34, d34, gd34⟩ : ∃ o, ops[34]? = some o ∧ o.op = .pick (.tmp 93) (.const (.bool true)) (.tmp 99) ∧ o.dst = some 100 ∧ o.guard = none := ⟨_, by rw [hops]; rfl, rfl, rfl, rfl⟩
        clear hops
        refine met_free po0 d0 (wanted_of gd0) (fun w' h' => run_move q0 base5 w') ?_
        refine met_free po2 d2 (wanted_of gd2) (fun w' h' => run_move q2 ((eval_other _ 66 12 _ (by decide)).trans base12) w') ?_
        refine met_free po3 d3 (wanted_of gd3) (fun w' h' => run_addI (b := 9) q3 (eval_same _ _ _ (by simp only [put_size, hsz]; decide)) rfl (by omega) w') ?_
        refine met_free po4 d4 (wanted_of gd4) (fun w' h' => run_fieldFr q4 (by decide) ((eval_other _ 69 11 _ (by decide)).trans ((eval_other _ 68 11 _ (by decide)).trans ((eval_other _ 66 11 _ (by decide)).trans base11))) w') ?_
        refine met_free po5 d5 (wanted_of gd5) (fun w' h' => run_loadSlice q5 (eval_same _ _ _ (by simp only [put_size, hsz]; decide)) (HC1.out _ h')) ?_
        refine met_free po6 d6 (wanted_of gd6) (fun w' h' => run_len26 q6 (eval_same _ _ _ (by simp only [put_size, hsz]; decide)) w') ?_
        refine met_free po7 d7 (wanted_of gd7) (fun w' h' => run_addI q7 ((eval_other _ 72 69 _ (by decide)).trans ((eval_other _ 71 69 _ (by decide)).trans ((eval_other _ 70 69 _ (by decide)).trans (eval_same _ _ _ (by simp only [put_size, hsz]; decide))))) (eval_same _ _ _ (by simp only [put_size, hsz]; decide)) (by omega) w') ?_
        refine m_enter po1 d1 (wanted_of gd1) (run_callf1 q1 rfl ((eval_other _ 73 66 _ (by decide)).trans ((eval_other _ 72 66 _ (by decide)).trans ((eval_other _ 71 66 _ (by decide)).trans ((eval_other _ 70 66 _ (by decide)).trans ((eval_other _ 69 66 _ (by decide)).trans ((eval_other _ 68 66 _ (by decide)).trans (eval_same _ _ _ (by rw [hsz]; decide)))))))) Tryd.func14 (by kernel_rfl) _) (HID.out.used) ?_
        rintro e wq ⟨rfl, rfl⟩
        refine ⟨_, rfl, HD.out, ?_⟩
        refine met_free po8 d8 (wanted_of gd8) (fun w' h' => run_lssF q8 (eval_same _ _ _ (by simp only [put_size, hsz]; decide)) ((eval_other _ 67 73 _ (by decide)).trans (eval_same _ _ _ (by simp only [put_size, hsz]; decide))) (by omega) w') ?_
        refine met_free po9 d9 (wanted_of gd9) (fun w' h' => run_move q9 (eval_same _ _ _ (by simp only [put_size, hsz]; decide)) w') ?_
        refine met_free po10 d10 (wanted_guardF gd10 po9 d9 (eval_same _ _ _ (by simp only [put_size, hsz]; decide))) (fun w' h' => run_move q10 ((eval_other _ 75 5 _ (by decide)).trans ((eval_other _ 74 5 _ (by decide)).trans ((eval_other _ 67 5 _ (by decide)).trans ((eval_other _ 73 5 _ (by decide)).trans ((eval_other _ 72 5 _ (by decide)).trans ((eval_other _ 71 5 _ (by decide)).trans ((eval_other _ 70 5 _ (by decide)).trans ((eval_other _ 69 5 _ (by decide)).trans ((eval_other _ 68 5 _ (by decide)).trans ((eval_other _ 66 5 _ (by decide)).trans base5)))))))))) w') ?_
        refine met_free po12 d12 (wanted_guardF gd12 po9 d9 ((eval_other _ 76 75 _ (by decide)).trans (eval_same _ _ _ (by simp only [put_size, hsz]; decide)))) (fun w' h' => run_move q12 ((eval_other _ 76 12 _ (by decide)).trans ((eval_other _ 75 12 _ (by decide)).trans ((eval_other _ 74 12 _ (by decide)).trans ((eval_other _ 67 12 _ (by decide)).trans ((eval_other _ 73 12 _ (by decide)).trans ((eval_other _ 72 12 _ (by decide)).trans ((eval_other _ 71 12 _ (by decide)).trans ((eval_other _ 70 12 _ (by decide)).trans ((eval_other _ 69 12 _ (by decide)).trans ((eval_other _ 68 12 _ (by decide)).trans ((eval_other _ 66 12 _ (by decide)).trans base12))))))))))) w') ?_
        refine met_free po13 d13 (wanted_guardF gd13 po9 d9 ((eval_other _ 78 75 _ (by decide)).trans ((eval_other _ 76 75 _ (by decide)).trans (eval_same _ _ _ (by simp only [put_size, hsz]; decide))))) (fun w' h' => run_addI (b := 26) q13 (eval_same _ _ _ (by simp only [put_size, hsz]; decide)) rfl (by omega) w') ?_
        refine met_free po14 d14 (wanted_guardF gd14 po9 d9 ((eval_other _ 79 75 _ (by decide)).trans ((eval_other _ 78 75 _ (by decide)).trans ((eval_other _ 76 75 _ (by decide)).trans (eval_same _ _ _ (by simp only [put_size, hsz]; decide)))))) (fun w' h' => run_fieldFr q14 (by decide) ((eval_other _ 79 11 _ (by decide)).trans ((eval_other _ 78 11 _ (by decide)).trans ((eval_other _ 76 11 _ (by decide)).trans ((eval_other _ 75 11 _ (by decide)).trans ((eval_other _ 74 11 _ (by decide)).trans ((eval_other _ 67 11 _ (by decide)).trans ((eval_other _ 73 11 _ (by decide)).trans ((eval_other _ 72 11 _ (by decide)).trans ((eval_other _ 71 11 _ (by decide)).trans ((eval_other _ 70 11 _ (by decide)).trans ((eval_other _ 69 11 _ (by decide)).trans ((eval_other _ 68 11 _ (by decide)).trans ((eval_other _ 66 11 _ (by decide)).trans base11))))))))))))) w') ?_
        refine met_free po15 d15 (wanted_guardF gd15 po9 d9 ((eval_other _ 80 75 _ (by decide)).trans ((eval_other _ 79 75 _ (by decide)).trans ((eval_other _ 78 75 _ (by decide)).trans ((eval_other _ 76 75 _ (by decide)).trans (eval_same _ _ _ (by simp only [put_size, hsz]; decide))))))) (fun w' h' => run_loadSlice q15 (eval_same _ _ _ (by simp only [put_size, hsz]; decide)) (HC1.out _ h')) ?_
        refine met_free po16 d16 (wanted_guardF gd16 po9 d9 ((eval_other _ 81 75 _ (by decide)).trans ((eval_other _ 80 75 _ (by decide)).trans ((eval_other _ 79 75 _ (by decide)).trans ((eval_other _ 78 75 _ (by decide)).trans ((eval_other _ 76 75 _ (by decide)).trans (eval_same _ _ _ (by simp only [put_size, hsz]; decide)))))))) (fun w' h' => run_len26 q16 (eval_same _ _ _ (by simp only [put_size, hsz]; decide)) w') ?_
        refine met_free po17 d17 (wanted_guardF gd17 po9 d9 ((eval_other _ 82 75 _ (by decide)).trans ((eval_other _ 81 75 _ (by decide)).trans ((eval_other _ 80 75 _ (by decide)).trans ((eval_other _ 79 75 _ (by decide)).trans ((eval_other _ 78 75 _ (by decide)).trans ((eval_other _ 76 75 _ (by decide)).trans (eval_same _ _ _ (by simp only [put_size, hsz]; decide))))))))) (fun w' h' => run_addI q17 ((eval_other _ 82 79 _ (by decide)).trans ((eval_other _ 81 79 _ (by decide)).trans ((eval_other _ 80 79 _ (by decide)).trans (eval_same _ _ _ (by simp only [put_size, hsz]; decide))))) (eval_same _ _ _ (by simp only [put_size, hsz]; decide)) (by omega) w') ?_
        refine m_enter po11 d11 (wanted_guardF gd11 po9 d9 ((eval_other _ 83 75 _ (by decide)).trans ((eval_other _ 82 75 _ (by decide)).trans ((eval_other _ 81 75 _ (by decide)).trans ((eval_other _ 80 75 _ (by decide)).trans ((eval_other _ 79 75 _ (by decide)).trans ((eval_other _ 78 75 _ (by decide)).trans ((eval_other _ 76 75 _ (by decide)).trans (eval_same _ _ _ (by simp only [put_size, hsz]; decide)))))))))) (run_callf1 q11 rfl ((eval_other _ 83 76 _ (by decide)).trans ((eval_other _ 82 76 _ (by decide)).trans ((eval_other _ 81 76 _ (by decide)).trans ((eval_other _ 80 76 _ (by decide)).trans ((eval_other _ 79 76 _ (by decide)).trans ((eval_other _ 78 76 _ (by decide)).trans (eval_same _ _ _ (by simp only [put_size, hsz]; decide)))))))) Tryd.func14 (by kernel_rfl) _) (HID.out.used) ?_
        rintro e wq ⟨rfl, rfl⟩
        refine ⟨_, rfl, HD.out, ?_⟩
        refine met_free po18 d18 (wanted_guardF gd18 po9 d9 ((eval_other _ 77 75 _ (by decide)).trans ((eval_other _ 83 75 _ (by decide)).trans ((eval_other _ 82 75 _ (by decide)).trans ((eval_other _ 81 75 _ (by decide)).trans ((eval_other _ 80 75 _ (by decide)).trans ((eval_other _ 79 75 _ (by decide)).trans ((eval_other _ 78 75 _ (by decide)).trans ((eval_other _ 76 75 _ (by decide)).trans (eval_same _ _ _ (by simp only [put_size, hsz]; decide))))))))))) (fun w' h' => run_gtrF q18 (eval_same _ _ _ (by simp only [put_size, hsz]; decide)) ((eval_other _ 77 83 _ (by decide)).trans (eval_same _ _ _ (by simp only [put_size, hsz]; decide))) (by omega) w') ?_
        refine met_free po19 d19 (wanted_of gd19) (fun w' h' => r_pickF q19 ((eval_other _ 84 75 _ (by decide)).trans ((eval_other _ 77 75 _ (by decide)).trans ((eval_other _ 83 75 _ (by decide)).trans ((eval_other _ 82 75 _ (by decide)).trans ((eval_other _ 81 75 _ (by decide)).trans ((eval_other _ 80 75 _ (by decide)).trans ((eval_other _ 79 75 _ (by decide)).trans ((eval_other _ 78 75 _ (by decide)).trans ((eval_other _ 76 75 _ (by decide)).trans (eval_same _ _ _ (by simp only [put_size, hsz]; decide))))))))))) (eval_same _ _ _ (by simp only [put_size, hsz]; decide)) w') ?_
        refine met_free po20 d20 (wanted_of gd20) (fun w' h' => run_move q20 (eval_same _ _ _ (by simp only [put_size, hsz]; decide)) w') ?_
        refine met_free po21 d21 (wanted_guardF gd21 po20 d20 (eval_same _ _ _ (by simp only [put_size, hsz]; decide))) (fun w' h' => run_move q21 ((eval_other _ 86 6 _ (by decide)).trans ((eval_other _ 85 6 _ (by decide)).trans ((eval_other _ 84 6 _ (by decide)).trans ((eval_other _ 77 6 _ (by decide)).trans ((eval_other _ 83 6 _ (by decide)).trans ((eval_other _ 82 6 _ (by decide)).trans ((eval_other _ 81 6 _ (by decide)).trans ((eval_other _ 80 6 _ (by decide)).trans ((eval_other _ 79 6 _ (by decide)).trans ((eval_other _ 78 6 _ (by decide)).trans ((eval_other _ 76 6 _ (by decide)).trans ((eval_other _ 75 6 _ (by decide)).trans ((eval_other _ 74 6 _ (by decide)).trans ((eval_other _ 67 6 _ (by decide)).trans ((eval_other _ 73 6 _ (by decide)).trans ((eval_other _ 72 6 _ (by decide)).trans ((eval_other _ 71 6 _ (by decide)).trans ((eval_other _ 70 6 _ (by decide)).trans ((eval_other _ 69 6 _ (by decide)).trans ((eval_other _ 68 6 _ (by decide)).trans ((eval_other _ 66 6 _ (by decide)).trans base6))))))))))))))))))))) w') ?_
        refine met_free po23 d23 (wanted_guardF gd23 po20 d20 ((eval_other _ 87 86 _ (by decide)).trans (eval_same _ _ _ (by simp only [put_size, hsz]; decide)))) (fun w' h' => run_move q23 ((eval_other _ 87 13 _ (by decide)).trans ((eval_other _ 86 13 _ (by decide)).trans ((eval_other _ 85 13 _ (by decide)).trans ((eval_other _ 84 13 _ (by decide)).trans ((eval_other _ 77 13 _ (by decide)).trans ((eval_other _ 83 13 _ (by decide)).trans ((eval_other _ 82 13 _ (by decide)).trans ((eval_other _ 81 13 _ (by decide)).trans ((eval_other _ 80 13 _ (by decide)).trans ((eval_other _ 79 13 _ (by decide)).trans ((eval_other _ 78 13 _ (by decide)).trans ((eval_other _ 76 13 _ (by decide)).trans ((eval_other _ 75 13 _ (by decide)).trans ((eval_other _ 74 13 _ (by decide)).trans ((eval_other _ 67 13 _ (by decide)).trans ((eval_other _ 73 13 _ (by decide)).trans ((eval_other _ 72 13 _ (by decide)).trans ((eval_other _ 71 13 _ (by decide)).trans ((eval_other _ 70 13 _ (by decide)).trans ((eval_other _ 69 13 _ (by decide)).trans ((eval_other _ 68 13 _ (by decide)).trans ((eval_other _ 66 13 _ (by decide)).trans base13)))))))))))))))))))))) w') ?_
        refine met_free po24 d24 (wanted_guardF gd24 po20 d20 ((eval_other _ 89 86 _ (by decide)).trans ((eval_other _ 87 86 _ (by decide)).trans (eval_same _ _ _ (by simp only [put_size, hsz]; decide))))) (fun w' h' => run_addI (b := 1) q24 (eval_same _ _ _ (by simp only [put_size, hsz]; decide)) rfl (by omega) w') ?_
        refine m_enter po22 d22 (wanted_guardF gd22 po20 d20 ((eval_other _ 90 86 _ (by decide)).trans ((eval_other _ 89 86 _ (by decide)).trans ((eval_other _ 87 86 _ (by decide)).trans (eval_same _ _ _ (by simp only [put_size, hsz]; decide)))))) (run_callf1 q22 rfl ((eval_other _ 90 87 _ (by decide)).trans ((eval_other _ 89 87 _ (by decide)).trans (eval_same _ _ _ (by simp only [put_size, hsz]; decide)))) Tryd.func18 (by kernel_rfl) _) (HID.out.seg) ?_
        rintro e wq ⟨rfl, rfl⟩
        refine ⟨_, rfl, HD.out, ?_⟩
        refine met_free po25 d25 (wanted_guardF gd25 po20 d20 ((eval_other _ 88 86 _ (by decide)).trans ((eval_other _ 90 86 _ (by decide)).trans ((eval_other _ 89 86 _ (by decide)).trans ((eval_other _ 87 86 _ (by decide)).trans (eval_same _ _ _ (by simp only [put_size, hsz]; decide))))))) (fun w' h' => run_gtrF q25 (eval_same _ _ _ (by simp only [put_size, hsz]; decide)) ((eval_other _ 88 90 _ (by decide)).trans (eval_same _ _ _ (by simp only [put_size, hsz]; decide))) (by omega) w') ?_
        refine met_free po26 d26 (wanted_of gd26) (fun w' h' => r_pickF q26 ((eval_other _ 91 86 _ (by decide)).trans ((eval_other _ 88 86 _ (by decide)).trans ((eval_other _ 90 86 _ (by decide)).trans ((eval_other _ 89 86 _ (by decide)).trans ((eval_other _ 87 86 _ (by decide)).trans (eval_same _ _ _ (by simp only [put_size, hsz]; decide))))))) (eval_same _ _ _ (by simp only [put_size, hsz]; decide)) w') ?_
        refine met_free po27 d27 (wanted_of gd27) (fun w' h' => run_move q27 (eval_same _ _ _ (by simp only [put_size, hsz]; decide)) w') ?_
        refine met_free po28 d28 (wanted_guardF gd28 po27 d27 (eval_same _ _ _ (by simp only [put_size, hsz]; decide))) (fun w' h' => run_move q28 ((eval_other _ 93 5 _ (by decide)).trans ((eval_other _ 92 5 _ (by decide)).trans ((eval_other _ 91 5 _ (by decide)).trans ((eval_other _ 88 5 _ (by decide)).trans ((eval_other _ 90 5 _ (by decide)).trans ((eval_other _ 89 5 _ (by decide)).trans ((eval_other _ 87 5 _ (by decide)).trans ((eval_other _ 86 5 _ (by decide)).trans ((eval_other _ 85 5 _ (by decide)).trans ((eval_other _ 84 5 _ (by decide)).trans ((eval_other _ 77 5 _ (by decide)).trans ((eval_other _ 83 5 _ (by decide)).trans ((eval_other _ 82 5 _ (by decide)).trans ((eval_other _ 81 5 _ (by decide)).trans ((eval_other _ 80 5 _ (by decide)).trans ((eval_other _ 79 5 _ (by decide)).trans ((eval_other _ 78 5 _ (by decide)).trans ((eval_other _ 76 5 _ (by decide)).trans ((eval_other _ 75 5 _ (by decide)).trans ((eval_other _ 74 5 _ (by decide)).trans ((eval_other _ 67 5 _ (by decide)).trans ((eval_other _ 73 5 _ (by decide)).trans ((eval_other _ 72 5 _ (by decide)).trans ((eval_other _ 71 5 _ (by decide)).trans ((eval_other _ 70 5 _ (by decide)).trans ((eval_other _ 69 5 _ (by decide)).trans ((eval_other _ 68 5 _ (by decide)).trans ((eval_other _ 66 5 _ (by decide)).trans base5)))))))))))))))))))))))))))) w') ?_
        refine met_free po29 d29 (wanted_guardF gd29 po27 d27 ((eval_other _ 94 93 _ (by decide)).trans (eval_same _ _ _ (by simp only [put_size, hsz]; decide)))) (fun w' h' => run_move q29 ((eval_other _ 94 6 _ (by decide)).trans ((eval_other _ 93 6 _ (by decide)).trans ((eval_other _ 92 6 _ (by decide)).trans ((eval_other _ 91 6 _ (by decide)).trans ((eval_other _ 88 6 _ (by decide)).trans ((eval_other _ 90 6 _ (by decide)).trans ((eval_other _ 89 6 _ (by decide)).trans ((eval_other _ 87 6 _ (by decide)).trans ((eval_other _ 86 6 _ (by decide)).trans ((eval_other _ 85 6 _ (by decide)).trans ((eval_other _ 84 6 _ (by decide)).trans ((eval_other _ 77 6 _ (by decide)).trans ((eval_other _ 83 6 _ (by decide)).trans ((eval_other _ 82 6 _ (by decide)).trans ((eval_other _ 81 6 _ (by decide)).trans ((eval_other _ 80 6 _ (by decide)).trans ((eval_other _ 79 6 _ (by decide)).trans ((eval_other _ 78 6 _ (by decide)).trans ((eval_other _ 76 6 _ (by decide)).trans ((eval_other _ 75 6 _ (by decide)).trans ((eval_other _ 74 6 _ (by decide)).trans ((eval_other _ 67 6 _ (by decide)).trans ((eval_other _ 73 6 _ (by decide)).trans ((eval_other _ 72 6 _ (by decide)).trans ((eval_other _ 71 6 _ (by decide)).trans ((eval_other _ 70 6 _ (by decide)).trans ((eval_other _ 69 6 _ (by decide)).trans ((eval_other _ 68 6 _ (by decide)).trans ((eval_other _ 66 6 _ (by decide)).trans base6))))))))))))))))))))))))))))) w') ?_
        refine m_enter po30 d30 (wanted_guardF gd30 po27 d27 ((eval_other _ 95 93 _ (by decide)).trans ((eval_other _ 94 93 _ (by decide)).trans (eval_same _ _ _ (by simp only [put_size, hsz]; decide))))) (run_callf1 q30 rfl (eval_same _ _ _ (by simp only [put_size, hsz]; decide)) Tryd.func18 (by kernel_rfl) _) (HID.out.seg) ?_
        rintro e wq ⟨rfl, rfl⟩
        refine ⟨_, rfl, HD.out, ?_⟩
        refine m_enter po31 d31 (wanted_guardF gd31 po27 d27 ((eval_other _ 96 93 _ (by decide)).trans ((eval_other _ 95 93 _ (by decide)).trans ((eval_other _ 94 93 _ (by decide)).trans (eval_same _ _ _ (by simp only [put_size, hsz]; decide)))))) (run_callf2 q31 rfl ((eval_other _ 96 94 _ (by decide)).trans ((eval_other _ 95 94 _ (by decide)).trans (eval_same _ _ _ (by simp only [put_size, hsz]; decide)))) (eval_same _ _ _ (by simp only [put_size, hsz]; decide)) Tryd.func19 (by kernel_rfl) _) (HID.out.read (E2 : Int)) ?_
        rintro e w8 ⟨v8, rfl, ho8, hb8⟩
        rw [HRDE.out] at ho8
        obtain ⟨qz, cz, rfl, -, -, -⟩ := ho8.slN HLE.out
        have HB8 : Hid (Below w7.heap.size w7 w8) := show Below _ _ _ from HD.out.trans (hb8.mono HD.out.size)
        clear ho8 hb8
        refine ⟨_, rfl, HB8.out, ?_⟩
        refine met_free po32 d32 (wanted_guardF gd32 po27 d27 ((eval_other _ 97 93 _ (by decide)).trans ((eval_other _ 96 93 _ (by decide)).trans ((eval_other _ 95 93 _ (by decide)).trans ((eval_other _ 94 93 _ (by decide)).trans (eval_same _ _ _ (by simp only [put_size, hsz]; decide))))))) (fun w' h' => run_len26 q32 (eval_same _ _ _ (by simp only [put_size, hsz]; decide)) w') ?_
        refine met_free po33 d33 (wanted_guardF gd33 po27 d27 ((eval_other _ 98 93 _ (by decide)).trans ((eval_other _ 97 93 _ (by decide)).trans ((eval_other _ 96 93 _ (by decide)).trans ((eval_other _ 95 93 _ (by decide)).trans ((eval_other _ 94 93 _ (by decide)).trans (eval_same _ _ _ (by simp only [put_size, hsz]; decide)))))))) (fun w' h' => run_gtrF (b := 2048) q33 (eval_same _ _ _ (by simp only [put_size, hsz]; decide)) rfl (by omega) w') ?_
        refine met_free po34 d34 (wanted_of gd34) (fun w' h' => r_pickF q34 ((eval_other _ 99 93 _ (by decide)).trans ((eval_other _ 98 93 _ (by decide)).trans ((eval_other _ 97 93 _ (by decide)).trans ((eval_other _ 96 93 _ (by decide)).trans ((eval_other _ 95 93 _ (by decide)).trans ((eval_other _ 94 93 _ (by decide)).trans (eval_same _ _ _ (by simp only [put_size, hsz]; decide)))))))) (eval_same _ _ _ (by simp only [put_size, hsz]; decide)) w') ?_
        show NoPanic _ .normal _ _
        refine NoPanic.normal ?_
        rw [HAA.out]
        go_frame
        clear HAA
        clear po0 q0 d0 gd0 po1 q1 d1 gd1 po2 q2 d2 gd2 po3 q3 d3 gd3 po4 q4 d4 gd4 po5 q5 d5 gd5 po6 q6 d6 gd6 po7 q7 d7 gd7 po8 q8 d8 gd8 po9 q9 d9 gd9 po10 q10 d10 gd10 po11 q11 d11 gd11 po12 q12 d12 gd12 po13 q13 d13 gd13 po14 q14 d14 gd14 po15 q15 d15 gd15 po16 q16 d16 gd16 po17 q17 d17 gd17 po18 q18 d18 gd18 po19 q19 d19 gd19 po20 q20 d20 gd20 po21 q21 d21 gd21 po22 q22 d22 gd22 po23 q23 d23 gd23 po24 q24 d24 gd24 po25 q25 d25 gd25 po26 q26 d26 gd26 po27 q27 d27 gd27 po28 q28 d28 gd28 po29 q29 d29 gd29 po30 q30 d30 gd30 po31 q31 d31 gd31 po32 q32 d32 gd32 po33 q33 d33 gd33 po34 q34 d34 gd34
        clear base5 base6 base11 base12 base13 hsz
        clear hle2 hLE2 hus hnd1 hnd2 hE2 huk hrk hE32
        go_wp2_with fail
        go_roundg g1
        case measure => omega
        case rel => exact ⟨k + 1, _, _, d2, E2, segs', _, L7, by omega, by first | rfl | simp, rfl, by omega, ⟨(HI7.out.below HB8.out), HFW.out, by have := HI.out.few; rw [List.length_append]; simp only [List.length_singleton]; omega, HK7.out, HB7.out.trans (HB8.out.mono HB7.out.size), HRM2.out.trans HI.out.room, by have := HI.out.count; have := HCN.out.1; omega⟩⟩
      · rw [hr] at hcall
        have HCALL := Lib.hid hcall
        have HFULL := Lib.hid (And.intro hfull trivial)
        clear hr hfull hcn hcall f0 f1
        refine HCALL.out.mono ?_
        rintro e w7 ⟨rfl, hi7, hb7⟩
        have HI7 : Hid (WaL w1.heap.size w7 b g d E false (L ++ Lf)) := show WaL _ _ _ _ _ _ _ _ from hi7
        have HB7 := Lib.hid (HBA.out.trans hb7)
        obtain ⟨fC7, -⟩ := HNF.out.fr w7 (fun x hx => HI7.out.all x (List.mem_append_right _ hx))
        have HC1 : Hid (∀ w', Below w7.heap.size w7 w' → w'.cell? ⟨F, 0 + 1, none⟩ = some (.slice ql M cl)) := show ∀ w', _ → _ from fun w' hb => (fC7.on hb).cells.2.1
        clear hi7 hb7 HCALL fC7
        go_upto_region 20 with (fail)
        have HD : Hid (Below w7.heap.size w7 w7.drew) := show Below _ _ _ from (Below.refl _ _).drew
        have HID := Lib.hid (HI7.out.below HD.out)
        have hfull := HFULL.out.1
        rw [HLR.out] at hfull
        have huk := HI7.out.ok.used
        have hrk := HI7.out.ok.room
        refine region_phase (fun w' => Below w7.heap.size w7 w') (fun _ => True) 1 (HD.out) trivial [(0, .free), (2, .free), (1, .behind), (3, .free), (4, .free), (5, .free), (7, .free), (6, .behind), (8, .free), (9, .free), (10, .free), (11, .free), (13, .free), (15, .free), (16, .free), (17, .free), (18, .free), (12, .behind), (14, .free), (19, .free), (20, .free)] (by kernel_rfl) (by kernel_rfl) (by kernel_rfl) (by kernel_rfl) (fun ops hops A hA => ?_)
        have hsz : A.tmps.size = 140 := by rw [hA]; rfl
        have base5 : A.eval (.tmp 5) = .pointer (some ⟨g, 0, none⟩) := by rw [hA]; rfl
        have base6 : A.eval (.tmp 6) = .pointer (some ⟨b, 0, none⟩) := by rw [hA]; rfl
        have base11 : A.eval (.tmp 11) = .pointer (some ⟨F, 0, none⟩) := by rw [hA]; rfl
        have base12 : A.eval (.tmp 12) = .int .i64 (d.used : Int) := by rw [hA]; rfl
        have base13 : A.eval (.tmp 13) = .int .i64 (E : Int) := by rw [hA]; rfl
        have HAA := Lib.hid hA; clear hA
        obtain ⟨o0, po0, q0, d0, gd0⟩ : ∃ o, ops[0]? = some o ∧ o.op = .move (.tmp 5) ∧ o.dst = some 103 ∧ o.guard = none := ⟨_, by rw [hops]; rfl, rfl, rfl, rfl⟩
        obtain ⟨o1, po1, q1, d1, gd1⟩ : ∃ o, ops[1]? = some o ∧ o.op = .call { callee := .value (.func 14), args := #[.tmp 103], argTypes := #[23] } ∧ o.dst = some 104 ∧ o.guard = none := ⟨_, by rw [hops]; rfl, rfl, rfl, rfl⟩
        obtain ⟨o2, po2, q2, d2, gd2⟩ : ∃ o, ops[2]? = some o ∧ o.op = .move (.tmp 12) ∧ o.dst = some 105 ∧ o.guard = none := ⟨_, by rw [hops]; rfl, rfl, rfl, rfl⟩
        obtain ⟨o3, po3, q3, d3, gd3⟩ : ∃ o, ops[3]? = some o ∧ o.op = .binOp .neq 3 (.tmp 104) (.tmp 105) 3 ∧ o.dst = some 106 ∧ o.guard = none := ⟨_, by rw [hops]; rfl, rfl, rfl, rfl⟩
        obtain ⟨o4, po4, q4, d4, gd4⟩ : ∃ o, ops[4]? = some o ∧ o.op = .move (.tmp 106) ∧ o.dst = some 107 ∧ o.guard = none := ⟨_, by rw [hops]; rfl, rfl, rfl, rfl⟩
        obtain ⟨o5, po5, q5, d5, gd5⟩ : ∃ o, ops[5]? = some o ∧ o.op = .move (.tmp 6) ∧ o.dst = some 108 ∧ o.guard = some (4, false) := ⟨_, by rw [hops]; rfl, rfl, rfl, rfl⟩
        obtain ⟨o6, po6, q6, d6, gd6⟩ : ∃ o, ops[6]? = some o ∧ o.op = .call { callee := .value (.func 18), args := #[.tmp 108], argTypes := #[25] } ∧ o.dst = some 109 ∧ o.guard = some (4, false) := ⟨_, by rw [hops]; rfl, rfl, rfl, rfl⟩
        obtain ⟨o7, po7, q7, d7, gd7⟩ : ∃ o, ops[7]? = some o ∧ o.op = .move (.tmp 13) ∧ o.dst = some 110 ∧ o.guard = some (4, false) := ⟨_, by rw [hops]; rfl, rfl, rfl, rfl⟩
        obtain ⟨o8, po8, q8, d8, gd8⟩ : ∃ o, ops[8]? = some o ∧ o.op = .binOp .neq 3 (.tmp 109) (.tmp 110) 3 ∧ o.dst = some 111 ∧ o.guard = some (4, false) := ⟨_, by rw [hops]; rfl, rfl, rfl, rfl⟩
        obtain ⟨o9, po9, q9, d9, gd9⟩ : ∃ o, ops[9]? = some o ∧ o.op = .pick (.tmp 107) (.const (.bool true)) (.tmp 111) ∧ o.dst = some 112 ∧ o.guard = none := ⟨_, by rw [hops]; rfl, rfl, rfl, rfl⟩
        obtain ⟨o10, po10, q10, d10, gd10⟩ : ∃ o, ops[10]? = some o ∧ o.op = .move (.tmp 112) ∧ o.dst = some 113 ∧ o.guard = none := ⟨_, by rw [hops]; rfl, rfl, rfl, rfl⟩
        obtain ⟨o11, po11, q11, d11, gd11⟩ : ∃ o, ops[11]? = some o ∧ o.op = .move (.tmp 5) ∧ o.dst = some 114 ∧ o.guard = some (10, false) := ⟨_, by rw [hops]; rfl, rfl, rfl, rfl⟩
        obtain ⟨o12, po12, q12, d12, gd12⟩ : ∃ o, ops[12]? = some o ∧ o.op = .call { callee := .value (.func 20), args := #[.tmp 114], argTypes := #[23] } ∧ o.dst = some 115 ∧ o.guard = some (10, false) := ⟨_, by rw [hops]; rfl, rfl, rfl, rfl⟩
        obtain ⟨o13, po13, q13, d13, gd13⟩ : ∃ o, ops[13]? = some o ∧ o.op = .move (.tmp 12) ∧ o.dst = some 116 ∧ o.guard = some (10, false) := ⟨_, by rw [hops]; rfl, rfl, rfl, rfl⟩
        obtain ⟨o14, po14, q14, d14, gd14⟩ : ∃ o, ops[14]? = some o ∧ o.op = .binOp .sub 3 (.tmp 115) (.tmp 116) 3 ∧ o.dst = some 117 ∧ o.guard = some (10, false) := ⟨_, by rw [hops]; rfl, rfl, rfl, rfl⟩
        obtain ⟨o15, po15, q15, d15, gd15⟩ : ∃ o, ops[15]? = some o ∧ o.op = .fieldAddr 46 (.tmp 11) 1 ∧ o.dst = some 118 ∧ o.guard = some (10, false) := ⟨_, by rw [hops]; rfl, rfl, rfl, rfl⟩
        obtain ⟨o16, po16, q16, d16, gd16⟩ : ∃ o, ops[16]? = some o ∧ o.op = .load 41 (.tmp 118) ∧ o.dst = some 119 ∧ o.guard = some (10, false) := ⟨_, by rw [hops]; rfl, rfl, rfl, rfl⟩
        obtain ⟨o17, po17, q17, d17, gd17⟩ : ∃ o, ops[17]? = some o ∧ o.op = .call { callee := .builtin .len, args := #[.tmp 119], argTypes := #[41] } ∧ o.dst = some 120 ∧ o.guard = some (10, false) := ⟨_, by rw [hops]; rfl, rfl, rfl, rfl⟩
        obtain ⟨o18, po18, q18, d18, gd18⟩ : ∃ o, ops[18]? = some o ∧ o.op = .binOp .add 3 (.const (.int .i64 26)) (.tmp 120) 3 ∧ o.dst = some 121 ∧ o.guard = some (10, false) := ⟨_, by rw [hops]; rfl, rfl, rfl, rfl⟩
        obtain ⟨o19, po19, q19, d19, gd19⟩ : ∃ o, ops[19]? = some o ∧ o.op = .binOp .geq 3 (.tmp 117) (.tmp 121) 3 ∧ o.dst = some 122 ∧ o.guard = some (10, false) := ⟨_, by rw [hops]; rfl, rfl, rfl, rfl⟩
        obtain ⟨o20, po20, q20, d20, gd20⟩ : ∃ o, ops[20]? = some o ∧ o.op = .pick (.tmp 113) (.const (.bool true)) (.tmp 122) ∧ o.dst = some 123 ∧ o.guard = none := ⟨_, by rw [hops]; rfl, rfl, rfl, rfl⟩
        clear hops
        refine met_free po0 d0 (wanted_of gd0) (fun w' h' => run_move q0 base5 w') ?_
        refine met_free po2 d2 (wanted_of gd2) (fun w' h' => run_move q2 ((eval_other _ 103 12 _ (by decide)).trans base12) w') ?_
        refine m_enter po1 d1 (wanted_of gd1) (run_callf1 q1 rfl ((eval_other _ 105 103 _ (by decide)).trans (eval_same _ _ _ (by rw [hsz]; decide))) Tryd.func14 (by kernel_rfl) _) (HID.out.used) ?_
        rintro e wq ⟨rfl, rfl⟩
        refine ⟨_, rfl, HD.out, ?_⟩
        refine met_free po3 d3 (wanted_of gd3) (fun w' h' => run_neqI3 q3 (eval_same _ _ _ (by simp only [put_size, hsz]; decide)) ((eval_other _ 104 105 _ (by decide)).trans (eval_same _ _ _ (by simp only [put_size, hsz]; decide))) w') ?_
        refine met_free po4 d4 (wanted_of gd4) (fun w' h' => run_move q4 (eval_same _ _ _ (by simp only [put_size, hsz]; decide)) w') ?_
        refine met_free po5 d5 (wanted_guardF gd5 po4 d4 (eval_same _ _ _ (by simp only [put_size, hsz]; decide))) (fun w' h' => run_move q5 ((eval_other _ 107 6 _ (by decide)).trans ((eval_other _ 106 6 _ (by decide)).trans ((eval_other _ 104 6 _ (by decide)).trans ((eval_other _ 105 6 _ (by decide)).trans ((eval_other _ 103 6 _ (by decide)).trans base6))))) w') ?_
        refine met_free po7 d7 (wanted_guardF gd7 po4 d4 ((eval_other _ 108 107 _ (by decide)).trans (eval_same _ _ _ (by simp only [put_size, hsz]; decide)))) (fun w' h' => run_move q7 ((eval_other _ 108 13 _ (by decide)).trans ((eval_other _ 107 13 _ (by decide)).trans ((eval_other _ 106 13 _ (by decide)).trans ((eval_other _ 104 13 _ (by decide)).trans ((eval_other _ 105 13 _ (by decide)).trans ((eval_other _ 103 13 _ (by decide)).trans base13)))))) w') ?_
        refine m_enter po6 d6 (wanted_guardF gd6 po4 d4 ((eval_other _ 110 107 _ (by decide)).trans ((eval_other _ 108 107 _ (by decide)).trans (eval_same _ _ _ (by simp only [put_size, hsz]; decide))))) (run_callf1 q6 rfl ((eval_other _ 110 108 _ (by decide)).trans (eval_same _ _ _ (by simp only [put_size, hsz]; decide))) Tryd.func18 (by kernel_rfl) _) (HID.out.seg) ?_
        rintro e wq ⟨rfl, rfl⟩
        refine ⟨_, rfl, HD.out, ?_⟩
        refine met_free po8 d8 (wanted_guardF gd8 po4 d4 ((eval_other _ 109 107 _ (by decide)).trans ((eval_other _ 110 107 _ (by decide)).trans ((eval_other _ 108 107 _ (by decide)).trans (eval_same _ _ _ (by simp only [put_size, hsz]; decide)))))) (fun w' h' => run_neqI3 q8 (eval_same _ _ _ (by simp only [put_size, hsz]; decide)) ((eval_other _ 109 110 _ (by decide)).trans (eval_same _ _ _ (by simp only [put_size, hsz]; decide))) w') ?_
        refine met_free po9 d9 (wanted_of gd9) (fun w' h' => r_pickF q9 ((eval_other _ 111 107 _ (by decide)).trans ((eval_other _ 109 107 _ (by decide)).trans ((eval_other _ 110 107 _ (by decide)).trans ((eval_other _ 108 107 _ (by decide)).trans (eval_same _ _ _ (by simp only [put_size, hsz]; decide)))))) (eval_same _ _ _ (by simp only [put_size, hsz]; decide)) w') ?_
        refine met_free po10 d10 (wanted_of gd10) (fun w' h' => run_move q10 (eval_same _ _ _ (by simp only [put_size, hsz]; decide)) w') ?_
        refine met_free po11 d11 (wanted_guardF gd11 po10 d10 (eval_same _ _ _ (by simp only [put_size, hsz]; decide))) (fun w' h' => run_move q11 ((eval_other _ 113 5 _ (by decide)).trans ((eval_other _ 112 5 _ (by decide)).trans ((eval_other _ 111 5 _ (by decide)).trans ((eval_other _ 109 5 _ (by decide)).trans ((eval_other _ 110 5 _ (by decide)).trans ((eval_other _ 108 5 _ (by decide)).trans ((eval_other _ 107 5 _ (by decide)).trans ((eval_other _ 106 5 _ (by decide)).trans ((eval_other _ 104 5 _ (by decide)).trans ((eval_other _ 105 5 _ (by decide)).trans ((eval_other _ 103 5 _ (by decide)).trans base5))))))))))) w') ?_
        refine met_free po13 d13 (wanted_guardF gd13 po10 d10 ((eval_other _ 114 113 _ (by decide)).trans (eval_same _ _ _ (by simp only [put_size, hsz]; decide)))) (fun w' h' => run_move q13 ((eval_other _ 114 12 _ (by decide)).trans ((eval_other _ 113 12 _ (by decide)).trans ((eval_other _ 112 12 _ (by decide)).trans ((eval_other _ 111 12 _ (by decide)).trans ((eval_other _ 109 12 _ (by decide)).trans ((eval_other _ 110 12 _ (by decide)).trans ((eval_other _ 108 12 _ (by decide)).trans ((eval_other _ 107 12 _ (by decide)).trans ((eval_other _ 106 12 _ (by decide)).trans ((eval_other _ 104 12 _ (by decide)).trans ((eval_other _ 105 12 _ (by decide)).trans ((eval_other _ 103 12 _ (by decide)).trans base12)))))))))))) w') ?_
        refine met_free po15 d15 (wanted_guardF gd15 po10 d10 ((eval_other _ 116 113 _ (by decide)).trans ((eval_other _ 114 113 _ (by decide)).trans (eval_same _ _ _ (by simp only [put_size, hsz]; decide))))) (fun w' h' => run_fieldFr q15 (by decide) ((eval_other _ 116 11 _ (by decide)).trans ((eval_other _ 114 11 _ (by decide)).trans ((eval_other _ 113 11 _ (by decide)).trans ((eval_other _ 112 11 _ (by decide)).trans ((eval_other _ 111 11 _ (by decide)).trans ((eval_other _ 109 11 _ (by decide)).trans ((eval_other _ 110 11 _ (by decide)).trans ((eval_other _ 108 11 _ (by decide)).trans ((eval_other _ 107 11 _ (by decide)).trans ((eval_other _ 106 11 _ (by decide)).trans ((eval_other _ 104 11 _ (by decide)).trans ((eval_other _ 105 11 _ (by decide)).trans ((eval_other _ 103 11 _ (by decide)).trans base11))))))))))))) w') ?_
        refine met_free po16 d16 (wanted_guardF gd16 po10 d10 ((eval_other _ 118 113 _ (by decide)).trans ((eval_other _ 116 113 _ (by decide)).trans ((eval_other _ 114 113 _ (by decide)).trans (eval_same _ _ _ (by simp only [put_size, hsz]; decide)))))) (fun w' h' => run_loadSlice q16 (eval_same _ _ _ (by simp only [put_size, hsz]; decide)) (HC1.out _ h')) ?_
        refine met_free po17 d17 (wanted_guardF gd17 po10 d10 ((eval_other _ 119 113 _ (by decide)).trans ((eval_other _ 118 113 _ (by decide)).trans ((eval_other _ 116 113 _ (by decide)).trans ((eval_other _ 114 113 _ (by decide)).trans (eval_same _ _ _ (by simp only [put_size, hsz]; decide))))))) (fun w' h' => run_len26 q17 (eval_same _ _ _ (by simp only [put_size, hsz]; decide)) w') ?_
        refine met_free po18 d18 (wanted_guardF gd18 po10 d10 ((eval_other _ 120 113 _ (by decide)).trans ((eval_other _ 119 113 _ (by decide)).trans ((eval_other _ 118 113 _ (by decide)).trans ((eval_other _ 116 113 _ (by decide)).trans ((eval_other _ 114 113 _ (by decide)).trans (eval_same _ _ _ (by simp only [put_size, hsz]; decide)))))))) (fun w' h' => run_addI (a := 26) q18 rfl (eval_same _ _ _ (by simp only [put_size, hsz]; decide)) (by omega) w') ?_
        refine m_enter po12 d12 (wanted_guardF gd12 po10 d10 ((eval_other _ 121 113 _ (by decide)).trans ((eval_other _ 120 113 _ (by decide)).trans ((eval_other _ 119 113 _ (by decide)).trans ((eval_other _ 118 113 _ (by decide)).trans ((eval_other _ 116 113 _ (by decide)).trans ((eval_other _ 114 113 _ (by decide)).trans (eval_same _ _ _ (by simp only [put_size, hsz]; decide))))))))) (run_callf1 q12 rfl ((eval_other _ 121 114 _ (by decide)).trans ((eval_other _ 120 114 _ (by decide)).trans ((eval_other _ 119 114 _ (by decide)).trans ((eval_other _ 118 114 _ (by decide)).trans ((eval_other _ 116 114 _ (by decide)).trans (eval_same _ _ _ (by simp only [put_size, hsz]; decide))))))) Tryd.func20 (by kernel_rfl) _) (HID.out.room) ?_
        rintro e wq ⟨rfl, rfl⟩
        refine ⟨_, rfl, HD.out, ?_⟩
        refine met_free po14 d14 (wanted_guardF gd14 po10 d10 ((eval_other _ 115 113 _ (by decide)).trans ((eval_other _ 121 113 _ (by decide)).trans ((eval_other _ 120 113 _ (by decide)).trans ((eval_other _ 119 113 _ (by decide)).trans ((eval_other _ 118 113 _ (by decide)).trans ((eval_other _ 116 113 _ (by decide)).trans ((eval_other _ 114 113 _ (by decide)).trans (eval_same _ _ _ (by simp only [put_size, hsz]; decide)))))))))) (fun w' h' => run_subI q14 (eval_same _ _ _ (by simp only [put_size, hsz]; decide)) ((eval_other _ 115 116 _ (by decide)).trans ((eval_other _ 121 116 _ (by decide)).trans ((eval_other _ 120 116 _ (by decide)).trans ((eval_other _ 119 116 _ (by decide)).trans ((eval_other _ 118 116 _ (by decide)).trans (eval_same _ _ _ (by simp only [put_size, hsz]; decide))))))) (by omega) w') ?_
        refine met_free po19 d19 (wanted_guardF gd19 po10 d10 ((eval_other _ 117 113 _ (by decide)).trans ((eval_other _ 115 113 _ (by decide)).trans ((eval_other _ 121 113 _ (by decide)).trans ((eval_other _ 120 113 _ (by decide)).trans ((eval_other _ 119 113 _ (by decide)).trans ((eval_other _ 118 113 _ (by decide)).trans ((eval_other _ 116 113 _ (by decide)).trans ((eval_other _ 114 113 _ (by decide)).trans (eval_same _ _ _ (by simp only [put_size, hsz]; decide))))))))))) (fun w' h' => run_geqF q19 (eval_same _ _ _ (by simp only [put_size, hsz]; decide)) ((eval_other _ 117 121 _ (by decide)).trans ((eval_other _ 115 121 _ (by decide)).trans (eval_same _ _ _ (by simp only [put_size, hsz]; decide)))) (by omega) w') ?_
        refine met_free po20 d20 (wanted_of gd20) (fun w' h' => r_pickF q20 ((eval_other _ 122 113 _ (by decide)).trans ((eval_other _ 117 113 _ (by decide)).trans ((eval_other _ 115 113 _ (by decide)).trans ((eval_other _ 121 113 _ (by decide)).trans ((eval_other _ 120 113 _ (by decide)).trans ((eval_other _ 119 113 _ (by decide)).trans ((eval_other _ 118 113 _ (by decide)).trans ((eval_other _ 116 113 _ (by decide)).trans ((eval_other _ 114 113 _ (by decide)).trans (eval_same _ _ _ (by simp only [put_size, hsz]; decide))))))))))) (eval_same _ _ _ (by simp only [put_size, hsz]; decide)) w') ?_
        show NoPanic _ .normal _ _
        refine NoPanic.normal ?_
        rw [HAA.out]
        go_frame
        clear HAA
        clear po0 q0 d0 gd0 po1 q1 d1 gd1 po2 q2 d2 gd2 po3 q3 d3 gd3 po4 q4 d4 gd4 po5 q5 d5 gd5 po6 q6 d6 gd6 po7 q7 d7 gd7 po8 q8 d8 gd8 po9 q9 d9 gd9 po10 q10 d10 gd10 po11 q11 d11 gd11 po12 q12 d12 gd12 po13 q13 d13 gd13 po14 q14 d14 gd14 po15 q15 d15 gd15 po16 q16 d16 gd16 po17 q17 d17 gd17 po18 q18 d18 gd18 po19 q19 d19 gd19 po20 q20 d20 gd20
        clear base5 base6 base11 base12 base13 hsz
        clear hfull huk hrk
        go_wp2_with fail
        go_roundg g1
        case measure => omega
        case rel => exact ⟨k + 1, _, _, d, E, segs, all, L, by omega, by first | rfl | simp, rfl, by omega, ⟨HID.out.fewer (fun x hx => List.mem_append_left _ hx), HI.out.fits, by have := HI.out.few; omega, HI.out.list, HB7.out.trans (HD.out.mono HB7.out.size), HI.out.room, by have := HI.out.count; omega⟩⟩
    · have HAL := Lib.hid hI.fits.live.rows
      have HLF := Lib.hid hI.fits.live.files.log
      have HSH : Hid (∀ f ∈ all, f.2.length < 100000) := show ∀ f ∈ all, _ from fun f hf => by
        have h1 := hI.fits.live.rows
        have h2 := hI.fits.short
        rw [← h1] at hf
        have go : ∀ n, n ≤ E → ∀ f ∈ rowsW segs n, f.2.length < 100000 := fun n => by
          induction n with
          | zero => intro _ f hf; cases hf
          | succ n ih =>
            intro hn f hf
            rw [rowsW_succ] at hf
            rcases List.mem_append.1 hf with hf | hf
            · exact ih (by omega) f hf
            · have := h2 (n + 1) (by omega) hn f hf; omega
        exact go E (Nat.le_refl _) f hf
      have HSM : Hid (∀ s, 1 ≤ s → s ≤ 32 → (d.files s).all.length < 100000) := show ∀ s, _ → _ → _ from fun s h1 h2 => by
        have hu := hI.log.ok.used
        have hle := sumTo_le d.files s 33 (by omega)
        unfold DiskM.used at hu
        have := hI.room
        have := HRML.out.1
        omega
      have HFEW : Hid (all.length ≤ 100000) := show _ ≤ _ by have := hI.few; omega
      have HK60 : Hid (k ≤ 60 ∧ True) := ⟨by omega, trivial⟩
      have hopen := hI.log.dk.open hI.below.size (HR.out.on hI.below) hI.fits.calm (by have := hI.count; omega) segs [] HLF.out HSM.out
      have HOPEN := Lib.hid hopen
      clear hI hfr hNA hopen
      have hx : ¬ (k : Int) < (N : Int) ∨ (k : Int) < (N : Int) ∧ ¬ (k : Int) < 60 := by omega
      rcases hx with qk1 | ⟨qk1, qk2⟩
      · clear hlt
        go_wp2_with (go_at_call 8; fail)
        refine HOPEN.out.mono ?_
        rintro e w9 ⟨b2, hv9, vs9, d9, L9, rfl, hi9, hb9, hfr9, -, -, -, -, -⟩
        rw [HAL.out] at hfr9
        obtain ⟨q9, c9, rfl, -⟩ := hfr9.sl9 HNA.out
        have hm9 := hfr9.toM
        have hm5 := (HI.out.list.fr w9 (fun x hx => hi9.all x (List.mem_append_right _ hx))).toM
        have HM9 := Lib.hid hm9; have HM5 := Lib.hid hm5
        have HB9 := Lib.hid (HI.out.below.trans hb9)
        clear hi9 hb9 hfr9 hm9 hm5 HOPEN
        go_wp2_with (go_at_call 12; fail)
        refine (sameFramesM_any all _ _ w9 HFEW.out HSH.out HM9.out HM5.out).mono ?_
        rintro e w10 ⟨rfl, hb10⟩
        have HB10 := Lib.hid (HB9.out.trans (hb10.mono HB9.out.size))
        clear hb10
        go_wp2_with (go_at_call 9; fail)
        refine (known10_any w10 (HR.out.on HB10.out)).mono ?_
        rintro e w11 ⟨rfl, hb11⟩
        have HB11 := Lib.hid (HB10.out.trans (hb11.mono HB10.out.size))
        clear hb11
        go_wp2_with fail
        go_ret
        exact ⟨rfl, HB11.out⟩
      · clear hlt
        go_wp2_with (go_at_call 8; fail)
        refine HOPEN.out.mono ?_
        rintro e w9 ⟨b2, hv9, vs9, d9, L9, rfl, hi9, hb9, hfr9, -, -, -, -, -⟩
        rw [HAL.out] at hfr9
        obtain ⟨q9, c9, rfl, -⟩ := hfr9.sl9 HNA.out
        have hm9 := hfr9.toM
        have hm5 := (HI.out.list.fr w9 (fun x hx => hi9.all x (List.mem_append_right _ hx))).toM
        have HM9 := Lib.hid hm9; have HM5 := Lib.hid hm5
        have HB9 := Lib.hid (HI.out.below.trans hb9)
        clear hi9 hb9 hfr9 hm9 hm5 HOPEN
        go_wp2_with (go_at_call 12; fail)
        refine (sameFramesM_any all _ _ w9 HFEW.out HSH.out HM9.out HM5.out).mono ?_
        rintro e w10 ⟨rfl, hb10⟩
        have HB10 := Lib.hid (HB9.out.trans (hb10.mono HB9.out.size))
        clear hb10
        go_wp2_with (go_at_call 9; fail)
        refine (known10_any w10 (HR.out.on HB10.out)).mono ?_
        rintro e w11 ⟨rfl, hb11⟩
        have HB11 := Lib.hid (HB10.out.trans (hb11.mono HB10.out.size))
        clear hb11
        go_wp2_with fail
        go_ret
        exact ⟨rfl, HB11.out⟩
end Go.Proofs.YteanjfcejpibaaaDoor

/-
  WalFits, for any room and rows: the law returns true, and what came in reads afterwards as it read before; the package's table starts as the program's own text lays it (the tie is given).
-/
namespace Go.Proofs.YteanjfcejpibaaaDoor
open Go.ChangeShapes Go.WideShapes Go.ChangeAt Go.RowKit Go.Proofs.ShaWords

set_option maxRecDepth 100000 in
theorem walFits_lifted (os : Os) (started : os.Started) (H : Type) (enc : TypeId × Value → H) :
    ReturnsInHanded {} Tryd.checked os 5 .any (fun w args => (Rows.walFitsSpec.pre enc Tryd.prog Tryd.f5 [] false w args ∧ laidMetH Tryd.prog laid10 w) ∧ sizedMet enc Tryd.prog Tryd.f5 (OpenSpec.ofChange Rows.walFitsSpec) false w args)
      (Rows.walFitsSpec.post enc Tryd.prog Tryd.f5 false true false false) := by
  refine returnsInHanded_of_change_and (C := Tryd.checked) (X := fun w _ => laidMetH Tryd.prog laid10 w) (fun _ _ _ hh h => h.of_heap hh) own started (by kernel_rfl) Tryd.func5
    (ChangeSpec.witness_shaped (enc := enc) (C := Tryd.checked) (os := os) (X := fun w _ => laidMetH Tryd.prog laid10 w) false (World.doorLaid Tryd.prog 400 os) #[.int .i64 0, .slice none 0 0] 8 rfl (World.shaped_of_RefB (by kernel_rfl) (by kernel_rfl)) (by kernel_rfl) (by kernel_rfl) (by kernel_rfl) (door_met10 os _)) ?_
  intro W base args ds gs before hval0 hW _ hsz hL _
  have hW' := hW
  obtain ⟨p, q, hA0, hV, rfl, hfz, hnd⟩ := hW
  have hA : DataW.TrodAll enc Tryd.prog W 0 (fun _ => true) true Tryd.f5.params.toList args.toList ds p := hA0
  have hval : ∀ (j : Nat) t v, Tryd.f5.params[j]? = some t → args[j]? = some v → Value.okWide Tryd.prog W .any base t v := hval0
  have hsz2 : (DataW.weightsEach Tryd.prog (Tryd.f5.params.toList ++ Rows.walFitsSpec.plain.varTypes Tryd.prog) (ds ++ gs)).all (· ≤ reachBytes) = true := hsz
  rw [Tryd.params5] at hA hval hsz2
  obtain ⟨v0, vs0, d0, ds0, p0, q0, hargs, rfl, rfl, h0, r0⟩ := trodAll_cons hA
  obtain ⟨v1, vs1, d1, ds1, p1, q1, rfl, rfl, rfl, h1, r1⟩ := trodAll_cons r0
  obtain ⟨rfl, rfl, rfl⟩ := trodAll_nil r1
  obtain rfl : args = #[v0, v1] := by cases args; simp_all
  obtain ⟨rfl, rfl⟩ := trodVars_none hV
  obtain ⟨z0, rfl, rfl, rfl, wz0⟩ := open_int Tryd.underlying3 (hval 0 3 v0 rfl rfl) h0
  obtain ⟨a1, len1, cap1, rfl⟩ := okWide_slice Tryd.underlying30 (hval 1 30 v1 rfl rfl)
  have k1 := h1
  have lt1 : ∀ x ∈ p1, x.block < W.heap.size := by obtain ⟨m, hm⟩ := k1; exact DataW.trod_lt m _ _ _ hm
  obtain ⟨f1, hf1⟩ := h1
  obtain ⟨os1, hx1a, hx1b, hx1c⟩ := open_inrows hf1
  have hQ := of_laid10 hL
  clear hA0 hval0
  refine (walFits_any os1 z0 len1 cap1 a1 W hx1a hx1c hQ).mono fun e W' ⟨he, bel⟩ => ?_
  subst he
  exact ⟨_, rfl, _, _, _, [], _, [], hW', trodAll_mk1 (shut_bool Tryd.underlying4 _), (trodAll_cons_mk (shut_int Tryd.underlying3 wz0) (trodAll_cons_mk (Below.trod laidOut (by kernel_rfl) (of_decide_eq_true (by kernel_rfl)) k1 bel lt1) trodAll_mk0)), rfl, bel.frame _, fun h => by cases h⟩

theorem walFits_holds : Rows.WalFitsSaid :=
  OpenClaim.holds_of_wide 5 Tryd.f5 rfl rfl rfl rfl rfl rfl rfl ⟨rfl, rfl, rfl, rfl, rfl⟩ rfl rfl rfl rfl rfl (by kernel_rfl) Tryd.func5 (by kernel_rfl)
    (of_decide_eq_true (by kernel_rfl)) (by unfold Func.isWrapper; first | (rw [if_pos (by decide +kernel)]; kernel_rfl) | (rw [if_neg (by decide +kernel)]; exact ⟨rfl, rfl⟩))
    (fun os started H enc _ => walFits_lifted os started H enc)

theorem walFits_card : Rows.WalFitsCardSaid :=
  Claim7.holds_tied_plain_at .later [] [.data] true Rows.walFitsCard.stood.harness false
    walFits_holds (fun _ h => by cases h) (by kernel_rfl) (fun _ h => by cases h) walFits_row_tie rfl ⟨rfl, rfl⟩ (by kernel_rfl) rfl
    (fun f fn hf hfn => by
      obtain rfl : f = 5 := Option.some.inj (hf.symm.trans (show _ = some 5 by kernel_rfl))
      obtain rfl : fn = Tryd.f5 := (Option.some.inj (Tryd.func5.symm.trans hfn)).symm
      exact ⟨by kernel_rfl, fun j t ht => by
        rw [Tryd.params5] at ht
        have hm : t ∈ [3, 30] := by simpa using Array.mem_of_getElem? ht
        have hall : ([3, 30].all fun u => !Tryd.prog.wantsStandIn u) = true := by kernel_rfl
        exact (show Tryd.prog.wantsStandIn t = false by simpa using List.all_eq_true.1 hall t hm)⟩)
    (by kernel_rfl)
#print axioms walFits_card
end Go.Proofs.YteanjfcejpibaaaDoor
