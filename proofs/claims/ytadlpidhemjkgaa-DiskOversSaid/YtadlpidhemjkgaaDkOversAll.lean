/-
  DiskOvers, for any rows and any place: the law returns true, and what came in reads afterwards as it read before. Without any condition.
-/
import Derived.Test.YtadlpidhemjkgaaPkA
import Derived.Test.YtadlpidhemjkgaaPkZ
/-
  DiskOvers' walk.
-/
namespace Go.Proofs.Ytadlpidhemjkgaa
open Go.RowKit Go.Proofs.ShaWords
/-- Where a slice's tail lies. -/
def tailAddr (q : Option Addr) (c k : Nat) : Option Addr := match q with
  | none => none
  | some a => if c = k then some a else some ⟨a.block, k, none⟩
def ovFits (x : Laid8) : Prop := 0 ≤ x.at_ ∧ x.at_ ≤ (x.row.length : Int) ∧ (x.over.length : Int) ≤ (x.row.length : Int) - x.at_
instance (x : Laid8) : Decidable (ovFits x) := inferInstanceAs (Decidable (_ ∧ _ ∧ _))
def ovWant (x : Laid8) : List (BitVec 8) := if ovFits x then x.row.take x.at_.toNat ++ x.over ++ x.row.drop (x.at_.toNat + x.over.length) else x.row
def ov1 (x : Laid8) : DiskM := ((DiskM.new 4096).write 0 x.row).1
def ov2 (x : Laid8) : DiskM := ((ov1 x).sync 0).1
def ov3 (x : Laid8) : DiskM := ((ov2 x).write 0 x.loose).1
def ov4 (x : Laid8) : DiskM := ((ov3 x).over 0 x.at_ x.over).1
def ov5 (x : Laid8) : DiskM := (ov4 x).crash []
theorem ov_facts (x : Laid8) (h1 : x.row.length ≤ 500) (_h2 : x.over.length ≤ 500) (h3 : x.loose.length ≤ 500) :
    ((DiskM.new 4096).write 0 x.row).2 = 0 ∧ ((ov1 x).sync 0).2 = 0 ∧ ((ov2 x).write 0 x.loose).2 = 0 ∧ ((ov3 x).over 0 x.at_ x.over).2 = (if ovFits x then 0 else 1) ∧ (ov5 x).read 0 = ovWant x ∧ (ov1 x).count < 1000000000 ∧ (ov2 x).count < 1000000000 ∧ (ov3 x).count < 1000000000 := by
  have c0 := calm_new 4096
  have hz : (0 : Int) ≤ 0 ∧ (0 : Int) ≤ 32 := by omega
  have u0 : (DiskM.new 4096).used = 0 := sumTo_nil 33
  have e1 := c0.write hz x.row (by rw [u0]; show 0 + x.row.length ≤ (min (max (4096 : Int) 0) 262144).toNat; omega)
  have d1 : ov1 x = { DiskM.new 4096 with files := writeF (0 : Int).toNat x.row (DiskM.new 4096).files, count := (DiskM.new 4096).count + 1 } := by unfold ov1; rw [e1]
  have c1 : (ov1 x).Calm := by rw [d1]; exact ⟨c0.down, c0.left⟩
  have u1 : (ov1 x).used = x.row.length := by rw [d1]; show sumTo (writeF 0 x.row (DiskM.new 4096).files) 33 = _; rw [used_write _ 0 (by omega), u0, Nat.zero_add]
  have f1 : (ov1 x).files 0 = ⟨x.row, 0⟩ := by rw [d1]; show writeF 0 x.row _ 0 = _; unfold writeF; rw [setF_same]; rfl
  have k1 : (ov1 x).count = 1 := by rw [d1]; rfl
  have r1 : (ov1 x).room = 4096 := by rw [d1]; rfl
  have e2 := c1.sync hz
  have d2 : ov2 x = { ov1 x with files := syncF (0 : Int).toNat (ov1 x).files, count := (ov1 x).count + 1 } := by unfold ov2; rw [e2]
  have c2 : (ov2 x).Calm := by rw [d2]; exact ⟨c1.down, c1.left⟩
  have u2 : (ov2 x).used = x.row.length := by rw [d2]; show sumTo (syncF 0 (ov1 x).files) 33 = _; rw [used_sync _ 0 (by omega), u1]
  have f2 : (ov2 x).files 0 = ⟨x.row, x.row.length⟩ := by rw [d2]; show syncF 0 _ 0 = _; unfold syncF; rw [setF_same, f1]
  have k2 : (ov2 x).count = 2 := by rw [d2]; show (ov1 x).count + 1 = 2; rw [k1]
  have r2 : (ov2 x).room = 4096 := by rw [d2]; exact r1
  have e3 := c2.write hz x.loose (by rw [u2, r2]; omega)
  have d3 : ov3 x = { ov2 x with files := writeF (0 : Int).toNat x.loose (ov2 x).files, count := (ov2 x).count + 1 } := by unfold ov3; rw [e3]
  have c3 : (ov3 x).Calm := by rw [d3]; exact ⟨c2.down, c2.left⟩
  have f3 : (ov3 x).files 0 = ⟨x.row ++ x.loose, x.row.length⟩ := by rw [d3]; show writeF 0 x.loose _ 0 = _; unfold writeF; rw [setF_same, f2]
  have k3 : (ov3 x).count = 3 := by rw [d3]; show (ov2 x).count + 1 = 3; rw [k2]
  have hcr : ∀ d : DiskM, (d.files 0).dur ≤ (d.files 0).all.length → (d.crash []).read 0 = (d.files 0).all.take (d.files 0).dur := fun d hd => by
    unfold DiskM.read
    rw [if_pos hz]
    exact crash_none d.files 0 (by omega) hd
  refine ⟨by rw [e1], by rw [e2], by rw [e3], ?_, ?_, by rw [k1]; omega, by rw [k2]; omega, by rw [k3]; omega⟩
  · by_cases hf : ovFits x
    · rw [if_pos hf, c3.over hz x.over (by show _ ∧ _ ≤ (((ov3 x).files 0).dur : Int) - _; rw [f3]; exact ⟨hf.1, hf.2.2⟩)]
    · rw [if_neg hf, c3.overNo hz x.over (by show ¬ (_ ∧ _ ≤ (((ov3 x).files 0).dur : Int) - _); rw [f3]; intro h; exact hf ⟨h.1, by have := h.2; dsimp only at this; omega, h.2⟩)]
  · unfold ovWant ov5 ov4
    by_cases hf : ovFits x
    · rw [if_pos hf, c3.over hz x.over (by show _ ∧ _ ≤ (((ov3 x).files 0).dur : Int) - _; rw [f3]; exact ⟨hf.1, hf.2.2⟩)]
      obtain ⟨g1, g2, g3⟩ := hf
      have hfl : overF (0 : Int).toNat x.at_.toNat x.over (ov3 x).files 0 = ⟨layOver (x.row ++ x.loose) x.at_.toNat x.over, x.row.length⟩ := by
        show overF 0 _ _ _ 0 = _
        unfold overF; rw [setF_same, f3]
      rw [hcr _ (by
        show (overF (0 : Int).toNat x.at_.toNat x.over (ov3 x).files 0).dur ≤ (overF (0 : Int).toNat x.at_.toNat x.over (ov3 x).files 0).all.length
        rw [hfl]
        show x.row.length ≤ (layOver _ _ _).length
        rw [layOver_length (by rw [List.length_append]; omega), List.length_append]; omega)]
      show (overF (0 : Int).toNat x.at_.toNat x.over (ov3 x).files 0).all.take (overF (0 : Int).toNat x.at_.toNat x.over (ov3 x).files 0).dur = _
      rw [hfl]
      exact layOver_take (by omega)
    · rw [if_neg hf, c3.overNo hz x.over (by show ¬ (_ ∧ _ ≤ (((ov3 x).files 0).dur : Int) - _); rw [f3]; intro h; exact hf ⟨h.1, by have := h.2; dsimp only at this; omega, h.2⟩)]
      rw [hcr _ (by rw [f3]; show x.row.length ≤ (x.row ++ x.loose).length; rw [List.length_append]; omega)]
      show ((ov3 x).files 0).all.take ((ov3 x).files 0).dur = _
      rw [f3]
      exact List.take_left
theorem Own.low {B : Nat} {w : World} {l : List (BitVec 8)} {v : Value} (h : Own B w l v) : Own 0 w l v :=
  ⟨h.1, h.2.elim Or.inl (fun ⟨g, cap, cur, hv, _, r⟩ => Or.inr ⟨g, cap, cur, hv, Nat.zero_le _, r⟩)⟩
theorem ovWant_length (x : Laid8) : (ovWant x).length = x.row.length := by
  unfold ovWant
  split
  · rename_i h
    obtain ⟨h1, h2, h3⟩ := h
    rw [List.length_append, List.length_append, List.length_take, List.length_drop]; omega
  · rfl
attribute [local irreducible] ov1 ov2 ov3 ov4 ov5 ovWant
set_option maxRecDepth 100000 in
set_option maxHeartbeats 4000000 in
theorem diskOvers_any (x : Laid8) (W : World) (h : x.Ok W) : Calls Try.prog 7 #[.agg x.cells.toArray] W fun e W' => e = .returned (.bool true) ∧ Below W.heap.size W W' := by
  obtain ⟨n1, hn1⟩ : ∃ n, x.row.length = n := ⟨_, rfl⟩
  obtain ⟨n2, hn2⟩ : ∃ n, x.over.length = n := ⟨_, rfl⟩
  obtain ⟨n3, hn3⟩ : ∃ n, x.loose.length = n := ⟨_, rfl⟩
  have hcells : x.cells.toArray = #[.slice x.p1 n1 x.c1, .slice x.p2 n2 x.c2, .slice x.p3 n3 x.c3, .int .i64 x.at_] := by unfold Laid8.cells; rw [hn1, hn2, hn3]
  rw [hcells]
  clear hcells
  have k1 : n1 ≤ x.c1 := hn1 ▸ h.cap1
  have HA := Lib.hid h
  have HN1 := Lib.hid hn1; have HN2 := Lib.hid hn2; have HN3 := Lib.hid hn3
  have HK1 := Lib.hid k1
  have HAW := Lib.hid (wf64k h.atw)
  clear h hn1 hn2 hn3 k1
  generalize hp1 : x.p1 = p1 at *
  generalize hp2 : x.p2 = p2 at *
  generalize hp3 : x.p3 = p3 at *
  generalize hc1 : x.c1 = c1 at *
  generalize hc2 : x.c2 = c2 at *
  generalize hc3 : x.c3 = c3 at *
  have HL1 : Hid (Lies W p1 x.row) := show Lies _ _ _ from hp1 ▸ HA.out.l1
  have HL2 : Hid (Lies W p2 x.over) := show Lies _ _ _ from hp2 ▸ HA.out.l2
  have HL3 : Hid (Lies W p3 x.loose) := show Lies _ _ _ from hp3 ▸ HA.out.l3
  clear hp1 hp2 hp3 hc1 hc2 hc3
  have HWK : Hid (∀ w' : World, Below W.heap.size W w' → Calls Try.prog 24 #[] w' fun e w'' => e = .returned (.bool true) ∧ Below W.heap.size W w'') := show ∀ _, _ from fun w' h => (known8_any w').mono fun e w'' ⟨h1, h2⟩ => ⟨h1, h.trans (h2.mono h.size)⟩
  go_enter Try.func7, Try.ntmps7
  go_upto_region 1 with fail
  go_quiet (fail)
  go_upto_region 2 with fail
  refine wp_gen (fun wx => Below W.heap.size W wx) (((Below.refl _ _).alloc (Nat.le_refl _) _).trans ⟨rfl, rfl, rfl, Nat.le_refl _, fun _ _ => rfl⟩) ?_
  intro w1 hb1
  have HB1 := Lib.hid hb1; clear hb1
  by_cases big : n1 > 500 ∨ n2 > 500 ∨ n3 > 500
  · have HW1 := Lib.hid (HWK.out w1 HB1.out)
    by_cases q1 : n1 > 500
    · have q : (n1 : Int) > 500 := by omega
      go_wp2_with fail
      refine HW1.out.mono ?_
      rintro e w2 ⟨rfl, hb⟩
      have HB2 := Lib.hid hb; clear hb
      go_wp2_with fail
      go_ret
      exact ⟨rfl, HB2.out⟩
    · have r1 : ¬ (n1 : Int) > 500 := by omega
      by_cases q2 : n2 > 500
      · have q : (n2 : Int) > 500 := by omega
        go_wp2_with fail
        refine HW1.out.mono ?_
        rintro e w2 ⟨rfl, hb⟩
        have HB2 := Lib.hid hb; clear hb
        go_wp2_with fail
        go_ret
        exact ⟨rfl, HB2.out⟩
      · have r2 : ¬ (n2 : Int) > 500 := by omega
        have q : (n3 : Int) > 500 := by omega
        go_wp2_with fail
        refine HW1.out.mono ?_
        rintro e w2 ⟨rfl, hb⟩
        have HB2 := Lib.hid hb; clear hb
        go_wp2_with fail
        go_ret
        exact ⟨rfl, HB2.out⟩
  · have r1 : ¬ (n1 : Int) > 500 := by omega
    have r2 : ¬ (n2 : Int) > 500 := by omega
    have r3 : ¬ (n3 : Int) > 500 := by omega
    have HF := Lib.hid (ov_facts x (by rw [HN1.out]; omega) (by rw [HN2.out]; omega) (by rw [HN3.out]; omega))
    have hs : n1 ≤ 500 ∧ n2 ≤ 500 ∧ n3 ≤ 500 := by omega
    have HS := Lib.hid hs
    clear big hs
    go_wp2_with fail
    refine (dkNewI W.heap.size 4096 w1 HB1.out.size).mono ?_
    rintro e w2 ⟨g, rfl, hi, hb⟩
    have HI2 := Lib.hid (DkL.of hi); have HB2 := Lib.hid (HB1.out.trans (hb.mono HB1.out.size))
    clear hi hb
    go_wp2_with fail
    refine (HI2.out.go HB2.out.size (fun S h => dkWrite_any S g (DiskM.new 4096) 0 x.row n1 c1 p1 w2 h (by show 0 < _; omega) HN1.out (by have := HS.out; omega) (HL1.out.below HB2.out))).mono ?_
    rintro e w3 ⟨rfl, hi, hb⟩
    rw [HF.out.1]
    have HI3 : Hid (DkL W.heap.size w3 g (ov1 x) []) := show DkL _ _ _ _ _ from (by unfold ov1; exact hi)
    have HB3 := Lib.hid (HB2.out.trans hb)
    clear hi hb HI2
    go_wp2_with fail
    refine (HI3.out.go HB3.out.size (fun S h => dkSync_any S g (ov1 x) 0 w3 h HF.out.2.2.2.2.2.1)).mono ?_
    rintro e w4 ⟨rfl, hi, hb⟩
    rw [HF.out.2.1]
    have HI4 : Hid (DkL W.heap.size w4 g (ov2 x) []) := show DkL _ _ _ _ _ from (by unfold ov2; exact hi)
    have HB4 := Lib.hid (HB3.out.trans hb)
    clear hi hb HI3
    go_wp2_with fail
    refine (HI4.out.go HB4.out.size (fun S h => dkWrite_any S g (ov2 x) 0 x.loose n3 c3 p3 w4 h HF.out.2.2.2.2.2.2.1 HN3.out (by have := HS.out; omega) (HL3.out.below HB4.out))).mono ?_
    rintro e w5 ⟨rfl, hi, hb⟩
    rw [HF.out.2.2.1]
    have HI5 : Hid (DkL W.heap.size w5 g (ov3 x) []) := show DkL _ _ _ _ _ from (by unfold ov3; exact hi)
    have HB5 := Lib.hid (HB4.out.trans hb)
    clear hi hb HI4
    go_wp2_with fail
    refine (HI5.out.go HB5.out.size (fun S h => dkOver_any S g (ov3 x) 0 x.at_ n2 c2 p2 x.over w5 h HF.out.2.2.2.2.2.2.2 HAW.out HN2.out (HL2.out.below HB5.out))).mono ?_
    rintro e w6 ⟨rfl, hi, hb⟩
    rw [HF.out.2.2.2.1]
    have HI6 : Hid (DkL W.heap.size w6 g (ov4 x) []) := show DkL _ _ _ _ _ from (by unfold ov4; exact hi)
    have HB6 := Lib.hid (HB5.out.trans hb)
    clear hi hb HI5
    have HCR := Lib.hid (HI6.out.crashIn (n := 0) (c := 0) (p := none) (keep := []) HB6.out (Or.inl rfl) rfl (Nat.le_refl _))
    by_cases hf : ovFits x
    · rw [if_pos hf]
      have hf' := hf
      unfold ovFits at hf'
      rw [HN1.out, HN2.out] at hf'
      obtain ⟨k, hk⟩ : ∃ k : Nat, x.at_ = (k : Int) := ⟨x.at_.toNat, by omega⟩
      have HFT := Lib.hid hf
      have HKA := Lib.hid hk
      rw [hk] at hf' ⊢
      obtain ⟨u1, u2, u3⟩ := hf'
      clear hf hk
      go_wp2_with fail
      refine HCR.out.mono ?_
      rintro e w7 ⟨rfl, hi, hb⟩
      have HI7 : Hid (DkL W.heap.size w7 g (ov5 x) []) := show DkL _ _ _ _ _ from (by unfold ov5; exact hi)
      have HB7 := Lib.hid (HB6.out.trans hb)
      clear hi hb HI6 HCR
      go_wp2_with fail
      refine (copy_bigL x.row n1 p1 c1 w7 HN1.out (by have := HS.out; omega) (HL1.out.below HB7.out)).mono ?_
      rintro e w8 ⟨v, rfl, ho, hb⟩
      have ho' := ho
      obtain ⟨q, c, rfl, hc, -, hl⟩ := ho'.lies
      clear ho'
      rw [HN1.out] at hc ho ⊢
      have HO8 := Lib.hid ho; have HB8 := Lib.hid hb; have HC8 := Lib.hid hc
      clear hb ho hl hc
      have hform : (q = none ∧ n1 = 0 ∧ c = 0) ∨ ∃ b, q = some ⟨b, 0, none⟩ := by
        rcases HO8.out.2 with ⟨he, _⟩ | ⟨g', _, _, he, _⟩
        · injection he with e1 e2 e3; exact Or.inl ⟨e1, by omega, e3⟩
        · cases he; exact Or.inr ⟨g', rfl⟩
      obtain ⟨q2, hq2⟩ : ∃ q2 : Option Addr, q2 = tailAddr q c k := ⟨_, rfl⟩
      obtain ⟨w9, hcp, hcpo, hcpg⟩ := copy_into (q2 := q2) (cm := c2) 3 (Own.low HO8.out) HN1.out HN2.out ((HL2.out.below HB7.out).below HB8.out) (show k + n2 ≤ n1 by omega) (fun hpos => by
        rcases hform with ⟨_, h0, _⟩ | ⟨b, hb⟩
        · omega
        · subst hb; exact ⟨b, rfl, by rw [hq2]; exact if_neg (by have := HC8.out; omega)⟩)
      have hb9 : Below w7.heap.size w7 w9 := HB8.out.grown hcpg HB8.out.size (fun j hj => (World.ownsRow.lt HO8.out j hj).1)
      have hwant : x.row.take k ++ x.over ++ x.row.drop (k + x.over.length) = ovWant x := by unfold ovWant; rw [if_pos HFT.out, HKA.out, Int.toNat_natCast]
      rw [hwant] at hcpo
      have hwl : Lies w9 q (ovWant x) := by
        obtain ⟨q', c', he, -, -, hl⟩ := hcpo.lies
        cases he; exact hl
      have HI9 := Lib.hid (HI7.out.below hb9)
      have HB9 := Lib.hid (HB7.out.trans (hb9.mono HB7.out.size))
      have HWL := Lib.hid hwl
      have HCP := Lib.hid hcp
      clear hcp hcpo hcpg hb9 hwant hwl HO8 HB8 HI7 HB7
      have z1 : (0 : Int) ≤ (k : Int) := by omega
      have z3 : (n1 : Int) ≤ (c : Int) := by have := HC8.out; omega
      have z4 : (n1 : Int) - (k : Int) = ((n1 - k : Nat) : Int) := by omega
      have z5 : (c : Int) - (k : Int) = ((c - k : Nat) : Int) := by omega
      rcases hform with ⟨rfl, rfl, rfl⟩ | ⟨b, rfl⟩
      · obtain rfl : k = 0 := by omega
        obtain rfl : n2 = 0 := by omega
        have e2 : q2 = none := hq2
        subst e2
        clear hq2
        go_wp2_with (refine wpList_runW8 (o := ⟨some 95, _, _, _, _, _⟩) (wanted_of rfl) (run_copy_op rfl rfl rfl HCP.out) ?_)
        refine (HI9.out.read 0).mono ?_
        rintro e w10 ⟨v, rfl, ho, hb⟩
        rw [HF.out.2.2.2.2.1] at ho
        obtain ⟨q10, c10, rfl, -, -, hl⟩ := ho.lies
        rw [ovWant_length, HN1.out]
        have HL10 := Lib.hid hl
        have HB10 := Lib.hid (HB9.out.trans (hb.mono HB9.out.size))
        have HW10 := Lib.hid (HWL.out.below hb)
        clear ho hb hl HI9 HB9 HWL
        go_wp2_with fail
        refine (same_any (ovWant x) _ q10 _ c10 _ w10 (by rw [ovWant_length, HN1.out]) (by have := HS.out; omega) HL10.out HW10.out).mono ?_
        rintro e w11 ⟨rfl, hb⟩
        have HW11 := Lib.hid (HWK.out w11 (HB10.out.trans (hb.mono HB10.out.size)))
        clear hb HL10 HW10 HB10
        go_wp2_with fail
        refine HW11.out.mono ?_
        rintro e w12 ⟨rfl, hb⟩
        have HBZ := Lib.hid hb; clear hb
        go_wp2_with fail
        go_ret
        exact ⟨rfl, HBZ.out⟩
      · by_cases hck : c = k
        · have e2 : q2 = some ⟨b, 0, none⟩ := by rw [hq2]; exact if_pos hck
          subst e2
          clear hq2
          subst hck
          obtain rfl : n1 = c := by omega
          rw [Nat.sub_self] at HCP
          go_wp2_with (refine wpList_runW8 (o := ⟨some 95, _, _, _, _, _⟩) (wanted_of rfl) (run_copy_op rfl rfl rfl HCP.out) ?_)
          refine (HI9.out.read 0).mono ?_
          rintro e w10 ⟨v, rfl, ho, hb⟩
          rw [HF.out.2.2.2.2.1] at ho
          obtain ⟨q10, c10, rfl, -, -, hl⟩ := ho.lies
          rw [ovWant_length, HN1.out]
          have HL10 := Lib.hid hl
          have HB10 := Lib.hid (HB9.out.trans (hb.mono HB9.out.size))
          have HW10 := Lib.hid (HWL.out.below hb)
          clear ho hb hl HI9 HB9 HWL
          go_wp2_with fail
          refine (same_any (ovWant x) _ q10 _ c10 _ w10 (by rw [ovWant_length, HN1.out]) (by have := HS.out; omega) HL10.out HW10.out).mono ?_
          rintro e w11 ⟨rfl, hb⟩
          have HW11 := Lib.hid (HWK.out w11 (HB10.out.trans (hb.mono HB10.out.size)))
          clear hb HL10 HW10 HB10
          go_wp2_with fail
          refine HW11.out.mono ?_
          rintro e w12 ⟨rfl, hb⟩
          have HBZ := Lib.hid hb; clear hb
          go_wp2_with fail
          go_ret
          exact ⟨rfl, HBZ.out⟩
        · have e2 : q2 = some ⟨b, k, none⟩ := by rw [hq2]; exact if_neg hck
          subst e2
          clear hq2
          go_wp2_with (refine wpList_runW8 (o := ⟨some 95, _, _, _, _, _⟩) (wanted_of rfl) (run_copy_op rfl rfl rfl HCP.out) ?_)
          refine (HI9.out.read 0).mono ?_
          rintro e w10 ⟨v, rfl, ho, hb⟩
          rw [HF.out.2.2.2.2.1] at ho
          obtain ⟨q10, c10, rfl, -, -, hl⟩ := ho.lies
          rw [ovWant_length, HN1.out]
          have HL10 := Lib.hid hl
          have HB10 := Lib.hid (HB9.out.trans (hb.mono HB9.out.size))
          have HW10 := Lib.hid (HWL.out.below hb)
          clear ho hb hl HI9 HB9 HWL
          go_wp2_with fail
          refine (same_any (ovWant x) _ q10 _ c10 _ w10 (by rw [ovWant_length, HN1.out]) (by have := HS.out; omega) HL10.out HW10.out).mono ?_
          rintro e w11 ⟨rfl, hb⟩
          have HW11 := Lib.hid (HWK.out w11 (HB10.out.trans (hb.mono HB10.out.size)))
          clear hb HL10 HW10 HB10
          go_wp2_with fail
          refine HW11.out.mono ?_
          rintro e w12 ⟨rfl, hb⟩
          have HBZ := Lib.hid hb; clear hb
          go_wp2_with fail
          go_ret
          exact ⟨rfl, HBZ.out⟩
    · rw [if_neg hf]
      have HFT := Lib.hid hf
      have hf' : x.at_ < 0 ∨ (n1 : Int) < x.at_ ∨ (n1 : Int) - x.at_ < (n2 : Int) := by
        unfold ovFits at hf
        rw [HN1.out, HN2.out] at hf
        omega
      have hwant : x.row = ovWant x := by unfold ovWant; rw [if_neg hf]
      have HWT := Lib.hid hwant
      have HAT := Lib.hid HAW.out
      clear hf hwant
      generalize x.at_ = at_ at *
      have NOARM : True := trivial
      by_cases h0 : at_ < 0
      · have z0 : ¬ 0 ≤ at_ := by omega
        clear hf'
        go_wp2_with fail
        refine HCR.out.mono ?_
        rintro e w7 ⟨rfl, hi, hb⟩
        have HI7 : Hid (DkL W.heap.size w7 g (ov5 x) []) := show DkL _ _ _ _ _ from (by unfold ov5; exact hi)
        have HB7 := Lib.hid (HB6.out.trans hb)
        clear hi hb HI6 HCR
        go_wp2_with fail
        refine (copy_bigL x.row n1 p1 c1 w7 HN1.out (by have := HS.out; omega) (HL1.out.below HB7.out)).mono ?_
        rintro e w8 ⟨v, rfl, ho, hb⟩
        have ho' := ho
        obtain ⟨q, c, rfl, hc, -, hl⟩ := ho'.lies
        clear ho'
        rw [HN1.out] at hc ho ⊢
        have HO8 := Lib.hid ho; have HB8 := Lib.hid hb; have HC8 := Lib.hid hc
        clear hb ho hl hc
        have hwl : Lies w8 q (ovWant x) := by
          obtain ⟨q', c', he, -, -, hl⟩ := HO8.out.lies
          rw [HN1.out] at he
          cases he
          rw [← HWT.out]; exact hl
        have HI9 := Lib.hid (HI7.out.below HB8.out)
        have HB9 := Lib.hid (HB7.out.trans (HB8.out.mono HB7.out.size))
        have HWL := Lib.hid hwl
        clear hwl HO8 HB8 HI7 HB7
        go_wp2_with fail
        refine (HI9.out.read 0).mono ?_
        rintro e w10 ⟨v, rfl, ho, hb⟩
        rw [HF.out.2.2.2.2.1] at ho
        obtain ⟨q10, c10, rfl, -, -, hl⟩ := ho.lies
        rw [ovWant_length, HN1.out]
        have HL10 := Lib.hid hl
        have HB10 := Lib.hid (HB9.out.trans (hb.mono HB9.out.size))
        have HW10 := Lib.hid (HWL.out.below hb)
        clear ho hb hl HI9 HB9 HWL
        go_wp2_with fail
        refine (same_any (ovWant x) _ q10 _ c10 _ w10 (by rw [ovWant_length, HN1.out]) (by have := HS.out; omega) HL10.out HW10.out).mono ?_
        rintro e w11 ⟨rfl, hb⟩
        have HW11 := Lib.hid (HWK.out w11 (HB10.out.trans (hb.mono HB10.out.size)))
        clear hb HL10 HW10 HB10
        go_wp2_with fail
        refine HW11.out.mono ?_
        rintro e w12 ⟨rfl, hb⟩
        have HBZ := Lib.hid hb; clear hb
        go_wp2_with fail
        go_ret
        exact ⟨rfl, HBZ.out⟩
      · have z0 : 0 ≤ at_ := by omega
        by_cases h1 : (n1 : Int) < at_
        · have z1 : ¬ at_ ≤ (n1 : Int) := by omega
          clear hf'
          go_wp2_with fail
          refine HCR.out.mono ?_
          rintro e w7 ⟨rfl, hi, hb⟩
          have HI7 : Hid (DkL W.heap.size w7 g (ov5 x) []) := show DkL _ _ _ _ _ from (by unfold ov5; exact hi)
          have HB7 := Lib.hid (HB6.out.trans hb)
          clear hi hb HI6 HCR
          go_wp2_with fail
          refine (copy_bigL x.row n1 p1 c1 w7 HN1.out (by have := HS.out; omega) (HL1.out.below HB7.out)).mono ?_
          rintro e w8 ⟨v, rfl, ho, hb⟩
          have ho' := ho
          obtain ⟨q, c, rfl, hc, -, hl⟩ := ho'.lies
          clear ho'
          rw [HN1.out] at hc ho ⊢
          have HO8 := Lib.hid ho; have HB8 := Lib.hid hb; have HC8 := Lib.hid hc
          clear hb ho hl hc
          have hwl : Lies w8 q (ovWant x) := by
            obtain ⟨q', c', he, -, -, hl⟩ := HO8.out.lies
            rw [HN1.out] at he
            cases he
            rw [← HWT.out]; exact hl
          have HI9 := Lib.hid (HI7.out.below HB8.out)
          have HB9 := Lib.hid (HB7.out.trans (HB8.out.mono HB7.out.size))
          have HWL := Lib.hid hwl
          clear hwl HO8 HB8 HI7 HB7
          go_wp2_with fail
          refine (HI9.out.read 0).mono ?_
          rintro e w10 ⟨v, rfl, ho, hb⟩
          rw [HF.out.2.2.2.2.1] at ho
          obtain ⟨q10, c10, rfl, -, -, hl⟩ := ho.lies
          rw [ovWant_length, HN1.out]
          have HL10 := Lib.hid hl
          have HB10 := Lib.hid (HB9.out.trans (hb.mono HB9.out.size))
          have HW10 := Lib.hid (HWL.out.below hb)
          clear ho hb hl HI9 HB9 HWL
          go_wp2_with fail
          refine (same_any (ovWant x) _ q10 _ c10 _ w10 (by rw [ovWant_length, HN1.out]) (by have := HS.out; omega) HL10.out HW10.out).mono ?_
          rintro e w11 ⟨rfl, hb⟩
          have HW11 := Lib.hid (HWK.out w11 (HB10.out.trans (hb.mono HB10.out.size)))
          clear hb HL10 HW10 HB10
          go_wp2_with fail
          refine HW11.out.mono ?_
          rintro e w12 ⟨rfl, hb⟩
          have HBZ := Lib.hid hb; clear hb
          go_wp2_with fail
          go_ret
          exact ⟨rfl, HBZ.out⟩
        · have z1 : at_ ≤ (n1 : Int) := by omega
          have z2 : (n1 : Int) - at_ < (n2 : Int) := by omega
          have z3 : ¬ (n2 : Int) ≤ (n1 : Int) - at_ := by omega
          have z4 : IntKind.i64.wrap ((n1 : Int) - at_) = (n1 : Int) - at_ := IntWalk.i64_in _ (by have := HS.out; omega)
          clear hf'
          go_wp2_with fail
          refine HCR.out.mono ?_
          rintro e w7 ⟨rfl, hi, hb⟩
          have HI7 : Hid (DkL W.heap.size w7 g (ov5 x) []) := show DkL _ _ _ _ _ from (by unfold ov5; exact hi)
          have HB7 := Lib.hid (HB6.out.trans hb)
          clear hi hb HI6 HCR
          go_wp2_with fail
          refine (copy_bigL x.row n1 p1 c1 w7 HN1.out (by have := HS.out; omega) (HL1.out.below HB7.out)).mono ?_
          rintro e w8 ⟨v, rfl, ho, hb⟩
          have ho' := ho
          obtain ⟨q, c, rfl, hc, -, hl⟩ := ho'.lies
          clear ho'
          rw [HN1.out] at hc ho ⊢
          have HO8 := Lib.hid ho; have HB8 := Lib.hid hb; have HC8 := Lib.hid hc
          clear hb ho hl hc
          have hwl : Lies w8 q (ovWant x) := by
            obtain ⟨q', c', he, -, -, hl⟩ := HO8.out.lies
            rw [HN1.out] at he
            cases he
            rw [← HWT.out]; exact hl
          have HI9 := Lib.hid (HI7.out.below HB8.out)
          have HB9 := Lib.hid (HB7.out.trans (HB8.out.mono HB7.out.size))
          have HWL := Lib.hid hwl
          clear hwl HO8 HB8 HI7 HB7
          go_wp2_with fail
          refine (HI9.out.read 0).mono ?_
          rintro e w10 ⟨v, rfl, ho, hb⟩
          rw [HF.out.2.2.2.2.1] at ho
          obtain ⟨q10, c10, rfl, -, -, hl⟩ := ho.lies
          rw [ovWant_length, HN1.out]
          have HL10 := Lib.hid hl
          have HB10 := Lib.hid (HB9.out.trans (hb.mono HB9.out.size))
          have HW10 := Lib.hid (HWL.out.below hb)
          clear ho hb hl HI9 HB9 HWL
          go_wp2_with fail
          refine (same_any (ovWant x) _ q10 _ c10 _ w10 (by rw [ovWant_length, HN1.out]) (by have := HS.out; omega) HL10.out HW10.out).mono ?_
          rintro e w11 ⟨rfl, hb⟩
          have HW11 := Lib.hid (HWK.out w11 (HB10.out.trans (hb.mono HB10.out.size)))
          clear hb HL10 HW10 HB10
          go_wp2_with fail
          refine HW11.out.mono ?_
          rintro e w12 ⟨rfl, hb⟩
          have HBZ := Lib.hid hb; clear hb
          go_wp2_with fail
          go_ret
          exact ⟨rfl, HBZ.out⟩
end Go.Proofs.Ytadlpidhemjkgaa

/-
  DiskOvers, for any rows and any place: the law returns true, and what came in reads afterwards as it read before. Without any condition.
-/
namespace Go.Proofs.Ytadlpidhemjkgaa
open Go.ChangeShapes Go.WideShapes Go.ChangeAt Go.RowKit Go.Proofs.ShaWords

set_option maxRecDepth 100000 in
theorem diskOvers_lifted (os : Os) (started : os.Started) (H : Type) (enc : TypeId × Value → H) :
    ReturnsInHanded {} Try.checked os 7 .any (Rows.diskOversSpec.pre6 enc Try.prog Try.f7 Rows.diskOversRow.domain false)
      (Rows.diskOversSpec.post enc Try.prog Try.f7 false true false false) := by
  refine returnsInHanded_of_change_sized (C := Try.checked) own started (by kernel_rfl) Try.func7
    (ChangeSpec.witness6 (enc := enc) (C := Try.checked) false ⟨#[], #[.agg #[.slice none 0 0, .slice none 0 0, .slice none 0 0, .int .i64 0]], []⟩ 8 (by kernel_rfl) (by kernel_rfl) (by kernel_rfl) (by kernel_rfl)) ?_
  intro W base args ds gs before hval0 hW _ hsz _
  have hW' := hW
  obtain ⟨p, q, hA0, hV, rfl, hfz, hnd⟩ := hW
  have hA : DataW.TrodAll enc Try.prog W 0 (fun _ => true) true Try.f7.params.toList args.toList ds p := hA0
  have hval : ∀ (j : Nat) t v, Try.f7.params[j]? = some t → args[j]? = some v → Value.okWide Try.prog W .any base t v := hval0
  have hsz2 : (DataW.weightsEach Try.prog (Try.f7.params.toList ++ Rows.diskOversSpec.plain.varTypes Try.prog) (ds ++ gs)).all (· ≤ reachBytes) = true := hsz
  rw [Try.params7] at hA hval hsz2
  obtain ⟨v0, vs0, d0, ds0, p0, q0, hargs, rfl, rfl, h0, r0⟩ := trodAll_cons hA
  obtain ⟨rfl, rfl, rfl⟩ := trodAll_nil r0
  obtain rfl : args = #[v0] := by cases args; simp_all
  obtain ⟨rfl, rfl⟩ := trodVars_none hV
  obtain ⟨cs0, rfl⟩ := okWide_laid8 (hval 0 73 v0 rfl rfl)
  have k0 := h0
  have lt0 : ∀ x ∈ p0, x.block < W.heap.size := by obtain ⟨m, hm⟩ := k0; exact DataW.trod_lt m _ _ _ hm
  obtain ⟨f0, hf0⟩ := h0
  obtain ⟨th0, hx0a, hx0b⟩ := open_laid8 hf0
  obtain rfl : cs0 = th0.cells.toArray := by rw [← hx0a]; rfl
  clear hA0 hval0
  refine (diskOvers_any th0 W hx0b).mono fun e W' ⟨he, bel⟩ => ?_
  subst he
  exact ⟨_, rfl, _, _, _, [], _, [], hW', trodAll_mk1 (shut_bool Try.underlying4 _), (trodAll_cons_mk (Below.trod laidOut (by kernel_rfl) (of_decide_eq_true (by kernel_rfl)) k0 bel lt0) trodAll_mk0), rfl, bel.frame _, fun h => by cases h⟩

theorem diskOvers_holds : Rows.DiskOversSaid :=
  OpenClaim.holds_of_wide 7 Try.f7 rfl rfl rfl rfl rfl rfl rfl ⟨rfl, rfl, rfl, rfl, rfl⟩ rfl rfl rfl rfl rfl (by kernel_rfl) Try.func7 (by kernel_rfl)
    (of_decide_eq_true (by kernel_rfl)) (by unfold Func.isWrapper; first | (rw [if_pos (by decide +kernel)]; kernel_rfl) | (rw [if_neg (by decide +kernel)]; exact ⟨rfl, rfl⟩))
    (fun os started H enc _ => diskOvers_lifted os started H enc)

#print axioms diskOvers_holds
end Go.Proofs.Ytadlpidhemjkgaa
