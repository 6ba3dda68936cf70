/-
  RingOnce, for any list of numbers: the law returns true, and what came in reads afterwards as it read before. Without any condition.
-/
import Derived.Test.YtoidjapenompiaaPkA
import Derived.Test.YtoidjapenompiaaPkT
import Derived.Test.YtoidjapenompiaaPkZ
import Derived.BigQuiet
/-
  RingOnce's walk.
-/
namespace Go.Proofs.Ytoidjapenompiaa
open Go.RowKit Go.Proofs.ShaWords
abbrev tB1 : ByteArray := ⟨#[116]⟩
def onceL (u : Nat) (sh : Bool) : List HoldK := [⟨annB, sB, 1, u, sh⟩, ⟨annB, tB1, 2, 0, false⟩]
theorem once_at (u : Nat) (sh : Bool) : atK (onceL u sh) annB sB = some 0 ∧ atK (onceL u sh) annB tB1 = some 1 := ⟨by kernel_rfl, by kernel_rfl⟩
theorem once_shred (u : Nat) (sh : Bool) : shredK (onceL u sh) annB sB = (if sh = true then 17 else 0, onceL u true) := by
  unfold shredK
  rw [(once_at u sh).1]
  cases sh <;> rfl
theorem once_hold (u : Nat) (sh : Bool) : holdK (onceL u sh) annB sB = (⟨annB, sB, 1, u, sh⟩, true) := by
  unfold holdK
  rw [(once_at u sh).1]
  rfl
theorem once_other (u : Nat) (sh : Bool) : holdK (onceL u sh) annB tB1 = (⟨annB, tB1, 2, 0, false⟩, true) := by
  unfold holdK
  rw [(once_at u sh).2]
  rfl
theorem once_arg (u : Nat) (sh : Bool) (z : Int) (h : z < 1) : useK (onceL u sh) annB sB z = (1, onceL u sh) := by
  unfold useK
  rw [if_pos h]
theorem once_shredded (u : Nat) (z : Int) (h : ¬ z < 1) : useK (onceL u true) annB sB z = (17, onceL u true) := by
  unfold useK
  rw [if_neg h, (once_at u true).1]
  rfl
theorem once_used (u : Nat) (z : Int) (h : ¬ z < 1) (h2 : z > 200 - (u : Int)) : useK (onceL u false) annB sB z = (16, onceL u false) := by
  unfold useK
  rw [if_neg h, (once_at u false).1]
  simp [getK, onceL, h2]
theorem once_takes (u k : Nat) (h : ¬ (k : Int) < 1) (h2 : ¬ (k : Int) > 200 - (u : Int)) : useK (onceL u false) annB sB (k : Int) = (0, onceL (u + k) false) := by
  unfold useK
  rw [if_neg h, (once_at u false).1]
  simp [getK, onceL, h2]
/-- The numbers that are taken. -/
def takenC (u : Nat) : Array Value := ((List.range 201).map fun k => Value.bool (decide (1 ≤ k ∧ k ≤ u))).toArray
theorem taken_size (u : Nat) : (takenC u).size = 201 := by simp [takenC]
theorem taken_get (u k : Nat) (hk : k < 201) : (takenC u)[k]? = some (.bool (decide (1 ≤ k ∧ k ≤ u))) := by
  unfold takenC
  rw [List.getElem?_toArray, List.getElem?_map, List.getElem?_range hk]
  rfl
theorem taken_set (u : Nat) (hu : u < 200) : (takenC u).setIfInBounds (u + 1) (.bool true) = takenC (u + 1) := by
  apply Array.ext
  · simp [taken_size]
  · intro k h1 h2
    have hk : k < 201 := by rw [taken_size] at h2; exact h2
    have e2 := taken_get (u + 1) k hk
    have e1 := taken_get u k hk
    rw [Array.getElem?_eq_getElem h2] at e2
    rw [Array.getElem?_eq_getElem (by rw [taken_size]; exact hk)] at e1
    rw [Array.getElem_setIfInBounds (by rw [taken_size]; exact hk), Option.some.inj e2]
    split
    · rename_i e
      rw [decide_eq_true (by omega)]
    · rename_i e
      rw [Option.some.inj e1]
      congr 1
      apply decide_eq_decide.2
      omega
theorem zero40 (w : World) : (zeroValue 40).run Try.prog w = .ok (.agg (takenC 0)) w := by kernel_rfl
abbrev holdO (u : Nat) (sh : Bool) : Obj := .cells #[.int .i64 1, .int .i64 (u : Int), .bool sh] 43 (0, 0)
abbrev takenO (u : Nat) : Obj := .cells (takenC u) 40 (0, 0)
def OnS (r T lo : Nat) (W w : World) (u : Nat) (sh : Bool) (L : List (Nat × Obj)) : Prop := u ≤ 200 ∧ X2 (KrAt r (onceL u sh)) NoP lo w ((T, takenO u) :: L) ∧ Below lo W w
set_option maxRecDepth 100000 in
set_option maxHeartbeats 4000000 in
theorem krOnce_any (l : List Int) (n c : Nat) (p : Option Addr) (W : World) (hn : l.length = n) (hl : LiesZ W p l) (hw : ∀ z ∈ l, wrap64 z = z) :
    Calls Try.prog 4 #[.slice p n c] W fun e w' => e = .returned (.bool true) ∧ Below W.heap.size W w' := by
  have HN := Lib.hid hn
  have HL : Hid (∀ w, Below W.heap.size W w → LiesZ w p l) := show ∀ _, _ → _ from fun w hb => hl.below hb
  have HW := Lib.hid hw
  clear hn hl hw
  go_enter Try.func4, Try.ntmps4
  go_wp2_with fail
  refine (krNewX W W.heap.size (Nat.le_refl _)).mono ?_
  rintro e w1 ⟨r, rfl, hx, hb⟩
  have HX1 := Lib.hid hx; have HB1 := Lib.hid hb
  clear hx hb
  go_wp2_with fail
  refine (HX1.out.krMake NoP.part HB1.out.size annB sB 1 (by decide) (by decide) (by decide)).mono ?_
  rintro e w2 ⟨rfl, hx, hb⟩
  have e2 : makeK [] annB sB 1 = (0, [⟨annB, sB, 1, 0, false⟩]) := by kernel_rfl
  rw [e2] at hx
  have HX2 := Lib.hid hx; have HB2 := Lib.hid (HB1.out.trans hb)
  rw [e2]
  clear hx hb e2 HX1 HB1
  go_wp2_with fail
  refine (HX2.out.krMake NoP.part HB2.out.size annB tB1 2 (by decide) (by decide) (by simp)).mono ?_
  rintro e w3 ⟨rfl, hx, hb⟩
  have e2 : makeK [⟨annB, sB, 1, 0, false⟩] annB tB1 2 = (0, onceL 0 false) := by kernel_rfl
  rw [e2] at hx
  have HX3 := Lib.hid hx; have HB3 := Lib.hid (HB2.out.trans hb)
  rw [e2]
  clear hx hb e2 HX2 HB2
  have hz0 := zero40
  go_upto_region 5 with (fail)
  have hba : Below w3.heap.size w3 (w3.alloc (.cells (takenC 0) 40)) := (Below.refl _ _).alloc (Nat.le_refl _) _
  have HX4 : Hid (OnS r w3.heap.size W.heap.size W (w3.alloc (.cells (takenC 0) 40)) 0 false []) := show OnS _ _ _ _ _ _ _ _ from ⟨by omega, HX3.out.add (KrAt.part _ _) NoP.part hba (L' := [(w3.heap.size, takenO 0)]) (fun y hy => by rw [List.mem_singleton.1 hy]; exact ⟨Nat.le_refl _, heap_alloc_new _ _⟩), HB3.out.trans (hba.mono HB3.out.size)⟩
  generalize w3.alloc (.cells (takenC 0) 40) = w4 at HX4 ⊢
  have HTLO := Lib.hid HB3.out.size
  generalize w3.heap.size = T at HX4 HTLO ⊢
  clear hba HX3 HB3 hz0
  go_wp2_with fail
  go_loopw [5, 6] (fun s i wr => ∃ (k u : Nat) (sh : Bool), k ≤ n ∧ k ≤ 300 ∧ i = .int .i64 (k : Int) ∧ s = .bool sh ∧ OnS r T W.heap.size W wr u sh []) (fun _ i _ => 301 - (intOf i).toNat)
  case atStart => exact ⟨0, 0, false, by omega, by omega, rfl, rfl, HX4.out⟩
  case round =>
    clear HX4
    obtain ⟨k, u, sh, hk, hk3, rfl, rfl, hon⟩ := hrel
    have HON := Lib.hid hon
    clear hon
    have hendC : Hid (∀ w', Below W.heap.size W w' → Calls Try.prog 13 #[] w' fun e w'' => e = .returned (.bool true) ∧ Below W.heap.size W w'') := show ∀ _, _ → _ from fun w' h => (krKnown_any w').mono fun e w'' ⟨h1, h2⟩ => ⟨h1, h.trans (h2.mono h.size)⟩
    by_cases hlt : k < n ∧ k < 300
    · obtain ⟨hlt, hlt3⟩ := hlt
      have hkl : k < l.length := by rw [HN.out]; exact hlt
      have hv : (intsV l)[k]? = some (.int .i64 l[k]) := by simp [intsV, hkl]
      have HZW : Hid (wrap64 l[k] = l[k]) := show _ = _ from HW.out _ (List.getElem_mem hkl)
      rcases HL.out W (Below.refl _ _) with h0 | ⟨b, off, rfl, hr⟩
      · exfalso; rw [h0] at hkl; simp at hkl
      have hbl := World.block_lt_of_cell? W _ (hr k _ hv)
      have HC : Hid (∀ w', Below W.heap.size W w' → w'.cell? ⟨b, off + k, none⟩ = some (.int .i64 l[k])) := show ∀ _, _ → _ from fun w' h => (h.cell (p := ⟨b, off + k, none⟩) hbl).trans (hr k _ hv)
      generalize l[k] = z at HZW HC
      clear hv hr hbl hkl
      have q1 : (k : Int) < (n : Int) := by omega
      have q2 : (k : Int) < 300 := by omega
      have hc := HC.out wr HON.out.2.2
      by_cases hz : z = 0
      · subst hz
        go_wp2_with fail
        refine (HON.out.2.1.krShred NoP.part HON.out.2.2.size annB sB (by decide) (by decide)).mono ?_
        rintro e w5 ⟨rfl, hx, hb⟩
        rw [once_shred] at hx
        rw [once_shred]
        have HX5 : Hid (OnS r T W.heap.size W w5 u true []) := show OnS _ _ _ _ _ _ _ _ from ⟨HON.out.1, hx, HON.out.2.2.trans hb⟩
        clear hx hb HON hc HC
        cases sh
        · go_wp2_with fail
          go_roundw
          case rel => exact ⟨k + 1, u, true, by omega, by omega, by go_num, rfl, HX5.out⟩
          case measure => simp [intOf]; omega
        · go_wp2_with fail
          go_roundw
          case rel => exact ⟨k + 1, u, true, by omega, by omega, by go_num, rfl, HX5.out⟩
          case measure => simp [intOf]; omega
      · have HZ : Hid (¬ z = 0 ∧ True) := show _ ∧ _ from ⟨hz, trivial⟩
        go_wp2_with fail
        refine (HON.out.2.1.krHold annB sB (by decide) (by decide)).mono ?_
        rintro e w5 ⟨rfl, hb⟩
        rw [once_hold]
        have hba : Below w5.heap.size w5 (w5.alloc (.cells #[.int .i64 1, .int .i64 (u : Int), .bool sh] 43)) := (Below.refl _ _).alloc (Nat.le_refl _) _
        have HO6 : Hid (OnS r T W.heap.size W (w5.alloc (.cells #[.int .i64 1, .int .i64 (u : Int), .bool sh] 43)) u sh [(w5.heap.size, holdO u sh)]) := show OnS _ _ _ _ _ _ _ _ from by
          have h5 := HON.out.2.1.below (KrAt.part _ _) NoP.part hb
          have h6 := h5.add (KrAt.part _ _) NoP.part hba (L' := [(w5.heap.size, holdO u sh)]) (fun y hy => by rw [List.mem_singleton.1 hy]; exact ⟨Nat.le_refl _, heap_alloc_new _ _⟩)
          have hB5 := HON.out.2.2.trans (hb.mono HON.out.2.2.size)
          exact ⟨HON.out.1, h6.fewer (by simp), hB5.trans (hba.mono hB5.size)⟩
        go_upto_region 15 with (fail)
        have hc6 := HC.out _ HO6.out.2.2
        generalize w5.alloc (.cells #[.int .i64 1, .int .i64 (u : Int), .bool sh] 43) = w6 at HO6 hc6 ⊢
        generalize w5.heap.size = B8 at HO6 ⊢
        clear hb hba HON hc
        go_wp2_with fail
        refine (HO6.out.2.1.krUse NoP.part HO6.out.2.2.size annB sB z (by decide) (by decide) HZW.out).mono ?_
        rintro e w7 ⟨rfl, hx, hb⟩
        have HB7 := Lib.hid (HO6.out.2.2.trans hb)
        have hnow : ∃ (code : Int) (uN : Nat), useK (onceL u sh) annB sB z = (code, onceL uN sh) ∧ uN ≤ 200 ∧ ((code = 0 ∧ sh = false ∧ 1 ≤ z ∧ (uN : Int) = (u : Int) + z) ∨ ((code = 1 ∨ code = 17 ∨ code = 16) ∧ uN = u)) := by
          have hu := HO6.out.1
          by_cases h1 : z < 1
          · exact ⟨1, u, once_arg u sh z h1, hu, Or.inr ⟨Or.inl rfl, rfl⟩⟩
          · cases sh with
            | true => exact ⟨17, u, once_shredded u z h1, hu, Or.inr ⟨Or.inr (Or.inl rfl), rfl⟩⟩
            | false =>
              by_cases h2 : z > 200 - (u : Int)
              · exact ⟨16, u, once_used u z h1 h2, hu, Or.inr ⟨Or.inr (Or.inr rfl), rfl⟩⟩
              · obtain ⟨j, rfl⟩ : ∃ j : Nat, z = (j : Int) := ⟨z.toNat, by omega⟩
                exact ⟨0, u + j, once_takes u j h1 h2, by omega, Or.inl ⟨rfl, rfl, by omega, by omega⟩⟩
        obtain ⟨code, uN, e7, hu2, hcode⟩ := hnow
        rw [e7] at hx
        rw [e7]
        have HX7 := Lib.hid hx
        have HCO := Lib.hid hcode
        have HU2 := Lib.hid hu2
        clear hx hb e7 hcode hu2 HO6 hc6
        go_wp2_with fail
        refine (HX7.out.krHold annB sB (by decide) (by decide)).mono ?_
        rintro e w8 ⟨rfl, hb⟩
        rw [once_hold]
        have hba : Below w8.heap.size w8 (w8.alloc (.cells #[.int .i64 1, .int .i64 (uN : Int), .bool sh] 43)) := (Below.refl _ _).alloc (Nat.le_refl _) _
        have HX9 : Hid (X2 (KrAt r (onceL uN sh)) NoP W.heap.size (w8.alloc (.cells #[.int .i64 1, .int .i64 (uN : Int), .bool sh] 43)) [(w8.heap.size, holdO uN sh), (B8, holdO u sh), (T, takenO u)]) := show X2 _ _ _ _ _ from by
          have h8 := HX7.out.below (KrAt.part _ _) NoP.part hb
          have h9 := h8.add (KrAt.part _ _) NoP.part hba (L' := [(w8.heap.size, holdO uN sh)]) (fun y hy => by rw [List.mem_singleton.1 hy]; exact ⟨Nat.le_refl _, heap_alloc_new _ _⟩)
          exact h9.fewer (fun y hy => by simp at hy ⊢; rcases hy with h | h | h <;> simp [h])
        have HB9 : Hid (Below W.heap.size W (w8.alloc (.cells #[.int .i64 1, .int .i64 (uN : Int), .bool sh] 43))) := show Below _ _ _ from by
          have h := HB7.out.trans (hb.mono HB7.out.size)
          exact h.trans (hba.mono h.size)
        go_upto_region 17 with (fail)
        have hc9 := HC.out _ HB9.out
        generalize w8.alloc (.cells #[.int .i64 1, .int .i64 (uN : Int), .bool sh] 43) = w9 at HX9 HB9 hc9 ⊢
        generalize w8.heap.size = B11 at HX9 ⊢
        clear hb hba HX7 HB7
        have r11 := HX9.out.all _ List.mem_cons_self
        have r8 := HX9.out.all _ (List.mem_cons_of_mem _ List.mem_cons_self)
        have a0 := (cell_of_row _ _ 0 _ _ _ r11).trans (show _ = some (.int .i64 1) from rfl)
        have a1 := (cell_of_row _ _ 1 _ _ _ r11).trans (show _ = some (.int .i64 (uN : Int)) from rfl)
        have a2 := (cell_of_row _ _ 2 _ _ _ r11).trans (show _ = some (.bool sh) from rfl)
        have b0 := (cell_of_row _ _ 0 _ _ _ r8).trans (show _ = some (.int .i64 1) from rfl)
        have b1 := (cell_of_row _ _ 1 _ _ _ r8).trans (show _ = some (.int .i64 (u : Int)) from rfl)
        have b2 := (cell_of_row _ _ 2 _ _ _ r8).trans (show _ = some (.bool sh) from rfl)
        clear r11 r8
        rcases HCO.out with ⟨rfl, rfl, hz1, hu2z⟩ | ⟨hcd, rfl⟩
        · have qz : (u : Int) + z = (uN : Int) := hu2z.symm
          have qu : (uN : Int) ≤ 200 := by have := HU2.out; omega
          have HUU : Hid (u ≤ uN ∧ True) := show _ ∧ _ from ⟨by omega, trivial⟩
          clear hu2z HCO HC
          go_upto_region 20 with (fail)
          have hd1 : decide (z < 1) = false := decide_eq_false (by omega)
          have hd3 : decide ((uN : Int) > 200) = false := decide_eq_false (by omega)
          have hd4 : decide ((u : Int) < 0) = false := decide_eq_false (by omega)
          go_quiet (fail)
          have hq : Below w9.heap.size w9 (w9.drewN nq) := ⟨rfl, rfl, rfl, Nat.le_refl _, fun _ _ => rfl⟩
          have HX10 := Lib.hid (HX9.out.below (KrAt.part _ _) NoP.part hq)
          have HB10 := Lib.hid (HB9.out.trans (hq.mono HB9.out.size))
          clear hq HX9 HB9 hc9 a0 a1 a2 b0 b1 b2 hd1 hd3 hd4 HZW HZ
          generalize w9.drewN nq = w10 at HX10 HB10 ⊢
          have r11 := HX10.out.all _ List.mem_cons_self
          have r8 := HX10.out.all _ (List.mem_cons_of_mem _ List.mem_cons_self)
          have a1 := (cell_of_row _ _ 1 _ _ _ r11).trans (show _ = some (.int .i64 (uN : Int)) from rfl)
          have b1 := (cell_of_row _ _ 1 _ _ _ r8).trans (show _ = some (.int .i64 (u : Int)) from rfl)
          clear r11 r8
          have HX11 : Hid (X2 (KrAt r (onceL uN false)) NoP W.heap.size w10 [(B11, holdO uN false), (T, takenO u)]) := show X2 _ _ _ _ _ from HX10.out.fewer (fun y hy => by simp at hy ⊢; rcases hy with h | h <;> simp [h])
          have qu1 : (u : Int) ≤ 200 := by omega
          clear HX10 qz hz1
          go_wp2_with fail
          go_loopw [13] (fun s wr => ∃ m : Nat, u + 1 ≤ m ∧ m ≤ uN + 1 ∧ s = .int .i64 (m : Int) ∧ X2 (KrAt r (onceL uN false)) NoP W.heap.size wr [(B11, holdO uN false), (T, takenO (m - 1))] ∧ Below W.heap.size W wr) (fun s _ => 202 - (intOf s).toNat)
          case atStart => exact ⟨u + 1, by omega, by have := HUU.out.1; omega, by first | rfl | simp, HX11.out, HB10.out⟩
          case round =>
            clear a1 b1 HX11 HB10
            obtain ⟨m, hm1, hm2, rfl, hx, hb⟩ := hrel
            have HXM := Lib.hid hx
            have HBM := Lib.hid hb
            clear hx hb
            have r11 := HXM.out.all _ List.mem_cons_self
            have a1 := (cell_of_row _ _ 1 _ _ _ r11).trans (show _ = some (.int .i64 (uN : Int)) from rfl)
            have rT := HXM.out.all _ (List.mem_cons_of_mem _ List.mem_cons_self)
            by_cases hmu : m ≤ uN
            · have cT := (cell_of_row _ _ m _ _ _ rT).trans (taken_get (m - 1) m (by omega))
              rw [decide_eq_false (by omega)] at cT
              have fT := frozen_of_row _ _ m _ _ rT
              have HE : Hid (X2 (KrAt r (onceL uN false)) NoP W.heap.size (wr.setCell ⟨T, m, none⟩ (.bool true)) [(B11, holdO uN false), (T, takenO m)] ∧ Below W.heap.size W (wr.setCell ⟨T, m, none⟩ (.bool true))) := show _ ∧ _ from by
                have hT : (wr.setCell ⟨T, m, none⟩ (.bool true)).heap[T]? = some (takenO m) := by
                  have h := heap_setCell_same wr T m _ _ (.bool true) rT
                  have e : (takenC (m - 1)).setIfInBounds m (.bool true) = takenC m := by
                    have := taken_set (m - 1) (by omega)
                    rwa [show m - 1 + 1 = m by omega] at this
                  rw [e] at h
                  exact h
                have hlo : W.heap.size ≤ T := HTLO.out
                refine ⟨HXM.out.set (KrAt.part _ _) NoP.part (k := T) (o := takenO (m - 1)) (o' := takenO m) (by simp) (grown_stays (grown_setCell wr T m _) (fun k e => by cases e; rfl)) hT (fun y hy => ?_), HBM.out.setCell hlo _⟩
                rcases List.mem_cons.1 hy with h | h
                · refine Or.inr ⟨by rw [h]; exact List.mem_cons_self, fun e => ?_⟩
                  rw [h] at e
                  have e2 : B11 = T := e
                  have h1 : wr.heap[T]? = some (holdO uN false) := e2 ▸ r11
                  have h2 : wr.heap[T]? = some (takenO (m - 1)) := rT
                  rw [h1] at h2
                  cases h2
                · exact Or.inl (List.mem_singleton.1 h)
              have q5 : (m : Int) ≤ (uN : Int) := by omega
              have q6 : (m : Int) < 201 := by omega
              clear HXM HBM r11 rT
              go_wp2_with fail
              go_roundw
              case rel => exact ⟨m + 1, by omega, by omega, by go_num, HE.out.1, HE.out.2⟩
              case measure => simp [intOf]; omega
            · obtain rfl : m = uN + 1 := by omega
              have HON2 : Hid (OnS r T W.heap.size W wr uN false []) := show OnS _ _ _ _ _ _ _ _ from ⟨HU2.out, HXM.out.fewer (fun y hy => by simp at hy; subst hy; simp), HBM.out⟩
              clear HXM HBM r11 rT hm1 hm2 hmu
              go_wp2_with fail
              go_roundw
              case rel => exact ⟨k + 1, uN, false, by omega, by omega, by go_num, rfl, HON2.out⟩
              case measure => simp [intOf]; omega
        · have HON2 : Hid (OnS r T W.heap.size W w9 uN sh []) := show OnS _ _ _ _ _ _ _ _ from ⟨HU2.out, HX9.out.fewer (fun y hy => by simp at hy; subst hy; simp), HB9.out⟩
          clear HX9 HB9 hc9 HC HCO HZ HZW
          rcases hcd with rfl | rfl | rfl
          all_goals
            go_wp2_with fail
            go_roundw
            case rel => exact ⟨k + 1, uN, sh, by omega, by omega, by go_num, rfl, HON2.out⟩
            case measure => simp [intOf]; omega
    · by_cases hlt2 : k < n
      · have q1 : (k : Int) < (n : Int) := by omega
        obtain rfl : k = 300 := by omega
        clear hlt
        go_wp2_with fail
        refine (HON.out.2.1.krHold annB tB1 (by decide) (by decide)).mono ?_
        rintro e w6 ⟨rfl, hb⟩
        rw [once_other]
        have HB6 : Hid (Below W.heap.size W (w6.alloc (.cells #[.int .i64 2, .int .i64 0, .bool false] 43))) := show Below _ _ _ from (HON.out.2.2.trans (hb.mono HON.out.2.2.size)).alloc (Nat.le_trans HON.out.2.2.size hb.size) _
        clear hb HON
        go_wp2_with fail
        refine (hendC.out _ HB6.out).mono ?_
        rintro e w7 ⟨rfl, hb⟩
        have HB7 := Lib.hid hb
        clear hb HB6
        go_wp2_with fail
        go_ret
        exact ⟨rfl, HB7.out⟩
      · obtain rfl : k = n := by omega
        clear hlt
        go_wp2_with fail
        refine (HON.out.2.1.krHold annB tB1 (by decide) (by decide)).mono ?_
        rintro e w6 ⟨rfl, hb⟩
        rw [once_other]
        have HB6 : Hid (Below W.heap.size W (w6.alloc (.cells #[.int .i64 2, .int .i64 0, .bool false] 43))) := show Below _ _ _ from (HON.out.2.2.trans (hb.mono HON.out.2.2.size)).alloc (Nat.le_trans HON.out.2.2.size hb.size) _
        clear hb HON
        go_wp2_with fail
        refine (hendC.out _ HB6.out).mono ?_
        rintro e w7 ⟨rfl, hb⟩
        have HB7 := Lib.hid hb
        clear hb HB6
        go_wp2_with fail
        go_ret
        exact ⟨rfl, HB7.out⟩
end Go.Proofs.Ytoidjapenompiaa

/-
  RingOnce, for any list of numbers: the law returns true, and what came in reads afterwards as it read before. Without any condition.
-/
namespace Go.Proofs.Ytoidjapenompiaa
open Go.ChangeShapes Go.WideShapes Go.ChangeAt Go.RowKit Go.Proofs.ShaWords

set_option maxRecDepth 100000 in
theorem ringOnce_lifted (os : Os) (started : os.Started) (H : Type) (enc : TypeId × Value → H) :
    ReturnsInHanded {} Try.checked os 4 .any (Rows.ringOnceSpec.pre6 enc Try.prog Try.f4 Rows.ringOnceRow.domain false)
      (Rows.ringOnceSpec.post enc Try.prog Try.f4 false true false false) := by
  refine returnsInHanded_of_change_sized (C := Try.checked) own started (by kernel_rfl) Try.func4
    (ChangeSpec.witness6 (enc := enc) (C := Try.checked) false ⟨#[], #[.slice none 0 0], []⟩ 8 (by kernel_rfl) (by kernel_rfl) (by kernel_rfl) (by kernel_rfl)) ?_
  intro W base args ds gs before hval0 hW _ hsz _
  have hW' := hW
  obtain ⟨p, q, hA0, hV, rfl, hfz, hnd⟩ := hW
  have hA : DataW.TrodAll enc Try.prog W 0 (fun _ => true) true Try.f4.params.toList args.toList ds p := hA0
  have hval : ∀ (j : Nat) t v, Try.f4.params[j]? = some t → args[j]? = some v → Value.okWide Try.prog W .any base t v := hval0
  have hsz2 : (DataW.weightsEach Try.prog (Try.f4.params.toList ++ Rows.ringOnceSpec.plain.varTypes Try.prog) (ds ++ gs)).all (· ≤ reachBytes) = true := hsz
  rw [Try.params4] at hA hval hsz2
  obtain ⟨v0, vs0, d0, ds0, p0, q0, hargs, rfl, rfl, h0, r0⟩ := trodAll_cons hA
  obtain ⟨rfl, rfl, rfl⟩ := trodAll_nil r0
  obtain rfl : args = #[v0] := by cases args; simp_all
  obtain ⟨rfl, rfl⟩ := trodVars_none hV
  obtain ⟨a0, len0, cap0, rfl⟩ := okWide_slice Try.underlying37 (hval 0 37 v0 rfl rfl)
  have k0 := h0
  have lt0 : ∀ x ∈ p0, x.block < W.heap.size := by obtain ⟨m, hm⟩ := k0; exact DataW.trod_lt m _ _ _ hm
  obtain ⟨f0, hf0⟩ := h0
  obtain ⟨ps0, hx0a, hx0b, hx0c, hx0d⟩ := open_zs12 hf0
  clear hA0 hval0
  refine (krOnce_any ps0 len0 cap0 a0 W hx0a hx0c hx0d).mono fun e W' ⟨he, bel⟩ => ?_
  subst he
  exact ⟨_, rfl, _, _, _, [], _, [], hW', trodAll_mk1 (shut_bool Try.underlying4 _), (trodAll_cons_mk (Below.trod laidOut (by kernel_rfl) (of_decide_eq_true (by kernel_rfl)) k0 bel lt0) trodAll_mk0), rfl, bel.frame _, fun h => by cases h⟩

theorem ringOnce_holds : Rows.RingOnceSaid :=
  OpenClaim.holds_of_wide 4 Try.f4 rfl rfl rfl rfl rfl rfl rfl ⟨rfl, rfl, rfl, rfl, rfl⟩ rfl rfl rfl rfl rfl (by kernel_rfl) Try.func4 (by kernel_rfl)
    (of_decide_eq_true (by kernel_rfl)) (by unfold Func.isWrapper; first | (rw [if_pos (by decide +kernel)]; kernel_rfl) | (rw [if_neg (by decide +kernel)]; exact ⟨rfl, rfl⟩))
    (fun os started H enc _ => ringOnce_lifted os started H enc)

#print axioms ringOnce_holds
end Go.Proofs.Ytoidjapenompiaa
