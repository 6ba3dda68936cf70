/-
  FrameScans, for any frames, bytes behind them and place: the law returns true, and what came in reads afterwards as it read before; the package's table starts as the program's own text lays it (the tie is given).
-/
import Derived.Test.YtejekgceompjpaaDoorPkD
import Derived.Test.YtejekgceompjpaaDoorPkF
import Derived.Test.YtejekgceompjpaaDoorTie
import Derived.Test.YtejekgceompjpaaDoorCards
import Derived.SevenTiedAt
/-
  FrameScans: frames one behind the other are scanned in their order; cut short just those are that are whole.
-/
namespace Go.Proofs.YtejekgceompjpaaDoor
open Go.RowKit Go.Proofs.ShaWords
/-- The frames that the statement puts. -/
def gsOf (os : List In9) : List Fr9 := os.map fun o => (kb ((pickZ o.z 255 + 1 : Nat) : Int), o.b)
theorem gsOf_length (os : List In9) : (gsOf os).length = os.length := by simp [gsOf]
theorem gsOf_get {os : List In9} {k : Nat} {o : In9} (h : os[k]? = some o) : (gsOf os)[k]? = some (kb ((pickZ o.z 255 + 1 : Nat) : Int), o.b) := by simp [gsOf, h]
theorem gs_kind (z : Int) : 1 ≤ ((pickZ z 255 + 1 : Nat) : Int) ∧ ((pickZ z 255 + 1 : Nat) : Int) ≤ 255 := by
  have := pickZ_lt z 255 (by decide)
  omega
theorem gsOf_ok {os : List In9} (h : ∀ o ∈ os, o.b.length ≤ 512) : ∀ f ∈ gsOf os, f.1 ≠ 0#8 ∧ f.2.length ≤ 2039 := fun f hf => by
  obtain ⟨o, ho, rfl⟩ := List.mem_map.1 hf
  exact ⟨kb_ne (gs_kind o.z).1 (gs_kind o.z).2, by have := h o ho; show o.b.length ≤ 2039; omega⟩
/-- Where they end. -/
def endsOf (gs : List Fr9) (k : Nat) : List Nat := (List.range (k + 1)).map fun j => (framesB (gs.take j)).length
theorem endsOf_length (gs : List Fr9) (k : Nat) : (endsOf gs k).length = k + 1 := by simp [endsOf]
theorem endsOf_zero (gs : List Fr9) : endsOf gs 0 = [0] := by simp [endsOf, framesB]
theorem endsOf_succ (gs : List Fr9) (k : Nat) : endsOf gs (k + 1) = endsOf gs k ++ [(framesB (gs.take (k + 1))).length] := by
  unfold endsOf
  rw [List.range_succ, List.map_append]
  rfl
theorem endsOf_get (gs : List Fr9) {k j : Nat} (h : j ≤ k) : (endsOf gs k).getD j 0 = (framesB (gs.take j)).length := by
  unfold endsOf
  simp [List.getD, show j < k + 1 by omega]
theorem framesB_le (gs : List Fr9) (j : Nat) : (framesB (gs.take j)).length ≤ (framesB gs).length := by
  conv => rhs; rw [← List.take_append_drop j gs, framesB_append, List.length_append]
  omega
theorem framesB_bound : ∀ (gs : List Fr9), (∀ f ∈ gs, f.2.length ≤ 2039) → (framesB gs).length ≤ gs.length * 2048
  | [], _ => Nat.zero_le _
  | f :: gs, h => by
    have ih := framesB_bound gs (fun x hx => h x (List.mem_cons_of_mem _ hx))
    have := h f List.mem_cons_self
    rw [framesB_cons, List.length_append, frameB_length, List.length_cons]
    omega
/-- Cut short: those that are whole. -/
theorem scan_ends {gs : List Fr9} (hok : ∀ f ∈ gs, f.1 ≠ 0#8 ∧ f.2.length ≤ 2039) {j ct : Nat} (hj : j ≤ gs.length) (h1 : (framesB (gs.take j)).length ≤ ct) (h2 : j = gs.length ∨ ct < (framesB (gs.take (j + 1))).length) (h3 : ct ≤ (framesB gs).length) :
    ∃ r, ScanOf ((framesB gs).take ct) (gs.take j) r := by
  by_cases he : j = gs.length
  · subst he
    rw [List.take_length] at h1 ⊢
    have e : ct = (framesB gs).length := by omega
    rw [e, List.take_length]
    exact ⟨[], scan_all gs hok⟩
  · have hlt : j < gs.length := by omega
    have h2' : ct < (framesB (gs.take (j + 1))).length := h2.resolve_left he
    have hs : gs = gs.take j ++ gs[j] :: gs.drop (j + 1) := by rw [← List.drop_eq_getElem_cons hlt, List.take_append_drop]
    rw [framesB_take (List.getElem?_eq_getElem hlt), List.length_append] at h2'
    have h := scan_cut (gs.take j) (gs.drop (j + 1)) gs[j] ct (fun x hx => hok x (List.mem_of_mem_take hx)) (hok _ (List.getElem_mem hlt)) h1 h2'
    rw [← hs] at h
    exact ⟨_, h⟩
theorem wanted_guardF {ops : Array Oper} {a : Act} {o : Oper} {j : Nat} {dj : Tmp} {oj : Oper} (hg : o.guard = some (j, false)) (hj : ops[j]? = some oj) (hd : oj.dst = some dj) (he : a.eval (.tmp dj) = .bool false) : Region.wanted o (yielded ops a.tmps) = true := by
  have h2 : a.tmps[dj]? = some (.bool false) := by
    have h3 : a.tmps.getD dj undef = .bool false := he
    rw [Array.getD_eq_getD_getElem?] at h3
    cases h4 : a.tmps[dj]? with
    | none => rw [h4] at h3; exact absurd h3 (by simp [undef])
    | some u => rw [h4] at h3; simp at h3; rw [h3]
  unfold Region.wanted
  rw [hg]
  simp only [yielded, hj, Option.bind_some, hd, h2]
  rfl
theorem run_neqKind {ρ : Operand → Value} {o : Oper} {x y : Operand} {n m : Int} {ty : TypeId} (ho : o.op = .binOp .neq 3 x y ty) (hx : ρ x = .int .i64 n) (hy : ρ y = .int .i64 m) (h : n = m) (w : World) : (execOp ρ o).run Tryd.prog w = .ok (.value (.bool false)) w := by
  subst h
  obtain ⟨dst, op, ty', pos, after, guard⟩ := o
  simp only at ho
  subst ho
  go_simp
set_option maxRecDepth 100000 in
set_option maxHeartbeats 8000000 in
theorem frScans_any (os : List In9) (m : List (BitVec 8)) (zc : Int) (N n2 : Nat) (p q : Option Addr) (c d : Nat) (w : World) (hN : os.length = N) (hm : m.length = n2) (_hc : N ≤ c) (_hd : n2 ≤ d) (hO : RowOf 2 In9.cells w p os) (hok : ∀ o ∈ os, o.Ok w) (hM : Lies w q m) (hR : Rem w) :
    Calls Tryd.prog 7 #[.slice p N c, .slice q n2 d, .int .i64 zc] w fun e w' => e = .returned (.bool true) ∧ Below w.heap.size w w' := by
  have HO := Lib.hid hO
  have HOK := Lib.hid hok
  have HM := Lib.hid hM
  have HR := Lib.hid hR
  have HN := Lib.hid hN
  have HN2 := Lib.hid hm
  clear hO hok hM hR hN hm
  by_cases h30 : 30 < N
  · have h30a : (30 : Int) < (N : Int) := by omega
    go_enter Tryd.func7, Tryd.ntmps7
    go_wp2_with fail
    refine (works9_any w HR.out).mono ?_
    rintro e w1 ⟨rfl, b1⟩
    have HB1 := Lib.hid b1
    clear b1
    go_wp2_with fail
    go_ret
    exact ⟨rfl, HB1.out⟩
  have h30a : ¬ (30 : Int) < (N : Int) := by omega
  by_cases h512 : 512 < n2
  · have h512a : (512 : Int) < (n2 : Int) := by omega
    go_enter Tryd.func7, Tryd.ntmps7
    go_wp2_with fail
    refine (works9_any w HR.out).mono ?_
    rintro e w1 ⟨rfl, b1⟩
    have HB1 := Lib.hid b1
    clear b1
    go_wp2_with fail
    go_ret
    exact ⟨rfl, HB1.out⟩
  have h512a : ¬ (512 : Int) < (n2 : Int) := by omega
  have hN30 : N ≤ 30 := by omega
  have hn512 : n2 ≤ 512 := by omega
  clear h30 h512
  obtain ⟨gs, hgs⟩ : ∃ gs, gs = gsOf os := ⟨_, rfl⟩
  have HGS := Lib.hid hgs
  have HGL : Hid (gs.length = N) := show _ = _ by rw [hgs, gsOf_length, HN.out]
  have HGG : Hid (∀ (k : Nat) (o : In9), os[k]? = some o → gs[k]? = some (kb ((pickZ o.z 255 + 1 : Nat) : Int), o.b)) := show _ from fun k o h => by rw [hgs]; exact gsOf_get h
  have HCELL : Hid (∀ (k : Nat) (o : In9), os[k]? = some o → ∃ b off, p = some ⟨b, off, none⟩ ∧ b < w.heap.size ∧ ∀ w', Below w.heap.size w w' → w'.cell? ⟨b, off + k * 2 + 0, none⟩ = some (.int .i64 o.z) ∧ w'.cell? ⟨b, off + k * 2 + 1, none⟩ = some (.slice o.p o.b.length o.c)) := show _ from fun k o h => by
    obtain ⟨hk, e⟩ := List.getElem?_eq_some_iff.1 h
    rcases HO.out.at' with h0 | ⟨b, off, hp, hr⟩
    · rw [h0] at hk; simp at hk
    · have r := hr k hk
      rw [e] at r
      have c0 := r 0 _ rfl
      have c1 := r 1 _ rfl
      have hb := World.block_lt_of_cell? w _ c0
      exact ⟨b, off, hp, hb, fun w' hw => ⟨(hw.cell (p := ⟨b, off + k * 2 + 0, none⟩) hb).trans c0, (hw.cell (p := ⟨b, off + k * 2 + 1, none⟩) hb).trans c1⟩⟩
  clear hgs
  go_enter Tryd.func7, Tryd.ntmps7
  go_wp2_with fail
  go_loopw [7, 8, 9] (fun v u i wr => ∃ k : Nat, k ≤ N ∧ i = .int .i64 (k : Int) ∧ (∀ o ∈ os.take k, o.b.length ≤ 512) ∧ Own w.heap.size wr (framesB (gs.take k)) v ∧ OwnI w.heap.size wr (endsOf gs k) u ∧ Below w.heap.size w wr) (fun _ _ i _ => N - (intOf i).toNat)
  case atStart => exact ⟨0, Nat.zero_le _, rfl, by simp, Own.nil _ _, by rw [endsOf_zero]; exact ownI_one 0 w, (Below.refl _ _).alloc (Nat.le_refl _) _⟩
  case round =>
    obtain ⟨k, hk, rfl, hall, ho, hi, hb⟩ := hrel
    have HALL := Lib.hid hall
    have HOB := Lib.hid ho
    have HOI := Lib.hid hi
    have HB := Lib.hid hb
    have hsb := hb.size
    by_cases hlt : k < N
    · have q1 : (k : Int) < (N : Int) := by omega
      obtain ⟨o, hok⟩ : ∃ o, os[k]? = some o := ⟨_, List.getElem?_eq_getElem (by rw [HN.out]; exact hlt)⟩
      obtain ⟨b, off, rfl, hbl, hcs⟩ := HCELL.out k o hok
      have HCS := Lib.hid hcs
      have hc2 := (hcs wr hb).2
      have HG1 := Lib.hid (HGG.out k o hok)
      have HOO := Lib.hid (HOK.out o (List.mem_of_getElem? hok))
      have HOS := Lib.hid hok
      obtain ⟨nb, hnb⟩ : ∃ nb, o.b.length = nb := ⟨_, rfl⟩
      rw [hnb] at hc2
      have HNB := Lib.hid hnb
      clear hall ho hi hb hcs hok hnb
      by_cases h5 : 512 < nb
      · have h5a : (512 : Int) < (nb : Int) := by omega
        go_wp2_with fail
        refine (works9_any wr (HR.out.on HB.out)).mono ?_
        rintro e w1 ⟨rfl, b1⟩
        have HB1 : Hid (Below w.heap.size w w1) := show Below _ _ _ from HB.out.trans (b1.mono hsb)
        clear b1
        go_wp2_with fail
        go_ret
        exact ⟨rfl, HB1.out⟩
      have h5a : ¬ (512 : Int) < (nb : Int) := by omega
      have hnb5 : nb ≤ 512 := by omega
      have HPE := Lib.hid (putE_ok (z := ((pickZ o.z 255 + 1 : Nat) : Int)) (l := o.b) (gs_kind o.z).1 (gs_kind o.z).2 (by rw [HNB.out]; omega))
      have HFL := Lib.hid (frameB_length (kb ((pickZ o.z 255 + 1 : Nat) : Int)) o.b)
      have HTK := Lib.hid (framesB_take HG1.out)
      have HES := Lib.hid (endsOf_succ gs k)
      have HEL := Lib.hid (endsOf_length gs k)
      have hpz : pickZ o.z 255 + 1 < 1000000000 := by have := (gs_kind o.z).2; omega
      have HZE : Hid (∀ w', Below w.heap.size w w' → w'.cell? ⟨b, off + k * 2 + 0, none⟩ = some (.int .i64 o.z)) := show _ from fun w' h => (HCS.out w' h).1
      have HSE : Hid (∀ w', Below w.heap.size w w' → w'.cell? ⟨b, off + k * 2 + 1, none⟩ = some (.slice o.p nb o.c)) := show _ from fun w' h => by rw [← HNB.out]; exact (HCS.out w' h).2
      have hBK : (framesB (gs.take k)).length ≤ 100000 := by
        have hgo : ∀ f ∈ gs.take k, f.2.length ≤ 2039 := fun f hf => by
          have hf' : f ∈ gsOf (os.take k) := by
            unfold gsOf
            rw [List.map_take]
            rw [HGS.out] at hf
            exact hf
          obtain ⟨o', ho', rfl⟩ := List.mem_map.1 hf'
          have := HALL.out o' ho'
          show o'.b.length ≤ 2039
          omega
        have h1 := framesB_bound (gs.take k) hgo
        have h2 : (gs.take k).length ≤ 30 := by rw [List.length_take, HGL.out]; omega
        have h3 : (gs.take k).length * 2048 ≤ 30 * 2048 := Nat.mul_le_mul_right _ h2
        omega
      obtain ⟨bk, hbk⟩ : ∃ bk, (framesB (gs.take k)).length = bk := ⟨_, rfl⟩
      rw [hbk] at hBK
      have HBK := Lib.hid hbk
      clear hbk
      go_upto_region 10 with (fail)
      clear hc2
      have HD : Hid (Below w.heap.size w wr.drew) := show Below _ _ _ from HB.out.trans ((Below.refl wr.heap.size wr).drew.mono HB.out.size)
      have hdr : Below wr.heap.size wr wr.drew := (Below.refl _ _).drew
      have HOBD := Lib.hid (HOB.out.below hdr)
      have HOID := Lib.hid (HOI.out.below hdr)
      clear hdr
      refine region_phase (fun w' => Below w.heap.size w w') (fun _ => True) 5 (HD.out) trivial [(0, .free), (1, .free), (2, .free), (3, .free), (4, .free), (7, .free), (8, .free), (9, .free), (10, .free), (11, .free), (5, .behind), (6, .free), (12, .behind), (13, .free), (14, .free), (15, .free), (16, .free), (17, .free)] (by kernel_rfl) (by kernel_rfl) (by kernel_rfl) (by kernel_rfl) (fun ops hops A hA => ?_)
      have hsz : A.tmps.size = 168 := by rw [hA]; rfl
      have base0 : A.eval (.tmp 0) = .slice (some ⟨b, off, none⟩) N c := by rw [hA]; rfl
      have base7 : A.eval (.tmp 7) = u7 := by rw [hA]; rfl
      have base8 : A.eval (.tmp 8) = u8 := by rw [hA]; rfl
      have base9 : A.eval (.tmp 9) = .int .i64 (k : Int) := by rw [hA]; rfl
      have HAA := Lib.hid hA; clear hA
      obtain ⟨o0, po0, q0, d0, gd0⟩ : ∃ o, ops[0]? = some o ∧ o.op = .move (.tmp 0) ∧ o.dst = some 41 ∧ o.guard = none := ⟨_, by rw [hops]; rfl, rfl, rfl, rfl⟩
      obtain ⟨o1, po1, q1, d1, gd1⟩ : ∃ o, ops[1]? = some o ∧ o.op = .move (.tmp 9) ∧ o.dst = some 42 ∧ o.guard = none := ⟨_, by rw [hops]; rfl, rfl, rfl, rfl⟩
      obtain ⟨o2, po2, q2, d2, gd2⟩ : ∃ o, ops[2]? = some o ∧ o.op = .indexAddr 37 (.tmp 41) (.tmp 42) ∧ o.dst = some 43 ∧ o.guard = none := ⟨_, by rw [hops]; rfl, rfl, rfl, rfl⟩
      obtain ⟨o3, po3, q3, d3, gd3⟩ : ∃ o, ops[3]? = some o ∧ o.op = .fieldAddr 34 (.tmp 43) 0 ∧ o.dst = some 44 ∧ o.guard = none := ⟨_, by rw [hops]; rfl, rfl, rfl, rfl⟩
      obtain ⟨o4, po4, q4, d4, gd4⟩ : ∃ o, ops[4]? = some o ∧ o.op = .load 3 (.tmp 44) ∧ o.dst = some 45 ∧ o.guard = none := ⟨_, by rw [hops]; rfl, rfl, rfl, rfl⟩
      obtain ⟨o5, po5, q5, d5, gd5⟩ : ∃ o, ops[5]? = some o ∧ o.op = .call { callee := .value (.func 27), args := #[.tmp 45, .const (.int .i64 255)], argTypes := #[3, 3] } ∧ o.dst = some 46 ∧ o.guard = none := ⟨_, by rw [hops]; rfl, rfl, rfl, rfl⟩
      obtain ⟨o6, po6, q6, d6, gd6⟩ : ∃ o, ops[6]? = some o ∧ o.op = .binOp .add 3 (.const (.int .i64 1)) (.tmp 46) 3 ∧ o.dst = some 47 ∧ o.guard = none := ⟨_, by rw [hops]; rfl, rfl, rfl, rfl⟩
      obtain ⟨o7, po7, q7, d7, gd7⟩ : ∃ o, ops[7]? = some o ∧ o.op = .move (.tmp 0) ∧ o.dst = some 48 ∧ o.guard = none := ⟨_, by rw [hops]; rfl, rfl, rfl, rfl⟩
      obtain ⟨o8, po8, q8, d8, gd8⟩ : ∃ o, ops[8]? = some o ∧ o.op = .move (.tmp 9) ∧ o.dst = some 49 ∧ o.guard = none := ⟨_, by rw [hops]; rfl, rfl, rfl, rfl⟩
      obtain ⟨o9, po9, q9, d9, gd9⟩ : ∃ o, ops[9]? = some o ∧ o.op = .indexAddr 37 (.tmp 48) (.tmp 49) ∧ o.dst = some 50 ∧ o.guard = none := ⟨_, by rw [hops]; rfl, rfl, rfl, rfl⟩
      obtain ⟨o10, po10, q10, d10, gd10⟩ : ∃ o, ops[10]? = some o ∧ o.op = .fieldAddr 34 (.tmp 50) 1 ∧ o.dst = some 51 ∧ o.guard = none := ⟨_, by rw [hops]; rfl, rfl, rfl, rfl⟩
      obtain ⟨o11, po11, q11, d11, gd11⟩ : ∃ o, ops[11]? = some o ∧ o.op = .load 22 (.tmp 51) ∧ o.dst = some 52 ∧ o.guard = none := ⟨_, by rw [hops]; rfl, rfl, rfl, rfl⟩
      obtain ⟨o12, po12, q12, d12, gd12⟩ : ∃ o, ops[12]? = some o ∧ o.op = .call { callee := .value (.func 13), args := #[.tmp 47, .tmp 52], argTypes := #[3, 22] } ∧ o.dst = some 53 ∧ o.guard = none := ⟨_, by rw [hops]; rfl, rfl, rfl, rfl⟩
      obtain ⟨o13, po13, q13, d13, gd13⟩ : ∃ o, ops[13]? = some o ∧ o.op = .move (.tmp 53) ∧ o.dst = some 40 ∧ o.guard = none := ⟨_, by rw [hops]; rfl, rfl, rfl, rfl⟩
      obtain ⟨o14, po14, q14, d14, gd14⟩ : ∃ o, ops[14]? = some o ∧ o.op = .extract (.tmp 40) 0 ∧ o.dst = some 54 ∧ o.guard = none := ⟨_, by rw [hops]; rfl, rfl, rfl, rfl⟩
      obtain ⟨o15, po15, q15, d15, gd15⟩ : ∃ o, ops[15]? = some o ∧ o.op = .extract (.tmp 40) 1 ∧ o.dst = some 55 ∧ o.guard = none := ⟨_, by rw [hops]; rfl, rfl, rfl, rfl⟩
      obtain ⟨o16, po16, q16, d16, gd16⟩ : ∃ o, ops[16]? = some o ∧ o.op = .assign (.tmp 54) ∧ o.dst = some 10 ∧ o.guard = none := ⟨_, by rw [hops]; rfl, rfl, rfl, rfl⟩
      obtain ⟨o17, po17, q17, d17, gd17⟩ : ∃ o, ops[17]? = some o ∧ o.op = .assign (.tmp 55) ∧ o.dst = some 11 ∧ o.guard = none := ⟨_, by rw [hops]; rfl, rfl, rfl, rfl⟩
      clear hops
      refine met_free po0 d0 (wanted_of gd0) (fun w' h' => run_move q0 base0 w') ?_
      refine met_free po1 d1 (wanted_of gd1) (fun w' h' => run_move q1 ((eval_other _ 41 9 _ (by decide)).trans base9) w') ?_
      refine met_free po2 d2 (wanted_of gd2) (fun w' h' => run_ixFr q2 ((eval_other _ 42 41 _ (by decide)).trans (eval_same _ _ _ (by rw [hsz]; decide))) (eval_same _ _ _ (by simp only [put_size, hsz]; decide)) hlt w') ?_
      refine met_free po3 d3 (wanted_of gd3) (fun w' h' => run_fieldFr q3 (by decide) (eval_same _ _ _ (by simp only [put_size, hsz]; decide)) w') ?_
      refine met_free po4 d4 (wanted_of gd4) (fun w' h' => run_loadKind q4 (eval_same _ _ _ (by simp only [put_size, hsz]; decide)) (HZE.out _ h')) ?_
      refine met_free po7 d7 (wanted_of gd7) (fun w' h' => run_move q7 ((eval_other _ 45 0 _ (by decide)).trans ((eval_other _ 44 0 _ (by decide)).trans ((eval_other _ 43 0 _ (by decide)).trans ((eval_other _ 42 0 _ (by decide)).trans ((eval_other _ 41 0 _ (by decide)).trans base0))))) w') ?_
      refine met_free po8 d8 (wanted_of gd8) (fun w' h' => run_move q8 ((eval_other _ 48 9 _ (by decide)).trans ((eval_other _ 45 9 _ (by decide)).trans ((eval_other _ 44 9 _ (by decide)).trans ((eval_other _ 43 9 _ (by decide)).trans ((eval_other _ 42 9 _ (by decide)).trans ((eval_other _ 41 9 _ (by decide)).trans base9)))))) w') ?_
      refine met_free po9 d9 (wanted_of gd9) (fun w' h' => run_ixFr q9 ((eval_other _ 49 48 _ (by decide)).trans (eval_same _ _ _ (by simp only [put_size, hsz]; decide))) (eval_same _ _ _ (by simp only [put_size, hsz]; decide)) hlt w') ?_
      refine met_free po10 d10 (wanted_of gd10) (fun w' h' => run_fieldFr q10 (by decide) (eval_same _ _ _ (by simp only [put_size, hsz]; decide)) w') ?_
      refine met_free po11 d11 (wanted_of gd11) (fun w' h' => run_loadSlice q11 (eval_same _ _ _ (by simp only [put_size, hsz]; decide)) (HSE.out _ h')) ?_
      refine m_enter po5 d5 (wanted_of gd5) (run_callf2 q5 rfl ((eval_other _ 52 45 _ (by decide)).trans ((eval_other _ 51 45 _ (by decide)).trans ((eval_other _ 50 45 _ (by decide)).trans ((eval_other _ 49 45 _ (by decide)).trans ((eval_other _ 48 45 _ (by decide)).trans (eval_same _ _ _ (by simp only [put_size, hsz]; decide))))))) rfl Tryd.func27 (by kernel_rfl) _) (pickZ_any o.z 255 _ (by decide) (by decide)) ?_
      rintro e wp ⟨rfl, rfl⟩
      refine ⟨_, rfl, HD.out, ?_⟩
      refine met_free po6 d6 (wanted_of gd6) (fun w' h' => r_addC (C := 1) q6 rfl (eval_same _ _ _ (by simp only [put_size, hsz]; decide)) hpz w') ?_
      refine m_enter po12 d12 (wanted_of gd12) (run_callf2 q12 rfl (eval_same _ _ _ (by simp only [put_size, hsz]; decide)) ((eval_other _ 47 52 _ (by decide)).trans ((eval_other _ 46 52 _ (by decide)).trans (eval_same _ _ _ (by simp only [put_size, hsz]; decide)))) Tryd.func13 (by kernel_rfl) _) (put_any ((pickZ o.z 255 + 1 : Nat) : Int) o.b nb o.p o.c _ HNB.out (by omega) (HOO.out.lies.below HD.out) (HR.out.on HD.out)) ?_
      rintro e w5 ⟨b5, v5, rfl, ho5⟩
      rw [HPE.out.2] at ho5
      have HOP := Lib.hid ho5
      have HBP : Hid (Below w.heap.size w w5) := show Below _ _ _ from HD.out.trans (b5.mono HD.out.size)
      have HOR := Lib.hid (HOBD.out.below b5)
      have HOIR := Lib.hid (HOID.out.below b5)
      clear ho5 b5
      refine ⟨_, rfl, HBP.out, ?_⟩
      refine met_free po13 d13 (wanted_of gd13) (fun w' h' => run_move q13 (eval_same _ _ _ (by simp only [put_size, hsz]; decide)) w') ?_
      refine met_free po14 d14 (wanted_of gd14) (fun w' h' => run_extract q14 (eval_same _ _ _ (by simp only [put_size, hsz]; decide)) rfl w') ?_
      refine met_free po15 d15 (wanted_of gd15) (fun w' h' => run_extract q15 ((eval_other _ 54 40 _ (by decide)).trans (eval_same _ _ _ (by simp only [put_size, hsz]; decide))) rfl w') ?_
      refine met_free po16 d16 (wanted_of gd16) (fun w' h' => run_assign q16 ((eval_other _ 55 54 _ (by decide)).trans (eval_same _ _ _ (by simp only [put_size, hsz]; decide))) w') ?_
      refine met_free po17 d17 (wanted_of gd17) (fun w' h' => run_assign q17 ((eval_other _ 10 55 _ (by decide)).trans (eval_same _ _ _ (by simp only [put_size, hsz]; decide))) w') ?_
      show NoPanic _ .normal _ _
      refine NoPanic.normal ?_
      rw [HAA.out]
      go_frame
      clear HAA
      clear po0 q0 d0 gd0 po1 q1 d1 gd1 po2 q2 d2 gd2 po3 q3 d3 gd3 po4 q4 d4 gd4 po5 q5 d5 gd5 po6 q6 d6 gd6 po7 q7 d7 gd7 po8 q8 d8 gd8 po9 q9 d9 gd9 po10 q10 d10 gd10 po11 q11 d11 gd11 po12 q12 d12 gd12 po13 q13 d13 gd13 po14 q14 d14 gd14 po15 q15 d15 gd15 po16 q16 d16 gd16 po17 q17 d17 gd17
      clear base0 base7 base8 base9 hsz
      rw [HPE.out.1]
      have HFX : Hid ((frameB (kb ((pickZ o.z 255 + 1 : Nat) : Int)) o.b).length = nb + 9) := show _ = _ by rw [HFL.out, HNB.out]
      obtain ⟨qp, cp, rfl, -, -, lp⟩ := HOP.out.slN HFX.out
      have HLP := Lib.hid lp
      have sp := HBP.out.size
      have HTN : Hid ((framesB (gs.take (k + 1))).length = bk + (nb + 9)) := show _ = _ by rw [HTK.out, List.length_append, HBK.out, HFX.out]
      clear lp
      go_upto_region 12 with (at_builtin; refine wpList_append_listG rfl (.tmp 56) (.tmp 57) rfl w.heap.size _ (framesB (gs.take k)) (frameB (kb ((pickZ o.z 255 + 1 : Nat) : Int)) o.b) _ _ rfl HOR.out (by rw [HFX.out]; rfl) HLP.out (by rw [HFX.out, HBK.out]; omega) sp ?_; intro v7 w7 h7 g7; have hI7 := nums_over HOR.out HOIR.out g7; have hB7 := HBP.out.grown g7 sp (fun j e => (World.ownsRow.lt HOR.out j e).1); rw [← HTK.out] at h7; obtain ⟨q7, c7, rfl, -, -, -⟩ := h7.slN HTN.out; have HO7 := Lib.hid h7; have HI7 := Lib.hid hI7; have HB7 := Lib.hid hB7; clear h7 g7 hI7 hB7)
      go_wp2_with (at_builtin; refine wpList_append_numG rfl (.tmp 59) (.tmp 62) rfl w.heap.size _ (endsOf gs k) (bk + (nb + 9)) rfl HI7.out rfl (by rw [HEL.out]; omega) HB7.out.size ?_; intro v8 w8 h8 g8; have ha8 := HI7.out.below ((Below.refl _ _).alloc (Nat.le_refl _) (.cells #[.int .i64 ((bk + (nb + 9) : Nat) : Int)] 3)); have hO8 := own_over_nums (HO7.out.below ((Below.refl _ _).alloc (Nat.le_refl _) (.cells #[.int .i64 ((bk + (nb + 9) : Nat) : Int)] 3))) ha8 g8; have hB8 := (HB7.out.alloc HB7.out.size (.cells #[.int .i64 ((bk + (nb + 9) : Nat) : Int)] 3)).grown g8 (by rw [size_alloc]; have := HB7.out.size; omega) (fun j e => (World.ownsRow.lt HI7.out j e).1); have HO8 := Lib.hid hO8; have HI8 := Lib.hid h8; have HB8 := Lib.hid hB8; clear h8 g8 ha8 hO8 hB8)
      have HALL2 : Hid (∀ o' ∈ os.take (k + 1), o'.b.length ≤ 512) := show _ from fun o' ho' => by
        have hk' : k < os.length := by rw [HN.out]; exact hlt
        rw [List.take_succ_eq_append_getElem hk'] at ho'
        rcases List.mem_append.1 ho' with h | h
        · exact HALL.out o' h
        · rw [List.mem_singleton] at h
          have e := (List.getElem?_eq_some_iff.1 HOS.out).2
          rw [h, e, HNB.out]; exact hnb5
      go_roundw
      case rel => exact ⟨k + 1, by omega, by go_num, HALL2.out, HO8.out, by rw [HES.out, HTN.out]; exact HI8.out, HB8.out⟩
      case measure => simp [intOf]; omega
    · have hkn : k = N := by omega
      have q1 : ¬ (k : Int) < (N : Int) := by omega
      have hall2 : ∀ o ∈ os, o.b.length ≤ 512 := fun o h => hall o (by rw [hkn, ← HN.out, List.take_length]; exact h)
      have hgok : ∀ f ∈ gs, f.1 ≠ 0#8 ∧ f.2.length ≤ 2039 := by rw [HGS.out]; exact gsOf_ok hall2
      have hgt : gs.take k = gs := by rw [hkn, ← HGL.out, List.take_length]
      rw [hgt] at ho
      rw [hkn] at hi
      obtain ⟨Sb, hSb⟩ : ∃ Sb, (framesB gs).length = Sb := ⟨_, rfl⟩
      have hSbb : Sb ≤ 70000 := by
        have h1 := framesB_bound gs (fun f hf => (hgok f hf).2)
        rw [HGL.out] at h1
        have h3 : N * 2048 ≤ 30 * 2048 := Nat.mul_le_mul_right _ hN30
        omega
      obtain ⟨q7, c7, rfl, hc7, -, l7⟩ := ho.slN hSb
      obtain ⟨qe, ce, rfl, hce, le⟩ := hi.slN (endsOf_length gs N)
      have HSB := Lib.hid hSb
      have HGOK := Lib.hid hgok
      have HALLS := Lib.hid hall2
      have HO7 := Lib.hid ho
      have HI7 := Lib.hid hi
      have HL7 := Lib.hid l7
      have HLE := Lib.hid le
      have HC7 := Lib.hid hc7
      obtain ⟨fs, r, hS⟩ := scan_ex (framesB gs ++ m).length (framesB gs ++ m) (Nat.le_refl _)
      obtain ⟨xs, hfs, hS2⟩ := hS.prefix_ gs hgok
      have HS := Lib.hid hS
      have HFS := Lib.hid hfs
      have HFM : Hid ((framesB gs ++ m).length = Sb + n2) := show _ = _ by rw [List.length_append, hSb, HN2.out]
      obtain ⟨Sn, hSn⟩ : ∃ Sn, (framesB fs).length = Sn := ⟨_, rfl⟩
      have HSN := Lib.hid hSn
      have hSn1 : Sb ≤ Sn := by rw [← hSn, hfs, framesB_append, List.length_append, hSb]; omega
      have hSn2 : Sn ≤ Sb + n2 := by
        have h1 := congrArg List.length hS.eq
        rw [HFM.out, List.length_append, hSn] at h1
        omega
      obtain ⟨G, hG⟩ : ∃ G, fs.length = G := ⟨_, rfl⟩
      have hG1 : N ≤ G := by rw [← hG, hfs, List.length_append, HGL.out]; omega
      have HG := Lib.hid hG
      clear hall hall2 hgok hgt ho hi hSb l7 le hS hfs hS2 hSn hG
      go_wp2_with fail
      refine (copy_bigN (framesB gs) Sb q7 c7 wr HSB.out (by omega) HL7.out).mono ?_
      rintro e w1 ⟨v1, rfl, h1, b1⟩
      have HO1 := Lib.hid h1
      have HB1 := Lib.hid b1
      have hs1 := b1.size
      clear h1 b1
      go_wp2_with (at_builtin; refine wpList_append_listB rfl (.tmp 66) (.tmp 67) rfl wr.heap.size _ (framesB gs) m q d rfl HO1.out (by rw [HN2.out]; rfl) (HM.out.below (hb.trans (HB1.out.mono hsb))) (by rw [HSB.out, HN2.out]; omega) hs1 ?_; intro v2 w2 h2 b2; obtain ⟨q2, c2, rfl, hc2, -, l2⟩ := h2.slN HFM.out; have HL2 := Lib.hid l2; have HC2 := Lib.hid hc2; have HB2 : Hid (Below wr.heap.size wr w2) := show Below _ _ _ from HB1.out.trans b2; clear h2 b2 l2 hc2)
      have hW2 : Below w.heap.size w w2 := hb.trans (HB2.out.mono hsb)
      refine (scan_any (framesB gs ++ m) (Sb + n2) q2 c2 w2 fs r HFM.out HC2.out (by omega) HL2.out (HR.out.on hW2) HS.out).mono ?_
      rintro e w3 ⟨hv3, vs3, rfl, hl3, b3⟩
      rw [HSN.out]
      obtain ⟨qg, cg, rfl, -⟩ := hl3.sl9 HG.out
      have HL3 := Lib.hid hl3
      have HB3 : Hid (Below wr.heap.size wr w3) := show Below _ _ _ from HB2.out.trans (b3.mono HB2.out.size)
      have HW3 : Hid (Below w.heap.size w w3) := show Below _ _ _ from hb.trans (HB3.out.mono hsb)
      have y1 : ¬ (G : Int) < (N : Int) := by omega
      have y2 : ¬ (Sn : Int) < (Sb : Int) := by omega
      have y3 : ¬ (Sb : Int) + (n2 : Int) < (Sn : Int) := by omega
      clear hl3 b3 hW2 hb HB HOB HOI HALL
      go_wp2_with fail
      go_loopw [14] (fun i wr2 => ∃ j : Nat, j ≤ N ∧ i = .int .i64 (j : Int) ∧ Below w3.heap.size w3 wr2) (fun i _ => N - (intOf i).toNat)
      case atStart => exact ⟨0, Nat.zero_le _, rfl, Below.refl _ _⟩
      case round =>
        obtain ⟨j, hj, rfl, hb⟩ := hrel
        have HB := Lib.hid hb
        by_cases hlt2 : j < N
        · have q2' : (j : Int) < (N : Int) := by omega
          have hjG : j < G := by omega
          obtain ⟨o, hok⟩ : ∃ o, os[j]? = some o := ⟨_, List.getElem?_eq_getElem (by rw [HN.out]; exact hlt2)⟩
          obtain ⟨b, off, rfl, hbl, hcs⟩ := HCELL.out j o hok
          have hgj := HGG.out j o hok
          have hfj : fs[j]? = some (kb ((pickZ o.z 255 + 1 : Nat) : Int), o.b) := by
            rw [HFS.out, List.getElem?_append_left (by rw [HGL.out]; exact hlt2)]
            exact hgj
          obtain ⟨v, hvj⟩ : ∃ v, vs3[j]? = some v := ⟨_, List.getElem?_eq_getElem (by rw [HL3.out.len, HG.out]; exact hjG)⟩
          obtain ⟨gg, cc, eg, -, hgg, -, hcell⟩ := HL3.out.cell (by rw [HG.out]; omega)
          rw [HG.out] at eg
          cases eg
          obtain ⟨a1, a2⟩ := hcell j _ v hfj hvj
          obtain ⟨qx, cx, rfl, -, -, lx⟩ := (HL3.out.each j v _ hvj hfj).slN (n := o.b.length) rfl
          have HLX := Lib.hid lx
          have HOO := Lib.hid (HOK.out o (List.mem_of_getElem? hok))
          have hob : o.b.length ≤ 512 := HALLS.out o (List.mem_of_getElem? hok)
          obtain ⟨nb, hnb⟩ : ∃ nb, o.b.length = nb := ⟨_, rfl⟩
          have HNB := Lib.hid hnb
          have HA1 : Hid (∀ w', Below w3.heap.size w3 w' → w'.cell? ⟨gg, 0 + j * 2 + 0, none⟩ = some (.int .i64 (n8 (kb ((pickZ o.z 255 + 1 : Nat) : Int))))) := show _ from fun w' h => by rw [Nat.zero_add]; exact (h.cell (p := ⟨gg, j * 2, none⟩) hgg).trans a1
          have HA2 : Hid (∀ w', Below w3.heap.size w3 w' → w'.cell? ⟨gg, 0 + j * 2 + 1, none⟩ = some (.slice qx nb cx)) := show _ from fun w' h => by rw [Nat.zero_add, ← hnb]; exact (h.cell (p := ⟨gg, j * 2 + 1, none⟩) hgg).trans a2
          have hs3 := HW3.out.size
          have HC1 : Hid (∀ w', Below w3.heap.size w3 w' → w'.cell? ⟨b, off + j * 2 + 0, none⟩ = some (.int .i64 o.z)) := show _ from fun w' h => (hcs w' (HW3.out.trans (h.mono hs3))).1
          have HC2' : Hid (∀ w', Below w3.heap.size w3 w' → w'.cell? ⟨b, off + j * 2 + 1, none⟩ = some (.slice o.p nb o.c)) := show _ from fun w' h => by rw [← hnb]; exact (hcs w' (HW3.out.trans (h.mono hs3))).2
          have hpz : pickZ o.z 255 + 1 < 1000000000 := by have := (gs_kind o.z).2; omega
          have HKE : Hid (n8 (kb ((pickZ o.z 255 + 1 : Nat) : Int)) = ((pickZ o.z 255 + 1 : Nat) : Int)) := show _ = _ from n8_kb (by have := (gs_kind o.z).1; omega) (by have := (gs_kind o.z).2; omega)
          rw [hnb] at hob
          clear hb hok hcs hgj hfj hvj hcell a1 a2 lx hnb
          go_upto_region 19 with (fail)
          have HD : Hid (Below w3.heap.size w3 wr.drew) := show Below _ _ _ from HB.out.trans ((Below.refl wr.heap.size wr).drew.mono HB.out.size)
          refine region_phase (fun w' => Below w3.heap.size w3 w') (fun _ => True) 10 (HD.out) trivial [(0, .free), (1, .free), (2, .free), (3, .free), (4, .free), (5, .free), (6, .free), (7, .free), (8, .free), (9, .free), (10, .behind), (11, .free), (12, .free), (13, .free), (14, .free), (15, .free), (16, .free), (17, .free), (18, .free), (19, .free), (20, .free), (21, .free), (22, .free), (23, .free), (24, .behind), (25, .free), (26, .free)] (by kernel_rfl) (by kernel_rfl) (by kernel_rfl) (by kernel_rfl) (fun ops hops A2 hA => ?_)
          have hsz : A2.tmps.size = 168 := by rw [hA]; rfl
          have base0 : A2.eval (.tmp 0) = .slice (some ⟨b, off, none⟩) N c := by rw [hA]; rfl
          have base12 : A2.eval (.tmp 12) = .slice (some ⟨gg, 0, none⟩) G cg := by rw [hA]; rfl
          have base14 : A2.eval (.tmp 14) = .int .i64 (j : Int) := by rw [hA]; rfl
          have HAA := Lib.hid hA; clear hA
          obtain ⟨o0, po0, q0, d0, gd0⟩ : ∃ o, ops[0]? = some o ∧ o.op = .move (.tmp 12) ∧ o.dst = some 98 ∧ o.guard = none := ⟨_, by rw [hops]; rfl, rfl, rfl, rfl⟩
          obtain ⟨o1, po1, q1, d1, gd1⟩ : ∃ o, ops[1]? = some o ∧ o.op = .move (.tmp 14) ∧ o.dst = some 99 ∧ o.guard = none := ⟨_, by rw [hops]; rfl, rfl, rfl, rfl⟩
          obtain ⟨o2, po2, q2, d2, gd2⟩ : ∃ o, ops[2]? = some o ∧ o.op = .indexAddr 37 (.tmp 98) (.tmp 99) ∧ o.dst = some 100 ∧ o.guard = none := ⟨_, by rw [hops]; rfl, rfl, rfl, rfl⟩
          obtain ⟨o3, po3, q3, d3, gd3⟩ : ∃ o, ops[3]? = some o ∧ o.op = .fieldAddr 34 (.tmp 100) 0 ∧ o.dst = some 101 ∧ o.guard = none := ⟨_, by rw [hops]; rfl, rfl, rfl, rfl⟩
          obtain ⟨o4, po4, q4, d4, gd4⟩ : ∃ o, ops[4]? = some o ∧ o.op = .load 3 (.tmp 101) ∧ o.dst = some 102 ∧ o.guard = none := ⟨_, by rw [hops]; rfl, rfl, rfl, rfl⟩
          obtain ⟨o5, po5, q5, d5, gd5⟩ : ∃ o, ops[5]? = some o ∧ o.op = .move (.tmp 0) ∧ o.dst = some 103 ∧ o.guard = none := ⟨_, by rw [hops]; rfl, rfl, rfl, rfl⟩
          obtain ⟨o6, po6, q6, d6, gd6⟩ : ∃ o, ops[6]? = some o ∧ o.op = .move (.tmp 14) ∧ o.dst = some 104 ∧ o.guard = none := ⟨_, by rw [hops]; rfl, rfl, rfl, rfl⟩
          obtain ⟨o7, po7, q7, d7, gd7⟩ : ∃ o, ops[7]? = some o ∧ o.op = .indexAddr 37 (.tmp 103) (.tmp 104) ∧ o.dst = some 105 ∧ o.guard = none := ⟨_, by rw [hops]; rfl, rfl, rfl, rfl⟩
          obtain ⟨o8, po8, q8, d8, gd8⟩ : ∃ o, ops[8]? = some o ∧ o.op = .fieldAddr 34 (.tmp 105) 0 ∧ o.dst = some 106 ∧ o.guard = none := ⟨_, by rw [hops]; rfl, rfl, rfl, rfl⟩
          obtain ⟨o9, po9, q9, d9, gd9⟩ : ∃ o, ops[9]? = some o ∧ o.op = .load 3 (.tmp 106) ∧ o.dst = some 107 ∧ o.guard = none := ⟨_, by rw [hops]; rfl, rfl, rfl, rfl⟩
          obtain ⟨o10, po10, q10, d10, gd10⟩ : ∃ o, ops[10]? = some o ∧ o.op = .call { callee := .value (.func 27), args := #[.tmp 107, .const (.int .i64 255)], argTypes := #[3, 3] } ∧ o.dst = some 108 ∧ o.guard = none := ⟨_, by rw [hops]; rfl, rfl, rfl, rfl⟩
          obtain ⟨o11, po11, q11, d11, gd11⟩ : ∃ o, ops[11]? = some o ∧ o.op = .binOp .add 3 (.const (.int .i64 1)) (.tmp 108) 3 ∧ o.dst = some 109 ∧ o.guard = none := ⟨_, by rw [hops]; rfl, rfl, rfl, rfl⟩
          obtain ⟨o12, po12, q12, d12, gd12⟩ : ∃ o, ops[12]? = some o ∧ o.op = .binOp .neq 3 (.tmp 102) (.tmp 109) 3 ∧ o.dst = some 110 ∧ o.guard = none := ⟨_, by rw [hops]; rfl, rfl, rfl, rfl⟩
          obtain ⟨o13, po13, q13, d13, gd13⟩ : ∃ o, ops[13]? = some o ∧ o.op = .move (.tmp 110) ∧ o.dst = some 111 ∧ o.guard = none := ⟨_, by rw [hops]; rfl, rfl, rfl, rfl⟩
          obtain ⟨o14, po14, q14, d14, gd14⟩ : ∃ o, ops[14]? = some o ∧ o.op = .move (.tmp 12) ∧ o.dst = some 112 ∧ o.guard = some (13, false) := ⟨_, by rw [hops]; rfl, rfl, rfl, rfl⟩
          obtain ⟨o15, po15, q15, d15, gd15⟩ : ∃ o, ops[15]? = some o ∧ o.op = .move (.tmp 14) ∧ o.dst = some 113 ∧ o.guard = some (13, false) := ⟨_, by rw [hops]; rfl, rfl, rfl, rfl⟩
          obtain ⟨o16, po16, q16, d16, gd16⟩ : ∃ o, ops[16]? = some o ∧ o.op = .indexAddr 37 (.tmp 112) (.tmp 113) ∧ o.dst = some 114 ∧ o.guard = some (13, false) := ⟨_, by rw [hops]; rfl, rfl, rfl, rfl⟩
          obtain ⟨o17, po17, q17, d17, gd17⟩ : ∃ o, ops[17]? = some o ∧ o.op = .fieldAddr 34 (.tmp 114) 1 ∧ o.dst = some 115 ∧ o.guard = some (13, false) := ⟨_, by rw [hops]; rfl, rfl, rfl, rfl⟩
          obtain ⟨o18, po18, q18, d18, gd18⟩ : ∃ o, ops[18]? = some o ∧ o.op = .load 22 (.tmp 115) ∧ o.dst = some 116 ∧ o.guard = some (13, false) := ⟨_, by rw [hops]; rfl, rfl, rfl, rfl⟩
          obtain ⟨o19, po19, q19, d19, gd19⟩ : ∃ o, ops[19]? = some o ∧ o.op = .move (.tmp 0) ∧ o.dst = some 117 ∧ o.guard = some (13, false) := ⟨_, by rw [hops]; rfl, rfl, rfl, rfl⟩
          obtain ⟨o20, po20, q20, d20, gd20⟩ : ∃ o, ops[20]? = some o ∧ o.op = .move (.tmp 14) ∧ o.dst = some 118 ∧ o.guard = some (13, false) := ⟨_, by rw [hops]; rfl, rfl, rfl, rfl⟩
          obtain ⟨o21, po21, q21, d21, gd21⟩ : ∃ o, ops[21]? = some o ∧ o.op = .indexAddr 37 (.tmp 117) (.tmp 118) ∧ o.dst = some 119 ∧ o.guard = some (13, false) := ⟨_, by rw [hops]; rfl, rfl, rfl, rfl⟩
          obtain ⟨o22, po22, q22, d22, gd22⟩ : ∃ o, ops[22]? = some o ∧ o.op = .fieldAddr 34 (.tmp 119) 1 ∧ o.dst = some 120 ∧ o.guard = some (13, false) := ⟨_, by rw [hops]; rfl, rfl, rfl, rfl⟩
          obtain ⟨o23, po23, q23, d23, gd23⟩ : ∃ o, ops[23]? = some o ∧ o.op = .load 22 (.tmp 120) ∧ o.dst = some 121 ∧ o.guard = some (13, false) := ⟨_, by rw [hops]; rfl, rfl, rfl, rfl⟩
          obtain ⟨o24, po24, q24, d24, gd24⟩ : ∃ o, ops[24]? = some o ∧ o.op = .call { callee := .value (.func 15), args := #[.tmp 116, .tmp 121], argTypes := #[22, 22] } ∧ o.dst = some 122 ∧ o.guard = some (13, false) := ⟨_, by rw [hops]; rfl, rfl, rfl, rfl⟩
          obtain ⟨o25, po25, q25, d25, gd25⟩ : ∃ o, ops[25]? = some o ∧ o.op = .unOp .not 4 (.tmp 122) ∧ o.dst = some 123 ∧ o.guard = some (13, false) := ⟨_, by rw [hops]; rfl, rfl, rfl, rfl⟩
          obtain ⟨o26, po26, q26, d26, gd26⟩ : ∃ o, ops[26]? = some o ∧ o.op = .pick (.tmp 111) (.const (.bool true)) (.tmp 123) ∧ o.dst = some 124 ∧ o.guard = none := ⟨_, by rw [hops]; rfl, rfl, rfl, rfl⟩
          clear hops
          refine met_free po0 d0 (wanted_of gd0) (fun w' h' => run_move q0 base12 w') ?_
          refine met_free po1 d1 (wanted_of gd1) (fun w' h' => run_move q1 ((eval_other _ 98 14 _ (by decide)).trans base14) w') ?_
          refine met_free po2 d2 (wanted_of gd2) (fun w' h' => run_ixFr q2 ((eval_other _ 99 98 _ (by decide)).trans (eval_same _ _ _ (by rw [hsz]; decide))) (eval_same _ _ _ (by simp only [put_size, hsz]; decide)) hjG w') ?_
          refine met_free po3 d3 (wanted_of gd3) (fun w' h' => run_fieldFr q3 (by decide) (eval_same _ _ _ (by simp only [put_size, hsz]; decide)) w') ?_
          refine met_free po4 d4 (wanted_of gd4) (fun w' h' => run_loadKind q4 (eval_same _ _ _ (by simp only [put_size, hsz]; decide)) (HA1.out _ h')) ?_
          refine met_free po5 d5 (wanted_of gd5) (fun w' h' => run_move q5 ((eval_other _ 102 0 _ (by decide)).trans ((eval_other _ 101 0 _ (by decide)).trans ((eval_other _ 100 0 _ (by decide)).trans ((eval_other _ 99 0 _ (by decide)).trans ((eval_other _ 98 0 _ (by decide)).trans base0))))) w') ?_
          refine met_free po6 d6 (wanted_of gd6) (fun w' h' => run_move q6 ((eval_other _ 103 14 _ (by decide)).trans ((eval_other _ 102 14 _ (by decide)).trans ((eval_other _ 101 14 _ (by decide)).trans ((eval_other _ 100 14 _ (by decide)).trans ((eval_other _ 99 14 _ (by decide)).trans ((eval_other _ 98 14 _ (by decide)).trans base14)))))) w') ?_
          refine met_free po7 d7 (wanted_of gd7) (fun w' h' => run_ixFr q7 ((eval_other _ 104 103 _ (by decide)).trans (eval_same _ _ _ (by simp only [put_size, hsz]; decide))) (eval_same _ _ _ (by simp only [put_size, hsz]; decide)) hlt2 w') ?_
          refine met_free po8 d8 (wanted_of gd8) (fun w' h' => run_fieldFr q8 (by decide) (eval_same _ _ _ (by simp only [put_size, hsz]; decide)) w') ?_
          refine met_free po9 d9 (wanted_of gd9) (fun w' h' => run_loadKind q9 (eval_same _ _ _ (by simp only [put_size, hsz]; decide)) (HC1.out _ h')) ?_
          refine m_enter po10 d10 (wanted_of gd10) (run_callf2 q10 rfl (eval_same _ _ _ (by simp only [put_size, hsz]; decide)) rfl Tryd.func27 (by kernel_rfl) _) (pickZ_any o.z 255 _ (by decide) (by decide)) ?_
          rintro e wp ⟨rfl, rfl⟩
          refine ⟨_, rfl, HD.out, ?_⟩
          refine met_free po11 d11 (wanted_of gd11) (fun w' h' => r_addC (C := 1) q11 rfl (eval_same _ _ _ (by simp only [put_size, hsz]; decide)) hpz w') ?_
          refine met_free po12 d12 (wanted_of gd12) (fun w' h' => run_neqKind q12 ((eval_other _ 109 102 _ (by decide)).trans ((eval_other _ 108 102 _ (by decide)).trans ((eval_other _ 107 102 _ (by decide)).trans ((eval_other _ 106 102 _ (by decide)).trans ((eval_other _ 105 102 _ (by decide)).trans ((eval_other _ 104 102 _ (by decide)).trans ((eval_other _ 103 102 _ (by decide)).trans (eval_same _ _ _ (by simp only [put_size, hsz]; decide))))))))) (eval_same _ _ _ (by simp only [put_size, hsz]; decide)) HKE.out w') ?_
          refine met_free po13 d13 (wanted_of gd13) (fun w' h' => run_move q13 (eval_same _ _ _ (by simp only [put_size, hsz]; decide)) w') ?_
          refine met_free po14 d14 (wanted_guardF gd14 po13 d13 (eval_same _ _ _ (by simp only [put_size, hsz]; decide))) (fun w' h' => run_move q14 ((eval_other _ 111 12 _ (by decide)).trans ((eval_other _ 110 12 _ (by decide)).trans ((eval_other _ 109 12 _ (by decide)).trans ((eval_other _ 108 12 _ (by decide)).trans ((eval_other _ 107 12 _ (by decide)).trans ((eval_other _ 106 12 _ (by decide)).trans ((eval_other _ 105 12 _ (by decide)).trans ((eval_other _ 104 12 _ (by decide)).trans ((eval_other _ 103 12 _ (by decide)).trans ((eval_other _ 102 12 _ (by decide)).trans ((eval_other _ 101 12 _ (by decide)).trans ((eval_other _ 100 12 _ (by decide)).trans ((eval_other _ 99 12 _ (by decide)).trans ((eval_other _ 98 12 _ (by decide)).trans base12)))))))))))))) w') ?_
          refine met_free po15 d15 (wanted_guardF gd15 po13 d13 ((eval_other _ 112 111 _ (by decide)).trans (eval_same _ _ _ (by simp only [put_size, hsz]; decide)))) (fun w' h' => run_move q15 ((eval_other _ 112 14 _ (by decide)).trans ((eval_other _ 111 14 _ (by decide)).trans ((eval_other _ 110 14 _ (by decide)).trans ((eval_other _ 109 14 _ (by decide)).trans ((eval_other _ 108 14 _ (by decide)).trans ((eval_other _ 107 14 _ (by decide)).trans ((eval_other _ 106 14 _ (by decide)).trans ((eval_other _ 105 14 _ (by decide)).trans ((eval_other _ 104 14 _ (by decide)).trans ((eval_other _ 103 14 _ (by decide)).trans ((eval_other _ 102 14 _ (by decide)).trans ((eval_other _ 101 14 _ (by decide)).trans ((eval_other _ 100 14 _ (by decide)).trans ((eval_other _ 99 14 _ (by decide)).trans ((eval_other _ 98 14 _ (by decide)).trans base14))))))))))))))) w') ?_
          refine met_free po16 d16 (wanted_guardF gd16 po13 d13 ((eval_other _ 113 111 _ (by decide)).trans ((eval_other _ 112 111 _ (by decide)).trans (eval_same _ _ _ (by simp only [put_size, hsz]; decide))))) (fun w' h' => run_ixFr q16 ((eval_other _ 113 112 _ (by decide)).trans (eval_same _ _ _ (by simp only [put_size, hsz]; decide))) (eval_same _ _ _ (by simp only [put_size, hsz]; decide)) hjG w') ?_
          refine met_free po17 d17 (wanted_guardF gd17 po13 d13 ((eval_other _ 114 111 _ (by decide)).trans ((eval_other _ 113 111 _ (by decide)).trans ((eval_other _ 112 111 _ (by decide)).trans (eval_same _ _ _ (by simp only [put_size, hsz]; decide)))))) (fun w' h' => run_fieldFr q17 (by decide) (eval_same _ _ _ (by simp only [put_size, hsz]; decide)) w') ?_
          refine met_free po18 d18 (wanted_guardF gd18 po13 d13 ((eval_other _ 115 111 _ (by decide)).trans ((eval_other _ 114 111 _ (by decide)).trans ((eval_other _ 113 111 _ (by decide)).trans ((eval_other _ 112 111 _ (by decide)).trans (eval_same _ _ _ (by simp only [put_size, hsz]; decide))))))) (fun w' h' => run_loadSlice q18 (eval_same _ _ _ (by simp only [put_size, hsz]; decide)) (HA2.out _ h')) ?_
          refine met_free po19 d19 (wanted_guardF gd19 po13 d13 ((eval_other _ 116 111 _ (by decide)).trans ((eval_other _ 115 111 _ (by decide)).trans ((eval_other _ 114 111 _ (by decide)).trans ((eval_other _ 113 111 _ (by decide)).trans ((eval_other _ 112 111 _ (by decide)).trans (eval_same _ _ _ (by simp only [put_size, hsz]; decide)))))))) (fun w' h' => run_move q19 ((eval_other _ 116 0 _ (by decide)).trans ((eval_other _ 115 0 _ (by decide)).trans ((eval_other _ 114 0 _ (by decide)).trans ((eval_other _ 113 0 _ (by decide)).trans ((eval_other _ 112 0 _ (by decide)).trans ((eval_other _ 111 0 _ (by decide)).trans ((eval_other _ 110 0 _ (by decide)).trans ((eval_other _ 109 0 _ (by decide)).trans ((eval_other _ 108 0 _ (by decide)).trans ((eval_other _ 107 0 _ (by decide)).trans ((eval_other _ 106 0 _ (by decide)).trans ((eval_other _ 105 0 _ (by decide)).trans ((eval_other _ 104 0 _ (by decide)).trans ((eval_other _ 103 0 _ (by decide)).trans ((eval_other _ 102 0 _ (by decide)).trans ((eval_other _ 101 0 _ (by decide)).trans ((eval_other _ 100 0 _ (by decide)).trans ((eval_other _ 99 0 _ (by decide)).trans ((eval_other _ 98 0 _ (by decide)).trans base0))))))))))))))))))) w') ?_
          refine met_free po20 d20 (wanted_guardF gd20 po13 d13 ((eval_other _ 117 111 _ (by decide)).trans ((eval_other _ 116 111 _ (by decide)).trans ((eval_other _ 115 111 _ (by decide)).trans ((eval_other _ 114 111 _ (by decide)).trans ((eval_other _ 113 111 _ (by decide)).trans ((eval_other _ 112 111 _ (by decide)).trans (eval_same _ _ _ (by simp only [put_size, hsz]; decide))))))))) (fun w' h' => run_move q20 ((eval_other _ 117 14 _ (by decide)).trans ((eval_other _ 116 14 _ (by decide)).trans ((eval_other _ 115 14 _ (by decide)).trans ((eval_other _ 114 14 _ (by decide)).trans ((eval_other _ 113 14 _ (by decide)).trans ((eval_other _ 112 14 _ (by decide)).trans ((eval_other _ 111 14 _ (by decide)).trans ((eval_other _ 110 14 _ (by decide)).trans ((eval_other _ 109 14 _ (by decide)).trans ((eval_other _ 108 14 _ (by decide)).trans ((eval_other _ 107 14 _ (by decide)).trans ((eval_other _ 106 14 _ (by decide)).trans ((eval_other _ 105 14 _ (by decide)).trans ((eval_other _ 104 14 _ (by decide)).trans ((eval_other _ 103 14 _ (by decide)).trans ((eval_other _ 102 14 _ (by decide)).trans ((eval_other _ 101 14 _ (by decide)).trans ((eval_other _ 100 14 _ (by decide)).trans ((eval_other _ 99 14 _ (by decide)).trans ((eval_other _ 98 14 _ (by decide)).trans base14)))))))))))))))))))) w') ?_
          refine met_free po21 d21 (wanted_guardF gd21 po13 d13 ((eval_other _ 118 111 _ (by decide)).trans ((eval_other _ 117 111 _ (by decide)).trans ((eval_other _ 116 111 _ (by decide)).trans ((eval_other _ 115 111 _ (by decide)).trans ((eval_other _ 114 111 _ (by decide)).trans ((eval_other _ 113 111 _ (by decide)).trans ((eval_other _ 112 111 _ (by decide)).trans (eval_same _ _ _ (by simp only [put_size, hsz]; decide)))))))))) (fun w' h' => run_ixFr q21 ((eval_other _ 118 117 _ (by decide)).trans (eval_same _ _ _ (by simp only [put_size, hsz]; decide))) (eval_same _ _ _ (by simp only [put_size, hsz]; decide)) hlt2 w') ?_
          refine met_free po22 d22 (wanted_guardF gd22 po13 d13 ((eval_other _ 119 111 _ (by decide)).trans ((eval_other _ 118 111 _ (by decide)).trans ((eval_other _ 117 111 _ (by decide)).trans ((eval_other _ 116 111 _ (by decide)).trans ((eval_other _ 115 111 _ (by decide)).trans ((eval_other _ 114 111 _ (by decide)).trans ((eval_other _ 113 111 _ (by decide)).trans ((eval_other _ 112 111 _ (by decide)).trans (eval_same _ _ _ (by simp only [put_size, hsz]; decide))))))))))) (fun w' h' => run_fieldFr q22 (by decide) (eval_same _ _ _ (by simp only [put_size, hsz]; decide)) w') ?_
          refine met_free po23 d23 (wanted_guardF gd23 po13 d13 ((eval_other _ 120 111 _ (by decide)).trans ((eval_other _ 119 111 _ (by decide)).trans ((eval_other _ 118 111 _ (by decide)).trans ((eval_other _ 117 111 _ (by decide)).trans ((eval_other _ 116 111 _ (by decide)).trans ((eval_other _ 115 111 _ (by decide)).trans ((eval_other _ 114 111 _ (by decide)).trans ((eval_other _ 113 111 _ (by decide)).trans ((eval_other _ 112 111 _ (by decide)).trans (eval_same _ _ _ (by simp only [put_size, hsz]; decide)))))))))))) (fun w' h' => run_loadSlice q23 (eval_same _ _ _ (by simp only [put_size, hsz]; decide)) (HC2'.out _ h')) ?_
          refine m_enter po24 d24 (wanted_guardF gd24 po13 d13 ((eval_other _ 121 111 _ (by decide)).trans ((eval_other _ 120 111 _ (by decide)).trans ((eval_other _ 119 111 _ (by decide)).trans ((eval_other _ 118 111 _ (by decide)).trans ((eval_other _ 117 111 _ (by decide)).trans ((eval_other _ 116 111 _ (by decide)).trans ((eval_other _ 115 111 _ (by decide)).trans ((eval_other _ 114 111 _ (by decide)).trans ((eval_other _ 113 111 _ (by decide)).trans ((eval_other _ 112 111 _ (by decide)).trans (eval_same _ _ _ (by simp only [put_size, hsz]; decide))))))))))))) (run_callf2 q24 rfl ((eval_other _ 121 116 _ (by decide)).trans ((eval_other _ 120 116 _ (by decide)).trans ((eval_other _ 119 116 _ (by decide)).trans ((eval_other _ 118 116 _ (by decide)).trans ((eval_other _ 117 116 _ (by decide)).trans (eval_same _ _ _ (by simp only [put_size, hsz]; decide))))))) (eval_same _ _ _ (by simp only [put_size, hsz]; decide)) Tryd.func15 (by kernel_rfl) _) (same_big o.b nb qx o.p cx o.c _ HNB.out (by omega) (HLX.out.below HD.out) (HOO.out.lies.below (HW3.out.trans (HD.out.mono hs3)))) ?_
          rintro e w9 ⟨rfl, hb9⟩
          have HB9 : Hid (Below w3.heap.size w3 w9) := show Below _ _ _ from HD.out.trans (hb9.mono HD.out.size)
          clear hb9
          refine ⟨_, rfl, HB9.out, ?_⟩
          refine met_free po25 d25 (wanted_guardF gd25 po13 d13 ((eval_other _ 122 111 _ (by decide)).trans ((eval_other _ 121 111 _ (by decide)).trans ((eval_other _ 120 111 _ (by decide)).trans ((eval_other _ 119 111 _ (by decide)).trans ((eval_other _ 118 111 _ (by decide)).trans ((eval_other _ 117 111 _ (by decide)).trans ((eval_other _ 116 111 _ (by decide)).trans ((eval_other _ 115 111 _ (by decide)).trans ((eval_other _ 114 111 _ (by decide)).trans ((eval_other _ 113 111 _ (by decide)).trans ((eval_other _ 112 111 _ (by decide)).trans (eval_same _ _ _ (by simp only [put_size, hsz]; decide)))))))))))))) (fun w' h' => r_not q25 (eval_same _ _ _ (by simp only [put_size, hsz]; decide)) w') ?_
          refine met_free po26 d26 (wanted_of gd26) (fun w' h' => r_pickF q26 ((eval_other _ 123 111 _ (by decide)).trans ((eval_other _ 122 111 _ (by decide)).trans ((eval_other _ 121 111 _ (by decide)).trans ((eval_other _ 120 111 _ (by decide)).trans ((eval_other _ 119 111 _ (by decide)).trans ((eval_other _ 118 111 _ (by decide)).trans ((eval_other _ 117 111 _ (by decide)).trans ((eval_other _ 116 111 _ (by decide)).trans ((eval_other _ 115 111 _ (by decide)).trans ((eval_other _ 114 111 _ (by decide)).trans ((eval_other _ 113 111 _ (by decide)).trans ((eval_other _ 112 111 _ (by decide)).trans (eval_same _ _ _ (by simp only [put_size, hsz]; decide)))))))))))))) (eval_same _ _ _ (by simp only [put_size, hsz]; decide)) w') ?_
          show NoPanic _ .normal _ _
          refine NoPanic.normal ?_
          rw [HAA.out]
          go_frame
          clear HAA
          clear po0 q0 d0 gd0 po1 q1 d1 gd1 po2 q2 d2 gd2 po3 q3 d3 gd3 po4 q4 d4 gd4 po5 q5 d5 gd5 po6 q6 d6 gd6 po7 q7 d7 gd7 po8 q8 d8 gd8 po9 q9 d9 gd9 po10 q10 d10 gd10 po11 q11 d11 gd11 po12 q12 d12 gd12 po13 q13 d13 gd13 po14 q14 d14 gd14 po15 q15 d15 gd15 po16 q16 d16 gd16 po17 q17 d17 gd17 po18 q18 d18 gd18 po19 q19 d19 gd19 po20 q20 d20 gd20 po21 q21 d21 gd21 po22 q22 d22 gd22 po23 q23 d23 gd23 po24 q24 d24 gd24 po25 q25 d25 gd25 po26 q26 d26 gd26
          clear base0 base12 base14 hsz
          go_wp2_with fail
          go_roundw
          case rel => exact ⟨j + 1, by omega, by go_num, HB9.out⟩
          case measure => simp [intOf]; omega
        · have q2' : ¬ (j : Int) < (N : Int) := by omega
          have hBW := HB3.out.trans (hb.mono HB3.out.size)
          have HL7n := Lib.hid (HL7.out.below hBW)
          have hle := HLE.out.below hBW
          rcases hle with h0 | ⟨ge, oe, rfl, hre⟩
          · exfalso
            have := congrArg List.length h0
            rw [endsOf_length] at this
            simp at this
          have HRI : Hid (∀ i : Nat, i ≤ N → wr.cell? ⟨ge, oe + i, none⟩ = some (.int .i64 ((framesB (gs.take i)).length : Int))) := show _ from fun i hi => by
            have h := rangeI_cell hre i (by rw [endsOf_length]; omega)
            rw [endsOf_get gs hi] at h
            exact h
          have HWn : Hid (Below w.heap.size w wr) := show Below _ _ _ from HW3.out.trans (hb.mono HW3.out.size)
          clear hBW hre hb HB HL7 HLE
          go_wp2_with fail
          refine (show Calls Tryd.prog 27 #[.int .i64 zc, .int .i64 ((Sb : Int) + 1)] wr _ from pickZ_any zc ((Sb : Int) + 1) wr (by omega) (by omega)).mono ?_
          rintro e w4 ⟨rfl, rfl⟩
          have hctS := pickZ_lt zc ((Sb : Int) + 1) (by omega)
          generalize pickZ zc ((Sb : Int) + 1) = ct at hctS ⊢
          have hct : ct ≤ Sb := by omega
          have hc7' := HC7.out
          go_wp2_with fail
          go_loopw [15] (fun i w9 => ∃ j : Nat, j ≤ N ∧ i = .int .i64 (j : Int) ∧ (framesB (gs.take j)).length ≤ ct ∧ w9 = w4) (fun i _ => N - (intOf i).toNat)
          case atStart => exact ⟨0, Nat.zero_le _, rfl, Nat.zero_le _, rfl⟩
          case round =>
            obtain ⟨jj, hjj, rfl, hlej, rfl⟩ := hrel
            have HLEJ := Lib.hid hlej
            have cj := HRI.out jj hjj
            by_cases hcont : jj < N ∧ (framesB (gs.take (jj + 1))).length ≤ ct
            · obtain ⟨hjN, hE1⟩ := hcont
              have c1 := HRI.out (jj + 1) (by omega)
              have HE1 := Lib.hid hE1
              have e1 : ((framesB (gs.take (jj + 1))).length : Int) ≤ (ct : Int) := by omega
              have z1 : (jj : Int) + 1 < (N : Int) + 1 := by omega
              generalize hEE : (framesB (gs.take (jj + 1))).length = E1 at c1 e1
              clear hE1 hEE hlej cj
              go_wp2_with fail
              go_roundw
              case rel => exact ⟨jj + 1, by omega, by go_num, HE1.out, by trivial⟩
              case measure => simp [intOf]; omega
            · have hstop : jj = gs.length ∨ ct < (framesB (gs.take (jj + 1))).length := by
                rw [HGL.out]
                by_cases hjN : jj < N
                · exact Or.inr (by
                    rcases Nat.lt_or_ge ct (framesB (gs.take (jj + 1))).length with h | h
                    · exact h
                    · exact absurd ⟨hjN, h⟩ hcont)
                · exact Or.inl (by omega)
              obtain ⟨r2, hS2⟩ := scan_ends HGOK.out (by rw [HGL.out]; exact hjj) hlej hstop (by rw [HSB.out]; exact hct)
              have HS2 := Lib.hid hS2
              have HTC : Hid (((framesB gs).take ct).length = ct) := show _ = _ by rw [List.length_take, HSB.out]; omega
              have HTJ : Hid ((gs.take jj).length = jj) := show _ = _ by rw [List.length_take, HGL.out]; omega
              have z3 : (ct : Int) ≤ (c7 : Int) := by omega
              have z4 : (jj : Int) < (N : Int) + 1 := by omega
              have hgecell := HRI.out jj hjj
              have hgl : ge < wr.heap.size := World.block_lt_of_cell? wr _ hgecell
              have HGC : Hid (∀ w', Below wr.heap.size wr w' → w'.cell? ⟨ge, oe + jj, none⟩ = some (.int .i64 ((framesB (gs.take jj)).length : Int))) := show _ from fun w' h => (h.cell (p := ⟨ge, oe + jj, none⟩) hgl).trans hgecell
              have hcase : (¬ (jj : Int) + 1 < (N : Int) + 1) ∨ ((jj : Int) + 1 < (N : Int) + 1 ∧ jj + 1 ≤ N ∧ ¬ ((framesB (gs.take (jj + 1))).length : Int) ≤ (ct : Int)) := by
                by_cases hjN : jj < N
                · refine Or.inr ⟨by omega, by omega, ?_⟩
                  rcases hstop with h | h
                  · rw [HGL.out] at h; omega
                  · omega
                · exact Or.inl (by omega)
              clear hcont hstop hS2 hlej cj hgecell hgl
              rcases hcase with z5 | ⟨z5, hj1, z6⟩
              all_goals
                (try have c1 := HRI.out (jj + 1) hj1)
                (try generalize (framesB (gs.take (jj + 1))).length = E1 at c1 z6)
                go_wp2_with fail
                refine (scan_any ((framesB gs).take ct) ct q7 c7 wr (gs.take jj) r2 HTC.out (by omega) (by omega) (lies_takeF HL7n.out ct) (HR.out.on HWn.out) HS2.out).mono ?_
                rintro e w5 ⟨hv5, vs5, rfl, hl5, b5⟩
                obtain ⟨q5, c5, rfl, -⟩ := hl5.sl9 HTJ.out
                have hg5 := HGC.out w5 b5
                have HW5 : Hid (Below w.heap.size w w5) := show Below _ _ _ from HWn.out.trans (b5.mono HWn.out.size)
                generalize (framesB (gs.take jj)).length = EJ at hg5 ⊢
                clear hl5 b5
                go_wp2_with fail
                refine (works9_any w5 (HR.out.on HW5.out)).mono ?_
                rintro e w6 ⟨rfl, b6⟩
                have HW6 : Hid (Below w.heap.size w w6) := show Below _ _ _ from HW5.out.trans (b6.mono HW5.out.size)
                clear b6
                go_wp2_with fail
                go_ret
                exact ⟨rfl, HW6.out⟩
end Go.Proofs.YtejekgceompjpaaDoor

/-
  FrameScans, for any frames, bytes behind them and place: the law returns true, and what came in reads afterwards as it read before; the package's table starts as the program's own text lays it (the tie is given).
-/
namespace Go.Proofs.YtejekgceompjpaaDoor
open Go.ChangeShapes Go.WideShapes Go.ChangeAt Go.RowKit Go.Proofs.ShaWords

set_option maxRecDepth 100000 in
theorem frameScans_lifted (os : Os) (started : os.Started) (H : Type) (enc : TypeId × Value → H) :
    ReturnsInHanded {} Tryd.checked os 7 .any (fun w args => (Rows.frameScansSpec.pre enc Tryd.prog Tryd.f7 [] false w args ∧ laidMetH Tryd.prog laid9 w) ∧ sizedMet enc Tryd.prog Tryd.f7 (OpenSpec.ofChange Rows.frameScansSpec) false w args)
      (Rows.frameScansSpec.post enc Tryd.prog Tryd.f7 false true false false) := by
  refine returnsInHanded_of_change_and (C := Tryd.checked) (X := fun w _ => laidMetH Tryd.prog laid9 w) (fun _ _ _ hh h => h.of_heap hh) own started (by kernel_rfl) Tryd.func7
    (ChangeSpec.witness_shaped (enc := enc) (C := Tryd.checked) (os := os) (X := fun w _ => laidMetH Tryd.prog laid9 w) false (World.doorLaid Tryd.prog 400 os) #[.slice none 0 0, .slice none 0 0, .int .i64 0] 8 rfl (World.shaped_of_RefB (by kernel_rfl) (by kernel_rfl)) (by kernel_rfl) (by kernel_rfl) (by kernel_rfl) (door_met9 os _)) ?_
  intro W base args ds gs before hval0 hW _ hsz hL _
  have hW' := hW
  obtain ⟨p, q, hA0, hV, rfl, hfz, hnd⟩ := hW
  have hA : DataW.TrodAll enc Tryd.prog W 0 (fun _ => true) true Tryd.f7.params.toList args.toList ds p := hA0
  have hval : ∀ (j : Nat) t v, Tryd.f7.params[j]? = some t → args[j]? = some v → Value.okWide Tryd.prog W .any base t v := hval0
  have hsz2 : (DataW.weightsEach Tryd.prog (Tryd.f7.params.toList ++ Rows.frameScansSpec.plain.varTypes Tryd.prog) (ds ++ gs)).all (· ≤ reachBytes) = true := hsz
  rw [Tryd.params7] at hA hval hsz2
  obtain ⟨v0, vs0, d0, ds0, p0, q0, hargs, rfl, rfl, h0, r0⟩ := trodAll_cons hA
  obtain ⟨v1, vs1, d1, ds1, p1, q1, rfl, rfl, rfl, h1, r1⟩ := trodAll_cons r0
  obtain ⟨v2, vs2, d2, ds2, p2, q2, rfl, rfl, rfl, h2, r2⟩ := trodAll_cons r1
  obtain ⟨rfl, rfl, rfl⟩ := trodAll_nil r2
  obtain rfl : args = #[v0, v1, v2] := by cases args; simp_all
  obtain ⟨rfl, rfl⟩ := trodVars_none hV
  have hb5 : Tryd.prog.bytesOf 5 = 1 := by kernel_rfl
  obtain ⟨a0, len0, cap0, rfl⟩ := okWide_slice Tryd.underlying37 (hval 0 37 v0 rfl rfl)
  have k0 := h0
  have lt0 : ∀ x ∈ p0, x.block < W.heap.size := by obtain ⟨m, hm⟩ := k0; exact DataW.trod_lt m _ _ _ hm
  obtain ⟨f0, hf0⟩ := h0
  obtain ⟨os0, hx0a, hx0b, hx0c, hx0d⟩ := open_frames hf0
  obtain ⟨a1, len1, cap1, rfl⟩ := okWide_slice Tryd.underlying22 (hval 1 22 v1 rfl rfl)
  have k1 := h1
  have lt1 : ∀ x ∈ p1, x.block < W.heap.size := by obtain ⟨m, hm⟩ := k1; exact DataW.trod_lt m _ _ _ hm
  obtain ⟨f1, hf1⟩ := h1
  obtain ⟨xs1, hx1a, hx1b, hx1c, hx1d⟩ := open_bytes hf1
  have hc1 : cap1 ≤ 140737488351232 := by
    rcases hx1d with ⟨_, h⟩ | ⟨e, sp, he, hl⟩
    · omega
    · have h := sized_slice hsz2 (j := 1) (t := 22) (elems := e) (spare := sp) rfl (by rw [← he]; rfl) Tryd.underlying22
      rw [hb5] at h; unfold reachBytes at h; omega
  obtain ⟨z2, rfl, rfl, rfl, wz2⟩ := open_int Tryd.underlying3 (hval 2 3 v2 rfl rfl) h2
  have hQ := of_laid9 hL
  clear hA0 hval0
  refine (frScans_any os0 xs1 z2 len0 len1 a0 a1 cap0 cap1 W hx0a hx1a hx0b hx1b hx0c hx0d hx1c hQ).mono fun e W' ⟨he, bel⟩ => ?_
  subst he
  exact ⟨_, rfl, _, _, _, [], _, [], hW', trodAll_mk1 (shut_bool Tryd.underlying4 _), (trodAll_cons_mk (Below.trod laidOut (by kernel_rfl) (of_decide_eq_true (by kernel_rfl)) k0 bel lt0) (trodAll_cons_mk (Below.trod laidOut (by kernel_rfl) (of_decide_eq_true (by kernel_rfl)) k1 bel lt1) (trodAll_cons_mk (shut_int Tryd.underlying3 wz2) trodAll_mk0))), rfl, bel.frame _, fun h => by cases h⟩

theorem frameScans_holds : Rows.FrameScansSaid :=
  OpenClaim.holds_of_wide 7 Tryd.f7 rfl rfl rfl rfl rfl rfl rfl ⟨rfl, rfl, rfl, rfl, rfl⟩ rfl rfl rfl rfl rfl (by kernel_rfl) Tryd.func7 (by kernel_rfl)
    (of_decide_eq_true (by kernel_rfl)) (by unfold Func.isWrapper; first | (rw [if_pos (by decide +kernel)]; kernel_rfl) | (rw [if_neg (by decide +kernel)]; exact ⟨rfl, rfl⟩))
    (fun os started H enc _ => frameScans_lifted os started H enc)

theorem frameScans_card : Rows.FrameScansCardSaid :=
  Claim7.holds_tied_plain_at .later [] [.data] true Rows.frameScansCard.stood.harness false
    frameScans_holds (fun _ h => by cases h) (by kernel_rfl) (fun _ h => by cases h) frameScans_row_tie rfl ⟨rfl, rfl⟩ (by kernel_rfl) rfl
    (fun f fn hf hfn => by
      obtain rfl : f = 7 := Option.some.inj (hf.symm.trans (show _ = some 7 by kernel_rfl))
      obtain rfl : fn = Tryd.f7 := (Option.some.inj (Tryd.func7.symm.trans hfn)).symm
      exact ⟨by kernel_rfl, fun j t ht => by
        rw [Tryd.params7] at ht
        have hm : t ∈ [37, 22, 3] := by simpa using Array.mem_of_getElem? ht
        have hall : ([37, 22, 3].all fun u => !Tryd.prog.wantsStandIn u) = true := by kernel_rfl
        exact (show Tryd.prog.wantsStandIn t = false by simpa using List.all_eq_true.1 hall t hm)⟩)
    (by kernel_rfl)
#print axioms frameScans_card
end Go.Proofs.YtejekgceompjpaaDoor
