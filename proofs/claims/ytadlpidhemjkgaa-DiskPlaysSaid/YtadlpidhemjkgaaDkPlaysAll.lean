/-
  DiskPlays, for any room and any calls: the law returns true, and what came in reads afterwards as it read before. Without any condition.
-/
import Derived.Test.YtadlpidhemjkgaaPkA
import Derived.Test.YtadlpidhemjkgaaPkZ
import Derived.Test.YtadlpidhemjkgaaPkB
/-
  The program's disk and the document's, side by side, and blocks of others; Looks.
-/
namespace Go.Proofs.Ytadlpidhemjkgaa
open Go.RowKit Go.Proofs.ShaWords
def P2 (lo : Nat) (w : World) (g : Nat) (d : DiskM) (x : Nat) (dx : DiskM) (L : List (Nat × Obj)) : Prop := ∃ S T, DkAt S w g d ∧ RefAt T w x dx ∧ (∀ k, S k → ¬ T k) ∧ (∀ k, S k → lo ≤ k) ∧ (∀ k, T k → lo ≤ k) ∧ ∀ y ∈ L, ¬ S y.1 ∧ ¬ T y.1 ∧ w.heap[y.1]? = some y.2
theorem RefAt.dom {T : Nat → Prop} {w : World} {g : Nat} {d : DiskM} (h : RefAt T w g d) : ∀ k, T k → k < w.heap.size := by
  obtain ⟨us, lf, hv⟩ := h
  exact hv.dom
theorem DkAt.dom2 {S : Nat → Prop} {w : World} {g : Nat} {d : DiskM} (h : DkAt S w g d) : ∀ k, S k → k < w.heap.size := by
  obtain ⟨⟨vs, hv⟩, -⟩ := h
  exact hv.dom
theorem RefAt.own {T : Nat → Prop} {w : World} {g : Nat} {d : DiskM} (h : RefAt T w g d) : T g := by
  obtain ⟨us, lf, hv⟩ := h
  exact hv.here
section
variable {lo g x : Nat} {d d' dx dx' : DiskM} {w w' : World} {L : List (Nat × Obj)}
theorem P2.all (h : P2 lo w g d x dx L) : ∀ y ∈ L, w.heap[y.1]? = some y.2 := by
  obtain ⟨S, T, _, _, _, _, _, h⟩ := h
  exact fun y hy => (h y hy).2.2
theorem P2.lx (h : P2 lo w g d x dx L) : lo ≤ x := by
  obtain ⟨S, T, _, h2, _, _, h5, _⟩ := h
  exact h5 x h2.own
theorem P2.ok (h : P2 lo w g d x dx L) : d.Ok := by obtain ⟨S, T, h1, _⟩ := h; exact h1.2.1
theorem P2.below (h : P2 lo w g d x dx L) (hb : Below w.heap.size w w') : P2 lo w' g d x dx L := by
  obtain ⟨S, T, h1, h2, h3, h4, h5, h6⟩ := h
  exact ⟨S, T, h1.below hb, h2.below hb, h3, h4, h5, fun y hy => ⟨(h6 y hy).1, (h6 y hy).2.1, (hb.block _ (Array.getElem?_eq_some_iff.1 (h6 y hy).2.2).1).trans (h6 y hy).2.2⟩⟩
theorem P2.goD {f : FuncId} {args : Array Value} {v : Ending} (h : P2 lo w g d x dx L) (hlo : lo ≤ w.heap.size) (hc : ∀ S, DkAt S w g d → Calls Try.prog f args w fun e w' => e = v ∧ DkGo S g d' w w') :
    Calls Try.prog f args w fun e w' => e = v ∧ P2 lo w' g d' x dx L ∧ Below lo w w' := by
  obtain ⟨S, T, h1, h2, h3, h4, h5, h6⟩ := h
  refine (hc S h1).mono fun e w' ⟨a, hgo⟩ => ⟨a, ?_⟩
  obtain ⟨S', b1, b2, b3⟩ := hgo
  refine ⟨⟨S', T, b1, h2.keep b3 h3, fun k s t => (b2 k s).elim (fun s => h3 k s t) (fun h => by have := h2.dom k t; omega), fun k s => (b2 k s).elim (h4 k) (fun h => by omega), h5, fun y hy => ?_⟩, b3.below h4 hlo⟩
  have hlt := (Array.getElem?_eq_some_iff.1 (h6 y hy).2.2).1
  exact ⟨fun s => (b2 _ s).elim (h6 y hy).1 (fun h => by omega), (h6 y hy).2.1, (b3.block _ hlt (h6 y hy).1).trans (h6 y hy).2.2⟩
theorem P2.goX {f : FuncId} {args : Array Value} {v : Ending} (h : P2 lo w g d x dx L) (hlo : lo ≤ w.heap.size) (hc : ∀ T, RefAt T w x dx → Calls Try.prog f args w fun e w' => e = v ∧ RefGo T x dx' w w') :
    Calls Try.prog f args w fun e w' => e = v ∧ P2 lo w' g d x dx' L ∧ Below lo w w' := by
  obtain ⟨S, T, h1, h2, h3, h4, h5, h6⟩ := h
  refine (hc T h2).mono fun e w' ⟨a, hgo⟩ => ⟨a, ?_⟩
  obtain ⟨T', b1, b2, b3⟩ := hgo
  have hx := h2.own
  refine ⟨⟨S, T', h1.keep b3 (fun k e s => h3 k s (e ▸ hx)), b1, fun k s t => (b2 k t).elim (h3 k s) (fun h => by have := h1.dom2 k s; omega), h4, fun k t => (b2 k t).elim (h5 k) (fun h => by omega), fun y hy => ?_⟩, b3.below (fun k e => e ▸ h5 x hx) hlo⟩
  have hlt := (Array.getElem?_eq_some_iff.1 (h6 y hy).2.2).1
  exact ⟨(h6 y hy).1, fun t => (b2 _ t).elim (h6 y hy).2.1 (fun h => by omega), (b3.block _ hlt (fun e => (h6 y hy).2.1 (e ▸ hx))).trans (h6 y hy).2.2⟩
theorem P2.add (h : P2 lo w g d x dx L) (hb : Below w.heap.size w w') {L' : List (Nat × Obj)} (hL : ∀ y ∈ L', w.heap.size ≤ y.1 ∧ w'.heap[y.1]? = some y.2) : P2 lo w' g d x dx (L' ++ L) := by
  obtain ⟨S, T, h1, h2, h3, h4, h5, h6⟩ := h
  refine ⟨S, T, h1.below hb, h2.below hb, h3, h4, h5, fun y hy => ?_⟩
  rcases List.mem_append.1 hy with hy | hy
  · exact ⟨fun s => by have := h1.dom2 _ s; have := (hL y hy).1; omega, fun s => by have := h2.dom _ s; have := (hL y hy).1; omega, (hL y hy).2⟩
  · exact ⟨(h6 y hy).1, (h6 y hy).2.1, (hb.block _ (Array.getElem?_eq_some_iff.1 (h6 y hy).2.2).1).trans (h6 y hy).2.2⟩
/-- A block of the list is written to; the list is let go. -/
theorem P2.drop (h : P2 lo w g d x dx L) {k : Nat} {o : Obj} (hk : (k, o) ∈ L) (hs : Stays (fun y => y = k) w w') : P2 lo w' g d x dx [] := by
  obtain ⟨S, T, h1, h2, h3, h4, h5, h6⟩ := h
  exact ⟨S, T, h1.keep hs (fun y e s => (h6 _ hk).1 (e ▸ s)), h2.keep hs (fun y e s => (h6 _ hk).2.1 (e ▸ s)), h3, h4, h5, fun y hy => absurd hy List.not_mem_nil⟩
theorem P2.fewer {L' : List (Nat × Obj)} (h : P2 lo w g d x dx L) (hL : ∀ y ∈ L', y ∈ L) : P2 lo w g d x dx L' := by
  obtain ⟨S, T, h1, h2, h3, h4, h5, h6⟩ := h
  exact ⟨S, T, h1, h2, h3, h4, h5, fun y hy => h6 y (hL y hy)⟩
theorem P2.readD (h : P2 lo w g d x dx L) (f : Int) : Calls Try.prog 30 #[.pointer (some ⟨g, 0, none⟩), .int .i64 f] w fun e w' => ∃ v, e = .returned v ∧ Own w.heap.size w' (d.read f) v ∧ Below w.heap.size w w' := by
  obtain ⟨S, T, h1, _⟩ := h
  exact dkRead_any S g d f w h1
theorem P2.readX (h : P2 lo w g d x d L) (f : Int) : Calls Try.prog 78 #[.pointer (some ⟨x, 0, none⟩), .int .i64 f] w fun e w' => ∃ v, e = .returned v ∧ Own w.heap.size w' (d.read f) v ∧ Below w.heap.size w w' := by
  obtain ⟨S, T, h1, h2, _⟩ := h
  exact rfRead_any T x d w f h2 h1.2.1
theorem P2.usedD (h : P2 lo w g d x dx L) : Calls Try.prog 33 #[.pointer (some ⟨g, 0, none⟩)] w fun e w' => e = .returned (.int .i64 (d.used : Int)) ∧ w = w' := by
  obtain ⟨S, T, ⟨⟨vs, h1⟩, h2, -⟩, -⟩ := h
  exact dkUsedV S g vs d w h1 (Nat.le_trans h2.used h2.room)
theorem P2.usedX (h : P2 lo w g d x d L) : Calls Try.prog 79 #[.pointer (some ⟨x, 0, none⟩)] w fun e w' => e = .returned (.int .i64 (d.used : Int)) ∧ Below w.heap.size w w' := by
  obtain ⟨S, T, h1, h2, _⟩ := h
  exact rfUsed_any T x d w h2 h1.2.1
theorem P2.roomD (h : P2 lo w g d x dx L) : Calls Try.prog 41 #[.pointer (some ⟨g, 0, none⟩)] w fun e w' => e = .returned (.int .i64 (d.room : Int)) ∧ w = w' := by
  obtain ⟨S, T, h1, _⟩ := h
  exact dkRoom_any S g d w h1
theorem P2.roomX (h : P2 lo w g d x dx L) : Calls Try.prog 80 #[.pointer (some ⟨x, 0, none⟩)] w fun e w' => e = .returned (.int .i64 (dx.room : Int)) ∧ w = w' := by
  obtain ⟨S, T, h1, h2, _⟩ := h
  exact rfRoom_any T x dx w h2
theorem P2.countD (h : P2 lo w g d x dx L) : Calls Try.prog 37 #[.pointer (some ⟨g, 0, none⟩)] w fun e w' => e = .returned (.int .i64 (d.count : Int)) ∧ w = w' := by
  obtain ⟨S, T, h1, _⟩ := h
  exact dkCount_any S g d w h1
theorem P2.countX (h : P2 lo w g d x dx L) : Calls Try.prog 81 #[.pointer (some ⟨x, 0, none⟩)] w fun e w' => e = .returned (.int .i64 (dx.count : Int)) ∧ w = w' := by
  obtain ⟨S, T, h1, h2, _⟩ := h
  exact rfCount_any T x dx w h2
theorem P2.downD (h : P2 lo w g d x dx L) : Calls Try.prog 34 #[.pointer (some ⟨g, 0, none⟩)] w fun e w' => e = .returned (.bool d.down) ∧ w = w' := by
  obtain ⟨S, T, h1, _⟩ := h
  exact dkDown_any S g d w h1
theorem P2.downX (h : P2 lo w g d x dx L) : Calls Try.prog 82 #[.pointer (some ⟨x, 0, none⟩)] w fun e w' => e = .returned (.bool dx.down) ∧ w = w' := by
  obtain ⟨S, T, h1, h2, _⟩ := h
  exact rfDown_any T x dx w h2
end
/-- A row of the call's own holds wherever its block is as it was. -/
theorem own_keep {w : World} {B size n : Nat} {e : TypeId} {v : Value} {xs : List Value} (h : w.ownsRow B e size v n xs) :
    ∃ L' : List (Nat × Obj), (∀ y ∈ L', B ≤ y.1 ∧ w.heap[y.1]? = some y.2) ∧ (∀ k, v.ownBlock = some k → ∃ o, (k, o) ∈ L') ∧ ∀ w' : World, (∀ y ∈ L', w'.heap[y.1]? = some y.2) → w'.ownsRow B e size v n xs := by
  rcases h.2 with ⟨he, h0⟩ | ⟨b, cap, cur, he, hg, hh, r⟩
  · refine ⟨[], fun y hy => absurd hy List.not_mem_nil, fun k hk => ?_, fun w' _ => ⟨h.1, Or.inl ⟨he, h0⟩⟩⟩
    rw [he] at hk; cases hk
  · refine ⟨[(b, _)], fun y hy => by rw [List.mem_singleton.1 hy]; exact ⟨hg, hh⟩, fun k hk => ?_, fun w' hw => ⟨h.1, Or.inr ⟨b, cap, cur, he, hg, hw _ List.mem_cons_self, r⟩⟩⟩
    rw [he] at hk
    cases hk
    exact ⟨_, List.mem_cons_self⟩
theorem P2.spoil {lo g x : Nat} {d dx : DiskM} {w w' : World} {L : List (Nat × Obj)} {v : Value} (h : P2 lo w g d x dx L) (hk : ∀ k, v.ownBlock = some k → ∃ o, (k, o) ∈ L) (hg : w.grownBy w' v.ownBlock) : P2 lo w' g d x dx [] := by
  cases e : v.ownBlock with
  | none =>
    rw [e] at hg
    exact (h.below ⟨hg.os, hg.tape, hg.output, hg.size, fun k hk => hg.block k hk (by simp)⟩).fewer (fun y hy => absurd hy List.not_mem_nil)
  | some k =>
    obtain ⟨o, ho⟩ := hk k e
    rw [e] at hg
    exact h.drop ho (grown_stays hg (fun k' e' => (Option.some.inj e').symm))
set_option maxRecDepth 100000 in
set_option maxHeartbeats 2000000 in
theorem looks_any (lo g x : Nat) (d : DiskM) (w : World) (h : P2 lo w g d x d []) (hlo : lo ≤ w.heap.size) :
    Calls Try.prog 26 #[.pointer (some ⟨g, 0, none⟩), .pointer (some ⟨x, 0, none⟩)] w fun e w' => e = .returned (.bool true) ∧ P2 lo w' g d x d [] ∧ Below lo w w' := by
  have HP0 := Lib.hid h
  have HLO := Lib.hid hlo
  clear h hlo
  go_enter Try.func26, Try.ntmps26
  go_wp2_with fail
  go_loopw [5] (fun i wr => ∃ k : Nat, k ≤ 35 ∧ i = .int .i64 ((k : Int) - 1) ∧ P2 lo wr g d x d [] ∧ Below lo w wr) (fun i _ => (34 - intOf i).toNat)
  case atStart => exact ⟨0, by omega, rfl, HP0.out, Below.refl _ _⟩
  case round =>
    clear HP0
    obtain ⟨k, hk, rfl, hp, hb⟩ := hrel
    have HP := Lib.hid hp; have HB := Lib.hid hb; clear hp hb
    by_cases hlt : k < 35
    · obtain ⟨i, hi⟩ : ∃ i : Int, i = (k : Int) - 1 := ⟨_, rfl⟩
      rw [← hi]
      have HI := Lib.hid hi
      have q1 : i ≤ 33 := by omega
      have q0 : -1 ≤ i := by omega
      have hrl : (d.read i).length ≤ 262144 := by
        unfold DiskM.read
        split
        · exact file_small HP.out.ok _ (by omega)
        · simp
      obtain ⟨n, hn⟩ : ∃ n, (d.read i).length = n := ⟨_, rfl⟩
      rw [hn] at hrl
      have HN := Lib.hid hn; have HRL := Lib.hid hrl
      clear hn hrl hi
      go_wp2_with fail
      refine (HP.out.readD i).mono ?_
      rintro e w1 ⟨v1, rfl, ho, hb⟩
      have HO1 := Lib.hid ho
      obtain ⟨p1, c1, rfl, -, -, hl⟩ := ho.lies
      rw [HN.out] at HO1 ⊢
      obtain ⟨L', k1, k2, k3⟩ := own_keep HO1.out
      have HP1 : Hid (P2 lo w1 g d x d L') := show P2 _ _ _ _ _ _ _ from by
        have h1 := HP.out.add hb k1
        rwa [List.append_nil] at h1
      have HK2 := Lib.hid k2
      have HL1 := Lib.hid hl; have HB1 := Lib.hid hb
      have hs1 := HB.out.size
      have HBB1 := Lib.hid (HB.out.trans (hb.mono (Nat.le_trans HLO.out hs1)))
      clear ho hl hb HP
      go_wp2_with fail
      refine (HP1.out.readX i).mono ?_
      rintro e w2 ⟨v2, rfl, ho, hb⟩
      obtain ⟨p2, c2, rfl, -, -, hl⟩ := ho.lies
      rw [HN.out]
      have HL2 := Lib.hid hl; have HL12 := Lib.hid (HL1.out.below hb); have HP2 := Lib.hid (HP1.out.below hb)
      have HO2 := Lib.hid (Own.below HO1.out hb)
      have HBB2 := Lib.hid (HBB1.out.trans (hb.mono (Nat.le_trans HLO.out HBB1.out.size)))
      clear ho hl hb HL1 HP1 HO1
      go_wp2_with fail
      refine (same_any (d.read i) n p1 p2 c1 c2 w2 HN.out (by have := HRL.out; omega) HL12.out HL2.out).mono ?_
      rintro e w3 ⟨rfl, hb⟩
      have HP3 := Lib.hid (HP2.out.below hb)
      have HO3 := Lib.hid (Own.below HO2.out hb)
      have HBB3 := Lib.hid (HBB2.out.trans (hb.mono (Nat.le_trans HLO.out HBB2.out.size)))
      clear hb HP2 HO2 HL12 HL2 HBB2
      go_wp2_with fail
      have hsp := spoil_big (d.read i) wr.heap.size n c1 p1 w3 HN.out (by have := HRL.out; omega) HO3.out
      have HSP := Lib.hid hsp
      clear hsp
      refine HSP.out.mono ?_
      rintro e w4 ⟨rfl, hgr⟩
      have HP4 : Hid (P2 lo w4 g d x d []) := show P2 _ _ _ _ _ _ _ from HP3.out.spoil HK2.out hgr
      have HBB4 : Hid (Below lo w w4) := show Below _ _ _ from HBB3.out.grown hgr (Nat.le_trans HLO.out HBB3.out.size) (fun k hk => Nat.le_trans (Nat.le_trans HLO.out hs1) (World.ownsRow.lt HO3.out k hk).1)
      clear hgr HSP HP3 HO3 HBB3 HBB1 HB1 HK2 k1 k2 k3
      go_wp2_with fail
      go_roundw
      case rel => exact ⟨k + 1, by omega, by rw [show (((k + 1 : Nat) : Int) - 1) = i + 1 by have := HI.out; omega], HP4.out, HBB4.out⟩
      case measure => have := HI.out; simp [intOf]; omega
    · obtain rfl : k = 35 := by omega
      have e34 : (((35 : Nat) : Int) - 1) = 34 := rfl
      rw [e34]
      clear e34 hlt hk
      go_wp2_with fail
      refine HP.out.usedD.mono ?_
      rintro e w1 ⟨rfl, rfl⟩
      go_wp2_with fail
      refine HP.out.usedX.mono ?_
      rintro e w1 ⟨rfl, hb⟩
      have HP1 := Lib.hid (HP.out.below hb)
      have HB1 := Lib.hid (HB.out.trans (hb.mono (Nat.le_trans HLO.out HB.out.size)))
      clear hb HP HB
      go_wp2_with fail
      refine HP1.out.roomD.mono ?_
      rintro e w2 ⟨rfl, rfl⟩
      go_wp2_with fail
      refine HP1.out.roomX.mono ?_
      rintro e w2 ⟨rfl, rfl⟩
      go_wp2_with fail
      refine HP1.out.countD.mono ?_
      rintro e w2 ⟨rfl, rfl⟩
      go_wp2_with fail
      refine HP1.out.countX.mono ?_
      rintro e w2 ⟨rfl, rfl⟩
      go_wp2_with fail
      refine HP1.out.downD.mono ?_
      rintro e w2 ⟨rfl, rfl⟩
      go_wp2_with fail
      refine HP1.out.downX.mono ?_
      rintro e w2 ⟨rfl, rfl⟩
      cases hdn : d.down <;>
      · go_wp2_with fail
        go_ret
        exact ⟨rfl, HP1.out, HB1.out⟩
end Go.Proofs.Ytadlpidhemjkgaa

/- The kit's Pick: some number below its bound. -/
namespace Go.Proofs.Ytadlpidhemjkgaa
open Go.RowKit Go.Proofs.ShaWords

theorem tmod_bounds (v n : Int) (h : 1 ≤ n) : -n < v.tmod n ∧ v.tmod n < n := by
  have h1 := Int.tmod_lt_of_pos v (show 0 < n by omega)
  have h2 := Int.tmod_lt_of_pos (-v) (show 0 < n by omega)
  rw [Int.neg_tmod] at h2
  omega
def SomeIn (n : Int) (w : World) (e : Ending) (w' : World) : Prop := ∃ r : Nat, (r : Int) < n ∧ e = .returned (.int .i64 (r : Int)) ∧ w = w'
set_option maxHeartbeats 400000 in
theorem pick_any (v n : Int) (w : World) (h1 : 1 ≤ n) (h2 : n ≤ 1000000) : Calls Try.prog 27 #[.int .i64 v, .int .i64 n] w (SomeIn n w) := by
  have hb := tmod_bounds v n h1
  obtain ⟨hb1, hb2⟩ := hb
  have hn0 : ¬ n = 0 := by omega
  by_cases hneg : v.tmod n < 0
  · go_enter Try.func27, Try.ntmps27
    go_wp2_with fail
    go_ret
    exact ⟨(v.tmod n + n).toNat, by omega, by
      have : ((v.tmod n + n).toNat : Int) = v.tmod n + n := by omega
      rw [this]; rfl, rfl⟩
  · go_enter Try.func27, Try.ntmps27
    go_wp2_with fail
    go_ret
    exact ⟨(v.tmod n).toNat, by omega, by
      have : ((v.tmod n).toNat : Int) = v.tmod n := by omega
      rw [this]; rfl, rfl⟩

end Go.Proofs.Ytadlpidhemjkgaa

/-
  DiskPlays: one call of both disks.
-/
namespace Go.Proofs.Ytadlpidhemjkgaa
open Go.RowKit Go.Proofs.ShaWords
theorem exec_count (d : DiskM) (eff : (Nat → FileM) → Nat → FileM) (b : Bool) : (d.exec eff b).count ≤ d.count + 1 := by
  unfold DiskM.exec
  split
  · exact Nat.le_refl _
  · exact Nat.le_succ _
theorem write_count (d : DiskM) (f : Int) (b : List (BitVec 8)) : (d.write f b).1.count ≤ d.count + 1 := by
  unfold DiskM.write
  split
  · exact Nat.le_succ _
  · split
    · exact Nat.le_succ _
    · exact exec_count _ _ _
theorem sync_count (d : DiskM) (f : Int) : (d.sync f).1.count ≤ d.count + 1 := by
  unfold DiskM.sync
  split
  · exact Nat.le_succ _
  · exact exec_count _ _ _
theorem cut_count (d : DiskM) (f n : Int) : (d.cut f n).1.count ≤ d.count + 1 := by
  unfold DiskM.cut
  split
  · exact Nat.le_succ _
  · split
    · exact Nat.le_succ _
    · exact exec_count _ _ _
theorem over_count (d : DiskM) (f n : Int) (b : List (BitVec 8)) : (d.over f n b).1.count ≤ d.count + 1 := by
  unfold DiskM.over
  split
  · exact Nat.le_succ _
  · split
    · exact Nat.le_succ _
    · exact exec_count _ _ _
theorem P2.goDS {lo g x : Nat} {d d' dx : DiskM} {w : World} {L : List (Nat × Obj)} {f : FuncId} {args : Array Value} {v : Ending} (h : P2 lo w g d x dx L) (hlo : lo ≤ w.heap.size) (hc : ∀ S, DkAt S w g d → (∀ y ∈ L, ¬ S y.1) → Calls Try.prog f args w fun e w' => e = v ∧ DkGo S g d' w w') :
    Calls Try.prog f args w fun e w' => e = v ∧ P2 lo w' g d' x dx L ∧ Below lo w w' := by
  obtain ⟨S, T, h1, h2, h3, h4, h5, h6⟩ := h
  refine (hc S h1 (fun y hy => (h6 y hy).1)).mono fun e w' ⟨a, hgo⟩ => ⟨a, ?_⟩
  obtain ⟨S', b1, b2, b3⟩ := hgo
  refine ⟨⟨S', T, b1, h2.keep b3 h3, fun k s t => (b2 k s).elim (fun s => h3 k s t) (fun h => by have := h2.dom k t; omega), fun k s => (b2 k s).elim (h4 k) (fun h => by omega), h5, fun y hy => ?_⟩, b3.below h4 hlo⟩
  have hlt := (Array.getElem?_eq_some_iff.1 (h6 y hy).2.2).1
  exact ⟨fun s => (b2 _ s).elim (h6 y hy).1 (fun h => by omega), (h6 y hy).2.1, (b3.block _ hlt (h6 y hy).1).trans (h6 y hy).2.2⟩
theorem lzo_of {S : Nat → Prop} {w : World} {L : List (Nat × Obj)} {B n c : Nat} {l m : List Int} {q : Option Addr} (h : OwnZ B w (l ++ m) (.slice q n c)) (hk : ∀ k, (Value.slice q n c).ownBlock = some k → ∃ o, (k, o) ∈ L) (hS : ∀ y ∈ L, ¬ S y.1) : LiesZO S w q l := by
  obtain ⟨q', c', he, -, -, hl⟩ := h.lies
  have e1 : q = q' := by injection he
  subst e1
  rcases hl with h0 | ⟨b, off, e, hr⟩
  · exact Or.inl (List.append_eq_nil_iff.1 h0).1
  · subst e
    rcases h.2 with ⟨he2, -⟩ | ⟨b2, cap, cur, he2, hg, hh, -⟩
    · cases he2
    · cases he2
      obtain ⟨o, ho⟩ := hk b rfl
      exact Or.inr ⟨b, 0, rfl, hS _ ho, (Array.getElem?_eq_some_iff.1 hh).1, rangeZ_front hr⟩
theorem lentZ_L (l : List Int) (n : Nat) (p : Option Addr) (cap : Nat) (w : World) (hln : l.length = n) (hl : n < 1000000) (hL : LiesZ w p l) :
    Calls Try.prog 70 #[.slice p n cap] w fun e w' => ∃ v, e = .returned v ∧ OwnZ w.heap.size w' (l ++ marksZ 5) v ∧ Below w.heap.size w w' := by
  subst hln
  exact lentZ_any l p cap w hl hL
set_option maxRecDepth 100000 in
set_option maxHeartbeats 32000000 in
theorem does_any (g x : Nat) (d : DiskM) (o : Op8) (W w : World) (hP : P2 W.heap.size w g d x d []) (hB : Below W.heap.size W w) (hc : d.count < 1000000000) (hok : o.Ok W) (hd : o.b.length ≤ 4096) (hk : o.keep.length ≤ 100) :
    Calls Try.prog 25 #[.pointer (some ⟨g, 0, none⟩), .pointer (some ⟨x, 0, none⟩), .agg o.cells.toArray] w fun e w' => e = .returned (.bool true) ∧ ∃ d', d'.count ≤ d.count + 1 ∧ P2 W.heap.size w' g d' x d' [] ∧ Below W.heap.size W w' := by
  obtain ⟨nb, hnb⟩ : ∃ n, o.b.length = n := ⟨_, rfl⟩
  obtain ⟨nk, hnk⟩ : ∃ n, o.keep.length = n := ⟨_, rfl⟩
  have hcells : o.cells.toArray = #[.int .i64 o.kind, .int .i64 o.file, .int .i64 o.n, .slice o.p nb o.c, .slice o.kp nk o.kc] := by unfold Op8.cells; rw [hnb, hnk]
  rw [hcells]
  clear hcells
  have hli := hok.lies
  have hlk := hok.klies
  have h64 := wf64k hok.nw
  have hcc := hok.cap
  have hkc := hok.kcap
  rw [hnb] at hd hcc
  rw [hnk] at hk hkc
  generalize o.kind = kd at *
  generalize o.file = fl at *
  generalize o.n = nn at *
  generalize o.p = p at *
  generalize o.c = c at *
  generalize o.kp = kp at *
  generalize o.kc = kc at *
  have HNB := Lib.hid hnb; have HNK := Lib.hid hnk; have HLI := Lib.hid hli; have HLK := Lib.hid hlk; have HN64 := Lib.hid h64; have HCT := Lib.hid hc
  have HP0 := Lib.hid hP; have HB0 := Lib.hid hB
  have HCC : Hid (nb ≤ 4096 ∧ nk ≤ 100 ∧ nb ≤ c ∧ nk ≤ kc) := show _ ∧ _ ∧ _ ∧ _ from ⟨hd, hk, hcc, hkc⟩
  clear hnb hnk hli hlk h64 hc hP hB hok hd hk hcc hkc
  go_enter Try.func25, Try.ntmps25
  go_upto_region 1 with fail
  have hx0 : (w.alloc (.cells #[.int .i64 kd, .int .i64 fl, .int .i64 nn, .slice p nb c, .slice kp nk kc] 53)).heap[w.heap.size]? = some (.cells #[.int .i64 kd, .int .i64 fl, .int .i64 nn, .slice p nb c, .slice kp nk kc] 53 (0, 0)) := heap_alloc_new _ _
  have hb0 : Below w.heap.size w (w.alloc (.cells #[.int .i64 kd, .int .i64 fl, .int .i64 nn, .slice p nb c, .slice kp nk kc] 53)) := (Below.refl _ _).alloc (Nat.le_refl _) _
  generalize w.alloc (.cells #[.int .i64 kd, .int .i64 fl, .int .i64 nn, .slice p nb c, .slice kp nk kc] 53) = w1 at hx0 hb0 ⊢
  have hp1 := HP0.out.add (L' := [(w.heap.size, _)]) hb0 (fun y hy => by rw [List.mem_singleton.1 hy]; exact ⟨Nat.le_refl _, hx0⟩)
  rw [List.append_nil] at hp1
  have HP1 := Lib.hid hp1
  have HB1 := Lib.hid (HB0.out.trans (hb0.mono HB0.out.size))
  clear hp1 hb0 hx0 HP0 HB0
  generalize w.heap.size = bx at HP1 ⊢
  have f3 : w1.cell? ⟨bx, 3, none⟩ = some (.slice p nb c) := (cell_of_row _ _ _ _ _ _ (HP1.out.all _ List.mem_cons_self)).trans rfl
  go_wp2_with fail
  refine (lent_bigL o.b nb p c w1 HNB.out (by have := HCC.out; omega) (HLI.out.below HB1.out)).mono ?_
  rintro e w2 ⟨v2, rfl, ho, hb⟩
  clear f3
  obtain ⟨Lb, k1, k2, k3⟩ := own_keep ho
  obtain ⟨pb, cb, rfl, hcb, -, -⟩ := ho.lies
  obtain ⟨nb5, hnb5⟩ : ∃ n, (o.b ++ marks 5).length = n := ⟨_, rfl⟩
  rw [hnb5] at k2 k3 hcb ⊢
  have HP2' := Lib.hid (HP1.out.add hb k1)
  have HB2 := Lib.hid (HB1.out.trans (hb.mono HB1.out.size))
  have HN5 := Lib.hid hnb5
  have hnb5' : nb5 = nb + 5 := by rw [← hnb5, List.length_append, HNB.out, marks_length]
  have HN5E := Lib.hid hnb5'
  clear hnb5'
  have HBO2 : Hid (∀ w' : World, (∀ y ∈ Lb, w'.heap[y.1]? = some y.2) → Own w1.heap.size w' (o.b ++ marks 5) (.slice pb nb5 cb)) := show ∀ _, _ → Own _ _ _ _ from fun w' h => by
    unfold Own
    rw [hnb5]
    exact k3 w' h
  have HSB2 := Lib.hid k2
  have HCB0 := Lib.hid hcb
  clear ho hb k1 k2 k3 hnb5 hcb
  have f4 : w2.cell? ⟨bx, 4, none⟩ = some (.slice kp nk kc) := (cell_of_row _ _ _ _ _ _ (HP2'.out.all _ (List.mem_append_right _ List.mem_cons_self))).trans rfl
  go_wp2_with fail
  refine (lentZ_L o.keep nk kp kc w2 HNK.out (by have := HCC.out; omega) (HLK.out.below HB2.out)).mono ?_
  rintro e w4 ⟨v3, rfl, ho, hb⟩
  clear f4
  obtain ⟨Lk, k1, k2, k3⟩ := own_keep ho
  obtain ⟨pk, ck, rfl, hck, -, -⟩ := ho.lies
  obtain ⟨nk5, hnk5⟩ : ∃ n, (o.keep ++ marksZ 5).length = n := ⟨_, rfl⟩
  rw [hnk5] at k2 k3 hck ⊢
  have hp3 := HP2'.out.add hb k1
  have HB3 := Lib.hid (HB2.out.trans (hb.mono HB2.out.size))
  have HK5 := Lib.hid hnk5
  have hnk5' : nk5 = nk + 5 := by rw [← hnk5, List.length_append, HNK.out, marksZ_length]
  have HNL : Hid (nb ≤ 4096 ∧ nk ≤ 100 ∧ nb5 = nb + 5 ∧ nk5 = nk + 5 ∧ nb ≤ c ∧ nk ≤ kc) := show _ ∧ _ ∧ _ ∧ _ ∧ _ ∧ _ from ⟨HCC.out.1, HCC.out.2.1, HN5E.out, hnk5', HCC.out.2.2.1, HCC.out.2.2.2⟩
  have HCB : Hid (nb5 ≤ cb) := show _ ≤ _ from HCB0.out
  have HCK := Lib.hid hck
  obtain ⟨L, hL⟩ : ∃ L, Lk ++ (Lb ++ [(bx, Obj.cells #[.int .i64 kd, .int .i64 fl, .int .i64 nn, .slice p nb c, .slice kp nk kc] 53 (0, 0))]) = L := ⟨_, rfl⟩
  have hmem : (bx, Obj.cells #[.int .i64 kd, .int .i64 fl, .int .i64 nn, .slice p nb c, .slice kp nk kc] 53 (0, 0)) ∈ L := hL ▸ List.mem_append_right _ (List.mem_append_right _ List.mem_cons_self)
  have HBX : Hid (∀ w' : World, (∀ y ∈ L, w'.heap[y.1]? = some y.2) → ∀ j, w'.cell? ⟨bx, j, none⟩ = (#[.int .i64 kd, .int .i64 fl, .int .i64 nn, .slice p nb c, .slice kp nk kc] : Array Value)[j]?) := show ∀ _, _ → ∀ _, _ = _ from fun w' h j => cell_of_row _ _ _ _ _ _ (h _ hmem)
  have HBO : Hid (∀ w' : World, (∀ y ∈ L, w'.heap[y.1]? = some y.2) → Own w1.heap.size w' (o.b ++ marks 5) (.slice pb nb5 cb)) := show ∀ _, _ → Own _ _ _ _ from fun w' h => HBO2.out w' (fun y hy => h y (by rw [← hL]; exact List.mem_append_right _ (List.mem_append_left _ hy)))
  have HKO : Hid (∀ w' : World, (∀ y ∈ L, w'.heap[y.1]? = some y.2) → OwnZ w2.heap.size w' (o.keep ++ marksZ 5) (.slice pk nk5 ck)) := show ∀ _, _ → OwnZ _ _ _ _ from fun w' h => by
    unfold OwnZ
    rw [hnk5]
    exact k3 w' (fun y hy => h y (by rw [← hL]; exact List.mem_append_left _ hy))
  have HSB : Hid (∀ k, (Value.slice pb nb5 cb).ownBlock = some k → ∃ o, (k, o) ∈ L) := show ∀ _, _ → ∃ _, _ from fun k hk => by
    obtain ⟨ob, hob⟩ := HSB2.out k hk
    exact ⟨ob, by rw [← hL]; exact List.mem_append_right _ (List.mem_append_left _ hob)⟩
  have HSZ : Hid (W.heap.size ≤ w1.heap.size) := show _ ≤ _ from HB1.out.size
  rw [hL] at hp3
  have HP3 := Lib.hid hp3
  have HSK : Hid (∀ k, (Value.slice pk nk5 ck).ownBlock = some k → ∃ o, (k, o) ∈ L) := show ∀ _, _ → ∃ _, _ from fun k hk => by
    obtain ⟨ob, hob⟩ := k2 k hk
    exact ⟨ob, by rw [← hL]; exact List.mem_append_left _ hob⟩
  clear ho hb k1 k2 k3 hnk5 hck hp3 hmem hL HP2' HP1 HB1 HB2 HBO2 HSB2 HN5E hnk5' HCB0 HCC
  have f0 : w4.cell? ⟨bx, 0, none⟩ = some (.int .i64 kd) := HBX.out w4 HP3.out.all 0
  go_wp2_with fail
  refine (pick_any kd 7 w4 (by omega) (by omega)).mono ?_
  rintro e w5 ⟨r, hr, rfl, rfl⟩
  have HP := HP3; have HB := HB3
  clear f0 HP3 HB3
  have hr7 : r = 0 ∨ r = 1 ∨ r = 2 ∨ r = 3 ∨ r = 4 ∨ r = 5 ∨ r = 6 := by omega
  clear hr
  rcases hr7 with rfl | rfl | rfl | rfl | rfl | rfl | rfl
  · have HOKX := Lib.hid HP.out.ok
    have hd0 : Below w4.heap.size w4 w4.drew := (Below.refl _ _).drew
    have HPd := Lib.hid (HP.out.below hd0)
    have HBd := Lib.hid (HB.out.trans (hd0.mono HB.out.size))
    have hAB := HBO.out w4.drew HPd.out.all
    obtain ⟨_, _, he, -, -, hlA⟩ := hAB.lies
    rw [HN5.out] at he
    cases he
    have HLBd : Hid (Lies w4.drew pb o.b) := show Lies _ _ _ from by
      have h1 := lies_takeB hlA nb
      rwa [← HNB.out, List.take_left] at h1
    clear hd0 hAB hlA
    go_upto_region 9 with fail
    have HS9 : Hid (w4.drew.cell? ⟨bx, 1, none⟩ = some (.int .i64 fl) ∧ w4.drew.cell? ⟨bx, 3, none⟩ = some (.slice p nb c)) := show _ ∧ _ from ⟨HBX.out _ HPd.out.all 1, HBX.out _ HPd.out.all 3⟩
    refine region_phase (fun w' => w'.cell? ⟨bx, 1, none⟩ = some (.int .i64 fl) ∧ w'.cell? ⟨bx, 3, none⟩ = some (.slice p nb c)) (fun _ => True) 8 (HS9.out) trivial [(0, .free), (1, .free), (2, .free), (3, .free), (4, .free), (5, .free), (6, .free), (7, .free), (8, .behind), (9, .free)] (by kernel_rfl) (by kernel_rfl) (by kernel_rfl) (by kernel_rfl) (fun ops hops A hA => ?_)
    have hsz : A.tmps.size = 123 := by rw [hA]; rfl
    have base0 : A.eval (.tmp 0) = .pointer (some ⟨g, 0, none⟩) := by rw [hA]; rfl
    have base5 : A.eval (.tmp 5) = .pointer (some ⟨bx, 0, none⟩) := by rw [hA]; rfl
    have base7 : A.eval (.tmp 7) = .slice pb nb5 cb := by rw [hA]; rfl
    have HAA := Lib.hid hA; clear hA
    obtain ⟨o0, po0, q0, d0, gd0⟩ : ∃ o, ops[0]? = some o ∧ o.op = .move (.tmp 0) ∧ o.dst = some 35 ∧ o.guard = none := ⟨_, by rw [hops]; rfl, rfl, rfl, rfl⟩
    obtain ⟨o1, po1, q1, d1, gd1⟩ : ∃ o, ops[1]? = some o ∧ o.op = .fieldAddr 53 (.tmp 5) 1 ∧ o.dst = some 36 ∧ o.guard = none := ⟨_, by rw [hops]; rfl, rfl, rfl, rfl⟩
    obtain ⟨o2, po2, q2, d2, gd2⟩ : ∃ o, ops[2]? = some o ∧ o.op = .load 3 (.tmp 36) ∧ o.dst = some 37 ∧ o.guard = none := ⟨_, by rw [hops]; rfl, rfl, rfl, rfl⟩
    obtain ⟨o3, po3, q3, d3, gd3⟩ : ∃ o, ops[3]? = some o ∧ o.op = .move (.tmp 7) ∧ o.dst = some 38 ∧ o.guard = none := ⟨_, by rw [hops]; rfl, rfl, rfl, rfl⟩
    obtain ⟨o4, po4, q4, d4, gd4⟩ : ∃ o, ops[4]? = some o ∧ o.op = .fieldAddr 53 (.tmp 5) 3 ∧ o.dst = some 39 ∧ o.guard = none := ⟨_, by rw [hops]; rfl, rfl, rfl, rfl⟩
    obtain ⟨o5, po5, q5, d5, gd5⟩ : ∃ o, ops[5]? = some o ∧ o.op = .load 23 (.tmp 39) ∧ o.dst = some 40 ∧ o.guard = none := ⟨_, by rw [hops]; rfl, rfl, rfl, rfl⟩
    obtain ⟨o6, po6, q6, d6, gd6⟩ : ∃ o, ops[6]? = some o ∧ o.op = .call { callee := .builtin .len, args := #[.tmp 40], argTypes := #[23] } ∧ o.dst = some 41 ∧ o.guard = none := ⟨_, by rw [hops]; rfl, rfl, rfl, rfl⟩
    obtain ⟨o7, po7, q7, d7, gd7⟩ : ∃ o, ops[7]? = some o ∧ o.op = .slice 23 (.tmp 38) none (some (.tmp 41)) none ∧ o.dst = some 42 ∧ o.guard = none := ⟨_, by rw [hops]; rfl, rfl, rfl, rfl⟩
    obtain ⟨o8, po8, q8, d8, gd8⟩ : ∃ o, ops[8]? = some o ∧ o.op = .call { callee := .value (.func 36), args := #[.tmp 35, .tmp 37, .tmp 42], argTypes := #[48, 3, 23] } ∧ o.dst = some 43 ∧ o.guard = none := ⟨_, by rw [hops]; rfl, rfl, rfl, rfl⟩
    obtain ⟨o9, po9, q9, d9, gd9⟩ : ∃ o, ops[9]? = some o ∧ o.op = .assign (.tmp 43) ∧ o.dst = some 9 ∧ o.guard = none := ⟨_, by rw [hops]; rfl, rfl, rfl, rfl⟩
    clear hops
    refine met_free po0 d0 (wanted_of gd0) (fun w' h' => run_move q0 base0 w') ?_
    refine met_free po1 d1 (wanted_of gd1) (fun w' h' => run_fieldT (off := 1) q1 (fun _ => by kernel_rfl) ((eval_other _ 35 5 _ (by decide)).trans base5) w') ?_
    refine met_free po2 d2 (wanted_of gd2) (fun w' h' => run_loadIn q2 (eval_same _ _ _ (by simp only [put_size, hsz]; decide)) h'.1) ?_
    refine met_free po3 d3 (wanted_of gd3) (fun w' h' => run_move q3 ((eval_other _ 37 7 _ (by decide)).trans ((eval_other _ 36 7 _ (by decide)).trans ((eval_other _ 35 7 _ (by decide)).trans base7))) w') ?_
    refine met_free po4 d4 (wanted_of gd4) (fun w' h' => run_fieldT (off := 3) q4 (fun _ => by kernel_rfl) ((eval_other _ 38 5 _ (by decide)).trans ((eval_other _ 37 5 _ (by decide)).trans ((eval_other _ 36 5 _ (by decide)).trans ((eval_other _ 35 5 _ (by decide)).trans base5)))) w') ?_
    refine met_free po5 d5 (wanted_of gd5) (fun w' h' => run_loadBs q5 (eval_same _ _ _ (by simp only [put_size, hsz]; decide)) h'.2) ?_
    refine met_free po6 d6 (wanted_of gd6) (fun w' h' => run_len26 q6 (eval_same _ _ _ (by simp only [put_size, hsz]; decide)) w') ?_
    refine met_free po7 d7 (wanted_of gd7) (fun w' h' => run_toRef q7 (by have := HCB.out; have := HNL.out; omega) ((eval_other _ 41 38 _ (by decide)).trans ((eval_other _ 40 38 _ (by decide)).trans ((eval_other _ 39 38 _ (by decide)).trans (eval_same _ _ _ (by simp only [put_size, hsz]; decide))))) (eval_same _ _ _ (by simp only [put_size, hsz]; decide)) w') ?_
    refine m_enter po8 d8 (wanted_of gd8) (run_callf3 q8 rfl ((eval_other _ 42 35 _ (by decide)).trans ((eval_other _ 41 35 _ (by decide)).trans ((eval_other _ 40 35 _ (by decide)).trans ((eval_other _ 39 35 _ (by decide)).trans ((eval_other _ 38 35 _ (by decide)).trans ((eval_other _ 37 35 _ (by decide)).trans ((eval_other _ 36 35 _ (by decide)).trans (eval_same _ _ _ (by rw [hsz]; decide))))))))) ((eval_other _ 42 37 _ (by decide)).trans ((eval_other _ 41 37 _ (by decide)).trans ((eval_other _ 40 37 _ (by decide)).trans ((eval_other _ 39 37 _ (by decide)).trans ((eval_other _ 38 37 _ (by decide)).trans (eval_same _ _ _ (by simp only [put_size, hsz]; decide))))))) (eval_same _ _ _ (by simp only [put_size, hsz]; decide)) Try.func36 (by kernel_rfl) _) (HPd.out.goD HBd.out.size (fun S h => dkWrite_any S g d fl o.b nb cb pb w4.drew h HCT.out HNB.out (by have := HNL.out; omega) HLBd.out)) ?_
    rintro e w10 ⟨rfl, hp, hb⟩
    have HP10 := Lib.hid hp; have HB10 := Lib.hid (HBd.out.trans hb)
    clear hp hb
    refine ⟨_, rfl, ⟨HBX.out _ HP10.out.all 1, HBX.out _ HP10.out.all 3⟩, ?_⟩
    refine met_free po9 d9 (wanted_of gd9) (fun w' h' => run_assign q9 (eval_same _ _ _ (by simp only [put_size, hsz]; decide)) w') ?_
    show NoPanic _ .normal _ _
    refine NoPanic.normal ?_
    rw [HAA.out]
    go_frame
    clear HAA
    clear HS9 HPd HBd HLBd HP HB
    have HP := HP10; have HB := HB10
    have f1 : w10.cell? ⟨bx, 1, none⟩ = some (.int .i64 fl) := HBX.out w10 HP.out.all 1
    have f3 : w10.cell? ⟨bx, 3, none⟩ = some (.slice p nb c) := HBX.out w10 HP.out.all 3
    go_wp2_with fail
    refine (HP.out.goX HB.out.size (fun T h => rfWrite_any T x d w10 fl o.b nb c p h HOKX.out HCT.out HNB.out (by have := HNL.out; omega) (fun w' hs => HLI.out.below (HB.out.trans (Stays.below hs (fun k e => e ▸ HP.out.lx) HB.out.size))))).mono ?_
    rintro e w11 ⟨rfl, hp, hb⟩
    have HP11 := Lib.hid hp; have HB11 := Lib.hid (HB.out.trans hb)
    clear hp hb f1 f3
    have HP := HP11; have HB := HB11
    have f3 : w11.cell? ⟨bx, 3, none⟩ = some (.slice p nb c) := HBX.out w11 HP.out.all 3
    have hAB := HBO.out w11 HP.out.all
    obtain ⟨_, _, he, -, -, hlA⟩ := hAB.lies
    rw [HN5.out] at he
    cases he
    go_wp2_with fail
    refine (kept_big o.b nb nb5 pb p cb c w11 HNB.out (by have := HNL.out; omega) (by have := HNL.out; omega) (by have := HNL.out; omega) HCB.out hlA (HLI.out.below HB.out)).mono ?_
    rintro e w30 ⟨rfl, hb⟩
    have HP30 := Lib.hid (HP.out.below hb); have HB30 := Lib.hid (HB.out.trans (hb.mono HB.out.size))
    clear hb hAB hlA f3
    have HP := HP30; have HB := HB30
    have f4 : w30.cell? ⟨bx, 4, none⟩ = some (.slice kp nk kc) := HBX.out w30 HP.out.all 4
    have hAK := HKO.out w30 HP.out.all
    obtain ⟨_, _, he, -, -, hlK⟩ := hAK.lies
    rw [HK5.out] at he
    cases he
    go_wp2_with fail
    refine (keptZ_any o.keep nk nk5 pk kp ck kc w30 HNK.out (by have := HNL.out; omega) (by have := HNL.out; omega) (by have := HNL.out; omega) HCK.out hlK (HLK.out.below HB.out)).mono ?_
    rintro e w31 ⟨rfl, hb⟩
    have HP31 := Lib.hid (HP.out.below hb); have HB31 := Lib.hid (HB.out.trans (hb.mono HB.out.size))
    clear hb hAK hlK f4
    have hAB := HBO.out w31 HP31.out.all
    go_wp2_with fail
    refine (spoil_big (o.b ++ marks 5) _ nb5 cb pb w31 HN5.out (by have := HNL.out; omega) hAB).mono ?_
    rintro e w32 ⟨rfl, hgr⟩
    have HP32 := Lib.hid (HP31.out.spoil HSB.out hgr)
    have HB32 := Lib.hid (HB31.out.grown hgr HB31.out.size (fun k hk => Nat.le_trans HSZ.out (World.ownsRow.lt hAB k hk).1))
    clear hgr hAB
    go_wp2_with fail
    go_ret
    exact ⟨rfl, (d.write fl o.b).1, write_count d fl o.b, HP32.out, HB32.out⟩
  · have HOKX := Lib.hid HP.out.ok
    have hd0 : Below w4.heap.size w4 w4.drew := (Below.refl _ _).drew
    have HPd := Lib.hid (HP.out.below hd0)
    have HBd := Lib.hid (HB.out.trans (hd0.mono HB.out.size))
    have hAB := HBO.out w4.drew HPd.out.all
    obtain ⟨_, _, he, -, -, hlA⟩ := hAB.lies
    rw [HN5.out] at he
    cases he
    have HLBd : Hid (Lies w4.drew pb o.b) := show Lies _ _ _ from by
      have h1 := lies_takeB hlA nb
      rwa [← HNB.out, List.take_left] at h1
    clear hd0 hAB hlA
    go_upto_region 9 with fail
    have HS9 : Hid (w4.drew.cell? ⟨bx, 1, none⟩ = some (.int .i64 fl) ∧ w4.drew.cell? ⟨bx, 3, none⟩ = some (.slice p nb c)) := show _ ∧ _ from ⟨HBX.out _ HPd.out.all 1, HBX.out _ HPd.out.all 3⟩
    refine region_phase (fun w' => w'.cell? ⟨bx, 1, none⟩ = some (.int .i64 fl) ∧ w'.cell? ⟨bx, 3, none⟩ = some (.slice p nb c)) (fun _ => True) 8 (HS9.out) trivial [(0, .free), (1, .free), (2, .free), (3, .free), (4, .free), (5, .free), (6, .free), (7, .free), (8, .behind), (9, .free)] (by kernel_rfl) (by kernel_rfl) (by kernel_rfl) (by kernel_rfl) (fun ops hops A hA => ?_)
    have hsz : A.tmps.size = 123 := by rw [hA]; rfl
    have base0 : A.eval (.tmp 0) = .pointer (some ⟨g, 0, none⟩) := by rw [hA]; rfl
    have base5 : A.eval (.tmp 5) = .pointer (some ⟨bx, 0, none⟩) := by rw [hA]; rfl
    have base7 : A.eval (.tmp 7) = .slice pb nb5 cb := by rw [hA]; rfl
    have HAA := Lib.hid hA; clear hA
    obtain ⟨o0, po0, q0, d0, gd0⟩ : ∃ o, ops[0]? = some o ∧ o.op = .move (.tmp 0) ∧ o.dst = some 35 ∧ o.guard = none := ⟨_, by rw [hops]; rfl, rfl, rfl, rfl⟩
    obtain ⟨o1, po1, q1, d1, gd1⟩ : ∃ o, ops[1]? = some o ∧ o.op = .fieldAddr 53 (.tmp 5) 1 ∧ o.dst = some 36 ∧ o.guard = none := ⟨_, by rw [hops]; rfl, rfl, rfl, rfl⟩
    obtain ⟨o2, po2, q2, d2, gd2⟩ : ∃ o, ops[2]? = some o ∧ o.op = .load 3 (.tmp 36) ∧ o.dst = some 37 ∧ o.guard = none := ⟨_, by rw [hops]; rfl, rfl, rfl, rfl⟩
    obtain ⟨o3, po3, q3, d3, gd3⟩ : ∃ o, ops[3]? = some o ∧ o.op = .move (.tmp 7) ∧ o.dst = some 38 ∧ o.guard = none := ⟨_, by rw [hops]; rfl, rfl, rfl, rfl⟩
    obtain ⟨o4, po4, q4, d4, gd4⟩ : ∃ o, ops[4]? = some o ∧ o.op = .fieldAddr 53 (.tmp 5) 3 ∧ o.dst = some 39 ∧ o.guard = none := ⟨_, by rw [hops]; rfl, rfl, rfl, rfl⟩
    obtain ⟨o5, po5, q5, d5, gd5⟩ : ∃ o, ops[5]? = some o ∧ o.op = .load 23 (.tmp 39) ∧ o.dst = some 40 ∧ o.guard = none := ⟨_, by rw [hops]; rfl, rfl, rfl, rfl⟩
    obtain ⟨o6, po6, q6, d6, gd6⟩ : ∃ o, ops[6]? = some o ∧ o.op = .call { callee := .builtin .len, args := #[.tmp 40], argTypes := #[23] } ∧ o.dst = some 41 ∧ o.guard = none := ⟨_, by rw [hops]; rfl, rfl, rfl, rfl⟩
    obtain ⟨o7, po7, q7, d7, gd7⟩ : ∃ o, ops[7]? = some o ∧ o.op = .slice 23 (.tmp 38) none (some (.tmp 41)) none ∧ o.dst = some 42 ∧ o.guard = none := ⟨_, by rw [hops]; rfl, rfl, rfl, rfl⟩
    obtain ⟨o8, po8, q8, d8, gd8⟩ : ∃ o, ops[8]? = some o ∧ o.op = .call { callee := .value (.func 36), args := #[.tmp 35, .tmp 37, .tmp 42], argTypes := #[48, 3, 23] } ∧ o.dst = some 43 ∧ o.guard = none := ⟨_, by rw [hops]; rfl, rfl, rfl, rfl⟩
    obtain ⟨o9, po9, q9, d9, gd9⟩ : ∃ o, ops[9]? = some o ∧ o.op = .assign (.tmp 43) ∧ o.dst = some 9 ∧ o.guard = none := ⟨_, by rw [hops]; rfl, rfl, rfl, rfl⟩
    clear hops
    refine met_free po0 d0 (wanted_of gd0) (fun w' h' => run_move q0 base0 w') ?_
    refine met_free po1 d1 (wanted_of gd1) (fun w' h' => run_fieldT (off := 1) q1 (fun _ => by kernel_rfl) ((eval_other _ 35 5 _ (by decide)).trans base5) w') ?_
    refine met_free po2 d2 (wanted_of gd2) (fun w' h' => run_loadIn q2 (eval_same _ _ _ (by simp only [put_size, hsz]; decide)) h'.1) ?_
    refine met_free po3 d3 (wanted_of gd3) (fun w' h' => run_move q3 ((eval_other _ 37 7 _ (by decide)).trans ((eval_other _ 36 7 _ (by decide)).trans ((eval_other _ 35 7 _ (by decide)).trans base7))) w') ?_
    refine met_free po4 d4 (wanted_of gd4) (fun w' h' => run_fieldT (off := 3) q4 (fun _ => by kernel_rfl) ((eval_other _ 38 5 _ (by decide)).trans ((eval_other _ 37 5 _ (by decide)).trans ((eval_other _ 36 5 _ (by decide)).trans ((eval_other _ 35 5 _ (by decide)).trans base5)))) w') ?_
    refine met_free po5 d5 (wanted_of gd5) (fun w' h' => run_loadBs q5 (eval_same _ _ _ (by simp only [put_size, hsz]; decide)) h'.2) ?_
    refine met_free po6 d6 (wanted_of gd6) (fun w' h' => run_len26 q6 (eval_same _ _ _ (by simp only [put_size, hsz]; decide)) w') ?_
    refine met_free po7 d7 (wanted_of gd7) (fun w' h' => run_toRef q7 (by have := HCB.out; have := HNL.out; omega) ((eval_other _ 41 38 _ (by decide)).trans ((eval_other _ 40 38 _ (by decide)).trans ((eval_other _ 39 38 _ (by decide)).trans (eval_same _ _ _ (by simp only [put_size, hsz]; decide))))) (eval_same _ _ _ (by simp only [put_size, hsz]; decide)) w') ?_
    refine m_enter po8 d8 (wanted_of gd8) (run_callf3 q8 rfl ((eval_other _ 42 35 _ (by decide)).trans ((eval_other _ 41 35 _ (by decide)).trans ((eval_other _ 40 35 _ (by decide)).trans ((eval_other _ 39 35 _ (by decide)).trans ((eval_other _ 38 35 _ (by decide)).trans ((eval_other _ 37 35 _ (by decide)).trans ((eval_other _ 36 35 _ (by decide)).trans (eval_same _ _ _ (by rw [hsz]; decide))))))))) ((eval_other _ 42 37 _ (by decide)).trans ((eval_other _ 41 37 _ (by decide)).trans ((eval_other _ 40 37 _ (by decide)).trans ((eval_other _ 39 37 _ (by decide)).trans ((eval_other _ 38 37 _ (by decide)).trans (eval_same _ _ _ (by simp only [put_size, hsz]; decide))))))) (eval_same _ _ _ (by simp only [put_size, hsz]; decide)) Try.func36 (by kernel_rfl) _) (HPd.out.goD HBd.out.size (fun S h => dkWrite_any S g d fl o.b nb cb pb w4.drew h HCT.out HNB.out (by have := HNL.out; omega) HLBd.out)) ?_
    rintro e w10 ⟨rfl, hp, hb⟩
    have HP10 := Lib.hid hp; have HB10 := Lib.hid (HBd.out.trans hb)
    clear hp hb
    refine ⟨_, rfl, ⟨HBX.out _ HP10.out.all 1, HBX.out _ HP10.out.all 3⟩, ?_⟩
    refine met_free po9 d9 (wanted_of gd9) (fun w' h' => run_assign q9 (eval_same _ _ _ (by simp only [put_size, hsz]; decide)) w') ?_
    show NoPanic _ .normal _ _
    refine NoPanic.normal ?_
    rw [HAA.out]
    go_frame
    clear HAA
    clear HS9 HPd HBd HLBd HP HB
    have HP := HP10; have HB := HB10
    have f1 : w10.cell? ⟨bx, 1, none⟩ = some (.int .i64 fl) := HBX.out w10 HP.out.all 1
    have f3 : w10.cell? ⟨bx, 3, none⟩ = some (.slice p nb c) := HBX.out w10 HP.out.all 3
    go_wp2_with fail
    refine (HP.out.goX HB.out.size (fun T h => rfWrite_any T x d w10 fl o.b nb c p h HOKX.out HCT.out HNB.out (by have := HNL.out; omega) (fun w' hs => HLI.out.below (HB.out.trans (Stays.below hs (fun k e => e ▸ HP.out.lx) HB.out.size))))).mono ?_
    rintro e w11 ⟨rfl, hp, hb⟩
    have HP11 := Lib.hid hp; have HB11 := Lib.hid (HB.out.trans hb)
    clear hp hb f1 f3
    have HP := HP11; have HB := HB11
    have f3 : w11.cell? ⟨bx, 3, none⟩ = some (.slice p nb c) := HBX.out w11 HP.out.all 3
    have hAB := HBO.out w11 HP.out.all
    obtain ⟨_, _, he, -, -, hlA⟩ := hAB.lies
    rw [HN5.out] at he
    cases he
    go_wp2_with fail
    refine (kept_big o.b nb nb5 pb p cb c w11 HNB.out (by have := HNL.out; omega) (by have := HNL.out; omega) (by have := HNL.out; omega) HCB.out hlA (HLI.out.below HB.out)).mono ?_
    rintro e w30 ⟨rfl, hb⟩
    have HP30 := Lib.hid (HP.out.below hb); have HB30 := Lib.hid (HB.out.trans (hb.mono HB.out.size))
    clear hb hAB hlA f3
    have HP := HP30; have HB := HB30
    have f4 : w30.cell? ⟨bx, 4, none⟩ = some (.slice kp nk kc) := HBX.out w30 HP.out.all 4
    have hAK := HKO.out w30 HP.out.all
    obtain ⟨_, _, he, -, -, hlK⟩ := hAK.lies
    rw [HK5.out] at he
    cases he
    go_wp2_with fail
    refine (keptZ_any o.keep nk nk5 pk kp ck kc w30 HNK.out (by have := HNL.out; omega) (by have := HNL.out; omega) (by have := HNL.out; omega) HCK.out hlK (HLK.out.below HB.out)).mono ?_
    rintro e w31 ⟨rfl, hb⟩
    have HP31 := Lib.hid (HP.out.below hb); have HB31 := Lib.hid (HB.out.trans (hb.mono HB.out.size))
    clear hb hAK hlK f4
    have hAB := HBO.out w31 HP31.out.all
    go_wp2_with fail
    refine (spoil_big (o.b ++ marks 5) _ nb5 cb pb w31 HN5.out (by have := HNL.out; omega) hAB).mono ?_
    rintro e w32 ⟨rfl, hgr⟩
    have HP32 := Lib.hid (HP31.out.spoil HSB.out hgr)
    have HB32 := Lib.hid (HB31.out.grown hgr HB31.out.size (fun k hk => Nat.le_trans HSZ.out (World.ownsRow.lt hAB k hk).1))
    clear hgr hAB
    go_wp2_with fail
    go_ret
    exact ⟨rfl, (d.write fl o.b).1, write_count d fl o.b, HP32.out, HB32.out⟩
  · have HOKX := Lib.hid HP.out.ok
    have f1 : w4.cell? ⟨bx, 1, none⟩ = some (.int .i64 fl) := HBX.out w4 HP.out.all 1
    go_wp2_with fail
    refine (HP.out.goD HB.out.size (fun S h => dkSync_any S g d fl w4 h HCT.out)).mono ?_
    rintro e w10 ⟨rfl, hp, hb⟩
    have HP10 := Lib.hid hp; have HB10 := Lib.hid (HB.out.trans hb)
    clear hp hb f1
    have HP := HP10; have HB := HB10
    have f1 : w10.cell? ⟨bx, 1, none⟩ = some (.int .i64 fl) := HBX.out w10 HP.out.all 1
    go_wp2_with fail
    refine (HP.out.goX HB.out.size (fun T h => rfSync_any T x d w10 fl h HOKX.out HCT.out)).mono ?_
    rintro e w11 ⟨rfl, hp, hb⟩
    have HP11 := Lib.hid hp; have HB11 := Lib.hid (HB.out.trans hb)
    clear hp hb f1
    have HP := HP11; have HB := HB11
    have f3 : w11.cell? ⟨bx, 3, none⟩ = some (.slice p nb c) := HBX.out w11 HP.out.all 3
    have hAB := HBO.out w11 HP.out.all
    obtain ⟨_, _, he, -, -, hlA⟩ := hAB.lies
    rw [HN5.out] at he
    cases he
    go_wp2_with fail
    refine (kept_big o.b nb nb5 pb p cb c w11 HNB.out (by have := HNL.out; omega) (by have := HNL.out; omega) (by have := HNL.out; omega) HCB.out hlA (HLI.out.below HB.out)).mono ?_
    rintro e w30 ⟨rfl, hb⟩
    have HP30 := Lib.hid (HP.out.below hb); have HB30 := Lib.hid (HB.out.trans (hb.mono HB.out.size))
    clear hb hAB hlA f3
    have HP := HP30; have HB := HB30
    have f4 : w30.cell? ⟨bx, 4, none⟩ = some (.slice kp nk kc) := HBX.out w30 HP.out.all 4
    have hAK := HKO.out w30 HP.out.all
    obtain ⟨_, _, he, -, -, hlK⟩ := hAK.lies
    rw [HK5.out] at he
    cases he
    go_wp2_with fail
    refine (keptZ_any o.keep nk nk5 pk kp ck kc w30 HNK.out (by have := HNL.out; omega) (by have := HNL.out; omega) (by have := HNL.out; omega) HCK.out hlK (HLK.out.below HB.out)).mono ?_
    rintro e w31 ⟨rfl, hb⟩
    have HP31 := Lib.hid (HP.out.below hb); have HB31 := Lib.hid (HB.out.trans (hb.mono HB.out.size))
    clear hb hAK hlK f4
    have hAB := HBO.out w31 HP31.out.all
    go_wp2_with fail
    refine (spoil_big (o.b ++ marks 5) _ nb5 cb pb w31 HN5.out (by have := HNL.out; omega) hAB).mono ?_
    rintro e w32 ⟨rfl, hgr⟩
    have HP32 := Lib.hid (HP31.out.spoil HSB.out hgr)
    have HB32 := Lib.hid (HB31.out.grown hgr HB31.out.size (fun k hk => Nat.le_trans HSZ.out (World.ownsRow.lt hAB k hk).1))
    clear hgr hAB
    go_wp2_with fail
    go_ret
    exact ⟨rfl, (d.sync fl).1, sync_count d fl, HP32.out, HB32.out⟩
  · have HOKX := Lib.hid HP.out.ok
    have f1 : w4.cell? ⟨bx, 1, none⟩ = some (.int .i64 fl) := HBX.out w4 HP.out.all 1
    have f2 : w4.cell? ⟨bx, 2, none⟩ = some (.int .i64 nn) := HBX.out w4 HP.out.all 2
    go_wp2_with fail
    refine (HP.out.goD HB.out.size (fun S h => dkCut_any S g d fl nn w4 h HCT.out)).mono ?_
    rintro e w10 ⟨rfl, hp, hb⟩
    have HP10 := Lib.hid hp; have HB10 := Lib.hid (HB.out.trans hb)
    clear hp hb f1 f2
    have HP := HP10; have HB := HB10
    have f1 : w10.cell? ⟨bx, 1, none⟩ = some (.int .i64 fl) := HBX.out w10 HP.out.all 1
    have f2 : w10.cell? ⟨bx, 2, none⟩ = some (.int .i64 nn) := HBX.out w10 HP.out.all 2
    go_wp2_with fail
    refine (HP.out.goX HB.out.size (fun T h => rfCut_any T x d w10 fl nn h HOKX.out HCT.out)).mono ?_
    rintro e w11 ⟨rfl, hp, hb⟩
    have HP11 := Lib.hid hp; have HB11 := Lib.hid (HB.out.trans hb)
    clear hp hb f1 f2
    have HP := HP11; have HB := HB11
    have f3 : w11.cell? ⟨bx, 3, none⟩ = some (.slice p nb c) := HBX.out w11 HP.out.all 3
    have hAB := HBO.out w11 HP.out.all
    obtain ⟨_, _, he, -, -, hlA⟩ := hAB.lies
    rw [HN5.out] at he
    cases he
    go_wp2_with fail
    refine (kept_big o.b nb nb5 pb p cb c w11 HNB.out (by have := HNL.out; omega) (by have := HNL.out; omega) (by have := HNL.out; omega) HCB.out hlA (HLI.out.below HB.out)).mono ?_
    rintro e w30 ⟨rfl, hb⟩
    have HP30 := Lib.hid (HP.out.below hb); have HB30 := Lib.hid (HB.out.trans (hb.mono HB.out.size))
    clear hb hAB hlA f3
    have HP := HP30; have HB := HB30
    have f4 : w30.cell? ⟨bx, 4, none⟩ = some (.slice kp nk kc) := HBX.out w30 HP.out.all 4
    have hAK := HKO.out w30 HP.out.all
    obtain ⟨_, _, he, -, -, hlK⟩ := hAK.lies
    rw [HK5.out] at he
    cases he
    go_wp2_with fail
    refine (keptZ_any o.keep nk nk5 pk kp ck kc w30 HNK.out (by have := HNL.out; omega) (by have := HNL.out; omega) (by have := HNL.out; omega) HCK.out hlK (HLK.out.below HB.out)).mono ?_
    rintro e w31 ⟨rfl, hb⟩
    have HP31 := Lib.hid (HP.out.below hb); have HB31 := Lib.hid (HB.out.trans (hb.mono HB.out.size))
    clear hb hAK hlK f4
    have hAB := HBO.out w31 HP31.out.all
    go_wp2_with fail
    refine (spoil_big (o.b ++ marks 5) _ nb5 cb pb w31 HN5.out (by have := HNL.out; omega) hAB).mono ?_
    rintro e w32 ⟨rfl, hgr⟩
    have HP32 := Lib.hid (HP31.out.spoil HSB.out hgr)
    have HB32 := Lib.hid (HB31.out.grown hgr HB31.out.size (fun k hk => Nat.le_trans HSZ.out (World.ownsRow.lt hAB k hk).1))
    clear hgr hAB
    go_wp2_with fail
    go_ret
    exact ⟨rfl, (d.cut fl nn).1, cut_count d fl nn, HP32.out, HB32.out⟩
  · have HOKX := Lib.hid HP.out.ok
    have hd0 : Below w4.heap.size w4 w4.drew := (Below.refl _ _).drew
    have HPd := Lib.hid (HP.out.below hd0)
    have HBd := Lib.hid (HB.out.trans (hd0.mono HB.out.size))
    have hAB := HBO.out w4.drew HPd.out.all
    obtain ⟨_, _, he, -, -, hlA⟩ := hAB.lies
    rw [HN5.out] at he
    cases he
    have HLBd : Hid (Lies w4.drew pb o.b) := show Lies _ _ _ from by
      have h1 := lies_takeB hlA nb
      rwa [← HNB.out, List.take_left] at h1
    clear hd0 hAB hlA
    go_upto_region 18 with fail
    have HS9 : Hid (w4.drew.cell? ⟨bx, 1, none⟩ = some (.int .i64 fl) ∧ w4.drew.cell? ⟨bx, 2, none⟩ = some (.int .i64 nn) ∧ w4.drew.cell? ⟨bx, 3, none⟩ = some (.slice p nb c)) := show _ ∧ _ ∧ _ from ⟨HBX.out _ HPd.out.all 1, HBX.out _ HPd.out.all 2, HBX.out _ HPd.out.all 3⟩
    refine region_phase (fun w' => w'.cell? ⟨bx, 1, none⟩ = some (.int .i64 fl) ∧ w'.cell? ⟨bx, 2, none⟩ = some (.int .i64 nn) ∧ w'.cell? ⟨bx, 3, none⟩ = some (.slice p nb c)) (fun _ => True) 10 (HS9.out) trivial [(0, .free), (1, .free), (2, .free), (3, .free), (4, .free), (5, .free), (6, .free), (7, .free), (8, .free), (9, .free), (10, .behind), (11, .free)] (by kernel_rfl) (by kernel_rfl) (by kernel_rfl) (by kernel_rfl) (fun ops hops A hA => ?_)
    have hsz : A.tmps.size = 123 := by rw [hA]; rfl
    have base0 : A.eval (.tmp 0) = .pointer (some ⟨g, 0, none⟩) := by rw [hA]; rfl
    have base5 : A.eval (.tmp 5) = .pointer (some ⟨bx, 0, none⟩) := by rw [hA]; rfl
    have base7 : A.eval (.tmp 7) = .slice pb nb5 cb := by rw [hA]; rfl
    have HAA := Lib.hid hA; clear hA
    obtain ⟨o0, po0, q0, d0, gd0⟩ : ∃ o, ops[0]? = some o ∧ o.op = .move (.tmp 0) ∧ o.dst = some 76 ∧ o.guard = none := ⟨_, by rw [hops]; rfl, rfl, rfl, rfl⟩
    obtain ⟨o1, po1, q1, d1, gd1⟩ : ∃ o, ops[1]? = some o ∧ o.op = .fieldAddr 53 (.tmp 5) 1 ∧ o.dst = some 77 ∧ o.guard = none := ⟨_, by rw [hops]; rfl, rfl, rfl, rfl⟩
    obtain ⟨o2, po2, q2, d2, gd2⟩ : ∃ o, ops[2]? = some o ∧ o.op = .load 3 (.tmp 77) ∧ o.dst = some 78 ∧ o.guard = none := ⟨_, by rw [hops]; rfl, rfl, rfl, rfl⟩
    obtain ⟨o3, po3, q3, d3, gd3⟩ : ∃ o, ops[3]? = some o ∧ o.op = .fieldAddr 53 (.tmp 5) 2 ∧ o.dst = some 79 ∧ o.guard = none := ⟨_, by rw [hops]; rfl, rfl, rfl, rfl⟩
    obtain ⟨o4, po4, q4, d4, gd4⟩ : ∃ o, ops[4]? = some o ∧ o.op = .load 3 (.tmp 79) ∧ o.dst = some 80 ∧ o.guard = none := ⟨_, by rw [hops]; rfl, rfl, rfl, rfl⟩
    obtain ⟨o5, po5, q5, d5, gd5⟩ : ∃ o, ops[5]? = some o ∧ o.op = .move (.tmp 7) ∧ o.dst = some 81 ∧ o.guard = none := ⟨_, by rw [hops]; rfl, rfl, rfl, rfl⟩
    obtain ⟨o6, po6, q6, d6, gd6⟩ : ∃ o, ops[6]? = some o ∧ o.op = .fieldAddr 53 (.tmp 5) 3 ∧ o.dst = some 82 ∧ o.guard = none := ⟨_, by rw [hops]; rfl, rfl, rfl, rfl⟩
    obtain ⟨o7, po7, q7, d7, gd7⟩ : ∃ o, ops[7]? = some o ∧ o.op = .load 23 (.tmp 82) ∧ o.dst = some 83 ∧ o.guard = none := ⟨_, by rw [hops]; rfl, rfl, rfl, rfl⟩
    obtain ⟨o8, po8, q8, d8, gd8⟩ : ∃ o, ops[8]? = some o ∧ o.op = .call { callee := .builtin .len, args := #[.tmp 83], argTypes := #[23] } ∧ o.dst = some 84 ∧ o.guard = none := ⟨_, by rw [hops]; rfl, rfl, rfl, rfl⟩
    obtain ⟨o9, po9, q9, d9, gd9⟩ : ∃ o, ops[9]? = some o ∧ o.op = .slice 23 (.tmp 81) none (some (.tmp 84)) none ∧ o.dst = some 85 ∧ o.guard = none := ⟨_, by rw [hops]; rfl, rfl, rfl, rfl⟩
    obtain ⟨o10, po10, q10, d10, gd10⟩ : ∃ o, ops[10]? = some o ∧ o.op = .call { callee := .value (.func 39), args := #[.tmp 76, .tmp 78, .tmp 80, .tmp 85], argTypes := #[48, 3, 3, 23] } ∧ o.dst = some 86 ∧ o.guard = none := ⟨_, by rw [hops]; rfl, rfl, rfl, rfl⟩
    obtain ⟨o11, po11, q11, d11, gd11⟩ : ∃ o, ops[11]? = some o ∧ o.op = .assign (.tmp 86) ∧ o.dst = some 9 ∧ o.guard = none := ⟨_, by rw [hops]; rfl, rfl, rfl, rfl⟩
    clear hops
    refine met_free po0 d0 (wanted_of gd0) (fun w' h' => run_move q0 base0 w') ?_
    refine met_free po1 d1 (wanted_of gd1) (fun w' h' => run_fieldT (off := 1) q1 (fun _ => by kernel_rfl) ((eval_other _ 76 5 _ (by decide)).trans base5) w') ?_
    refine met_free po2 d2 (wanted_of gd2) (fun w' h' => run_loadIn q2 (eval_same _ _ _ (by simp only [put_size, hsz]; decide)) h'.1) ?_
    refine met_free po3 d3 (wanted_of gd3) (fun w' h' => run_fieldT (off := 2) q3 (fun _ => by kernel_rfl) ((eval_other _ 78 5 _ (by decide)).trans ((eval_other _ 77 5 _ (by decide)).trans ((eval_other _ 76 5 _ (by decide)).trans base5))) w') ?_
    refine met_free po4 d4 (wanted_of gd4) (fun w' h' => run_loadIn q4 (eval_same _ _ _ (by simp only [put_size, hsz]; decide)) h'.2.1) ?_
    refine met_free po5 d5 (wanted_of gd5) (fun w' h' => run_move q5 ((eval_other _ 80 7 _ (by decide)).trans ((eval_other _ 79 7 _ (by decide)).trans ((eval_other _ 78 7 _ (by decide)).trans ((eval_other _ 77 7 _ (by decide)).trans ((eval_other _ 76 7 _ (by decide)).trans base7))))) w') ?_
    refine met_free po6 d6 (wanted_of gd6) (fun w' h' => run_fieldT (off := 3) q6 (fun _ => by kernel_rfl) ((eval_other _ 81 5 _ (by decide)).trans ((eval_other _ 80 5 _ (by decide)).trans ((eval_other _ 79 5 _ (by decide)).trans ((eval_other _ 78 5 _ (by decide)).trans ((eval_other _ 77 5 _ (by decide)).trans ((eval_other _ 76 5 _ (by decide)).trans base5)))))) w') ?_
    refine met_free po7 d7 (wanted_of gd7) (fun w' h' => run_loadBs q7 (eval_same _ _ _ (by simp only [put_size, hsz]; decide)) h'.2.2) ?_
    refine met_free po8 d8 (wanted_of gd8) (fun w' h' => run_len26 q8 (eval_same _ _ _ (by simp only [put_size, hsz]; decide)) w') ?_
    refine met_free po9 d9 (wanted_of gd9) (fun w' h' => run_toRef q9 (by have := HCB.out; have := HNL.out; omega) ((eval_other _ 84 81 _ (by decide)).trans ((eval_other _ 83 81 _ (by decide)).trans ((eval_other _ 82 81 _ (by decide)).trans (eval_same _ _ _ (by simp only [put_size, hsz]; decide))))) (eval_same _ _ _ (by simp only [put_size, hsz]; decide)) w') ?_
    refine m_enter po10 d10 (wanted_of gd10) (run_callf4 q10 rfl ((eval_other _ 85 76 _ (by decide)).trans ((eval_other _ 84 76 _ (by decide)).trans ((eval_other _ 83 76 _ (by decide)).trans ((eval_other _ 82 76 _ (by decide)).trans ((eval_other _ 81 76 _ (by decide)).trans ((eval_other _ 80 76 _ (by decide)).trans ((eval_other _ 79 76 _ (by decide)).trans ((eval_other _ 78 76 _ (by decide)).trans ((eval_other _ 77 76 _ (by decide)).trans (eval_same _ _ _ (by rw [hsz]; decide))))))))))) ((eval_other _ 85 78 _ (by decide)).trans ((eval_other _ 84 78 _ (by decide)).trans ((eval_other _ 83 78 _ (by decide)).trans ((eval_other _ 82 78 _ (by decide)).trans ((eval_other _ 81 78 _ (by decide)).trans ((eval_other _ 80 78 _ (by decide)).trans ((eval_other _ 79 78 _ (by decide)).trans (eval_same _ _ _ (by simp only [put_size, hsz]; decide))))))))) ((eval_other _ 85 80 _ (by decide)).trans ((eval_other _ 84 80 _ (by decide)).trans ((eval_other _ 83 80 _ (by decide)).trans ((eval_other _ 82 80 _ (by decide)).trans ((eval_other _ 81 80 _ (by decide)).trans (eval_same _ _ _ (by simp only [put_size, hsz]; decide))))))) (eval_same _ _ _ (by simp only [put_size, hsz]; decide)) Try.func39 (by kernel_rfl) _) (HPd.out.goD HBd.out.size (fun S h => dkOver_any S g d fl nn nb cb pb o.b w4.drew h HCT.out HN64.out HNB.out HLBd.out)) ?_
    rintro e w10 ⟨rfl, hp, hb⟩
    have HP10 := Lib.hid hp; have HB10 := Lib.hid (HBd.out.trans hb)
    clear hp hb
    refine ⟨_, rfl, ⟨HBX.out _ HP10.out.all 1, HBX.out _ HP10.out.all 2, HBX.out _ HP10.out.all 3⟩, ?_⟩
    refine met_free po11 d11 (wanted_of gd11) (fun w' h' => run_assign q11 (eval_same _ _ _ (by simp only [put_size, hsz]; decide)) w') ?_
    show NoPanic _ .normal _ _
    refine NoPanic.normal ?_
    rw [HAA.out]
    go_frame
    clear HAA
    clear HS9 HPd HBd HLBd HP HB
    have HP := HP10; have HB := HB10
    have f1 : w10.cell? ⟨bx, 1, none⟩ = some (.int .i64 fl) := HBX.out w10 HP.out.all 1
    have f2 : w10.cell? ⟨bx, 2, none⟩ = some (.int .i64 nn) := HBX.out w10 HP.out.all 2
    have f3 : w10.cell? ⟨bx, 3, none⟩ = some (.slice p nb c) := HBX.out w10 HP.out.all 3
    go_wp2_with fail
    refine (HP.out.goX HB.out.size (fun T h => rfOver_any T x d w10 fl nn o.b nb c p h HOKX.out HCT.out HN64.out HNB.out (by have := HNL.out; omega) (fun w' hs => HLI.out.below (HB.out.trans (Stays.below hs (fun k e => e ▸ HP.out.lx) HB.out.size))))).mono ?_
    rintro e w11 ⟨rfl, hp, hb⟩
    have HP11 := Lib.hid hp; have HB11 := Lib.hid (HB.out.trans hb)
    clear hp hb f1 f2 f3
    have HP := HP11; have HB := HB11
    have f3 : w11.cell? ⟨bx, 3, none⟩ = some (.slice p nb c) := HBX.out w11 HP.out.all 3
    have hAB := HBO.out w11 HP.out.all
    obtain ⟨_, _, he, -, -, hlA⟩ := hAB.lies
    rw [HN5.out] at he
    cases he
    go_wp2_with fail
    refine (kept_big o.b nb nb5 pb p cb c w11 HNB.out (by have := HNL.out; omega) (by have := HNL.out; omega) (by have := HNL.out; omega) HCB.out hlA (HLI.out.below HB.out)).mono ?_
    rintro e w30 ⟨rfl, hb⟩
    have HP30 := Lib.hid (HP.out.below hb); have HB30 := Lib.hid (HB.out.trans (hb.mono HB.out.size))
    clear hb hAB hlA f3
    have HP := HP30; have HB := HB30
    have f4 : w30.cell? ⟨bx, 4, none⟩ = some (.slice kp nk kc) := HBX.out w30 HP.out.all 4
    have hAK := HKO.out w30 HP.out.all
    obtain ⟨_, _, he, -, -, hlK⟩ := hAK.lies
    rw [HK5.out] at he
    cases he
    go_wp2_with fail
    refine (keptZ_any o.keep nk nk5 pk kp ck kc w30 HNK.out (by have := HNL.out; omega) (by have := HNL.out; omega) (by have := HNL.out; omega) HCK.out hlK (HLK.out.below HB.out)).mono ?_
    rintro e w31 ⟨rfl, hb⟩
    have HP31 := Lib.hid (HP.out.below hb); have HB31 := Lib.hid (HB.out.trans (hb.mono HB.out.size))
    clear hb hAK hlK f4
    have hAB := HBO.out w31 HP31.out.all
    go_wp2_with fail
    refine (spoil_big (o.b ++ marks 5) _ nb5 cb pb w31 HN5.out (by have := HNL.out; omega) hAB).mono ?_
    rintro e w32 ⟨rfl, hgr⟩
    have HP32 := Lib.hid (HP31.out.spoil HSB.out hgr)
    have HB32 := Lib.hid (HB31.out.grown hgr HB31.out.size (fun k hk => Nat.le_trans HSZ.out (World.ownsRow.lt hAB k hk).1))
    clear hgr hAB
    go_wp2_with fail
    go_ret
    exact ⟨rfl, (d.over fl nn o.b).1, over_count d fl nn o.b, HP32.out, HB32.out⟩
  · have HOKX := Lib.hid HP.out.ok
    have f2 : w4.cell? ⟨bx, 2, none⟩ = some (.int .i64 nn) := HBX.out w4 HP.out.all 2
    go_wp2_with fail
    refine (HP.out.goD HB.out.size (fun S h => dkArm_any S g d nn w4 h (by have := HN64.out; omega))).mono ?_
    rintro e w10 ⟨rfl, hp, hb⟩
    have HP10 := Lib.hid hp; have HB10 := Lib.hid (HB.out.trans hb)
    clear hp hb f2
    have HP := HP10; have HB := HB10
    have f2 : w10.cell? ⟨bx, 2, none⟩ = some (.int .i64 nn) := HBX.out w10 HP.out.all 2
    go_wp2_with fail
    refine (HP.out.goX HB.out.size (fun T h => rfArm_any T x d w10 nn h)).mono ?_
    rintro e w11 ⟨rfl, hp, hb⟩
    have HP11 := Lib.hid hp; have HB11 := Lib.hid (HB.out.trans hb)
    clear hp hb f2
    have HP := HP11; have HB := HB11
    have f3 : w11.cell? ⟨bx, 3, none⟩ = some (.slice p nb c) := HBX.out w11 HP.out.all 3
    have hAB := HBO.out w11 HP.out.all
    obtain ⟨_, _, he, -, -, hlA⟩ := hAB.lies
    rw [HN5.out] at he
    cases he
    go_wp2_with fail
    refine (kept_big o.b nb nb5 pb p cb c w11 HNB.out (by have := HNL.out; omega) (by have := HNL.out; omega) (by have := HNL.out; omega) HCB.out hlA (HLI.out.below HB.out)).mono ?_
    rintro e w30 ⟨rfl, hb⟩
    have HP30 := Lib.hid (HP.out.below hb); have HB30 := Lib.hid (HB.out.trans (hb.mono HB.out.size))
    clear hb hAB hlA f3
    have HP := HP30; have HB := HB30
    have f4 : w30.cell? ⟨bx, 4, none⟩ = some (.slice kp nk kc) := HBX.out w30 HP.out.all 4
    have hAK := HKO.out w30 HP.out.all
    obtain ⟨_, _, he, -, -, hlK⟩ := hAK.lies
    rw [HK5.out] at he
    cases he
    go_wp2_with fail
    refine (keptZ_any o.keep nk nk5 pk kp ck kc w30 HNK.out (by have := HNL.out; omega) (by have := HNL.out; omega) (by have := HNL.out; omega) HCK.out hlK (HLK.out.below HB.out)).mono ?_
    rintro e w31 ⟨rfl, hb⟩
    have HP31 := Lib.hid (HP.out.below hb); have HB31 := Lib.hid (HB.out.trans (hb.mono HB.out.size))
    clear hb hAK hlK f4
    have hAB := HBO.out w31 HP31.out.all
    go_wp2_with fail
    refine (spoil_big (o.b ++ marks 5) _ nb5 cb pb w31 HN5.out (by have := HNL.out; omega) hAB).mono ?_
    rintro e w32 ⟨rfl, hgr⟩
    have HP32 := Lib.hid (HP31.out.spoil HSB.out hgr)
    have HB32 := Lib.hid (HB31.out.grown hgr HB31.out.size (fun k hk => Nat.le_trans HSZ.out (World.ownsRow.lt hAB k hk).1))
    clear hgr hAB
    go_wp2_with fail
    go_ret
    exact ⟨rfl, d.arm nn, Nat.le_succ _, HP32.out, HB32.out⟩
  · have HOKX := Lib.hid HP.out.ok
    have hAK := HKO.out w4 HP.out.all
    have HLZ : Hid (∀ S : Nat → Prop, (∀ y ∈ L, ¬ S y.1) → LiesZO S w4 pk o.keep) := show ∀ _, _ → LiesZO _ _ _ _ from fun S hS => lzo_of hAK HSK.out hS
    clear hAK
    have q1 : (nk : Int) ≤ (ck : Int) := by have := HCK.out; have := HNL.out; omega
    have q2 : nk ≤ ck := by omega
    have HQ2 := Lib.hid q2
    clear q2
    have f4 : w4.cell? ⟨bx, 4, none⟩ = some (.slice kp nk kc) := HBX.out w4 HP.out.all 4
    go_wp2_with fail
    refine (HP.out.goDS HB.out.size (fun S h hS => dkCrash_any S g d o.keep nk ck pk w4 h HNK.out HQ2.out (HLZ.out S hS))).mono ?_
    rintro e w10 ⟨rfl, hp, hb⟩
    have HP10 := Lib.hid hp; have HB10 := Lib.hid (HB.out.trans hb)
    clear hp hb f4
    have HP := HP10; have HB := HB10
    have f4 : w10.cell? ⟨bx, 4, none⟩ = some (.slice kp nk kc) := HBX.out w10 HP.out.all 4
    go_wp2_with fail
    refine (HP.out.goX HB.out.size (fun T h => rfCrash_any T x d w10 o.keep nk kc kp h HOKX.out HNK.out (fun w' hs => HLK.out.below (HB.out.trans (Stays.below hs (fun k e => e ▸ HP.out.lx) HB.out.size))))).mono ?_
    rintro e w11 ⟨rfl, hp, hb⟩
    have HP11 := Lib.hid hp; have HB11 := Lib.hid (HB.out.trans hb)
    clear hp hb f4
    have HP := HP11; have HB := HB11
    have f3 : w11.cell? ⟨bx, 3, none⟩ = some (.slice p nb c) := HBX.out w11 HP.out.all 3
    have hAB := HBO.out w11 HP.out.all
    obtain ⟨_, _, he, -, -, hlA⟩ := hAB.lies
    rw [HN5.out] at he
    cases he
    go_wp2_with fail
    refine (kept_big o.b nb nb5 pb p cb c w11 HNB.out (by have := HNL.out; omega) (by have := HNL.out; omega) (by have := HNL.out; omega) HCB.out hlA (HLI.out.below HB.out)).mono ?_
    rintro e w30 ⟨rfl, hb⟩
    have HP30 := Lib.hid (HP.out.below hb); have HB30 := Lib.hid (HB.out.trans (hb.mono HB.out.size))
    clear hb hAB hlA f3
    have HP := HP30; have HB := HB30
    have f4 : w30.cell? ⟨bx, 4, none⟩ = some (.slice kp nk kc) := HBX.out w30 HP.out.all 4
    have hAK := HKO.out w30 HP.out.all
    obtain ⟨_, _, he, -, -, hlK⟩ := hAK.lies
    rw [HK5.out] at he
    cases he
    go_wp2_with fail
    refine (keptZ_any o.keep nk nk5 pk kp ck kc w30 HNK.out (by have := HNL.out; omega) (by have := HNL.out; omega) (by have := HNL.out; omega) HCK.out hlK (HLK.out.below HB.out)).mono ?_
    rintro e w31 ⟨rfl, hb⟩
    have HP31 := Lib.hid (HP.out.below hb); have HB31 := Lib.hid (HB.out.trans (hb.mono HB.out.size))
    clear hb hAK hlK f4
    have hAB := HBO.out w31 HP31.out.all
    go_wp2_with fail
    refine (spoil_big (o.b ++ marks 5) _ nb5 cb pb w31 HN5.out (by have := HNL.out; omega) hAB).mono ?_
    rintro e w32 ⟨rfl, hgr⟩
    have HP32 := Lib.hid (HP31.out.spoil HSB.out hgr)
    have HB32 := Lib.hid (HB31.out.grown hgr HB31.out.size (fun k hk => Nat.le_trans HSZ.out (World.ownsRow.lt hAB k hk).1))
    clear hgr hAB
    go_wp2_with fail
    go_ret
    exact ⟨rfl, d.crash o.keep, Nat.le_succ _, HP32.out, HB32.out⟩
end Go.Proofs.Ytadlpidhemjkgaa

/-
  DiskPlays' walk.
-/
namespace Go.Proofs.Ytadlpidhemjkgaa
open Go.RowKit Go.Proofs.ShaWords
theorem Op8.Ok.below {W w : World} {o : Op8} (h : o.Ok W) (hb : Below W.heap.size W w) : o.Ok w := ⟨h.kindw, h.filew, h.nw, h.cap, h.lies.below hb, h.kcap, h.klies.below hb⟩
set_option maxRecDepth 100000 in
set_option maxHeartbeats 8000000 in
theorem diskPlays_any (room : Int) (os : List Op8) (len0 cap0 : Nat) (a0 : Option Addr) (W : World) (hlen : os.length = len0) (_ : len0 ≤ cap0) (hT : RowOf 5 Op8.cells W a0 os) (hO : ∀ o ∈ os, o.Ok W) :
    Calls Try.prog 4 #[.int .i64 room, .slice a0 len0 cap0] W fun e W' => e = .returned (.bool true) ∧ Below W.heap.size W W' := by
  have HT := Lib.hid hT; clear hT
  have HN := Lib.hid hlen; clear hlen
  have HO := Lib.hid hO; clear hO

  have HWK : Hid (∀ w' : World, Below W.heap.size W w' → Calls Try.prog 24 #[] w' fun e w'' => e = .returned (.bool true) ∧ Below W.heap.size W w'') := show ∀ _, _ from fun w' h => (known8_any w').mono fun e w'' ⟨h1, h2⟩ => ⟨h1, h.trans (h2.mono h.size)⟩
  go_enter Try.func4, Try.ntmps4
  go_wp2_with fail
  refine (dkNewI W.heap.size room W (Nat.le_refl _)).mono ?_
  rintro e w1 ⟨g, rfl, hi, hb⟩
  have HI1 := Lib.hid hi; have HB1 := Lib.hid hb; clear hi hb
  go_wp2_with fail
  refine (rfNew_any room w1).mono ?_
  rintro e w2 ⟨x, rfl, hx, hr, hb⟩
  have HP2 : Hid (P2 W.heap.size w2 g (DiskM.new room) x (DiskM.new room) []) := show P2 _ _ _ _ _ _ _ from by
    obtain ⟨S, h1, h2⟩ := HI1.out
    exact ⟨S, fun k => k = x, h1.below hb, hr, fun k s e => by have := h1.dom2 k s; omega, h2, fun k e => e ▸ Nat.le_trans HB1.out.size hx, fun y hy => absurd hy List.not_mem_nil⟩
  have HB2 := Lib.hid (HB1.out.trans (hb.mono HB1.out.size))
  clear hr hb hx HI1 HB1
  go_wp2_with fail
  go_loopw [7] (fun i wr => ∃ (k : Nat) (d : DiskM), k ≤ len0 ∧ k ≤ 80 ∧ i = .int .i64 (k : Int) ∧ d.count ≤ k ∧ P2 W.heap.size wr g d x d [] ∧ Below W.heap.size W wr) (fun i _ => len0 - (intOf i).toNat)
  case atStart => exact ⟨0, _, by omega, by omega, rfl, Nat.le_refl _, HP2.out, HB2.out⟩
  case round =>
    clear HP2 HB2
    obtain ⟨k, d, hk, hk80, rfl, hct, hp, hb⟩ := hrel
    have HP := Lib.hid hp; have HB := Lib.hid hb; have HCT := Lib.hid hct
    clear hp hb hct
    by_cases hgo : k < len0 ∧ k < 80
    · obtain ⟨hlt, h80⟩ := hgo
      have q1 : (k : Int) < (len0 : Int) := by omega
      have q2 : (k : Int) < 80 := by omega
      have hkt : k < os.length := by rw [HN.out]; exact hlt
      rcases (HT.out.below HB.out).at' with h0 | ⟨b, off, rfl, hr'⟩
      · exfalso; rw [h0] at hkt; simp at hkt
      have hok := HO.out os[k] (List.getElem_mem hkt)
      have hrk := hr' k hkt
      generalize os[k] = o at hok hrk
      have HOK := Lib.hid hok
      obtain ⟨nb, hnb⟩ : ∃ n, o.b.length = n := ⟨_, rfl⟩
      obtain ⟨nk, hnk⟩ : ∃ n, o.keep.length = n := ⟨_, rfl⟩
      have f0 : wr.cell? ⟨b, off + k * 5, none⟩ = some (.int .i64 o.kind) := by have h := hrk 0 _ rfl; rwa [Nat.add_zero] at h
      have f1 : wr.cell? ⟨b, off + k * 5 + 1, none⟩ = some (.int .i64 o.file) := hrk 1 _ rfl
      have f2 : wr.cell? ⟨b, off + k * 5 + 2, none⟩ = some (.int .i64 o.n) := hrk 2 _ rfl
      have hcells : o.cells.toArray = #[.int .i64 o.kind, .int .i64 o.file, .int .i64 o.n, .slice o.p nb o.c, .slice o.kp nk o.kc] := by unfold Op8.cells; rw [hnb, hnk]
      have HCL := Lib.hid hcells
      have f3 : wr.cell? ⟨b, off + k * 5 + 3, none⟩ = some (.slice o.p nb o.c) := by rw [← hnb]; exact hrk 3 _ rfl
      have f4 : wr.cell? ⟨b, off + k * 5 + 4, none⟩ = some (.slice o.kp nk o.kc) := by rw [← hnk]; exact hrk 4 _ rfl
      have HNB := Lib.hid hnb; have HNK := Lib.hid hnk
      clear hr' hrk hok hnb hnk hkt hcells
      by_cases hb1 : nb > 4096
      · have q3 : (nb : Int) > 4096 := by omega
        have HW := Lib.hid (HWK.out wr HB.out)
        go_wp2_with fail
        refine HW.out.mono ?_
        rintro e w3 ⟨rfl, hb⟩
        have HB3 := Lib.hid hb; clear hb
        go_wp2_with fail
        go_ret
        exact ⟨rfl, HB3.out⟩
      · have q3 : ¬ (nb : Int) > 4096 := by omega
        by_cases hk1 : nk > 100
        · have q4 : (nk : Int) > 100 := by omega
          have HW := Lib.hid (HWK.out wr HB.out)
          go_wp2_with fail
          refine HW.out.mono ?_
          rintro e w3 ⟨rfl, hb⟩
          have HB3 := Lib.hid hb; clear hb
          go_wp2_with fail
          go_ret
          exact ⟨rfl, HB3.out⟩
        · have q4 : ¬ (nk : Int) > 100 := by omega
          have HD := Lib.hid (does_any g x d o W wr HP.out HB.out (by have := HCT.out; omega) HOK.out (by rw [HNB.out]; omega) (by rw [HNK.out]; omega))
          rw [HCL.out] at HD
          clear HP HB
          go_wp2_with fail
          refine HD.out.mono ?_
          rintro e w3 ⟨rfl, d', hc', hp, hb⟩
          have HP3 := Lib.hid hp; have HB3 := Lib.hid hb; have HC3 : Hid (d'.count ≤ k + 1) := show _ ≤ _ by have := HCT.out; omega
          clear hp hb hc' HD f0 f1 f2 f3 f4
          go_wp2_with fail
          refine (looks_any W.heap.size g x d' w3 HP3.out HB3.out.size).mono ?_
          rintro e w4 ⟨rfl, hp, hb⟩
          have HP4 := Lib.hid hp; have HB4 := Lib.hid (HB3.out.trans hb)
          clear hp hb HP3 HB3
          go_wp2_with fail
          go_roundw
          case rel => exact ⟨k + 1, d', by omega, by omega, by go_num, HC3.out, HP4.out, HB4.out⟩
          case measure => simp [intOf]; omega
    · have hend : (¬ (k : Int) < (len0 : Int)) ∨ ((k : Int) < (len0 : Int) ∧ ¬ (k : Int) < 80) := by omega
      clear hgo
      rcases hend with q1 | ⟨q1, q2⟩
      all_goals
        go_wp2_with fail
        refine (looks_any W.heap.size g x d wr HP.out HB.out.size).mono ?_
        rintro e w4 ⟨rfl, hp, hb⟩
        have HW := Lib.hid (HWK.out w4 (HB.out.trans hb))
        clear hp hb
        go_wp2_with fail
        refine HW.out.mono ?_
        rintro e w5 ⟨rfl, hb⟩
        have HBZ := Lib.hid hb; clear hb
        go_wp2_with fail
        go_ret
        exact ⟨rfl, HBZ.out⟩
end Go.Proofs.Ytadlpidhemjkgaa

/-
  DiskPlays, for any room and any calls: the law returns true, and what came in reads afterwards as it read before. Without any condition.
-/
namespace Go.Proofs.Ytadlpidhemjkgaa
open Go.ChangeShapes Go.WideShapes Go.ChangeAt Go.RowKit Go.Proofs.ShaWords

set_option maxRecDepth 100000 in
theorem diskPlays_lifted (os : Os) (started : os.Started) (H : Type) (enc : TypeId × Value → H) :
    ReturnsInHanded {} Try.checked os 4 .any (Rows.diskPlaysSpec.pre6 enc Try.prog Try.f4 Rows.diskPlaysRow.domain false)
      (Rows.diskPlaysSpec.post enc Try.prog Try.f4 false true false false) := by
  refine returnsInHanded_of_change_sized (C := Try.checked) own started (by kernel_rfl) Try.func4
    (ChangeSpec.witness6 (enc := enc) (C := Try.checked) false ⟨#[], #[.int .i64 0, .slice none 0 0], []⟩ 8 (by kernel_rfl) (by kernel_rfl) (by kernel_rfl) (by kernel_rfl)) ?_
  intro W base args ds gs before hval0 hW _ hsz _
  have hW' := hW
  obtain ⟨p, q, hA0, hV, rfl, hfz, hnd⟩ := hW
  have hA : DataW.TrodAll enc Try.prog W 0 (fun _ => true) true Try.f4.params.toList args.toList ds p := hA0
  have hval : ∀ (j : Nat) t v, Try.f4.params[j]? = some t → args[j]? = some v → Value.okWide Try.prog W .any base t v := hval0
  have hsz2 : (DataW.weightsEach Try.prog (Try.f4.params.toList ++ Rows.diskPlaysSpec.plain.varTypes Try.prog) (ds ++ gs)).all (· ≤ reachBytes) = true := hsz
  rw [Try.params4] at hA hval hsz2
  obtain ⟨v0, vs0, d0, ds0, p0, q0, hargs, rfl, rfl, h0, r0⟩ := trodAll_cons hA
  obtain ⟨v1, vs1, d1, ds1, p1, q1, rfl, rfl, rfl, h1, r1⟩ := trodAll_cons r0
  obtain ⟨rfl, rfl, rfl⟩ := trodAll_nil r1
  obtain rfl : args = #[v0, v1] := by cases args; simp_all
  obtain ⟨rfl, rfl⟩ := trodVars_none hV
  obtain ⟨z0, rfl, rfl, rfl, wz0⟩ := open_int Try.underlying3 (hval 0 3 v0 rfl rfl) h0
  obtain ⟨a1, len1, cap1, rfl⟩ := okWide_slice Try.underlying47 (hval 1 47 v1 rfl rfl)
  have k1 := h1
  have lt1 : ∀ x ∈ p1, x.block < W.heap.size := by obtain ⟨m, hm⟩ := k1; exact DataW.trod_lt m _ _ _ hm
  obtain ⟨f1, hf1⟩ := h1
  obtain ⟨ps1, hx1a, hx1b, hx1c, hx1d⟩ := open_ops8 hf1
  clear hA0 hval0
  refine (diskPlays_any z0 ps1 _ _ _ W hx1a hx1b hx1c hx1d).mono fun e W' ⟨he, bel⟩ => ?_
  subst he
  exact ⟨_, rfl, _, _, _, [], _, [], hW', trodAll_mk1 (shut_bool Try.underlying4 _), (trodAll_cons_mk (shut_int Try.underlying3 wz0) (trodAll_cons_mk (Below.trod laidOut (by kernel_rfl) (of_decide_eq_true (by kernel_rfl)) k1 bel lt1) trodAll_mk0)), rfl, bel.frame _, fun h => by cases h⟩

theorem diskPlays_holds : Rows.DiskPlaysSaid :=
  OpenClaim.holds_of_wide 4 Try.f4 rfl rfl rfl rfl rfl rfl rfl ⟨rfl, rfl, rfl, rfl, rfl⟩ rfl rfl rfl rfl rfl (by kernel_rfl) Try.func4 (by kernel_rfl)
    (of_decide_eq_true (by kernel_rfl)) (by unfold Func.isWrapper; first | (rw [if_pos (by decide +kernel)]; kernel_rfl) | (rw [if_neg (by decide +kernel)]; exact ⟨rfl, rfl⟩))
    (fun os started H enc _ => diskPlays_lifted os started H enc)

#print axioms diskPlays_holds
end Go.Proofs.Ytadlpidhemjkgaa
