/-
  What other texts lean on: WaL, WaKnP, FrSameM, WaKn, KitRow, WaRow, WaIn, WaK, WaSnoc, WaBase.
-/
import Derived.Test.YteanjfcejpibaaaDoorPkA
import Derived.Test.YteanjfcejpibaaaDoorPkZ
import Derived.Test.YteanjfcejpibaaaDoorPkD
import Derived.Test.YteanjfcejpibaaaDoorPkF
import Derived.Test.YteanjfcejpibaaaDoorPkG
import Derived.WalkKit
import Derived.ProofKit
import Derived.OpenShut
import Derived.ShutString
import Derived.ChangeOld
import Derived.Below
import Derived.LaidMore
import Derived.Lib.LaidTab
import Derived.Stop.Joined
/-
  A log of the call's own beside its disk, and blocks of others that its calls leave alone.
-/
namespace Go.Proofs.YteanjfcejpibaaaDoor
open Go.RowKit Go.Proofs.ShaWords
/-- A list of frames, by what its blocks hold. -/
structure FrK (lo : Nat) (L : List (Nat × Obj)) (hv : Value) (vs : List Value) (all : List Fr9) : Prop where
  on : ∀ x ∈ L, FrB hv vs x.1
  whole : ∀ k, FrB hv vs k → ∃ o, (k, o) ∈ L
  fr : ∀ w : World, (∀ x ∈ L, w.heap[x.1]? = some x.2) → FrL lo w hv vs all
theorem FrK.nil (lo : Nat) : FrK lo [] (.slice none 0 0) [] [] := ⟨by simp, fun k h => by
  rcases h with h | ⟨i, v, h, -⟩
  · cases h
  · simp at h, fun w _ => FrL.nil lo w⟩
theorem FrL.keeps {lo : Nat} {w : World} {hv : Value} {vs : List Value} {all : List Fr9} (h : FrL lo w hv vs all) : ∃ L, FrK lo L hv vs all ∧ ∀ x ∈ L, w.heap[x.1]? = some x.2 := by
  obtain ⟨L, hL⟩ : ∃ L : List (Nat × Obj), L = (hv :: vs).filterMap (fun v => v.ownBlock.bind fun k => (w.heap[k]?).map fun o => (k, o)) := ⟨_, rfl⟩
  have hm : ∀ x, x ∈ L ↔ FrB hv vs x.1 ∧ w.heap[x.1]? = some x.2 := fun x => by
    rw [hL, List.mem_filterMap]
    constructor
    · rintro ⟨v, hv1, hx⟩
      obtain ⟨k, hk, hx⟩ := Option.bind_eq_some_iff.1 hx
      obtain ⟨o, ho, rfl⟩ := Option.map_eq_some_iff.1 hx
      refine ⟨?_, ho⟩
      rcases List.mem_cons.1 hv1 with rfl | hv1
      · exact Or.inl hk
      · obtain ⟨i, hi⟩ := List.getElem?_of_mem hv1
        exact Or.inr ⟨i, v, hi, hk⟩
    · rintro ⟨hb, ho⟩
      rcases hb with hb | ⟨i, v, hi, hb⟩
      · exact ⟨hv, List.mem_cons_self, by rw [hb]; show (w.heap[x.1]?).map _ = _; rw [ho]; rfl⟩
      · exact ⟨v, List.mem_cons_of_mem _ (List.mem_of_getElem? hi), by rw [hb]; show (w.heap[x.1]?).map _ = _; rw [ho]; rfl⟩
  have hw : ∀ k, FrB hv vs k → ∃ o, (k, o) ∈ L := fun k hk => by
    have hlt := (h.blk hk).2
    exact ⟨w.heap[k], (hm _).2 ⟨hk, Array.getElem?_eq_getElem hlt⟩⟩
  refine ⟨L, ⟨fun x hx => ((hm x).1 hx).1, hw, fun w' hw' => h.same fun k hk => ?_⟩, fun x hx => ((hm x).1 hx).2⟩
  obtain ⟨o, ho⟩ := hw k hk
  exact (hw' _ ho).trans ((hm _).1 ho).2.symm
theorem FrK.lower {lo lo' : Nat} {L : List (Nat × Obj)} {hv : Value} {vs : List Value} {all : List Fr9} (h : FrK lo L hv vs all) (hl : lo' ≤ lo) : FrK lo' L hv vs all := ⟨h.on, h.whole, fun w hw => (h.fr w hw).lower hl⟩
theorem write_else (d : DiskM) (f : Nat) (b : List (BitVec 8)) {s : Nat} (h : s ≠ f) : (d.write (f : Int) b).1.files s = d.files s := by
  unfold DiskM.write
  split
  · rfl
  · split
    · rfl
    · unfold DiskM.exec
      split
      · show writeF _ _ _ _ = _
        rw [Int.toNat_natCast, write_other _ _ h]
      · rfl
theorem syncedW_else (d : DiskM) (E : Nat) {s : Nat} (h : s ≠ E) : (syncedW d E).1.files s = d.files s := by
  unfold syncedW
  split
  · rfl
  · unfold DiskM.sync
    split
    · rfl
    · unfold DiskM.exec
      split
      · show syncF _ _ _ = _
        rw [Int.toNat_natCast, sync_other _ h]
      · rfl
theorem syncedW_all (d : DiskM) (E s : Nat) : ((syncedW d E).1.files s).all = (d.files s).all := by
  unfold syncedW
  split
  · rfl
  · unfold DiskM.sync
    split
    · rfl
    · unfold DiskM.exec
      split
      · show (syncF _ _ _).all = _
        rw [sync_all]
      · rfl
/-- Where a row more leaves the log, and that no later segment has bytes. -/
theorem appendW_E (d : DiskM) (E : Nat) (dead : Bool) (z : Int) (f : RowW) (hE : E ≤ 32) : (appendW d E dead z f).E ≤ 32 ∧ E ≤ (appendW d E dead z f).E ∧ ∀ s, (appendW d E dead z f).E < s → (appendW d E dead z f).d.files s = d.files s := by
  unfold appendW
  split
  · exact ⟨hE, Nat.le_refl _, fun _ _ => rfl⟩
  · split
    · exact ⟨hE, Nat.le_refl _, fun _ _ => rfl⟩
    · split
      · exact ⟨hE, Nat.le_refl _, fun _ _ => rfl⟩
      · split
        · exact ⟨hE, Nat.le_refl _, fun _ _ => rfl⟩
        · split
          · exact ⟨hE, Nat.le_refl _, fun s hs => write_else d E _ (by have hs : E < s := hs; omega)⟩
          · rename_i h1 h2
            have h3 : E < 32 := by
              rcases Nat.lt_or_ge E 32 with h | h
              · exact h
              · exact absurd (Or.inl ⟨by simpa using h2, by omega⟩) h1
            unfold beginW
            split
            · exact ⟨hE, Nat.le_refl _, fun s hs => syncedW_else d E (by have hs : E < s := hs; omega)⟩
            · split
              · exact ⟨h3, Nat.le_succ _, fun s hs => by
                  have hs : E + 1 < s := hs
                  exact (write_else _ (E + 1) _ (by omega)).trans (syncedW_else d E (by omega))⟩
              · exact ⟨h3, Nat.le_succ _, fun s hs => by
                  have hs : E + 1 < s := hs
                  exact (write_else _ (E + 1) _ (by omega)).trans ((write_else _ (E + 1) _ (by omega)).trans (syncedW_else d E (by omega)))⟩
theorem appendW_count (d : DiskM) (E : Nat) (dead : Bool) (z : Int) (f : RowW) : (appendW d E dead z f).d.count ≤ d.count + 3 := by
  have h1 := syncedW_count (d := d) (E := E)
  unfold appendW
  split
  · exact Nat.le_add_right _ _
  · split
    · exact Nat.le_add_right _ _
    · split
      · exact Nat.le_add_right _ _
      · split
        · exact Nat.le_add_right _ _
        · split
          · have := write_count d (E : Int) (frameB f.1 f.2)
            show (d.write _ _).1.count ≤ _
            omega
          · unfold beginW
            split
            · show (syncedW d E).1.count ≤ _; omega
            · have h2 := write_count (syncedW d E).1 ((E + 1 : Nat) : Int) (frameB (hdW (E + 1)).1 (hdW (E + 1)).2)
              split
              · show ((syncedW d E).1.write _ _).1.count ≤ _; omega
              · have h3 := write_count ((syncedW d E).1.write ((E + 1 : Nat) : Int) (frameB (hdW (E + 1)).1 (hdW (E + 1)).2)).1 ((E + 1 : Nat) : Int) (frameB f.1 f.2)
                show (DiskM.write _ _ _).1.count ≤ _
                omega
def WaL (lo : Nat) (w : World) (b g : Nat) (d : DiskM) (E : Nat) (dead : Bool) (L : List (Nat × Obj)) : Prop :=
  ∃ S n, LgIn S w b g d E n dead ∧ (∀ k, S k → lo ≤ k) ∧ lo ≤ b ∧ E ≤ 32 ∧ (dead = false → (1 ≤ E → n = (d.files E).all.length) ∧ (E = 0 → n = 0) ∧ ∀ s, E < s → s ≤ 32 → (d.files s).all = []) ∧ ∀ x ∈ L, ¬ S x.1 ∧ x.1 ≠ b ∧ w.heap[x.1]? = some x.2
section
variable {lo b g E : Nat} {d : DiskM} {dead : Bool} {w w' : World} {L : List (Nat × Obj)}
theorem WaL.ok (h : WaL lo w b g d E dead L) : d.Ok := by obtain ⟨S, n, h1, -⟩ := h; exact h1.disk.2.1
theorem WaL.le (h : WaL lo w b g d E dead L) : E ≤ 32 := by obtain ⟨S, n, -, -, -, h, -⟩ := h; exact h
theorem WaL.dk (h : WaL lo w b g d E dead L) : DkL lo w g d L := by
  obtain ⟨S, n, h1, h2, -, -, -, h3⟩ := h
  exact ⟨S, h1.disk, h2, fun x hx => ⟨(h3 x hx).1, (h3 x hx).2.2⟩⟩
theorem WaL.all (h : WaL lo w b g d E dead L) : ∀ x ∈ L, w.heap[x.1]? = some x.2 := h.dk.all
theorem WaL.fewer {L' : List (Nat × Obj)} (h : WaL lo w b g d E dead L) (hL : ∀ x ∈ L', x ∈ L) : WaL lo w b g d E dead L' := by
  obtain ⟨S, n, h1, h2, h3, h4, h5, h6⟩ := h
  exact ⟨S, n, h1, h2, h3, h4, h5, fun x hx => h6 x (hL x hx)⟩
theorem WaL.below (h : WaL lo w b g d E dead L) (hb : Below w.heap.size w w') : WaL lo w' b g d E dead L := by
  obtain ⟨S, n, h1, h2, h3, h4, h5, h6⟩ := h
  exact ⟨S, n, h1.below hb, h2, h3, h4, h5, fun x hx => ⟨(h6 x hx).1, (h6 x hx).2.1, (hb.block _ (Array.getElem?_eq_some_iff.1 (h6 x hx).2.2).1).trans (h6 x hx).2.2⟩⟩
/-- New blocks for the list. -/
theorem WaL.more {L' : List (Nat × Obj)} (h : WaL lo w b g d E dead L) (hb : Below w.heap.size w w') (hL : ∀ x ∈ L', w.heap.size ≤ x.1 ∧ w'.heap[x.1]? = some x.2) : WaL lo w' b g d E dead (L' ++ L) := by
  obtain ⟨S, n, g1, g2, g3, g4, g5, g6⟩ := h
  have hd : ∀ k, S k → k < w.heap.size := by obtain ⟨⟨vs, hv⟩, -⟩ := g1.disk; exact hv.dom
  refine ⟨S, n, g1.below hb, g2, g3, g4, g5, fun x hx => ?_⟩
  rcases List.mem_append.1 hx with hx | hx
  · have := hL x hx
    exact ⟨fun s => by have := hd _ s; omega, fun e => by have := g1.lt; omega, this.2⟩
  · exact ⟨(g6 x hx).1, (g6 x hx).2.1, (hb.block _ (Array.getElem?_eq_some_iff.1 (g6 x hx).2.2).1).trans (g6 x hx).2.2⟩
theorem LgGo.intoL {S : Nat → Prop} {n : Nat} {E' : Nat} {d' : DiskM} {dead' : Bool} (h : LgGo S b g d' E' n dead' w w') (hS : ∀ k, S k → lo ≤ k) (hb : lo ≤ b) (hE : E' ≤ 32) (hlo : lo ≤ w.heap.size) (ha : dead' = false → (1 ≤ E' → n = (d'.files E').all.length) ∧ (E' = 0 → n = 0) ∧ ∀ s, E' < s → s ≤ 32 → (d'.files s).all = [])
    (hL : ∀ x ∈ L, ¬ S x.1 ∧ x.1 ≠ b ∧ w.heap[x.1]? = some x.2) : WaL lo w' b g d' E' dead' L ∧ Below lo w w' := by
  obtain ⟨S', h1, h2, hs⟩ := h
  refine ⟨⟨S', n, h1, fun k s => (h2 k s).elim (hS k) (fun h => by omega), hb, hE, ha, fun x hx => ?_⟩, hs.below (fun k f => f.elim (hS k) (fun e => by omega)) hlo⟩
  obtain ⟨a, c, e⟩ := hL x hx
  have hlt := (Array.getElem?_eq_some_iff.1 e).1
  exact ⟨fun s => (h2 _ s).elim a (fun h => by omega), c, (hs.block _ hlt (fun f => f.elim a c)).trans e⟩
theorem rem_kept {S : Nat → Prop} (hS : ∀ k, S k → lo ≤ k) (hb : lo ≤ b) (hlo : lo ≤ w.heap.size) (hg : 0 < lo) (hR : Rem w) : ∀ w', Stays (fun k => S k ∨ k = b) w w' → Rem w' :=
  fun _ hs => hR.below (hs.below (B := lo) (fun k f => f.elim (hS k) (fun e => by omega)) hlo) hg
theorem WaL.append (h : WaL lo w b g d E dead L) (hlo : lo ≤ w.heap.size) (hg : 0 < lo) (hR : Rem w) (hc : d.count < 999998000) (z : Int) (l : List (BitVec 8)) (m c : Nat) (p : Option Addr) (hl : l.length = m) (hm : m < 140737488355000)
    (hb : ∀ w', (∀ x ∈ L, w'.heap[x.1]? = some x.2) → Below lo w w' → Lies w' p l) :
    Calls Tryd.prog 16 #[.pointer (some ⟨b, 0, none⟩), .int .i64 z, .slice p m c] w fun r w' => r = .returned (.int .i64 (appendW d E dead z (kb z, l)).e) ∧ WaL lo w' b g (appendW d E dead z (kb z, l)).d (appendW d E dead z (kb z, l)).E (appendW d E dead z (kb z, l)).dead L ∧ Below lo w w' := by
  obtain ⟨S, n, h1, h2, h3, h4, h5, h6⟩ := h
  have hlen : dead = false → n < 890000 := fun e => by
    obtain ⟨a1, a2, -⟩ := h5 e
    by_cases h0 : E = 0
    · rw [a2 h0]; decide
    · have hu := h1.disk.2.1.used
      have hr := h1.disk.2.1.room
      have hle := sumTo_le d.files E 33 (by omega)
      unfold DiskM.used at hu
      rw [a1 (by omega)]; omega
  obtain ⟨q1, q2, q3⟩ := appendW_E d E dead z (kb z, l) h4
  have hdead : (appendW d E dead z (kb z, l)).dead = false → dead = false := fun e => by
    cases dead with
    | false => rfl
    | true =>
      exfalso
      unfold appendW at e
      rw [if_pos (Or.inl rfl)] at e
      cases e
  refine (waAppend_any S b g E n m c d dead z l p w h1 h4 (fun e => (h5 e).1) hlen hc (fun e he => (h5 e).2.2 (E + 1) (by omega) (by omega)) hl hm (fun w' hs => hb w' (fun x hx => ?_) (hs.below (B := lo) (fun k f => f.elim (h2 k) (fun e => by omega)) hlo)) (rem_kept h2 h3 hlo hg hR)).mono ?_
  · obtain ⟨a, c, e⟩ := h6 x hx
    exact (hs.block _ (Array.getElem?_eq_some_iff.1 e).1 (fun f => f.elim a c)).trans e
  · rintro r w' ⟨rfl, n', k1, k2, k3⟩
    refine ⟨rfl, k3.intoL h2 h3 q1 hlo (fun e => ⟨k1 e, fun e0 => ?_, fun s hs hs2 => ?_⟩) h6⟩
    · rw [k2 e e0]
      exact (h5 (hdead e)).2.1 (by omega)
    · rw [q3 s hs]
      exact (h5 (hdead e)).2.2 s (by omega) hs2
theorem syncW_count (d : DiskM) (E : Nat) (dead : Bool) : (syncW d E dead).d.count ≤ d.count + 1 := by
  unfold syncW
  split
  · exact Nat.le_succ _
  · exact syncedW_count
theorem WaL.sync (h : WaL lo w b g d E dead L) (hlo : lo ≤ w.heap.size) (hc : d.count < 999998000) :
    Calls Tryd.prog 22 #[.pointer (some ⟨b, 0, none⟩)] w fun r w' => r = .returned (.int .i64 (syncW d E dead).e) ∧ WaL lo w' b g (syncW d E dead).d E (syncW d E dead).dead L ∧ Below lo w w' := by
  obtain ⟨S, n, h1, h2, h3, h4, h5, h6⟩ := h
  have hdead : (syncW d E dead).dead = false → dead = false ∧ ∀ s, ((syncW d E dead).d.files s).all = (d.files s).all := fun e => by
    unfold syncW at e ⊢
    by_cases h0 : dead = true ∨ d.down = true
    · rw [if_pos h0] at e; cases e
    · rw [if_neg h0]
      exact ⟨by simpa using (not_or.1 h0).1, syncedW_all d E⟩
  refine (waSync_any S b g E n d dead w h1 (by omega)).mono ?_
  rintro r w' ⟨rfl, k3⟩
  refine ⟨rfl, k3.intoL h2 h3 h4 hlo (fun e => ?_) h6⟩
  obtain ⟨e1, e2⟩ := hdead e
  obtain ⟨a1, a2, a3⟩ := h5 e1
  exact ⟨fun x => by rw [e2]; exact a1 x, a2, fun s x y => by rw [e2]; exact a3 s x y⟩
theorem WaL.seg (h : WaL lo w b g d E dead L) : Calls Tryd.prog 18 #[.pointer (some ⟨b, 0, none⟩)] w fun r w' => r = .returned (.int .i64 (E : Int)) ∧ w = w' := by
  obtain ⟨S, n, h1, -⟩ := h
  exact waSeg_any S b g E n d dead w h1
theorem WaL.down (h : WaL lo w b g d E dead L) : Calls Tryd.prog 23 #[.pointer (some ⟨g, 0, none⟩)] w fun e w' => e = .returned (.bool d.down) ∧ w = w' := h.dk.down
theorem WaL.used (h : WaL lo w b g d E dead L) : Calls Tryd.prog 14 #[.pointer (some ⟨g, 0, none⟩)] w fun e w' => e = .returned (.int .i64 (d.used : Int)) ∧ w = w' := h.dk.used
theorem WaL.room (h : WaL lo w b g d E dead L) : Calls Tryd.prog 20 #[.pointer (some ⟨g, 0, none⟩)] w fun e w' => e = .returned (.int .i64 (d.room : Int)) ∧ w = w' := h.dk.room
theorem WaL.read (h : WaL lo w b g d E dead L) (f : Int) : Calls Tryd.prog 19 #[.pointer (some ⟨g, 0, none⟩), .int .i64 f] w fun e w' => ∃ v, e = .returned v ∧ Own w.heap.size w' (d.read f) v ∧ Below w.heap.size w w' := h.dk.read f
theorem WaL.arm (h : WaL lo w b g d E dead L) (hlo : lo ≤ w.heap.size) (n : Int) (hn : n < 9223372036854775808) : Calls Tryd.prog 21 #[.pointer (some ⟨g, 0, none⟩), .int .i64 n] w fun e w' => e = .returned (.tuple #[]) ∧ WaL lo w' b g (d.arm n) E dead L ∧ Below lo w w' := by
  obtain ⟨S, m, h1, h2, h3, h4, h5, h6⟩ := h
  refine (dkArm_any S g d n w h1.disk hn).mono ?_
  rintro r w' ⟨rfl, k3⟩
  exact ⟨rfl, (k3.log h1).intoL h2 h3 h4 hlo h5 h6⟩
/-- A log is opened. -/
theorem DkL.open (h : DkL lo w g d L) (hlo : lo ≤ w.heap.size) (hR : Rem w) (hcalm : d.Calm) (hc : d.count < 999998000) (segs : Nat → List RowW) (r : List (BitVec 8)) (hLog : LogOf (fun s => (d.files s).all) E segs r) (hsm : ∀ s, 1 ≤ s → s ≤ 32 → (d.files s).all.length < 100000) :
    Calls Tryd.prog 8 #[.pointer (some ⟨g, 0, none⟩)] w fun e w' => ∃ b hv vs d' L', e = .returned (.tuple #[.pointer (some ⟨b, 0, none⟩), hv, .int .i64 0]) ∧ WaL lo w' b g d' E false (L' ++ L) ∧ Below lo w w' ∧ FrL w.heap.size w' hv vs (rowsW segs E) ∧
      FrK w.heap.size L' hv vs (rowsW segs E) ∧ d'.files = openF d.files E (framesB (hdW E :: segs E)).length ∧ d'.Calm ∧ d'.room = d.room ∧ d'.count ≤ d.count + 33 := by
  obtain ⟨S, h1, h2, h3⟩ := h
  have hd : ∀ k, S k → k < w.heap.size := by obtain ⟨⟨vs, hv⟩, -⟩ := h1; exact hv.dom
  refine (waOpen_any S g d w E segs r h1 hcalm hc hLog hsm hR).mono ?_
  rintro e w' ⟨b, hv, vs, S', d', rfl, ho⟩
  obtain ⟨L', l1, l2⟩ := ho.rows.keeps
  refine ⟨b, hv, vs, d', L', rfl, ⟨S', _, ho.log, fun k s => (ho.grew k s).elim (h2 k) (fun x => by omega), by have := ho.new; omega, hLog.le, fun _ => ⟨fun h0 => ?_, fun h0 => if_pos h0, fun s hs hs2 => ?_⟩, fun x hx => ?_⟩, ho.st.below h2 hlo, ho.rows, l1, ho.files, ho.calm, ho.room, ho.count⟩
  · have hf := hLog.opened.seg E h0 (Nat.le_refl _)
    rw [ho.files, show nAt segs E = (framesB (hdW E :: segs E)).length from if_neg (by omega)]
    exact congrArg List.length hf.symm
  · rw [ho.files]; exact hLog.opened.rest s hs hs2
  · rcases List.mem_append.1 hx with hx | hx
    · exact ⟨(ho.aside _ (l1.on x hx)).1, (ho.aside _ (l1.on x hx)).2, l2 x hx⟩
    · obtain ⟨a, c⟩ := h3 x hx
      have hlt := (Array.getElem?_eq_some_iff.1 c).1
      exact ⟨fun s => (ho.grew _ s).elim a (fun e => by omega), fun e => by have := ho.new; omega, (ho.st.block _ hlt a).trans c⟩
theorem DkL.openDown (h : DkL lo w g d L) (hd : d.down = true) : Calls Tryd.prog 8 #[.pointer (some ⟨g, 0, none⟩)] w fun e w' => e = .returned (.tuple #[.pointer none, .slice none 0 0, .int .i64 9]) ∧ w' = w := by
  obtain ⟨S, h1, -⟩ := h
  exact waOpen_down S g d w h1 hd
end
end Go.Proofs.YteanjfcejpibaaaDoor

/-
  A log step by step while the power stays: a row more in its segment, in a new one; a crash that keeps nothing.
-/
namespace Go.Proofs.YteanjfcejpibaaaDoor
open Go.Proofs.ShaWords
theorem fitsW_yes1 {d : DiskM} {E m : Nat} (h1 : 1 ≤ E) (h2 : (d.files E).all.length + (m + 9) ≤ 2048) : fitsW d E m = true := by unfold fitsW; simp; omega
structure KnW (d : DiskM) (E : Nat) (segs : Nat → List RowW) (all : List RowW) : Prop where
  live : LiveW d E segs 0 all
  calm : d.Calm
section
variable {d : DiskM} {E : Nat} {segs : Nat → List RowW} {all : List RowW}
theorem KnW.row (h : KnW d E segs all) (z : Int) (hz : 1 ≤ z ∧ z ≤ 254) (f : RowW) (hf : f.1 ≠ 0#8 ∧ f.2.length ≤ 2022) (hfit : fitsW d E f.2.length = true) (hroom : d.used + needW d E f.2.length ≤ d.room) :
    AddedW d E f (appendW d E false z f) ∧ KnW (appendW d E false z f).d E (setW segs E (segs E ++ [f])) (all ++ [f]) := by
  have ha := append_calm h.live.files h.calm z hz f hf.2 hroom (Or.inl hfit)
  have h1 : 1 ≤ E := by unfold fitsW at hfit; simp at hfit; omega
  have hfi := ha.files
  rw [if_pos hfit] at hfi
  obtain ⟨g1, g2, g3⟩ := LogFiles.wrote h.live h1 f ⟨hf.1, by omega⟩
  exact ⟨ha, ⟨by rw [hfi]; exact g1, by rw [hfi]; exact g2, g3⟩, ha.calm⟩
theorem KnW.seg (h : KnW d E segs all) (z : Int) (hz : 1 ≤ z ∧ z ≤ 254) (f : RowW) (hf : f.1 ≠ 0#8 ∧ f.2.length ≤ 2022) (hfit : fitsW d E f.2.length = false) (hE : E < 32) (hroom : d.used + needW d E f.2.length ≤ d.room) :
    AddedW d E f (appendW d E false z f) ∧ KnW (appendW d E false z f).d (E + 1) (setW segs (E + 1) [f]) (all ++ [f]) ∧ ((appendW d E false z f).d.files (E + 1)).dur = (d.files (E + 1)).dur ∧ (1 ≤ E → ((appendW d E false z f).d.files E).dur = (d.files E).all.length) := by
  have hfit' : ¬ fitsW d E f.2.length = true := by rw [hfit]; decide
  have ha := append_calm h.live.files h.calm z hz f hf.2 hroom (Or.inr hE)
  have hfi := ha.files
  rw [if_neg hfit'] at hfi
  have h0 : (d.files (E + 1)).all = [] := h.live.files.rest (E + 1) (by omega) (by omega)
  have hsy : ∀ s, ((if E = 0 then d.files else syncF E d.files) s).all = (d.files s).all := fun s => by
    split
    · rfl
    · exact sync_all _ _ _
  have hso : ∀ s, s ≠ E → (if E = 0 then d.files else syncF E d.files) s = d.files s := fun s hs => by
    split
    · rfl
    · exact sync_other _ hs
  have hsd : 1 ≤ E → ((if E = 0 then d.files else syncF E d.files) E).dur = (d.files E).all.length := fun h1 => by
    rw [if_neg (by omega)]; exact (sync_same _ _).2
  generalize (if E = 0 then d.files else syncF E d.files) = F1 at hfi hsy hso hsd
  obtain ⟨g1, g2, g3⟩ := LogFiles.begun (G := (appendW d E false z f).d.files) h.live hE [f] (fun x hx => by rw [List.mem_singleton.1 hx]; exact ⟨hf.1, by omega⟩)
    (by rw [hfi, (write_same _ _ _).1, (write_same _ _ _).1, hsy, h0, List.nil_append, framesB_cons, framesB_one])
    ⟨by rw [hfi, write_other _ _ (by omega), write_other _ _ (by omega)]; exact hsy E, fun h1 => by rw [hfi, write_other _ _ (by omega), write_other _ _ (by omega)]; exact hsd h1⟩
    (fun s a b => by rw [hfi, write_other _ _ b, write_other _ _ b]; exact hso s a)
  refine ⟨ha, ⟨⟨g1, g2, g3⟩, ha.calm⟩, ?_, fun h1 => ?_⟩
  · rw [hfi, (write_same _ _ _).2, (write_same _ _ _).2, hso _ (by omega)]
  · rw [hfi, write_other _ _ (by omega), write_other _ _ (by omega)]; exact hsd h1
theorem row_dur {z : Int} {f : RowW} (ha : AddedW d E f (appendW d E false z f)) (hfit : fitsW d E f.2.length = true) : ((appendW d E false z f).d.files E).dur = (d.files E).dur := by
  have hfi := ha.files
  rw [if_pos hfit] at hfi
  rw [hfi, (write_same _ _ _).2]
theorem KnW.sync (h : KnW d E segs all) : (syncW d E false).e = 0 ∧ (syncW d E false).dead = false ∧ (syncW d E false).E = E ∧ KnW (syncW d E false).d E segs all ∧ (syncW d E false).d.used = d.used ∧ (syncW d E false).d.room = d.room ∧ (1 ≤ E → ((syncW d E false).d.files E).dur = (d.files E).all.length) ∧ ∀ s, ((syncW d E false).d.files s).all = (d.files s).all := by
  have hle := h.live.files.le
  have hsl := sync_live h.live h.calm.down
  have hon : syncW d E false = ⟨(syncedW d E).1, E, decide ((syncedW d E).2 = 9), (syncedW d E).2⟩ := if_neg (by rw [h.calm.down]; decide)
  obtain ⟨d1, hd1, hc1, hu1, hr1, hdu, hal⟩ : ∃ d1, syncedW d E = (d1, 0) ∧ d1.Calm ∧ d1.used = d.used ∧ d1.room = d.room ∧ (1 ≤ E → (d1.files E).dur = (d.files E).all.length) ∧ ∀ s, (d1.files s).all = (d.files s).all := by
    unfold syncedW
    by_cases e : E = 0
    · rw [if_pos e]; exact ⟨d, rfl, h.calm, rfl, rfl, fun h1 => by omega, fun _ => rfl⟩
    · rw [if_neg e, h.calm.sync (f := (E : Int)) (by omega), Int.toNat_natCast]
      exact ⟨_, rfl, ⟨h.calm.down, h.calm.left⟩, used_sync d E (by omega), rfl, fun _ => (sync_same _ _).2, fun s => sync_all _ _ _⟩
  rw [hd1] at hon
  rw [hon] at hsl ⊢
  refine ⟨rfl, rfl, rfl, ⟨?_, hc1⟩, hu1, hr1, hdu, hal⟩
  rcases hsl with ⟨-, -, -, -, h5⟩ | ⟨h5, -⟩
  · exact ⟨h5.files, ⟨h5.dur.ahead, Or.inl (Nat.zero_le _)⟩, h5.rows⟩
  · exact absurd h5 (by show ¬ (0 : Int) = 9; decide)
/-- A new disk that is opened. -/
theorem kn_open {d : DiskM} {N : Nat} (hF : d.files = openF (fun _ => ⟨[], 0⟩) 0 N) (hc : d.Calm) : KnW d 0 (fun _ => []) [] ∧ d.used = 0 ∧ ∀ s, d.files s = ⟨[], 0⟩ := by
  have hs : ∀ s, d.files s = ⟨[], 0⟩ := fun s => by
    rw [hF]
    unfold openF
    split
    · rfl
    · split
      · rw [List.take_nil]
        rename_i h1 h2
        omega
      · rfl
  have hf : d.files = fun _ => ⟨[], 0⟩ := funext hs
  refine ⟨⟨⟨?_, ⟨fun s h1 h2 => by omega, Or.inl (Nat.zero_le _)⟩, rfl⟩, hc⟩, ?_, hs⟩
  · rw [hf]; exact LogFiles.new
  · unfold DiskM.used; rw [hf, sumTo_nil]
theorem new_log (room : Int) : LogOf (fun s => ((DiskM.new room).files s).all) 0 (fun _ => []) [] := LogFiles.new.log
/-- A crash that keeps nothing, where the last segment's first rows last. -/
theorem crash_part (h : LogFiles (fun s => (d.files s).all) E segs) (ok : d.Ok) (hE : 1 ≤ E) (ha : ∀ s, 1 ≤ s → s < E → (d.files s).dur = (d.files s).all.length) {j : Nat} (hj : j ≤ (segs E).length) (hd : (d.files E).dur = (framesB (hdW E :: (segs E).take j)).length) :
    LogFiles (fun s => ((d.crash []).files s).all) E (setW segs E ((segs E).take j)) := by
  have hle := h.le
  have hall : ∀ s, s < 33 → ((d.crash []).files s).all = (d.files s).all.take (d.files s).dur := fun s hs => crash_none d.files s hs (ok.dur s hs)
  refine ⟨hle, fun s h1 h2 => ?_, fun s h1 h2 f hf => ?_, fun s h1 h2 => ?_⟩
  · show ((d.crash []).files s).all = _
    rw [hall s (by omega)]
    by_cases e : s = E
    · subst e
      rw [setW_same, hd, show (d.files s).all = _ from h.seg s h1 h2]
      conv => lhs; rw [← List.take_append_drop j (segs s), ← List.cons_append, framesB_append]
      rw [List.take_append_drop]
      exact List.take_left
    · rw [setW_other _ _ e, ha s h1 (by omega), List.take_length]; exact h.seg s h1 h2
  · by_cases e : s = E
    · subst e
      rw [setW_same] at hf
      exact h.ok s h1 h2 f (List.mem_of_mem_take hf)
    · rw [setW_other _ _ e] at hf; exact h.ok s h1 h2 f hf
  · show ((d.crash []).files s).all = _
    rw [hall s (by omega), show (d.files s).all = [] from h.rest s h1 h2, List.take_nil]
/-- A crash that keeps nothing of the last segment. -/
theorem crash_gone (h : LogFiles (fun s => (d.files s).all) (E + 1) segs) (ok : d.Ok) (ha : ∀ s, 1 ≤ s → s < E + 1 → (d.files s).dur = (d.files s).all.length) (hd : (d.files (E + 1)).dur = 0) :
    LogFiles (fun s => ((d.crash []).files s).all) E segs := by
  have hle := h.le
  have hall : ∀ s, s < 33 → ((d.crash []).files s).all = (d.files s).all.take (d.files s).dur := fun s hs => crash_none d.files s hs (ok.dur s hs)
  refine ⟨by omega, fun s h1 h2 => ?_, fun s h1 h2 f hf => h.ok s h1 (by omega) f hf, fun s h1 h2 => ?_⟩
  · show ((d.crash []).files s).all = _
    rw [hall s (by omega), ha s h1 (by omega), List.take_length]; exact h.seg s h1 (by omega)
  · show ((d.crash []).files s).all = _
    rw [hall s (by omega)]
    by_cases e : s = E + 1
    · subst e; rw [hd, List.take_zero]
    · rw [show (d.files s).all = [] from h.rest s (by omega) h2, List.take_nil]
end
def kAB : RowW := (kb 1, [97#8, 98#8])
def kC : RowW := (kb 2, [99#8])
theorem kb_1 : kb 1 ≠ 0#8 := by decide
theorem kb_2 : kb 2 ≠ 0#8 := by decide
/-- What known does. -/
theorem known10_pure {d : DiskM} {N : Nat} (hF : d.files = openF (fun _ => ⟨[], 0⟩) 0 N) (hc : d.Calm) (hr : d.room = 4096) : ∃ d1 d2 d3, appendW d 0 false 1 kAB = ⟨d1, 1, false, 0⟩ ∧ syncW d1 1 false = ⟨d2, 1, false, 0⟩ ∧ appendW d2 1 false 2 kC = ⟨d3, 1, false, 0⟩ ∧
    (d3.Ok → ∃ segs, LogOf (fun s => ((d3.crash []).files s).all) 1 segs [] ∧ rowsW segs 1 = [kAB] ∧ ∀ s, 1 ≤ s → s ≤ 32 → ((d3.crash []).files s).all.length < 100000) := by
  obtain ⟨k0, hu0, hs0⟩ := kn_open hF hc
  have hfit0 : fitsW d 0 kAB.2.length = false := rfl
  have hn0 : needW d 0 kAB.2.length = 28 := by unfold needW; rw [hfit0]; rfl
  obtain ⟨a1, k1, hd1, -⟩ := k0.seg 1 (by decide) kAB ⟨kb_1, by decide⟩ hfit0 (by decide) (by rw [hn0, hu0, hr]; decide)
  have e1 : appendW d 0 false 1 kAB = ⟨(appendW d 0 false 1 kAB).d, 1, false, 0⟩ := by
    have h1 := a1.seg; have h2 := a1.dead; have h3 := a1.e
    rw [hfit0] at h1
    cases hx : appendW d 0 false 1 kAB with
    | mk x1 x2 x3 x4 => rw [hx] at h1 h2 h3; simp only at h1 h2 h3; rw [h1, h2, h3]; rfl
  have hl1 := a1.len
  rw [a1.seg, hfit0] at hl1
  have hl1 : ((appendW d 0 false 1 kAB).d.files 1).all.length = 28 := hl1
  have hu1 : (appendW d 0 false 1 kAB).d.used = 28 := by rw [a1.used, hn0, hu0]
  have hr1 : (appendW d 0 false 1 kAB).d.room = 4096 := by rw [a1.room, hr]
  generalize (appendW d 0 false 1 kAB).d = d1 at e1 k1 hl1 hu1 hr1
  obtain ⟨s1, s2, s3, k2, hu2, hr2, hdu2, hal2⟩ := k1.sync
  have e2 : syncW d1 1 false = ⟨(syncW d1 1 false).d, 1, false, 0⟩ := by
    cases hx : syncW d1 1 false with
    | mk x1 x2 x3 x4 => rw [show (0 : Nat) + 1 = 1 from rfl, hx] at s1 s2 s3; simp only at s1 s2 s3; rw [s1, s2, s3]
  have k2 : KnW (syncW d1 1 false).d 1 (setW (fun _ => []) 1 [kAB]) [kAB] := k2
  have hdu2 : ((syncW d1 1 false).d.files 1).dur = 28 := by rw [hdu2 (by decide)]; exact hl1
  have hl2 : ((syncW d1 1 false).d.files 1).all.length = 28 := by rw [hal2]; exact hl1
  have hu2 : (syncW d1 1 false).d.used = 28 := hu2.trans hu1
  have hr2 : (syncW d1 1 false).d.room = 4096 := hr2.trans hr1
  generalize (syncW d1 1 false).d = d2 at e2 k2 hdu2 hl2 hu2 hr2
  have hfit2 : fitsW d2 1 kC.2.length = true := fitsW_yes1 (by decide) (by rw [hl2]; decide)
  have hn2 : needW d2 1 kC.2.length = 10 := by unfold needW; rw [hfit2]; rfl
  obtain ⟨a3, k3⟩ := k2.row 2 (by decide) kC ⟨kb_2, by decide⟩ hfit2 (by rw [hn2, hu2, hr2]; decide)
  have hdu3 := row_dur a3 hfit2
  rw [hdu2] at hdu3
  have e3 : appendW d2 1 false 2 kC = ⟨(appendW d2 1 false 2 kC).d, 1, false, 0⟩ := by
    have h1 := a3.seg; have h2 := a3.dead; have h3 := a3.e
    rw [hfit2] at h1
    cases hx : appendW d2 1 false 2 kC with
    | mk x1 x2 x3 x4 => rw [hx] at h1 h2 h3; simp only at h1 h2 h3; rw [h1, h2, h3]; rfl
  have hu3 : (appendW d2 1 false 2 kC).d.room = 4096 := by rw [a3.room, hr2]
  generalize (appendW d2 1 false 2 kC).d = d3 at e3 k3 hdu3 hu3
  refine ⟨d1, d2, d3, e1, e2, e3, fun ok => ⟨_, (crash_part (j := 1) k3.live.files ok (by decide) (fun s h1 h2 => by omega) (by rw [setW_same, setW_same]; decide) ?_).log, ?_, fun s h1 h2 => ?_⟩⟩
  · rw [hdu3, setW_same, setW_same]
    show 28 = (framesB [hdW 1, kAB]).length
    rw [framesB_cons, framesB_one, List.length_append, hdW_length, frameB_length]; rfl
  · rw [show (1 : Nat) = 0 + 1 from rfl, rowsW_set, setW_same, setW_same]
    rfl
  · have hu := (DiskM.crash_ok ok []).used
    have hle := sumTo_le (d3.crash []).files s 33 (by omega)
    unfold DiskM.used at hu
    have : (d3.crash []).room = 4096 := hu3
    omega
end Go.Proofs.YteanjfcejpibaaaDoor

/-
  Two lists of frames, as they are read, are the same.
-/
namespace Go.Proofs.YteanjfcejpibaaaDoor
open Go.RowKit Go.Proofs.ShaWords
/-- Frames in memory, as they are read. -/
def FrM (w : World) (hv : Value) (fs : List Fr9) : Prop := ∃ q c, hv = .slice q fs.length c ∧ (0 < fs.length → ∃ g, q = some ⟨g, 0, none⟩ ∧ g < w.heap.size ∧ ∀ (i : Nat) (f : Fr9), fs[i]? = some f → ∃ qv cv, w.cell? ⟨g, i * 2, none⟩ = some (.int .i64 (n8 f.1)) ∧ w.cell? ⟨g, i * 2 + 1, none⟩ = some (.slice qv f.2.length cv) ∧ Lies w qv f.2)
theorem FrL.toM {B : Nat} {w : World} {hv : Value} {vs : List Value} {fs : List Fr9} (h : FrL B w hv vs fs) : FrM w hv fs := by
  obtain ⟨q, c, rfl, -⟩ := h.sl9 rfl
  refine ⟨q, c, rfl, fun h0 => ?_⟩
  obtain ⟨g, cc, e, -, hg, -, hc⟩ := h.cell h0
  cases e
  refine ⟨g, rfl, hg, fun i f hf => ?_⟩
  have hi : i < vs.length := by rw [h.len]; exact (List.getElem?_eq_some_iff.1 hf).1
  have hv : vs[i]? = some vs[i] := List.getElem?_eq_getElem hi
  obtain ⟨c0, c1⟩ := hc i f _ hf hv
  obtain ⟨qv, cv, e, -, -, hl⟩ := (h.each i _ f hv hf).slN (n := f.2.length) rfl
  rw [e] at c1
  exact ⟨qv, cv, c0, c1, hl⟩
theorem FrM.below {w w' : World} {hv : Value} {fs : List Fr9} (h : FrM w hv fs) (hb : Below w.heap.size w w') : FrM w' hv fs := by
  obtain ⟨q, c, rfl, h1⟩ := h
  refine ⟨q, c, rfl, fun h0 => ?_⟩
  obtain ⟨g, rfl, hg, hc⟩ := h1 h0
  refine ⟨g, rfl, Nat.lt_of_lt_of_le hg hb.size, fun i f hf => ?_⟩
  obtain ⟨qv, cv, c0, c1, hl⟩ := hc i f hf
  exact ⟨qv, cv, (hb.cell (p := ⟨g, i * 2, none⟩) hg).trans c0, (hb.cell (p := ⟨g, i * 2 + 1, none⟩) hg).trans c1, hl.below hb⟩
/-- The first ones of them. -/
theorem FrM.take {w : World} {q : Option Addr} {n c : Nat} {fs : List Fr9} (h : FrM w (.slice q n c) fs) (k : Nat) (hk : k ≤ n) : FrM w (.slice q k c) (fs.take k) := by
  obtain ⟨q', c', e, h1⟩ := h
  cases e
  refine ⟨q, c, by rw [List.length_take, Nat.min_eq_left hk], fun h0 => ?_⟩
  rw [List.length_take] at h0
  obtain ⟨g, rfl, hg, hc⟩ := h1 (by omega)
  refine ⟨g, rfl, hg, fun i f hf => hc i f ?_⟩
  rw [List.getElem?_take] at hf
  split at hf
  · exact hf
  · cases hf
/-- One frame whose bytes lie somewhere. -/
theorem FrM.one {w : World} {g n c cv : Nat} {qv : Option Addr} {z : Int} {cs : Array Value} {t : TypeId} {fz : Nat × Nat} {f : Fr9} (hh : w.heap[g]? = some (.cells cs t fz)) (hcs : cs = #[.int .i64 z, .slice qv n cv]) (hz : z = n8 f.1) (hn : f.2.length = n) (hl : Lies w qv f.2) : FrM w (.slice (some ⟨g, 0, none⟩) 1 c) [f] := by
  subst hcs hz hn
  refine ⟨_, c, rfl, fun _ => ⟨g, rfl, (Array.getElem?_eq_some_iff.1 hh).1, fun i x hx => ?_⟩⟩
  have hi : i = 0 := by have := (List.getElem?_eq_some_iff.1 hx).1; simp at this; exact this
  subst hi
  simp only [List.getElem?_cons_zero, Option.some.injEq] at hx
  subst hx
  exact ⟨qv, cv, by rw [cell_of_row w g _ _ _ _ hh]; rfl, by rw [cell_of_row w g _ _ _ _ hh]; rfl, hl⟩
set_option maxRecDepth 100000 in
set_option maxHeartbeats 4000000 in
theorem sameFramesM_any (fs : List Fr9) (hv hu : Value) (w : World) (hlen : fs.length ≤ 100000) (hb : ∀ f ∈ fs, f.2.length < 100000) (h1 : FrM w hv fs) (h2 : FrM w hu fs) :
    Calls Tryd.prog 12 #[hv, hu] w fun e w' => e = .returned (.bool true) ∧ Below w.heap.size w w' := by
  obtain ⟨N, hN⟩ : ∃ N, fs.length = N := ⟨_, rfl⟩
  obtain ⟨qx, cx, rfl, h1⟩ := h1
  obtain ⟨qy, cy, rfl, h2⟩ := h2
  rw [hN] at h1 h2 ⊢
  rw [hN] at hlen
  have HNN := Lib.hid hN
  have H1 := Lib.hid h1
  have H2 := Lib.hid h2
  have HBB := Lib.hid hb
  clear h1 h2 hb hN
  go_enter Tryd.func12, Tryd.ntmps12
  go_wp2_with fail
  go_loopw [5] (fun i wr => ∃ k : Nat, k ≤ N ∧ i = .int .i64 (k : Int) ∧ Below w.heap.size w wr) (fun i _ => N - (intOf i).toNat)
  case atStart => exact ⟨0, Nat.zero_le _, rfl, Below.refl _ _⟩
  case round =>
    obtain ⟨k, hk, rfl, hb⟩ := hrel
    have HB := Lib.hid hb
    by_cases hlt : k < N
    · have q1 : (k : Int) < (N : Int) := by omega
      have hkl : k < fs.length := by rw [HNN.out]; exact hlt
      obtain ⟨f, hf⟩ : ∃ f, fs[k]? = some f := ⟨_, List.getElem?_eq_getElem hkl⟩
      obtain ⟨ga, rfl, hga, hca⟩ := H1.out (by omega)
      obtain ⟨gb, rfl, hgb, hcb⟩ := H2.out (by omega)
      obtain ⟨qa, sa, a1, a2, la⟩ := hca k f hf
      obtain ⟨qb, sb, b1, b2, lb⟩ := hcb k f hf
      have HA1 : Hid (∀ w', Below w.heap.size w w' → w'.cell? ⟨ga, 0 + k * 2 + 0, none⟩ = some (.int .i64 (n8 f.1))) := show _ from fun w' h => by rw [Nat.zero_add]; exact (h.cell (p := ⟨ga, k * 2, none⟩) hga).trans a1
      have HA2 : Hid (∀ w', Below w.heap.size w w' → w'.cell? ⟨ga, 0 + k * 2 + 1, none⟩ = some (.slice qa f.2.length sa)) := show _ from fun w' h => by rw [Nat.zero_add]; exact (h.cell (p := ⟨ga, k * 2 + 1, none⟩) hga).trans a2
      have HB1 : Hid (∀ w', Below w.heap.size w w' → w'.cell? ⟨gb, 0 + k * 2 + 0, none⟩ = some (.int .i64 (n8 f.1))) := show _ from fun w' h => by rw [Nat.zero_add]; exact (h.cell (p := ⟨gb, k * 2, none⟩) hgb).trans b1
      have HB2 : Hid (∀ w', Below w.heap.size w w' → w'.cell? ⟨gb, 0 + k * 2 + 1, none⟩ = some (.slice qb f.2.length sb)) := show _ from fun w' h => by rw [Nat.zero_add]; exact (h.cell (p := ⟨gb, k * 2 + 1, none⟩) hgb).trans b2
      have HLA := Lib.hid la
      have HLB := Lib.hid lb
      have hfl := HBB.out f (List.mem_of_getElem? hf)
      clear hb a1 a2 b1 b2 la lb hf hkl hca hcb
      go_upto_region 6 with (fail)
      have HD : Hid (Below w.heap.size w wr.drew) := show Below _ _ _ from HB.out.trans ((Below.refl wr.heap.size wr).drew.mono HB.out.size)
      refine region_phase (fun w' => Below w.heap.size w w') (fun _ => True) 22 (HD.out) trivial [(0, .free), (1, .free), (2, .free), (3, .free), (4, .free), (5, .free), (6, .free), (7, .free), (8, .free), (9, .free), (10, .free), (11, .free), (12, .free), (13, .free), (14, .free), (15, .free), (16, .free), (17, .free), (18, .free), (19, .free), (20, .free), (21, .free), (22, .behind), (23, .free), (24, .free)] (by kernel_rfl) (by kernel_rfl) (by kernel_rfl) (by kernel_rfl) (fun ops hops A hA => ?_)
      have hsz : A.tmps.size = 42 := by rw [hA]; rfl
      have base0 : A.eval (.tmp 0) = .slice (some ⟨ga, 0, none⟩) N cx := by rw [hA]; rfl
      have base1 : A.eval (.tmp 1) = .slice (some ⟨gb, 0, none⟩) N cy := by rw [hA]; rfl
      have base5 : A.eval (.tmp 5) = .int .i64 (k : Int) := by rw [hA]; rfl
      have HAA := Lib.hid hA; clear hA
      obtain ⟨o0, po0, q0, d0, gd0⟩ : ∃ o, ops[0]? = some o ∧ o.op = .move (.tmp 0) ∧ o.dst = some 17 ∧ o.guard = none := ⟨_, by rw [hops]; rfl, rfl, rfl, rfl⟩
      obtain ⟨o1, po1, q1, d1, gd1⟩ : ∃ o, ops[1]? = some o ∧ o.op = .move (.tmp 5) ∧ o.dst = some 18 ∧ o.guard = none := ⟨_, by rw [hops]; rfl, rfl, rfl, rfl⟩
      obtain ⟨o2, po2, q2, d2, gd2⟩ : ∃ o, ops[2]? = some o ∧ o.op = .indexAddr 26 (.tmp 17) (.tmp 18) ∧ o.dst = some 19 ∧ o.guard = none := ⟨_, by rw [hops]; rfl, rfl, rfl, rfl⟩
      obtain ⟨o3, po3, q3, d3, gd3⟩ : ∃ o, ops[3]? = some o ∧ o.op = .fieldAddr 46 (.tmp 19) 0 ∧ o.dst = some 20 ∧ o.guard = none := ⟨_, by rw [hops]; rfl, rfl, rfl, rfl⟩
      obtain ⟨o4, po4, q4, d4, gd4⟩ : ∃ o, ops[4]? = some o ∧ o.op = .load 3 (.tmp 20) ∧ o.dst = some 21 ∧ o.guard = none := ⟨_, by rw [hops]; rfl, rfl, rfl, rfl⟩
      obtain ⟨o5, po5, q5, d5, gd5⟩ : ∃ o, ops[5]? = some o ∧ o.op = .move (.tmp 1) ∧ o.dst = some 22 ∧ o.guard = none := ⟨_, by rw [hops]; rfl, rfl, rfl, rfl⟩
      obtain ⟨o6, po6, q6, d6, gd6⟩ : ∃ o, ops[6]? = some o ∧ o.op = .move (.tmp 5) ∧ o.dst = some 23 ∧ o.guard = none := ⟨_, by rw [hops]; rfl, rfl, rfl, rfl⟩
      obtain ⟨o7, po7, q7, d7, gd7⟩ : ∃ o, ops[7]? = some o ∧ o.op = .indexAddr 26 (.tmp 22) (.tmp 23) ∧ o.dst = some 24 ∧ o.guard = none := ⟨_, by rw [hops]; rfl, rfl, rfl, rfl⟩
      obtain ⟨o8, po8, q8, d8, gd8⟩ : ∃ o, ops[8]? = some o ∧ o.op = .fieldAddr 46 (.tmp 24) 0 ∧ o.dst = some 25 ∧ o.guard = none := ⟨_, by rw [hops]; rfl, rfl, rfl, rfl⟩
      obtain ⟨o9, po9, q9, d9, gd9⟩ : ∃ o, ops[9]? = some o ∧ o.op = .load 3 (.tmp 25) ∧ o.dst = some 26 ∧ o.guard = none := ⟨_, by rw [hops]; rfl, rfl, rfl, rfl⟩
      obtain ⟨o10, po10, q10, d10, gd10⟩ : ∃ o, ops[10]? = some o ∧ o.op = .binOp .eql 3 (.tmp 21) (.tmp 26) 3 ∧ o.dst = some 27 ∧ o.guard = none := ⟨_, by rw [hops]; rfl, rfl, rfl, rfl⟩
      obtain ⟨o11, po11, q11, d11, gd11⟩ : ∃ o, ops[11]? = some o ∧ o.op = .move (.tmp 27) ∧ o.dst = some 28 ∧ o.guard = none := ⟨_, by rw [hops]; rfl, rfl, rfl, rfl⟩
      obtain ⟨o12, po12, q12, d12, gd12⟩ : ∃ o, ops[12]? = some o ∧ o.op = .move (.tmp 0) ∧ o.dst = some 29 ∧ o.guard = some (11, true) := ⟨_, by rw [hops]; rfl, rfl, rfl, rfl⟩
      obtain ⟨o13, po13, q13, d13, gd13⟩ : ∃ o, ops[13]? = some o ∧ o.op = .move (.tmp 5) ∧ o.dst = some 30 ∧ o.guard = some (11, true) := ⟨_, by rw [hops]; rfl, rfl, rfl, rfl⟩
      obtain ⟨o14, po14, q14, d14, gd14⟩ : ∃ o, ops[14]? = some o ∧ o.op = .indexAddr 26 (.tmp 29) (.tmp 30) ∧ o.dst = some 31 ∧ o.guard = some (11, true) := ⟨_, by rw [hops]; rfl, rfl, rfl, rfl⟩
      obtain ⟨o15, po15, q15, d15, gd15⟩ : ∃ o, ops[15]? = some o ∧ o.op = .fieldAddr 46 (.tmp 31) 1 ∧ o.dst = some 32 ∧ o.guard = some (11, true) := ⟨_, by rw [hops]; rfl, rfl, rfl, rfl⟩
      obtain ⟨o16, po16, q16, d16, gd16⟩ : ∃ o, ops[16]? = some o ∧ o.op = .load 41 (.tmp 32) ∧ o.dst = some 33 ∧ o.guard = some (11, true) := ⟨_, by rw [hops]; rfl, rfl, rfl, rfl⟩
      obtain ⟨o17, po17, q17, d17, gd17⟩ : ∃ o, ops[17]? = some o ∧ o.op = .move (.tmp 1) ∧ o.dst = some 34 ∧ o.guard = some (11, true) := ⟨_, by rw [hops]; rfl, rfl, rfl, rfl⟩
      obtain ⟨o18, po18, q18, d18, gd18⟩ : ∃ o, ops[18]? = some o ∧ o.op = .move (.tmp 5) ∧ o.dst = some 35 ∧ o.guard = some (11, true) := ⟨_, by rw [hops]; rfl, rfl, rfl, rfl⟩
      obtain ⟨o19, po19, q19, d19, gd19⟩ : ∃ o, ops[19]? = some o ∧ o.op = .indexAddr 26 (.tmp 34) (.tmp 35) ∧ o.dst = some 36 ∧ o.guard = some (11, true) := ⟨_, by rw [hops]; rfl, rfl, rfl, rfl⟩
      obtain ⟨o20, po20, q20, d20, gd20⟩ : ∃ o, ops[20]? = some o ∧ o.op = .fieldAddr 46 (.tmp 36) 1 ∧ o.dst = some 37 ∧ o.guard = some (11, true) := ⟨_, by rw [hops]; rfl, rfl, rfl, rfl⟩
      obtain ⟨o21, po21, q21, d21, gd21⟩ : ∃ o, ops[21]? = some o ∧ o.op = .load 41 (.tmp 37) ∧ o.dst = some 38 ∧ o.guard = some (11, true) := ⟨_, by rw [hops]; rfl, rfl, rfl, rfl⟩
      obtain ⟨o22, po22, q22, d22, gd22⟩ : ∃ o, ops[22]? = some o ∧ o.op = .call { callee := .value (.func 29), args := #[.tmp 33, .tmp 38], argTypes := #[41, 41] } ∧ o.dst = some 39 ∧ o.guard = some (11, true) := ⟨_, by rw [hops]; rfl, rfl, rfl, rfl⟩
      obtain ⟨o23, po23, q23, d23, gd23⟩ : ∃ o, ops[23]? = some o ∧ o.op = .pick (.tmp 28) (.tmp 39) (.const (.bool false)) ∧ o.dst = some 40 ∧ o.guard = none := ⟨_, by rw [hops]; rfl, rfl, rfl, rfl⟩
      obtain ⟨o24, po24, q24, d24, gd24⟩ : ∃ o, ops[24]? = some o ∧ o.op = .unOp .not 4 (.tmp 40) ∧ o.dst = some 41 ∧ o.guard = none := ⟨_, by rw [hops]; rfl, rfl, rfl, rfl⟩
      clear hops
      refine met_free po0 d0 (wanted_of gd0) (fun w' h' => run_move q0 base0 w') ?_
      refine met_free po1 d1 (wanted_of gd1) (fun w' h' => run_move q1 ((eval_other _ 17 5 _ (by decide)).trans base5) w') ?_
      refine met_free po2 d2 (wanted_of gd2) (fun w' h' => run_ixFr q2 ((eval_other _ 18 17 _ (by decide)).trans (eval_same _ _ _ (by rw [hsz]; decide))) (eval_same _ _ _ (by simp only [put_size, hsz]; decide)) hlt w') ?_
      refine met_free po3 d3 (wanted_of gd3) (fun w' h' => run_fieldFr q3 (by decide) (eval_same _ _ _ (by simp only [put_size, hsz]; decide)) w') ?_
      refine met_free po4 d4 (wanted_of gd4) (fun w' h' => run_loadKind q4 (eval_same _ _ _ (by simp only [put_size, hsz]; decide)) (HA1.out _ h')) ?_
      refine met_free po5 d5 (wanted_of gd5) (fun w' h' => run_move q5 ((eval_other _ 21 1 _ (by decide)).trans ((eval_other _ 20 1 _ (by decide)).trans ((eval_other _ 19 1 _ (by decide)).trans ((eval_other _ 18 1 _ (by decide)).trans ((eval_other _ 17 1 _ (by decide)).trans base1))))) w') ?_
      refine met_free po6 d6 (wanted_of gd6) (fun w' h' => run_move q6 ((eval_other _ 22 5 _ (by decide)).trans ((eval_other _ 21 5 _ (by decide)).trans ((eval_other _ 20 5 _ (by decide)).trans ((eval_other _ 19 5 _ (by decide)).trans ((eval_other _ 18 5 _ (by decide)).trans ((eval_other _ 17 5 _ (by decide)).trans base5)))))) w') ?_
      refine met_free po7 d7 (wanted_of gd7) (fun w' h' => run_ixFr q7 ((eval_other _ 23 22 _ (by decide)).trans (eval_same _ _ _ (by simp only [put_size, hsz]; decide))) (eval_same _ _ _ (by simp only [put_size, hsz]; decide)) hlt w') ?_
      refine met_free po8 d8 (wanted_of gd8) (fun w' h' => run_fieldFr q8 (by decide) (eval_same _ _ _ (by simp only [put_size, hsz]; decide)) w') ?_
      refine met_free po9 d9 (wanted_of gd9) (fun w' h' => run_loadKind q9 (eval_same _ _ _ (by simp only [put_size, hsz]; decide)) (HB1.out _ h')) ?_
      refine met_free po10 d10 (wanted_of gd10) (fun w' h' => run_eqKind q10 ((eval_other _ 26 21 _ (by decide)).trans ((eval_other _ 25 21 _ (by decide)).trans ((eval_other _ 24 21 _ (by decide)).trans ((eval_other _ 23 21 _ (by decide)).trans ((eval_other _ 22 21 _ (by decide)).trans (eval_same _ _ _ (by simp only [put_size, hsz]; decide))))))) (eval_same _ _ _ (by simp only [put_size, hsz]; decide)) w') ?_
      refine met_free po11 d11 (wanted_of gd11) (fun w' h' => run_move q11 (eval_same _ _ _ (by simp only [put_size, hsz]; decide)) w') ?_
      refine met_free po12 d12 (wanted_guard gd12 po11 d11 (eval_same _ _ _ (by simp only [put_size, hsz]; decide))) (fun w' h' => run_move q12 ((eval_other _ 28 0 _ (by decide)).trans ((eval_other _ 27 0 _ (by decide)).trans ((eval_other _ 26 0 _ (by decide)).trans ((eval_other _ 25 0 _ (by decide)).trans ((eval_other _ 24 0 _ (by decide)).trans ((eval_other _ 23 0 _ (by decide)).trans ((eval_other _ 22 0 _ (by decide)).trans ((eval_other _ 21 0 _ (by decide)).trans ((eval_other _ 20 0 _ (by decide)).trans ((eval_other _ 19 0 _ (by decide)).trans ((eval_other _ 18 0 _ (by decide)).trans ((eval_other _ 17 0 _ (by decide)).trans base0)))))))))))) w') ?_
      refine met_free po13 d13 (wanted_guard gd13 po11 d11 ((eval_other _ 29 28 _ (by decide)).trans (eval_same _ _ _ (by simp only [put_size, hsz]; decide)))) (fun w' h' => run_move q13 ((eval_other _ 29 5 _ (by decide)).trans ((eval_other _ 28 5 _ (by decide)).trans ((eval_other _ 27 5 _ (by decide)).trans ((eval_other _ 26 5 _ (by decide)).trans ((eval_other _ 25 5 _ (by decide)).trans ((eval_other _ 24 5 _ (by decide)).trans ((eval_other _ 23 5 _ (by decide)).trans ((eval_other _ 22 5 _ (by decide)).trans ((eval_other _ 21 5 _ (by decide)).trans ((eval_other _ 20 5 _ (by decide)).trans ((eval_other _ 19 5 _ (by decide)).trans ((eval_other _ 18 5 _ (by decide)).trans ((eval_other _ 17 5 _ (by decide)).trans base5))))))))))))) w') ?_
      refine met_free po14 d14 (wanted_guard gd14 po11 d11 ((eval_other _ 30 28 _ (by decide)).trans ((eval_other _ 29 28 _ (by decide)).trans (eval_same _ _ _ (by simp only [put_size, hsz]; decide))))) (fun w' h' => run_ixFr q14 ((eval_other _ 30 29 _ (by decide)).trans (eval_same _ _ _ (by simp only [put_size, hsz]; decide))) (eval_same _ _ _ (by simp only [put_size, hsz]; decide)) hlt w') ?_
      refine met_free po15 d15 (wanted_guard gd15 po11 d11 ((eval_other _ 31 28 _ (by decide)).trans ((eval_other _ 30 28 _ (by decide)).trans ((eval_other _ 29 28 _ (by decide)).trans (eval_same _ _ _ (by simp only [put_size, hsz]; decide)))))) (fun w' h' => run_fieldFr q15 (by decide) (eval_same _ _ _ (by simp only [put_size, hsz]; decide)) w') ?_
      refine met_free po16 d16 (wanted_guard gd16 po11 d11 ((eval_other _ 32 28 _ (by decide)).trans ((eval_other _ 31 28 _ (by decide)).trans ((eval_other _ 30 28 _ (by decide)).trans ((eval_other _ 29 28 _ (by decide)).trans (eval_same _ _ _ (by simp only [put_size, hsz]; decide))))))) (fun w' h' => run_loadSlice q16 (eval_same _ _ _ (by simp only [put_size, hsz]; decide)) (HA2.out _ h')) ?_
      refine met_free po17 d17 (wanted_guard gd17 po11 d11 ((eval_other _ 33 28 _ (by decide)).trans ((eval_other _ 32 28 _ (by decide)).trans ((eval_other _ 31 28 _ (by decide)).trans ((eval_other _ 30 28 _ (by decide)).trans ((eval_other _ 29 28 _ (by decide)).trans (eval_same _ _ _ (by simp only [put_size, hsz]; decide)))))))) (fun w' h' => run_move q17 ((eval_other _ 33 1 _ (by decide)).trans ((eval_other _ 32 1 _ (by decide)).trans ((eval_other _ 31 1 _ (by decide)).trans ((eval_other _ 30 1 _ (by decide)).trans ((eval_other _ 29 1 _ (by decide)).trans ((eval_other _ 28 1 _ (by decide)).trans ((eval_other _ 27 1 _ (by decide)).trans ((eval_other _ 26 1 _ (by decide)).trans ((eval_other _ 25 1 _ (by decide)).trans ((eval_other _ 24 1 _ (by decide)).trans ((eval_other _ 23 1 _ (by decide)).trans ((eval_other _ 22 1 _ (by decide)).trans ((eval_other _ 21 1 _ (by decide)).trans ((eval_other _ 20 1 _ (by decide)).trans ((eval_other _ 19 1 _ (by decide)).trans ((eval_other _ 18 1 _ (by decide)).trans ((eval_other _ 17 1 _ (by decide)).trans base1))))))))))))))))) w') ?_
      refine met_free po18 d18 (wanted_guard gd18 po11 d11 ((eval_other _ 34 28 _ (by decide)).trans ((eval_other _ 33 28 _ (by decide)).trans ((eval_other _ 32 28 _ (by decide)).trans ((eval_other _ 31 28 _ (by decide)).trans ((eval_other _ 30 28 _ (by decide)).trans ((eval_other _ 29 28 _ (by decide)).trans (eval_same _ _ _ (by simp only [put_size, hsz]; decide))))))))) (fun w' h' => run_move q18 ((eval_other _ 34 5 _ (by decide)).trans ((eval_other _ 33 5 _ (by decide)).trans ((eval_other _ 32 5 _ (by decide)).trans ((eval_other _ 31 5 _ (by decide)).trans ((eval_other _ 30 5 _ (by decide)).trans ((eval_other _ 29 5 _ (by decide)).trans ((eval_other _ 28 5 _ (by decide)).trans ((eval_other _ 27 5 _ (by decide)).trans ((eval_other _ 26 5 _ (by decide)).trans ((eval_other _ 25 5 _ (by decide)).trans ((eval_other _ 24 5 _ (by decide)).trans ((eval_other _ 23 5 _ (by decide)).trans ((eval_other _ 22 5 _ (by decide)).trans ((eval_other _ 21 5 _ (by decide)).trans ((eval_other _ 20 5 _ (by decide)).trans ((eval_other _ 19 5 _ (by decide)).trans ((eval_other _ 18 5 _ (by decide)).trans ((eval_other _ 17 5 _ (by decide)).trans base5)))))))))))))))))) w') ?_
      refine met_free po19 d19 (wanted_guard gd19 po11 d11 ((eval_other _ 35 28 _ (by decide)).trans ((eval_other _ 34 28 _ (by decide)).trans ((eval_other _ 33 28 _ (by decide)).trans ((eval_other _ 32 28 _ (by decide)).trans ((eval_other _ 31 28 _ (by decide)).trans ((eval_other _ 30 28 _ (by decide)).trans ((eval_other _ 29 28 _ (by decide)).trans (eval_same _ _ _ (by simp only [put_size, hsz]; decide)))))))))) (fun w' h' => run_ixFr q19 ((eval_other _ 35 34 _ (by decide)).trans (eval_same _ _ _ (by simp only [put_size, hsz]; decide))) (eval_same _ _ _ (by simp only [put_size, hsz]; decide)) hlt w') ?_
      refine met_free po20 d20 (wanted_guard gd20 po11 d11 ((eval_other _ 36 28 _ (by decide)).trans ((eval_other _ 35 28 _ (by decide)).trans ((eval_other _ 34 28 _ (by decide)).trans ((eval_other _ 33 28 _ (by decide)).trans ((eval_other _ 32 28 _ (by decide)).trans ((eval_other _ 31 28 _ (by decide)).trans ((eval_other _ 30 28 _ (by decide)).trans ((eval_other _ 29 28 _ (by decide)).trans (eval_same _ _ _ (by simp only [put_size, hsz]; decide))))))))))) (fun w' h' => run_fieldFr q20 (by decide) (eval_same _ _ _ (by simp only [put_size, hsz]; decide)) w') ?_
      refine met_free po21 d21 (wanted_guard gd21 po11 d11 ((eval_other _ 37 28 _ (by decide)).trans ((eval_other _ 36 28 _ (by decide)).trans ((eval_other _ 35 28 _ (by decide)).trans ((eval_other _ 34 28 _ (by decide)).trans ((eval_other _ 33 28 _ (by decide)).trans ((eval_other _ 32 28 _ (by decide)).trans ((eval_other _ 31 28 _ (by decide)).trans ((eval_other _ 30 28 _ (by decide)).trans ((eval_other _ 29 28 _ (by decide)).trans (eval_same _ _ _ (by simp only [put_size, hsz]; decide)))))))))))) (fun w' h' => run_loadSlice q21 (eval_same _ _ _ (by simp only [put_size, hsz]; decide)) (HB2.out _ h')) ?_
      refine m_enter po22 d22 (wanted_guard gd22 po11 d11 ((eval_other _ 38 28 _ (by decide)).trans ((eval_other _ 37 28 _ (by decide)).trans ((eval_other _ 36 28 _ (by decide)).trans ((eval_other _ 35 28 _ (by decide)).trans ((eval_other _ 34 28 _ (by decide)).trans ((eval_other _ 33 28 _ (by decide)).trans ((eval_other _ 32 28 _ (by decide)).trans ((eval_other _ 31 28 _ (by decide)).trans ((eval_other _ 30 28 _ (by decide)).trans ((eval_other _ 29 28 _ (by decide)).trans (eval_same _ _ _ (by simp only [put_size, hsz]; decide))))))))))))) (run_callf2 q22 rfl ((eval_other _ 38 33 _ (by decide)).trans ((eval_other _ 37 33 _ (by decide)).trans ((eval_other _ 36 33 _ (by decide)).trans ((eval_other _ 35 33 _ (by decide)).trans ((eval_other _ 34 33 _ (by decide)).trans (eval_same _ _ _ (by simp only [put_size, hsz]; decide))))))) (eval_same _ _ _ (by simp only [put_size, hsz]; decide)) Tryd.func29 (by kernel_rfl) _) (same_big f.2 f.2.length qa qb sa sb _ rfl (by omega) (HLA.out.below HD.out) (HLB.out.below HD.out)) ?_
      rintro e w9 ⟨rfl, hb9⟩
      have HB9 : Hid (Below w.heap.size w w9) := show Below _ _ _ from HD.out.trans (hb9.mono HD.out.size)
      clear hb9
      refine ⟨_, rfl, HB9.out, ?_⟩
      refine met_free po23 d23 (wanted_of gd23) (fun w' h' => run_pick_true q23 ((eval_other _ 39 28 _ (by decide)).trans ((eval_other _ 38 28 _ (by decide)).trans ((eval_other _ 37 28 _ (by decide)).trans ((eval_other _ 36 28 _ (by decide)).trans ((eval_other _ 35 28 _ (by decide)).trans ((eval_other _ 34 28 _ (by decide)).trans ((eval_other _ 33 28 _ (by decide)).trans ((eval_other _ 32 28 _ (by decide)).trans ((eval_other _ 31 28 _ (by decide)).trans ((eval_other _ 30 28 _ (by decide)).trans ((eval_other _ 29 28 _ (by decide)).trans (eval_same _ _ _ (by simp only [put_size, hsz]; decide))))))))))))) (eval_same _ _ _ (by simp only [put_size, hsz]; decide)) w') ?_
      refine met_free po24 d24 (wanted_of gd24) (fun w' h' => r_not q24 (eval_same _ _ _ (by simp only [put_size, hsz]; decide)) w') ?_
      show NoPanic _ .normal _ _
      refine NoPanic.normal ?_
      rw [HAA.out]
      go_frame
      clear HAA
      clear po0 q0 d0 gd0 po1 q1 d1 gd1 po2 q2 d2 gd2 po3 q3 d3 gd3 po4 q4 d4 gd4 po5 q5 d5 gd5 po6 q6 d6 gd6 po7 q7 d7 gd7 po8 q8 d8 gd8 po9 q9 d9 gd9 po10 q10 d10 gd10 po11 q11 d11 gd11 po12 q12 d12 gd12 po13 q13 d13 gd13 po14 q14 d14 gd14 po15 q15 d15 gd15 po16 q16 d16 gd16 po17 q17 d17 gd17 po18 q18 d18 gd18 po19 q19 d19 gd19 po20 q20 d20 gd20 po21 q21 d21 gd21 po22 q22 d22 gd22 po23 q23 d23 gd23 po24 q24 d24 gd24
      clear base0 base1 base5 hsz
      go_wp2_with fail
      go_roundw
      case rel => exact ⟨k + 1, by omega, by go_num, HB9.out⟩
      case measure => simp [intOf]; omega
    · have q1 : ¬ (k : Int) < (N : Int) := by omega
      clear hb
      go_wp2_with fail
      go_ret
      exact ⟨rfl, HB.out⟩
end Go.Proofs.YteanjfcejpibaaaDoor

/-
  The statement's example: rows that are told when the disk is opened again.
-/
namespace Go.Proofs.YteanjfcejpibaaaDoor
open Go.RowKit Go.Proofs.ShaWords
section
variable {lo b g E : Nat} {d : DiskM} {dead : Bool} {w w' : World} {L : List (Nat × Obj)}
theorem WaL.one (h : WaL lo w b g d E dead L) (o : Obj) : WaL lo (w.alloc o) b g d E dead ((w.heap.size, o) :: L) :=
  h.more (L' := [(w.heap.size, o)]) ((Below.refl _ _).alloc (Nat.le_refl _) _) (fun x hx => by rw [List.mem_singleton.1 hx]; exact ⟨Nat.le_refl _, heap_new_at rfl⟩)
theorem lies_obj {w : World} {k : Nat} {l : List (BitVec 8)} {cs : Array Value} {t : TypeId} {fr : Nat × Nat} (h : w.heap[k]? = some (.cells cs t fr)) (hc : cs = (bytesV l).toArray) : Lies w (some ⟨k, 0, none⟩) l := by
  subst hc
  exact Or.inr ⟨k, 0, rfl, range_bytesV h⟩
/-- A new disk. -/
theorem dkNewL (room : Int) (w : World) : Calls Tryd.prog 7 #[.int .i64 room] w fun e w' => ∃ g, e = .returned (.pointer (some ⟨g, 0, none⟩)) ∧ DkL w.heap.size w' g (DiskM.new room) [] ∧ Below w.heap.size w w' :=
  (dkNewI w.heap.size room w (Nat.le_refl _)).mono fun _ _ ⟨g, h1, h2, h3⟩ => ⟨g, h1, DkL.of h2, h3⟩
theorem new_count (room : Int) : (DiskM.new room).count = 0 := rfl
theorem new_small (room : Int) (s : Nat) : ((DiskM.new room).files s).all.length < 100000 := by show ([] : List (BitVec 8)).length < _; decide
end
set_option maxRecDepth 100000 in
set_option maxHeartbeats 2000000 in
theorem known10_any (w : World) (hR : Rem w) : Calls Tryd.prog 9 #[] w fun e w' => e = .returned (.bool true) ∧ Below w.heap.size w w' := by
  have HR := Lib.hid hR
  have HG := Lib.hid hR.size
  have kc := fun (w : World) (C : Array Value) (n c : Nat) => Lib.run_convert_bytes_const (P := Tryd.prog) w 41 5 C n c Tryd.underlying41 Tryd.underlying5
  clear hR
  go_enter Tryd.func9, Tryd.ntmps9
  go_wp2_with fail
  refine (dkNewL 4096 w).mono ?_
  rintro e w1 ⟨g, rfl, hi, hb⟩
  have HI1 := Lib.hid hi; have HB1 := Lib.hid hb; clear hi hb
  go_wp2_with fail
  refine (HI1.out.open HB1.out.size (HR.out.on HB1.out) (calm_new _) (by rw [new_count]; decide) (fun _ => []) [] (new_log 4096) (fun s _ _ => new_small _ s)).mono ?_
  rintro e w2 ⟨b, hv, vs, d0, L', rfl, hi, hb, hfr, -, hF, hcalm, hroom, hcnt⟩
  obtain ⟨q0, c0, rfl, -⟩ := hfr.sl9 (n := 0) rfl
  have HI2 := Lib.hid (hi.fewer (L' := []) (fun x hx => absurd hx List.not_mem_nil)); have HB2 := Lib.hid (HB1.out.trans hb)
  obtain ⟨d1, d2, d3, e1, e2, e3, hend⟩ := known10_pure hF hcalm hroom
  have HE1 := Lib.hid e1; have HE2 := Lib.hid e2; have HE3 := Lib.hid e3; have HEND := Lib.hid hend
  have HN := Lib.hid (And.intro hcnt trivial)
  clear hi hb hfr hF hcalm hroom hcnt e1 e2 e3 hend HI1 HB1
  go_wp2_with fail
  refine HI2.out.seg.mono ?_
  rintro e w2' ⟨rfl, rfl⟩
  go_wp2_with fail
  have hi := HI2.out.one (.cells #[.int .u8 97, .int .u8 98] 5 (2, 3))
  have hb : Below w2.heap.size w2 (w2.alloc (.cells #[.int .u8 97, .int .u8 98] 5 (2, 3))) := (Below.refl _ _).alloc (Nat.le_refl _) _
  generalize w2.alloc (.cells #[.int .u8 97, .int .u8 98] 5 (2, 3)) = w3 at hi hb ⊢
  have HI3 := Lib.hid hi; have HB3 := Lib.hid (HB2.out.trans (hb.mono HB2.out.size)); clear hi hb HI2 HB2
  have hcall := HI3.out.append HB3.out.size HG.out (HR.out.on HB3.out) (by have := HN.out.1; rw [new_count] at this; omega) 1 [97#8, 98#8] 2 2 (some ⟨w2.heap.size, 0, none⟩) rfl (by decide) (fun w' h _ => lies_obj (h _ List.mem_cons_self) rfl)
  rw [show ((kb 1, [97#8, 98#8]) : RowW) = kAB from rfl, HE1.out] at hcall
  have HCALL := Lib.hid hcall; clear hcall
  refine HCALL.out.mono ?_
  rintro e w4 ⟨rfl, hi, hb⟩
  have HC1 := Lib.hid (appendW_count d0 0 false 1 kAB)
  have HI4 : Hid (WaL w.heap.size w4 b g d1 1 false []) := WaL.fewer hi (fun x hx => absurd hx List.not_mem_nil); have HB4 := Lib.hid (HB3.out.trans hb)
  have HN1 : Hid (d1.count ≤ 36 ∧ True) := show _ ∧ _ from ⟨by have h1 := HC1.out; rw [HE1.out] at h1; have h1 : d1.count ≤ d0.count + 3 := h1; have := HN.out.1; rw [new_count] at this; omega, trivial⟩
  clear hi hb HI3 HB3 HCALL HC1
  go_wp2_with fail
  have hcall := HI4.out.sync HB4.out.size (by have := HN1.out.1; omega)
  rw [HE2.out] at hcall
  have HCALL := Lib.hid hcall; clear hcall
  refine HCALL.out.mono ?_
  rintro e w5 ⟨rfl, hi, hb⟩
  have HI5 : Hid (WaL w.heap.size w5 b g d2 1 false []) := show WaL _ _ _ _ _ _ _ _ from hi; have HB5 := Lib.hid (HB4.out.trans hb)
  have HN2 : Hid (d2.count ≤ 37 ∧ True) := show _ ∧ _ from ⟨by have h1 := syncW_count d1 1 false; rw [HE2.out] at h1; have h1 : d2.count ≤ d1.count + 1 := h1; have := HN1.out.1; omega, trivial⟩
  clear hi hb HI4 HB4 HCALL
  go_wp2_with fail
  have hi := HI5.out.one (.cells #[.int .u8 99] 5 (1, 2))
  have hb : Below w5.heap.size w5 (w5.alloc (.cells #[.int .u8 99] 5 (1, 2))) := (Below.refl _ _).alloc (Nat.le_refl _) _
  generalize w5.alloc (.cells #[.int .u8 99] 5 (1, 2)) = w6 at hi hb ⊢
  have HI6 := Lib.hid hi; have HB6 := Lib.hid (HB5.out.trans (hb.mono HB5.out.size)); clear hi hb HB5
  have hcall := HI6.out.append HB6.out.size HG.out (HR.out.on HB6.out) (by have := HN2.out.1; omega) 2 [99#8] 1 1 (some ⟨w5.heap.size, 0, none⟩) rfl (by decide) (fun w' h _ => lies_obj (h _ List.mem_cons_self) rfl)
  rw [show ((kb 2, [99#8]) : RowW) = kC from rfl, HE3.out] at hcall
  have HCALL := Lib.hid hcall; clear hcall HI5
  refine HCALL.out.mono ?_
  rintro e w7 ⟨rfl, hi, hb⟩
  have HI7 : Hid (WaL w.heap.size w7 b g d3 1 false []) := WaL.fewer hi (fun x hx => absurd hx List.not_mem_nil); have HB7 := Lib.hid (HB6.out.trans hb)
  have HN3 : Hid (d3.count ≤ 40 ∧ True) := show _ ∧ _ from ⟨by have h1 := appendW_count d2 1 false 2 kC; rw [HE3.out] at h1; have h1 : d3.count ≤ d2.count + 3 := h1; have := HN2.out.1; omega, trivial⟩
  clear hi hb HI6 HB6 HCALL
  go_wp2_with fail
  refine HI7.out.seg.mono ?_
  rintro e w7' ⟨rfl, rfl⟩
  go_wp2_with (go_at_call 11; fail)
  obtain ⟨S7, s1, s2, s3⟩ := HI7.out.dk
  refine (dkCrash_any S7 g d3 [] 0 0 none w7 s1 rfl (Nat.le_refl _) (Or.inl rfl)).mono ?_
  rintro e w8 ⟨rfl, hgo⟩
  obtain ⟨hi, hb⟩ := DkGo.intoL (L := []) hgo s2 HB7.out.size (fun x hx => absurd hx List.not_mem_nil)
  have HI8 := Lib.hid hi; have HB8 := Lib.hid (HB7.out.trans hb)
  obtain ⟨segs, f1, f2, f3⟩ := HEND.out HI7.out.ok
  have HF1 := Lib.hid f1; have HF2 := Lib.hid f2; have HF3 := Lib.hid f3
  clear s1 s2 s3 hgo hi hb f1 f2 f3 HI7 HB7
  go_wp2_with (go_at_call 8; fail)
  refine (HI8.out.open HB8.out.size (HR.out.on HB8.out) (calm_crash _ _) (show d3.count < _ by have := HN3.out.1; omega) segs [] HF1.out HF3.out).mono ?_
  rintro e w9 ⟨b2, hv, vs, d4, L', rfl, hi, hb, hfr, -, -, -, -, -⟩
  rw [HF2.out] at hfr
  obtain ⟨q9, c9, rfl, -⟩ := hfr.sl9 (n := 1) rfl
  have HI9 := Lib.hid hi; have HB9 := Lib.hid (HB8.out.trans hb); have HM9 := Lib.hid hfr.toM
  clear hi hb hfr HI8 HB8
  go_wp2_with fail
  refine HI9.out.seg.mono ?_
  rintro e w9' ⟨rfl, rfl⟩
  go_wp2_with fail
  have hA : (w9.alloc (.cells #[.int .u8 97, .int .u8 98] 5 (2, 3))).heap[w9.heap.size]? = some (.cells #[.int .u8 97, .int .u8 98] 5 (2, 3)) := heap_new_at rfl
  have hbA : Below w9.heap.size w9 (w9.alloc (.cells #[.int .u8 97, .int .u8 98] 5 (2, 3))) := (Below.refl _ _).alloc (Nat.le_refl _) _
  have hsA : (w9.alloc (.cells #[.int .u8 97, .int .u8 98] 5 (2, 3))).heap.size = w9.heap.size + 1 := size_alloc _ _
  generalize w9.alloc (.cells #[.int .u8 97, .int .u8 98] 5 (2, 3)) = wA at hA hbA hsA ⊢
  have hB : (wA.alloc (.cells #[.int .i64 1, .slice (some ⟨w9.heap.size, 0, none⟩) 2 2] 46)).heap[w9.heap.size + 1]? = some (.cells #[.int .i64 1, .slice (some ⟨w9.heap.size, 0, none⟩) 2 2] 46 (0, 0)) := heap_new_at hsA
  have hbB : Below wA.heap.size wA (wA.alloc (.cells #[.int .i64 1, .slice (some ⟨w9.heap.size, 0, none⟩) 2 2] 46)) := (Below.refl _ _).alloc (Nat.le_refl _) _
  generalize wA.alloc (.cells #[.int .i64 1, .slice (some ⟨w9.heap.size, 0, none⟩) 2 2] 46) = wB at hB hbB ⊢
  have hbAB : Below w9.heap.size w9 wB := hbA.trans (hbB.mono hbA.size)
  have hm2 : FrM wB (.slice (some ⟨w9.heap.size + 1, 0, none⟩) 1 1) [kAB] := FrM.one hB rfl (by decide) rfl ((lies_obj hA rfl).below hbB)
  have HBF := Lib.hid (HB9.out.trans (hbAB.mono HB9.out.size))
  refine (sameFramesM_any [kAB] _ _ wB (by decide) (by decide) (HM9.out.below hbAB) hm2).mono ?_
  rintro e w10 ⟨rfl, hb⟩
  have HBE := Lib.hid (HBF.out.trans (hb.mono HBF.out.size))
  clear hA hbA hsA hB hbB hbAB hm2 hb
  go_wp2_with fail
  go_ret
  exact ⟨rfl, HBE.out⟩
end Go.Proofs.YteanjfcejpibaaaDoor

/- The kit's Row: so many bytes, 7, 8, 9 and so on, modulo 251. -/
namespace Go.Proofs.YteanjfcejpibaaaDoor
open Go.RowKit Go.Proofs.ShaWords
def rowAt (i : Nat) : BitVec 8 := BitVec.ofNat 8 ((7 + i) % 251)
def kitRow (n : Nat) : List (BitVec 8) := (List.range n).map rowAt
theorem kitRow_succ (n : Nat) : kitRow (n + 1) = kitRow n ++ [rowAt n] := by simp [kitRow, List.range_succ]
theorem kitRow_length (n : Nat) : (kitRow n).length = n := by simp [kitRow]
theorem rowAt_eq (i : Nat) : IntKind.u8.wrap ((7 + (i : Int)) % 251) = n8 (rowAt i) := by
  unfold n8 rowAt; rw [IntKind.wrap_u8', BitVec.toNat_ofNat]; omega
attribute [local irreducible] rowAt kitRow
set_option maxHeartbeats 400000 in
theorem kitRow_any (n : Nat) (w : World) (hn : n ≤ 100000) :
    Calls Tryd.prog 38 #[.int .i64 (n : Int)] w fun e w' => ∃ v, e = .returned v ∧ Own w.heap.size w' (kitRow n) v ∧ Below w.heap.size w w' := by
  have HZ : Hid (kitRow 0 = []) := show _ = _ by unfold kitRow; rfl
  go_enter Tryd.func38, Tryd.ntmps38
  go_wp2_with fail
  go_loopw [3, 4] (fun v i wr => ∃ k : Nat, k ≤ n ∧ i = .int .i64 k ∧ Own w.heap.size wr (kitRow k) v ∧ Below w.heap.size w wr) (fun _ i _ => n - (intOf i).toNat)
  case atStart => exact ⟨0, Nat.zero_le _, rfl, by rw [HZ.out]; exact Own.nil _ _, Below.refl _ _⟩
  case round =>
    obtain ⟨k, hk, rfl, ho, hb⟩ := hrel
    have sz := hb.size
    by_cases hlt : k < n
    · have HTK := Lib.hid (kitRow_succ k)
      have HK1 : Hid ((kitRow k).length < 1099511627776) := show _ < _ by rw [kitRow_length]; omega
      have hre := rowAt_eq k
      have HO := Lib.hid ho; clear ho
      have HB := Lib.hid hb; clear hb
      go_wp2_with (at_builtin; refine wpList_append_byte rfl (.tmp 10) (.tmp 15) rfl w.heap.size _ (kitRow k) (rowAt k) rfl HO.out rfl HK1.out (by omega) ?_; intro v' w' ho' hb'; rw [← HTK.out] at ho'; have HO' := Lib.hid ho'; have HB' := Lib.hid (HB.out.trans hb'); clear ho' hb')
      go_roundw
      case rel => exact ⟨k + 1, by omega, by go_num, HO'.out, HB'.out⟩
      case measure => simp [intOf]; omega
    · have HK : Hid (k = n) := show k = n by omega
      have HO := Lib.hid ho; clear ho
      have HB := Lib.hid hb; clear hb
      go_wp2_with fail
      go_ret
      refine ⟨_, rfl, ?_, HB.out⟩
      have h1 := HO.out
      rw [HK.out] at h1
      exact h1
end Go.Proofs.YteanjfcejpibaaaDoor

/-
  The statements' rows: the frame that a row is.
-/
namespace Go.Proofs.YteanjfcejpibaaaDoor
open Go.RowKit Go.Proofs.ShaWords
/-- The bytes of a row, and the frame. -/
def rowBs (sz : Int) (i : Nat) : List (BitVec 8) := if pickZ sz 900 = 0 then [] else (kitRow (pickZ sz 900)).set 0 (kb (i : Int))
def rowF (kd sz : Int) (i : Nat) : Fr9 := (kb (1 + (pickZ kd 254 : Int)), rowBs sz i)
theorem rowBs_length (sz : Int) (i : Nat) : (rowBs sz i).length = pickZ sz 900 := by
  unfold rowBs
  split
  · rename_i h; rw [h]; rfl
  · rw [List.length_set, kitRow_length]
theorem rowF_kind (kd : Int) : 1 ≤ 1 + (pickZ kd 254 : Int) ∧ 1 + (pickZ kd 254 : Int) ≤ 254 := by
  have := pickZ_lt kd 254 (by decide)
  omega
theorem rowF_ok (kd sz : Int) (i : Nat) : (rowF kd sz i).1 ≠ 0#8 ∧ (rowF kd sz i).2.length ≤ 900 := by
  have h1 := rowF_kind kd
  have h2 := pickZ_lt sz 900 (by decide)
  refine ⟨kb_ne h1.1 (by omega), ?_⟩
  show (rowBs sz i).length ≤ 900
  rw [rowBs_length]; omega
theorem rowF_n8 (kd sz : Int) (i : Nat) : n8 (rowF kd sz i).1 = 1 + (pickZ kd 254 : Int) := by
  have h1 := rowF_kind kd
  exact n8_kb (by omega) (by omega)
theorem wrap8_nat (i : Nat) : IntKind.u8.wrap (i : Int) = n8 (kb (i : Int)) := wrap8_kb _
theorem below_setT {B : Nat} {w w3 : World} {T : Nat} (h : Below B w w3) (hB : B ≤ w.heap.size) (hT : B ≤ T) (x y : Value) : Below B w ((w3.setCell ⟨T, 0, none⟩ x).setCell ⟨T, 1, none⟩ y) :=
  (h.grown (grown_setCell w3 T 0 x) (Nat.le_trans hB h.size) (fun k e => by cases e; exact hT)).grown (grown_setCell _ T 1 y) (by have := h.size; simpa [World.setCell] using (Nat.le_trans hB this)) (fun k e => by cases e; exact hT)
theorem Own.blockOf {B n c : Nat} {w : World} {l : List (BitVec 8)} {q : Option Addr} (h : Own B w l (.slice q n c)) (hl : l.length = n) (hn : n ≠ 0) : ∃ g, q = some ⟨g, 0, none⟩ ∧ B ≤ g ∧ g < w.heap.size ∧ w.frozen? ⟨g, 0, none⟩ = false ∧ ∃ v, w.cell? ⟨g, 0, none⟩ = some v := by
  rcases h.2 with ⟨h0, h1⟩ | ⟨g, cap, cur, he, hg, hh, hc, hm, hs, ht⟩
  · omega
  · cases he
    refine ⟨g, rfl, hg, (Array.getElem?_eq_some_iff.1 hh).1, frozen_of_row _ _ _ _ _ hh, cur[0]'(by omega), ?_⟩
    rw [cell_of_row w g 0 _ _ _ hh]
    exact Array.getElem?_eq_getElem _
attribute [local irreducible] rowBs
set_option maxRecDepth 100000 in
set_option maxHeartbeats 2000000 in
theorem rowFrame_any (kd sz : Int) (sy : Bool) (i : Nat) (w : World) (_hi : i < 1000) :
    Calls Tryd.prog 17 #[.agg #[.int .i64 kd, .int .i64 sz, .bool sy], .int .i64 (i : Int)] w fun e w' => Below w.heap.size w w' ∧ ∃ v, e = .returned (.agg #[.int .i64 (1 + (pickZ kd 254 : Int)), v]) ∧ Own w.heap.size w' (rowBs sz i) v := by
  have hk := rowF_kind kd
  obtain ⟨pk, hpk⟩ : ∃ pk, pk = pickZ kd 254 := ⟨_, rfl⟩
  obtain ⟨ps, hps⟩ : ∃ ps, ps = pickZ sz 900 := ⟨_, rfl⟩
  have HKD := fun w => Lib.hid (pickZ_any kd 254 w (by decide) (by decide))
  have HSZ := fun w => Lib.hid (pickZ_any sz 900 w (by decide) (by decide))
  rw [← hpk] at HKD hk ⊢
  rw [← hps] at HSZ
  have hps9 : ps < 900 := by rw [hps]; have := pickZ_lt sz 900 (by decide); omega
  have HRB0 : Hid (ps = 0 → rowBs sz i = []) := show _ → _ from fun h => by unfold rowBs; rw [← hps, if_pos h]
  have HRB1 : Hid (ps ≠ 0 → rowBs sz i = (kitRow ps).set 0 (kb (i : Int))) := show _ → _ from fun h => by unfold rowBs; rw [← hps, if_neg h]
  have HW8 := Lib.hid (wrap8_nat i)
  have hk2 : (pk : Int) < 254 := by omega
  clear hpk hps hk
  go_enter Tryd.func17, Tryd.ntmps17
  go_upto_region 1 with (fail)
  refine wp_gen (fun A => Below w.heap.size w A ∧ A.heap[w.heap.size]? = some (.cells #[.int .i64 kd, .int .i64 sz, .bool sy] 49 (0, 0)) ∧ FrC A (w.heap.size + 1) (.int .i64 0) (.slice none 0 0) ∧ A.heap.size = w.heap.size + 2) ⟨((Below.refl _ _).alloc (Nat.le_refl _) _).alloc (by rw [size_alloc]; omega) _, ?_, heap_new_at (size_alloc _ _), by rw [size_alloc, size_alloc]⟩ ?_
  · rw [Below.heap_alloc _ _ _ (by rw [size_alloc]; omega)]; exact heap_new_at rfl
  rintro A ⟨bA, hA, fA, sA⟩
  have HBA := Lib.hid bA
  have c0 : A.cell? ⟨w.heap.size, 0, none⟩ = some (.int .i64 kd) := by rw [cell_of_row A _ 0 _ _ _ hA]; rfl
  have c1 : A.cell? ⟨w.heap.size, 1, none⟩ = some (.int .i64 sz) := by rw [cell_of_row A _ 1 _ _ _ hA]; rfl
  have HA := Lib.hid hA
  have HFA := Lib.hid fA
  have HSA := Lib.hid sA
  clear bA hA fA sA
  go_wp2_with (first | (go_at_call 15; refine (HSZ A).out.mono ?_; rintro e w1 ⟨rfl, rfl⟩))
  refine (kitRow_any ps w1 (by omega)).mono ?_
  rintro e w2 ⟨v, rfl, ho, b2⟩
  obtain ⟨q2, cp2, rfl, hcp, -, -⟩ := ho.slN (kitRow_length ps)
  have c0' := (b2.cell (p := ⟨w.heap.size, 0, none⟩) (by show w.heap.size < _; have := HSA.out; omega)).trans c0
  have HB2 := Lib.hid b2
  have hsz2 : w.heap.size + 2 ≤ w2.heap.size := by have := b2.size; have := HSA.out; omega
  have HF2 := Lib.hid (HFA.out.on b2)
  have HBW := Lib.hid (HBA.out.trans (b2.mono HBA.out.size))
  have HO2 := Lib.hid ho
  clear c0 c1 b2 ho
  by_cases h0 : ps = 0
  · subst h0
    have hrb := HRB0.out rfl
    have HOE : Hid (Own w1.heap.size w2 (rowBs sz i) (.slice q2 0 cp2)) := show Own _ _ _ _ by
      rw [hrb]
      exact (show kitRow 0 = [] from by unfold kitRow; rfl) ▸ HO2.out
    clear hrb
    obtain ⟨f0, f1, fz⟩ := HF2.out.cells
    have z0 := fz 0
    have z1 := fz 1
    clear fz
    go_wp2_with (first | (go_at_call 15; refine (HKD w2).out.mono ?_; rintro e w3 ⟨rfl, rfl⟩))
    refine bodyPost_ret (v := .agg #[.int .i64 (1 + (pk : Int)), .slice q2 0 cp2]) (results_row9 Tryd.results17 rfl (HF2.out.set2 _ _)) rfl ?_
    exact ⟨below_setT HBW.out (Nat.le_refl _) (Nat.le_succ _) _ _, _, rfl, (HOE.out.set2 _ _ _ (by have := HSA.out; omega)).lowerF (by have := HSA.out; omega)⟩
  · obtain ⟨gb, rfl, hgb, hgl, hfz, v0, hv0⟩ := HO2.out.blockOf (kitRow_length ps) h0
    have q0 : (0 : Int) < (ps : Int) := by omega
    have ho3 := HO2.out.put 0 (kb (i : Int))
    rw [← HRB1.out h0] at ho3
    have hsa := HSA.out
    have hg3 : w2.grownBy (w2.setCell ⟨gb, 0, none⟩ (.int .u8 (n8 (kb (i : Int))))) (some gb) := grown_setCell w2 gb 0 _
    have HB3 : Hid (Below w.heap.size w (w2.setCell ⟨gb, 0, none⟩ (.int .u8 (n8 (kb (i : Int)))))) := show Below _ _ _ from HBW.out.grown hg3 (by omega) (fun k e => by cases e; omega)
    have HF3 : Hid (FrC (w2.setCell ⟨gb, 0, none⟩ (.int .u8 (n8 (kb (i : Int))))) (w.heap.size + 1) (.int .i64 0) (.slice none 0 0)) := show FrC _ _ _ _ from (hg3.block (w.heap.size + 1) HF2.out.lt (fun e => by cases e; omega)).trans HF2.out
    have hcc : (w2.setCell ⟨gb, 0, none⟩ (.int .u8 (n8 (kb (i : Int))))).cell? ⟨w.heap.size, 0, none⟩ = some (.int .i64 kd) := (World.cell?_of_block (a := ⟨w.heap.size, 0, none⟩) (hg3.block w.heap.size (by omega) (fun e => by cases e; omega))).trans c0'
    have HO3 := Lib.hid ho3
    have HSZ3 := Lib.hid (And.intro hsa trivial)
    clear ho3 hg3 HO2 hgb c0'
    have hw8 := HW8.out
    clear h0 hsa hgl
    go_upto_region 4 with (fail)
    clear hw8 hv0 hfz
    generalize w2.setCell ⟨gb, 0, none⟩ (.int .u8 (n8 (kb (i : Int)))) = wz at HB3 HF3 hcc HO3 ⊢
    obtain ⟨f0, f1, fz⟩ := HF3.out.cells
    have z0 := fz 0
    have z1 := fz 1
    clear fz
    go_wp2_with (first | (go_at_call 15; refine (HKD wz).out.mono ?_; rintro e w3 ⟨rfl, rfl⟩))
    refine bodyPost_ret (v := .agg #[.int .i64 (1 + (pk : Int)), .slice (some ⟨gb, 0, none⟩) ps cp2]) (results_row9 Tryd.results17 rfl (HF3.out.set2 _ _)) rfl ?_
    exact ⟨below_setT HB3.out (Nat.le_refl _) (Nat.le_succ _) _ _, _, rfl, (HO3.out.set2 _ _ _ (by have := HSZ3.out.1; omega)).lowerF (by have := HSZ3.out.1; omega)⟩
end Go.Proofs.YteanjfcejpibaaaDoor

/-
  What comes in at layer 10, opened: rows, lives, files.
-/
namespace Go.Proofs.YteanjfcejpibaaaDoor
open Go.ChangeShapes Go.WideShapes Go.ChangeAt Go.RowKit Go.Proofs.ShaWords Go.Deep
structure InRow where
  kd : Int
  sz : Int
  sy : Bool
instance : Inhabited InRow := ⟨⟨0, 0, false⟩⟩
def InRow.cells (x : InRow) : List Value := [.int .i64 x.kd, .int .i64 x.sz, .bool x.sy]
set_option maxRecDepth 100000 in
theorem open_inrow {H : Type} {enc : TypeId × Value → H} {W : World} (fuel : Nat) (cs : List Value) (x : DataW H × List MemPlace) (h : DataW.trod enc Tryd.prog W 0 (fun _ => true) true fuel 49 cs = some x) :
    ∃ t : InRow, cs = t.cells ∧ True := by
  obtain ⟨xs, n, _, rfl, hl, hlen, hf⟩ := DataW.trod_struct Tryd.underlying49 h
  have c4 : Tryd.prog.cellsOf 49 = 3 := by kernel_rfl
  have ci : Tryd.prog.cellsOf 3 = 1 := by kernel_rfl
  have cb : Tryd.prog.cellsOf 4 = 1 := by kernel_rfl
  rw [c4] at hl
  obtain ⟨y0, y1, y2, rfl⟩ : ∃ y0 y1 y2, xs = [y0, y1, y2] := by
    match xs, hlen with
    | [a, b, c], _ => exact ⟨a, b, c, rfl⟩
  match cs, hl with
  | [v0, v1, v2], _ =>
    have h0 : DataW.trod enc Tryd.prog W 0 (fun _ => true) true n 3 (([v0, v1, v2].drop 0).take (Tryd.prog.cellsOf 3)) = some y0 := hf 0 _ rfl
    have h1 : DataW.trod enc Tryd.prog W 0 (fun _ => true) true n 3 (([v0, v1, v2].drop 1).take (Tryd.prog.cellsOf 3)) = some y1 := hf 1 _ rfl
    have h2 : DataW.trod enc Tryd.prog W 0 (fun _ => true) true n 4 (([v0, v1, v2].drop 2).take (Tryd.prog.cellsOf 4)) = some y2 := hf 2 _ rfl
    rw [ci] at h0 h1
    rw [cb] at h2
    obtain ⟨z0, e0, -, -⟩ := DataW.trod_int Tryd.underlying3 h0
    obtain ⟨z1, e1, -, -⟩ := DataW.trod_int Tryd.underlying3 h1
    obtain ⟨z2, e2, -⟩ := DataW.trod_bool Tryd.underlying4 h2
    simp at e0 e1 e2
    subst e0 e1 e2
    exact ⟨⟨z0, z1, z2⟩, rfl, trivial⟩
theorem open_inrows {H : Type} {enc : TypeId × Value → H} {W : World} {fuel : Nat} {a : Option Addr} {len cap : Nat} {x : DataW H × List MemPlace} (h : DataW.trod enc Tryd.prog W 0 (fun _ => true) true fuel 30 (Value.cells (.slice a len cap)).toList = some x) :
    ∃ os : List InRow, os.length = len ∧ len ≤ cap ∧ RowOf 3 InRow.cells W a os := by
  obtain ⟨os, h1, h2, h3, -⟩ := open_structs InRow.cells (fun _ => True) Tryd.underlying30 (N := 3) (by kernel_rfl) (by decide) (fun _ _ => rfl) open_inrow h
  exact ⟨os, h1, h2, h3⟩
set_option maxRecDepth 100000 in
theorem open_inrowsF {H : Type} {enc : TypeId × Value → H} {W : World} {fuel : Nat} {cs : List Value} {x : DataW H × List MemPlace} (h : DataW.trod enc Tryd.prog W 0 (fun _ => true) true fuel 30 cs = some x) :
    ∃ (a : Option Addr) (cap : Nat) (os : List InRow), cs = [.slice a os.length cap] ∧ RowOf 3 InRow.cells W a os := by
  obtain ⟨a, len, cap, rfl⟩ : ∃ a len cap, cs = [.slice a len cap] := by
    rcases open_slice Tryd.underlying30 h with ⟨hcs, _⟩ | ⟨y, l, c, m, n, D, Pl, hcs, _⟩
    · exact ⟨_, _, _, hcs⟩
    · exact ⟨_, _, _, hcs⟩
  obtain ⟨os, h1, -, h2⟩ := open_inrows (a := a) (len := len) (cap := cap) h
  exact ⟨a, cap, os, by rw [h1], h2⟩
/-- A life that came in. -/
structure InLife where
  p : Option Addr
  c : Nat
  rows : List InRow
  cut : Int
  q : Option Addr
  k : Nat
  keep : List Int
instance : Inhabited InLife := ⟨⟨none, 0, [], 0, none, 0, []⟩⟩
def InLife.cells (x : InLife) : List Value := [.slice x.p x.rows.length x.c, .int .i64 x.cut, .slice x.q x.keep.length x.k]
structure InLife.Ok (W : World) (x : InLife) : Prop where
  rows : RowOf 3 InRow.cells W x.p x.rows
  keep : LiesZ W x.q x.keep
  cap : x.keep.length ≤ x.k
set_option maxRecDepth 100000 in
theorem open_inlife {H : Type} {enc : TypeId × Value → H} {W : World} (fuel : Nat) (cs : List Value) (x : DataW H × List MemPlace) (h : DataW.trod enc Tryd.prog W 0 (fun _ => true) true fuel 33 cs = some x) :
    ∃ t : InLife, cs = t.cells ∧ t.Ok W := by
  obtain ⟨xs, n, _, rfl, hl, hlen, hf⟩ := DataW.trod_struct Tryd.underlying33 h
  have c4 : Tryd.prog.cellsOf 33 = 3 := by kernel_rfl
  have ci : Tryd.prog.cellsOf 3 = 1 := by kernel_rfl
  have cr : Tryd.prog.cellsOf 30 = 1 := by kernel_rfl
  have ck : Tryd.prog.cellsOf 31 = 1 := by kernel_rfl
  rw [c4] at hl
  obtain ⟨y0, y1, y2, rfl⟩ : ∃ y0 y1 y2, xs = [y0, y1, y2] := by
    match xs, hlen with
    | [a, b, c], _ => exact ⟨a, b, c, rfl⟩
  match cs, hl with
  | [v0, v1, v2], _ =>
    have h0 : DataW.trod enc Tryd.prog W 0 (fun _ => true) true n 30 (([v0, v1, v2].drop 0).take (Tryd.prog.cellsOf 30)) = some y0 := hf 0 _ rfl
    have h1 : DataW.trod enc Tryd.prog W 0 (fun _ => true) true n 3 (([v0, v1, v2].drop 1).take (Tryd.prog.cellsOf 3)) = some y1 := hf 1 _ rfl
    have h2 : DataW.trod enc Tryd.prog W 0 (fun _ => true) true n 31 (([v0, v1, v2].drop 2).take (Tryd.prog.cellsOf 31)) = some y2 := hf 2 _ rfl
    rw [cr] at h0
    rw [ci] at h1
    rw [ck] at h2
    obtain ⟨a0, k0, r0, e0, l0⟩ := open_inrowsF h0
    obtain ⟨z1, e1, -, -⟩ := DataW.trod_int Tryd.underlying3 h1
    obtain ⟨a2, k2, z2, e2, g2, l2, -⟩ := open_intsF h2
    simp at e0 e1 e2
    subst e0 e1 e2
    exact ⟨⟨a0, k0, r0, z1, a2, k2, z2⟩, rfl, ⟨l0, l2, g2⟩⟩
theorem open_inlives {H : Type} {enc : TypeId × Value → H} {W : World} {fuel : Nat} {a : Option Addr} {len cap : Nat} {x : DataW H × List MemPlace} (h : DataW.trod enc Tryd.prog W 0 (fun _ => true) true fuel 22 (Value.cells (.slice a len cap)).toList = some x) :
    ∃ os : List InLife, os.length = len ∧ len ≤ cap ∧ RowOf 3 InLife.cells W a os ∧ ∀ o ∈ os, o.Ok W :=
  open_structs InLife.cells (InLife.Ok W) Tryd.underlying22 (by kernel_rfl) (by decide) (fun _ _ => rfl) open_inlife h
/-- Bytes that came in, among others. -/
structure InB where
  p : Option Addr
  c : Nat
  b : List (BitVec 8)
instance : Inhabited InB := ⟨⟨none, 0, []⟩⟩
def InB.cells (x : InB) : List Value := [.slice x.p x.b.length x.c]
structure InB.Ok (W : World) (x : InB) : Prop where
  cap : x.b.length ≤ x.c
  lies : Lies W x.p x.b
theorem open_inb {H : Type} {enc : TypeId × Value → H} {W : World} (fuel : Nat) (cs : List Value) (x : DataW H × List MemPlace) (h : DataW.trod enc Tryd.prog W 0 (fun _ => true) true fuel 41 cs = some x) :
    ∃ t : InB, cs = t.cells ∧ t.Ok W := by
  obtain ⟨a, k, b, e, h1, h2⟩ := open_bytesF h
  exact ⟨⟨a, k, b⟩, e, ⟨h1, h2⟩⟩
theorem open_files_in {H : Type} {enc : TypeId × Value → H} {W : World} {fuel : Nat} {a : Option Addr} {len cap : Nat} {x : DataW H × List MemPlace} (h : DataW.trod enc Tryd.prog W 0 (fun _ => true) true fuel 40 (Value.cells (.slice a len cap)).toList = some x) :
    ∃ os : List InB, os.length = len ∧ len ≤ cap ∧ RowOf 1 InB.cells W a os ∧ ∀ o ∈ os, o.Ok W :=
  open_structs InB.cells (InB.Ok W) Tryd.underlying40 (by kernel_rfl) (by decide) (fun _ _ => rfl) open_inb h
/-- The cells of one of them, at any later time. -/
theorem RowOf.cellsAt {α : Type} {N : Nat} {cells : α → List Value} {w : World} {a : Option Addr} {os : List α} (h : RowOf N cells w a os) {k : Nat} {o : α} (ho : os[k]? = some o) (hN : 0 < (cells o).length) :
    ∃ b off, a = some ⟨b, off, none⟩ ∧ b < w.heap.size ∧ ∀ w' B, Below B w w' → b < B → ∀ j v, (cells o)[j]? = some v → w'.cell? ⟨b, off + k * N + j, none⟩ = some v := by
  obtain ⟨hk, e⟩ := List.getElem?_eq_some_iff.1 ho
  rcases h.at' with h0 | ⟨b, off, h1, h2⟩
  · rw [h0] at hk; simp at hk
  · have h3 := h2 k hk
    rw [e] at h3
    have hlt := World.block_lt_of_cell? w _ (h3 0 _ (List.getElem?_eq_getElem hN))
    exact ⟨b, off, h1, hlt, fun w' B hb hB j v hv => (hb.cell (p := ⟨b, off + k * N + j, none⟩) hB).trans (h3 j v hv)⟩
end Go.Proofs.YteanjfcejpibaaaDoor

/-
  Frames of a list and bytes by their blocks, beside a log: carried through its calls, one more appended.
-/
namespace Go.Proofs.YteanjfcejpibaaaDoor
open Go.RowKit Go.Proofs.ShaWords
theorem wanted_guardF {ops : Array Oper} {a : Act} {o : Oper} {j : Nat} {dj : Tmp} {oj : Oper} (hg : o.guard = some (j, false)) (hj : ops[j]? = some oj) (hd : oj.dst = some dj) (he : a.eval (.tmp dj) = .bool false) : Region.wanted o (yielded ops a.tmps) = true := by
  have h2 := tmp_at he
  unfold Region.wanted
  rw [hg]
  simp only [yielded, hj, Option.bind_some, hd, h2]
  rfl
theorem Own.objs {B : Nat} {w : World} {l : List (BitVec 8)} {v : Value} (h : Own B w l v) : ∃ L : List (Nat × Obj), (∀ x ∈ L, v.ownBlock = some x.1 ∧ w.heap[x.1]? = some x.2) ∧ ∀ w' : World, (∀ x ∈ L, w'.heap[x.1]? = some x.2) → Own B w' l v := by
  cases hk : v.ownBlock with
  | none => exact ⟨[], by simp, fun w' _ => ownsRow_same h (fun k e => by rw [hk] at e; cases e)⟩
  | some k =>
    have hlt := (World.ownsRow.lt h k hk).2
    refine ⟨[(k, w.heap[k])], fun x hx => ?_, fun w' hw => ownsRow_same h (fun j e => ?_)⟩
    · rw [List.mem_singleton.1 hx]
      exact ⟨rfl, Array.getElem?_eq_getElem hlt⟩
    · rw [hk] at e
      cases e
      exact (hw _ (List.mem_singleton.2 rfl)).trans (Array.getElem?_eq_getElem hlt).symm
/-- A log beside blocks of which some have changed: those that were the old list's own. -/
theorem WaL.grown {lo b g E : Nat} {d : DiskM} {dead : Bool} {w w' : World} {L1 L2 : List (Nat × Obj)} {r : Option Nat} (h : WaL lo w b g d E dead (L1 ++ L2)) (hg : w.grownBy w' r) (hr : ∀ k, r = some k → (∃ o, (k, o) ∈ L1) ∧ ∀ x ∈ L2, x.1 ≠ k) (L3 : List (Nat × Obj)) (h3 : ∀ x ∈ L3, w'.heap[x.1]? = some x.2 ∧ (w.heap.size ≤ x.1 ∨ ∃ o, (x.1, o) ∈ L1 ++ L2)) :
    WaL lo w' b g d E dead (L3 ++ L2) := by
  obtain ⟨S, n, h1, h2, h4, h5, h6, h7⟩ := h
  have hd : ∀ k, S k → k < w.heap.size := by obtain ⟨⟨vs, hv⟩, -⟩ := h1.disk; exact hv.dom
  have hs : Stays (fun k => r = some k) w w' := grown_stays hg (fun k e => e)
  have hno : ∀ k, r = some k → ¬ S k ∧ k ≠ b := fun k e => by
    obtain ⟨⟨o, ho⟩, -⟩ := hr k e
    have := h7 _ (List.mem_append_left _ ho)
    exact ⟨this.1, this.2.1⟩
  refine ⟨S, n, ⟨h1.disk.keep hs (fun k e s => (hno k e).1 s), (hs.block b h1.lt (fun e => (hno b e).2 rfl)).trans h1.log, h1.out⟩, h2, h4, h5, h6, fun x hx => ?_⟩
  rcases List.mem_append.1 hx with hx | hx
  · obtain ⟨e1, e2⟩ := h3 x hx
    rcases e2 with e2 | ⟨o, e2⟩
    · exact ⟨fun s => by have := hd _ s; omega, fun e => by have := h1.lt; omega, e1⟩
    · have := h7 _ e2
      exact ⟨this.1, this.2.1, e1⟩
  · have := h7 x (List.mem_append_right _ hx)
    refine ⟨this.1, this.2.1, (hs.block _ (Array.getElem?_eq_some_iff.1 this.2.2).1 (fun e => ?_)).trans this.2.2⟩
    exact (hr _ e).2 x hx rfl
/-- One frame more: its bytes, which were among the blocks, and the grown list. -/
theorem FrK.snoc {lo : Nat} {w w' : World} {L Lb : List (Nat × Obj)} {hv hv' v : Value} {vs : List Value} {all : List Fr9} {f : Fr9} (h : FrK lo L hv vs all) (hL : ∀ x ∈ L, w.heap[x.1]? = some x.2) (ho : Own lo w f.2 v) (hb : ∀ k, v.ownBlock = some k → (∃ o, (k, o) ∈ Lb) ∧ ∀ x ∈ L, x.1 ≠ k)
    (hrow : w'.ownsRow lo 46 2 hv' (all.length + 1) (frCells all vs ++ [.int .i64 (n8 f.1), v])) (hg : w.grownBy w' hv.ownBlock) (hc : hv'.ownBlock = hv.ownBlock ∨ hv'.ownBlock = some w.heap.size) :
    FrL lo w' hv' (vs ++ [v]) (all ++ [f]) ∧ ∃ L', FrK lo L' hv' (vs ++ [v]) (all ++ [f]) ∧ ∀ x ∈ L', w'.heap[x.1]? = some x.2 ∧ (w.heap.size ≤ x.1 ∨ ∃ o, (x.1, o) ∈ L ++ Lb) := by
  have hfr := h.fr w hL
  have hnew : FrL lo w' hv' (vs ++ [v]) (all ++ [f]) := hfr.snocA ho (fun i u k h1 h2 e => by
    obtain ⟨o, hm⟩ := h.whole k (Or.inr ⟨i, u, h1, h2⟩)
    exact (hb k e).2 _ hm rfl) hrow hg
  obtain ⟨L', l1, l2⟩ := hnew.keeps
  refine ⟨hnew, L', l1, fun x hx => ⟨l2 x hx, ?_⟩⟩
  rcases l1.on x hx with e | ⟨i, u, h1, e⟩
  · rcases hc with hc | hc
    · rw [hc] at e
      obtain ⟨o, hm⟩ := h.whole _ (Or.inl e)
      exact Or.inr ⟨o, List.mem_append_left _ hm⟩
    · rw [hc] at e
      have e2 := Option.some.inj e
      exact Or.inl (by omega)
  · by_cases hlt : i < vs.length
    · rw [List.getElem?_append_left hlt] at h1
      obtain ⟨o, hm⟩ := h.whole _ (Or.inr ⟨i, u, h1, e⟩)
      exact Or.inr ⟨o, List.mem_append_left _ hm⟩
    · rw [List.getElem?_append_right (by omega)] at h1
      have hi : i - vs.length = 0 := by have := (List.getElem?_eq_some_iff.1 h1).1; simp at this; omega
      rw [hi] at h1
      simp only [List.getElem?_cons_zero, Option.some.injEq] at h1
      subst h1
      obtain ⟨o, hm⟩ := (hb _ e).1
      exact Or.inr ⟨o, List.mem_append_right _ hm⟩
end Go.Proofs.YteanjfcejpibaaaDoor

/-
  A row's frame among the blocks beside a log; appended to a list.
-/
namespace Go.Proofs.YteanjfcejpibaaaDoor
open Go.RowKit Go.Proofs.ShaWords
/-- A frame that was just made, in a block of its own, with its bytes: by their blocks. -/
structure NewF (lo : Nat) (Lf : List (Nat × Obj)) (F : Nat) (z : Int) (q : Option Addr) (n c : Nat) (l : List (BitVec 8)) : Prop where
  len : l.length = n
  fr : ∀ w : World, (∀ x ∈ Lf, w.heap[x.1]? = some x.2) → FrC w F (.int .i64 z) (.slice q n c) ∧ Own lo w l (.slice q n c)
  own : ∀ k, (Value.slice q n c).ownBlock = some k → ∃ o, (k, o) ∈ Lf
  blk : ∃ o, (F, o) ∈ Lf
section
variable {lo b g E : Nat} {d : DiskM} {dead : Bool} {w w' A : World} {L Lf : List (Nat × Obj)}
theorem WaL.newF {z : Int} {q : Option Addr} {n c F : Nat} {l : List (BitVec 8)} (h : WaL lo w b g d E dead L) (hlo : lo ≤ w.heap.size) (hb : Below w.heap.size w A) (hF : w.heap.size ≤ F) (hC : FrC A F (.int .i64 z) (.slice q n c)) (ho : Own w.heap.size A l (.slice q n c)) (hn : l.length = n) :
    ∃ Lf, WaL lo A b g d E dead (L ++ Lf) ∧ NewF lo Lf F z q n c l ∧ ∀ x ∈ Lf, w.heap.size ≤ x.1 ∧ A.heap[x.1]? = some x.2 := by
  obtain ⟨Lb, l1, l2⟩ := ho.objs
  have hL : ∀ x ∈ (F, Obj.cells #[.int .i64 z, .slice q n c] 46) :: Lb, w.heap.size ≤ x.1 ∧ A.heap[x.1]? = some x.2 := fun x hx => by
    rcases List.mem_cons.1 hx with rfl | hx
    · exact ⟨hF, hC⟩
    · exact ⟨(World.ownsRow.lt ho _ (l1 x hx).1).1, (l1 x hx).2⟩
  refine ⟨(F, Obj.cells #[.int .i64 z, .slice q n c] 46) :: Lb, (h.more hb hL).fewer (fun x hx => ?_), ⟨hn, fun w' hw => ⟨hw _ List.mem_cons_self, (l2 w' (fun x hx => hw x (List.mem_cons_of_mem _ hx))).lowerF hlo⟩, fun k hk => ?_, ⟨_, List.mem_cons_self⟩⟩, hL⟩
  · rcases List.mem_append.1 hx with hx | hx
    · exact List.mem_append_right _ hx
    · exact List.mem_append_left _ hx
  · have hlt := (World.ownsRow.lt ho k hk).2
    have hlb : ∃ x ∈ Lb, x.1 = k := by
      apply Classical.byContradiction
      intro hno
      -- what the block holds decides nothing of it: but it is the slice's own
      have hbad := l2 { A with heap := A.heap.setIfInBounds k (.deferred none) } (fun x hx => by
        have hne : x.1 ≠ k := fun e => hno ⟨x, hx, e⟩
        show (A.heap.setIfInBounds k (.deferred none))[x.1]? = some x.2
        rw [Array.getElem?_setIfInBounds_ne (Ne.symm hne)]
        exact (l1 x hx).2)
      rcases hbad.2 with ⟨h0, _⟩ | ⟨g', cap, cur, he, _, hh, _⟩
      · cases h0; cases hk
      · cases he
        have hk2 : g' = k := by simpa [Value.ownBlock] using hk
        subst hk2
        have hh : (A.heap.setIfInBounds g' (.deferred none))[g']? = some (.cells cur 5 (0, 0)) := hh
        rw [Array.getElem?_setIfInBounds_self_of_lt hlt] at hh
        cases hh
    obtain ⟨x, hx, rfl⟩ := hlb
    exact ⟨x.2, List.mem_cons_of_mem _ hx⟩
/-- The list has it. -/
theorem WaL.snoc {hv hv' : Value} {vs : List Value} {all : List Fr9} {f : Fr9} {q : Option Addr} {n c F : Nat} {z : Int} {o : Obj} (h : WaL lo w b g d E dead (L ++ Lf)) (hK : FrK lo L hv vs all) (hN : NewF lo Lf F z q n c f.2) (hd : ∀ x ∈ Lf, ∀ y ∈ L, y.1 ≠ x.1)
    (hrow : w'.ownsRow lo 46 2 hv' (all.length + 1) (frCells all vs ++ [.int .i64 (n8 f.1), .slice q n c])) (hg : (w.alloc o).grownBy w' hv.ownBlock) (hc : hv'.ownBlock = hv.ownBlock ∨ hv'.ownBlock = some (w.alloc o).heap.size) :
    ∃ L', FrK lo L' hv' (vs ++ [.slice q n c]) (all ++ [f]) ∧ WaL lo w' b g d E dead L' := by
  have hb : Below w.heap.size w (w.alloc o) := (Below.refl _ _).alloc (Nat.le_refl _) _
  have h1 := h.below hb
  have hL : ∀ x ∈ L, (w.alloc o).heap[x.1]? = some x.2 := fun x hx => h1.all x (List.mem_append_left _ hx)
  have hLf : ∀ x ∈ Lf, (w.alloc o).heap[x.1]? = some x.2 := fun x hx => h1.all x (List.mem_append_right _ hx)
  obtain ⟨-, L', k1, k2⟩ := hK.snoc (Lb := Lf) hL (hN.fr _ hLf).2 (fun k e => by
    obtain ⟨o', ho'⟩ := hN.own k e
    exact ⟨⟨o', ho'⟩, fun y hy => hd _ ho' y hy⟩) hrow hg hc
  refine ⟨L', k1, ?_⟩
  have h2 : WaL lo (w.alloc o) b g d E dead ((L ++ Lf) ++ []) := by rw [List.append_nil]; exact h1
  have h3 := h2.grown hg (fun k e => by
    obtain ⟨o', ho'⟩ := hK.whole k (Or.inl e)
    exact ⟨⟨o', List.mem_append_left _ ho'⟩, fun x hx => absurd hx List.not_mem_nil⟩) L' (fun x hx => ⟨(k2 x hx).1, (k2 x hx).2.imp id fun ⟨o', ho'⟩ => ⟨o', List.mem_append_left _ ho'⟩⟩)
  rwa [List.append_nil] at h3
end
end Go.Proofs.YteanjfcejpibaaaDoor

/-
  What the rows of layer 10 share: the table out of the row's condition.
-/
namespace Go.Proofs.YteanjfcejpibaaaDoor
open Go.ChangeShapes Go.WideShapes Go.ChangeAt Go.RowKit Go.Proofs.ShaWords

abbrev laid10 : List (String × DataW Unit) := Rows.walKnownRow.laid
theorem rem_data {H : Type} : (Rows.laid_sealery_frame_remainders : DataW H) = Lib.tabData .u32 (remT.map n32) := by kernel_rfl
/-- The door's own heap meets the condition: closed facts. -/
theorem door_met10 (os : Os) (args : Array Value) : laidMetH Tryd.prog laid10 ((World.doorLaid Tryd.prog 400 os).forCall (fun _ _ => 0) ⟨#[], args, []⟩).memory :=
  laidMetH_of_parts3 (fuel := 8) (laidMet_of_run' 8 (by kernel_rfl) (by kernel_rfl)) (by kernel_rfl) (by kernel_rfl)
theorem of_laid10 {W : World} (h : laidMetH Tryd.prog laid10 W) : Rem W := by
  rw [MakeChecks.laidMetH_plain _ _ _ (by kernel_rfl)] at h
  obtain ⟨ps, ⟨g0, t0, cs0, f0, p0, q0, hg0, ht0, hv0, hd0, _⟩, _, _⟩ := h
  obtain rfl := Option.some.inj (hg0.symm.trans (show _ = some 0 by kernel_rfl))
  obtain rfl := Option.some.inj (ht0.symm.trans (show _ = some 94 by kernel_rfl))
  rw [rem_data] at hd0
  have e0 := Lib.cells_of_tab Tryd.underlying94 Tryd.underlying87 (by kernel_rfl) (by kernel_rfl) hd0
  intro j v hv
  have := World.var?_cell hg0 hv0 j
  rw [Nat.zero_add, this, ← Array.getElem?_toList, e0, ← hv]
  simp [wordsV]
  rfl
end Go.Proofs.YteanjfcejpibaaaDoor
